/- Texts of this seat, one behind the other: IGraft, IPlantE, KMap. -/
import Derived.Test.YtokemdbgcegjiaaGreatITree
import Derived.Test.YtokemdbgcegjiaaGreatB10
import Derived.Test.YtokemdbgcegjiaaGreatB11
import Derived.Test.YtokemdbgcegjiaaGreatB03
namespace Go.Proofs.YtokemdbgcegjiaaGreat
open Go.RowKit Go.Maps
set_option linter.unusedVariables false
set_option linter.unusedSimpArgs false
attribute [local go_sem ↓] Go.wp_at_zero Go.wp_at_succ

theorem GElse.trans {a b c : World} {p g g' mb : Nat} (h : GElse a b p g mb) (hs : a.heap.size ≤ b.heap.size) (hg : g' = g ∨ a.heap.size ≤ g') (k : GElse b c p g' mb) : GElse a c p g mb := fun i h1 h2 h3 h4 =>
  (k i (Nat.lt_of_lt_of_le h1 hs) h2 (by rcases hg with rfl | hg
                                         · exact h3
                                         · omega) h4).trans (h i h1 h2 h3 h4)
theorem GElse.of_below {w w' : World} {p g mb : Nat} (h : Below w.heap.size w w') : GElse w w' p g mb := fun i h1 _ _ _ => h.block i h1
theorem GElse.set {w w' : World} {p g mb : Nat} (h : GElse w w' p g mb) {B : Nat} (hB : w.heap.size ≤ B) (k : Nat) (v : Value) : GElse w (w'.setCell ⟨B, k, none⟩ v) p g mb := fun i h1 h2 h3 h4 =>
  (Below.heap_setCell w' ⟨B, k, none⟩ v i (by dsimp only; omega)).trans (h i h1 h2 h3 h4)
/-- Two groves share no block. -/
def Apart3 (p g mb p2 g2 mb2 : Nat) : Prop := (p ≠ p2 ∧ p ≠ g2 ∧ p ≠ mb2) ∧ (g ≠ p2 ∧ g ≠ g2 ∧ g ≠ mb2) ∧ (mb ≠ p2 ∧ mb ≠ g2 ∧ mb ≠ mb2)
theorem Apart3.symm {p g mb p2 g2 mb2 : Nat} (h : Apart3 p g mb p2 g2 mb2) : Apart3 p2 g2 mb2 p g mb := by unfold Apart3 at *; omega
theorem Grv.blk {w w' : World} {base p g cap mb : Nat} {G : List Qd} (h : Grv w base p g cap mb G) (h1 : w'.heap[p]? = w.heap[p]?) (h2 : w'.heap[g]? = w.heap[g]?) (h3 : w'.heap[mb]? = w.heap[mb]?) : Grv w' base p g cap mb G := by
  refine ⟨h.lowp, h.lowm, h.box.of_block h1, ⟨h.own.1, ?_⟩, ?_, h.pm, h.pg, h.mg⟩
  · rcases h.own.2 with e | ⟨g', cap', cur, e, hb, hg, r⟩
    · exact .inl e
    · simp only [Value.slice.injEq, Option.some.injEq, Addr.mk.injEq, and_true, true_and] at e
      obtain ⟨rfl, rfl⟩ := e
      exact .inr ⟨g, cap, cur, rfl, hb, h2.trans hg, r⟩
  · obtain ⟨D, ⟨es, clock, hb, r⟩, hd⟩ := h.map
    exact ⟨D, ⟨es, clock, h3.trans hb, r⟩, hd⟩
theorem Grv.mlt {w : World} {base p g cap mb : Nat} {G : List Qd} (h : Grv w base p g cap mb G) : mb < w.heap.size := h.map.lt
theorem Grv.apart {w w' : World} {p g mb b2 p2 g2 c2 m2 : Nat} {F : List Qd} (h : Grv w b2 p2 g2 c2 m2 F) (ha : Apart3 p g mb p2 g2 m2) (he : GElse w w' p g mb) : Grv w' b2 p2 g2 c2 m2 F := by
  unfold Apart3 at ha
  exact h.blk (he p2 h.box.lt (by omega) (by omega) (by omega)) (he g2 h.lt.2 (by omega) (by omega) (by omega)) (he m2 h.mlt (by omega) (by omega) (by omega))
theorem Apart3.grow {w : World} {p g g' mb b2 p2 g2 c2 m2 : Nat} {F : List Qd} (ha : Apart3 p g mb p2 g2 m2) (h : Grv w b2 p2 g2 c2 m2 F) (hg : g' = g ∨ w.heap.size ≤ g') : Apart3 p g' mb p2 g2 m2 := by
  have h1 := h.box.lt
  have h2 := h.lt.2
  have h3 := h.mlt
  unfold Apart3 at *
  rcases hg with rfl | hg <;> omega

set_option maxHeartbeats 8000000 in
set_option maxRecDepth 100000 in
theorem c_graft {L : List Cl} {F : List Qd} (hF : Grows F) (base p mb b2 p2 g2 c2 m2 : Nat) : ∀ (n q : Nat) (x y : Int) (G : List Qd) (g cap : Nat) (w : World),
    n ≤ 5 → Grows G → G.length + 4 ^ n ≤ 90000 → Grv w base p g cap mb G → Grv w b2 p2 g2 c2 m2 F → Apart3 p g mb p2 g2 m2 → IsT L F n q x y →
    Calls Tryz.prog 102 #[.pointer (some ⟨p, 0, none⟩), .pointer (some ⟨p2, 0, none⟩), .int .i64 (q : Int)] w fun e w' => ∃ g' cap', e = .returned (.int .i64 ((treeL L n x y G).2 : Int)) ∧ Grv w' base p g' cap' mb (treeL L n x y G).1 ∧ Below base w w' ∧ RowsKept w w' ∧ GElse w w' p g mb ∧ (g' = g ∨ w.heap.size ≤ g') := by
  intro n
  induction n with
  | zero =>
    intro q x y G g cap w hn hGr hlen hG hG2 hA hT
    have hq := hT.lt hF.two
    have hlv := hT.lev hF
    have hbs : base ≤ w.heap.size := Nat.le_trans hG.lowp (Nat.le_of_lt hG.box.lt)
    have hb1 := (Below.refl w.heap.size w).alloc (Nat.le_refl _) (.cells #[.int .i64 0, .int .i64 (ia (qa F q).2 0), .int .i64 (ia (qa F q).2 1), .int .i64 (ia (qa F q).2 2), .int .i64 (ia (qa F q).2 3)] 98)
    have HB1 := hid hb1
    have HG1 := hid (hG.below hb1)
    have HV : Hid (treeL L 0 x y G = (G, q)) := by
      unfold IsT at hT
      simp only [Hid, treeL, hT]
    have c0 := hG2.c0
    have n0 := hG2.lev hq
    have n1 := hG2.kidAt hq (j := 0) (by omega)
    have n2 := hG2.kidAt hq (j := 1) (by omega)
    have n3 := hG2.kidAt hq (j := 2) (by omega)
    have n4 := hG2.kidAt hq (j := 3) (by omega)
    rw [hlv] at n0
    rw [Nat.add_zero] at n1
    have i0 : (0 : Int) ≤ (q : Int) := by omega
    have i1 : (q : Int) < (F.length : Int) := by omega
    clear hT hlv hG hG2 hb1
    go_enter Tryz.func102, Tryz.ntmps102
    go_wp2_with fail
    go_ret
    rw [HV.out]
    exact ⟨g, cap, rfl, HG1.out, HB1.out.mono hbs, RowsKept.of_below HB1.out, GElse.of_below HB1.out, .inl rfl⟩
  | succ n ih =>
    intro q x y G g cap w hn hGr hlen hG hG2 hA hT
    have HIH := hid ih
    have hq := hT.lt hF.two
    have hlv := hT.lev hF
    have hks := hid hT.kids
    have HKT := hid (fun k (hk : k < 4) => hT.kid k hk)
    have h4 : (4 : Nat) ^ (n + 1) = 4 * 4 ^ n := by rw [Nat.pow_succ]; omega
    rw [h4] at hlen
    have HPF := hid (fun k => pk_facts L n x y G (by omega) hGr k)
    have HPJ := hid (pk_join L n x y G (by omega) hGr)
    have HPA := hid (fun k j => pk_at L n x y G (by omega) hGr k j)
    have HP4 := hid (pk_four L n x y G)
    have HLEN := hid hlen
    have hbs : base ≤ w.heap.size := Nat.le_trans hG.lowp (Nat.le_of_lt hG.box.lt)
    have hb1 := (Below.refl w.heap.size w).alloc (Nat.le_refl _) (.cells #[.int .i64 ((n : Int) + 1), .int .i64 (ia (qa F q).2 0), .int .i64 (ia (qa F q).2 1), .int .i64 (ia (qa F q).2 2), .int .i64 (ia (qa F q).2 3)] 98)
    have hb2 := hb1.alloc hb1.size (.cells #[.int .i64 0, .int .i64 0, .int .i64 0, .int .i64 0] 96)
    have F2 := frow_new (w.alloc (.cells #[.int .i64 ((n : Int) + 1), .int .i64 (ia (qa F q).2 0), .int .i64 (ia (qa F q).2 1), .int .i64 (ia (qa F q).2 2), .int .i64 (ia (qa F q).2 3)] 98))
    rw [show (w.alloc (.cells #[.int .i64 ((n : Int) + 1), .int .i64 (ia (qa F q).2 0), .int .i64 (ia (qa F q).2 1), .int .i64 (ia (qa F q).2 2), .int .i64 (ia (qa F q).2 3)] 98)).heap.size = w.heap.size + 1 by simp] at F2
    have HF2 := hid F2
    have HG2 := hid (hG.below hb2)
    have HQ2 := hid (hG2.below hb2)
    have HB2 := hid hb2
    have HA := hid hA
    have HGR := hid hGr
    have c0 := hG2.c0
    have n0 := hG2.lev hq
    have n1 := hG2.kidAt hq (j := 0) (by omega)
    have n2 := hG2.kidAt hq (j := 1) (by omega)
    have n3 := hG2.kidAt hq (j := 2) (by omega)
    have n4 := hG2.kidAt hq (j := 3) (by omega)
    rw [hlv, show ((n + 1 : Nat) : Int) = (n : Int) + 1 by omega] at n0
    rw [Nat.add_zero] at n1
    have i0 : (0 : Int) ≤ (q : Int) := by omega
    have i1 : (q : Int) < (F.length : Int) := by omega
    have dn : ((n : Int) + 1 == 0) = false := by simp; omega
    clear hG hG2 ih hlen h4 hb1 hb2 F2 hT hlv hA hGr
    go_enter Tryz.func102, Tryz.ntmps102
    go_wp2_with fail
    go_loopw [24] (fun i wr => ∃ (k g' cap' : Nat), k ≤ 4 ∧ i = .int .i64 k ∧ Hid (Grv wr base p g' cap' mb (pk L n x y G k).1) ∧ Hid (Grv wr b2 p2 g2 c2 m2 F) ∧ Hid (Apart3 p g' mb p2 g2 m2) ∧ Hid (FRow wr (w.heap.size + 1) (fun j => if j < k then ia (pk L n x y G k).2 j else 0)) ∧ Hid (Below base w wr) ∧ Hid (RowsKept w wr) ∧ Hid (GElse w wr p g mb) ∧ Hid (g' = g ∨ w.heap.size ≤ g')) (fun i _ => 4 - (intOf i).toNat)
    case atStart => exact ⟨0, g, cap, by omega, rfl, HG2.out, HQ2.out, HA.out, (HF2.out.congr fun j hj => by simp), HB2.out.mono hbs, RowsKept.of_below HB2.out, GElse.of_below HB2.out, (.inl rfl : _ ∨ _)⟩
    case round =>
      clear HG2 HQ2 HA HF2 HB2 n0 n1 n2 n3 n4 c0
      obtain ⟨k, g1, cap1, hk, rfl, HG, HQ, HA, HFR, HB, HRK, HGE, HGG⟩ := hrel
      by_cases hlt : k < 4
      · have hidx := four_index (qa F q).2 k hlt
        unfold kv at hidx
        rw [hks.out.2.2.1 k hlt] at hidx
        have k0 : (0 : Int) ≤ (k : Int) := by omega
        have k1 : (k : Int) < 4 := by omega
        have HPK := hid (show (pk L n x y G (k + 1)).1 = (treeL L n (kx n k x) (ky n k y) (pk L n x y G k).1).1 from rfl)
        have hpf := HPF.out k
        have hl4 : k * 4 ^ n ≤ 3 * 4 ^ n := Nat.mul_le_mul_right _ (by omega)
        have HPL := hid (HIH.out (kidq F q k) (kx n k x) (ky n k y) (pk L n x y G k).1 g1 cap1 wr (by omega) hpf.1 (by have := HLEN.out; have := hpf.2.1; omega) HG.out HQ.out HA.out (HKT.out k hlt))
        clear hpf hl4
        go_wp2_with fail
        refine HPL.out.mono ?_
        rintro e w3 ⟨g3, cap3, rfl, hG3, hb3, hr3, he3, hg3⟩
        have hQ3 := HQ.out.apart HA.out he3
        have hF3 := hr3 _ _ _ _ (by decide) (by decide) HFR.out
        have c9 := hF3.cell (i := k) (by omega)
        have f9 := hF3.frozen k
        have hF4 : FRow (w3.setCell ⟨w.heap.size + 1, k, none⟩ (.int .i64 ((treeL L n (kx n k x) (ky n k y) (pk L n x y G k).1).2 : Int))) (w.heap.size + 1) (fun j => if j < k + 1 then ia (pk L n x y G (k + 1)).2 j else 0) := by
          refine (World.rowIs.set hF3 k _).congr fun j hj => ?_
          dsimp only
          rw [← HPA.out k j]
          by_cases e : j = k
          · rw [if_pos e, if_pos e]
          · rw [if_neg e, if_neg e]
        have HF4 := hid hF4
        have HG4 := hid (hG3.setFour hF3 k ((treeL L n (kx n k x) (ky n k y) (pk L n x y G k).1).2 : Int))
        have HQ4 := hid (hQ3.setFour hF3 k ((treeL L n (kx n k x) (ky n k y) (pk L n x y G k).1).2 : Int))
        have HA4 := hid (HA.out.grow HQ.out hg3)
        have HB4 := hid ((HB.out.trans hb3).setCell (p := ⟨w.heap.size + 1, k, none⟩) (by dsimp only; omega) (.int .i64 ((treeL L n (kx n k x) (ky n k y) (pk L n x y G k).1).2 : Int)))
        have HR4 := hid (rows_set (HRK.out.trans hr3) (show w.heap.size ≤ w.heap.size + 1 by omega) k (.int .i64 ((treeL L n (kx n k x) (ky n k y) (pk L n x y G k).1).2 : Int)))
        have HE4 := hid ((HGE.out.trans HB.out.size HGG.out he3).set (show w.heap.size ≤ w.heap.size + 1 by omega) k (.int .i64 ((treeL L n (kx n k x) (ky n k y) (pk L n x y G k).1).2 : Int)))
        have HGG4 := hid (show g3 = g ∨ w.heap.size ≤ g3 by
          have h1 := HGG.out
          have h2 := HB.out.size
          rcases hg3 with rfl | h3
          · exact h1
          · exact .inr (Nat.le_trans h2 h3))
        rw [← HPK.out] at HG4
        clear HPL hG3 hb3 hr3 he3 hg3 hQ3 hF3 hF4 HG HQ HA HFR HB HRK HGE HGG
        generalize ((treeL L n (kx n k x) (ky n k y) (pk L n x y G k).1).2 : Int) = TQ at *
        go_wp2_with fail
        go_roundw
        case rel => exact ⟨k + 1, g3, cap3, by omega, by go_num, HG4.out, HQ4.out, HA4.out, HF4.out, HB4.out, HR4.out, HE4.out, HGG4.out⟩
        case measure => simp [intOf]; omega
      · obtain rfl : k = 4 := by omega
        have hpf := HPF.out 4
        have b0 := World.rowIs.cell HFR.out (i := 0) (by omega)
        have b1 := World.rowIs.cell HFR.out (i := 1) (by omega)
        have b2 := World.rowIs.cell HFR.out (i := 2) (by omega)
        have b3 := World.rowIs.cell HFR.out (i := 3) (by omega)
        simp only [show (0 : Nat) < 4 by omega, show (1 : Nat) < 4 by omega, show (2 : Nat) < 4 by omega, show (3 : Nat) < 4 by omega, if_true] at b0 b1 b2 b3
        have HJ := hid (c_ijoinE (pk L n x y G 4).2 hpf.2.2 wr HG.out hpf.1 (by have := HLEN.out; have := hpf.2.1; omega) HPJ.out)
        unfold kv at HJ
        generalize pk L n x y G 4 = PP at *
        clear hpf
        go_wp2_with fail
        refine HJ.out.mono ?_
        rintro e w3 ⟨g3, cap3, rfl, hG3, hb3, hr3, he3, hg3⟩
        have HG3 := hid hG3
        have HB3 := hid (HB.out.trans hb3)
        have HR3 := hid (HRK.out.trans hr3)
        have HE3 := hid (HGE.out.trans HB.out.size HGG.out he3)
        have HGG3 := hid (show g3 = g ∨ w.heap.size ≤ g3 by
          have h1 := HGG.out
          have h2 := HB.out.size
          rcases hg3 with rfl | h3
          · exact h1
          · exact .inr (Nat.le_trans h2 h3))
        clear hG3 hb3 hr3 he3 hg3 HJ
        go_wp2_with fail
        go_ret
        rw [HP4.out]
        exact ⟨g3, cap3, rfl, HG3.out, HB3.out, HR3.out, HE3.out, HGG3.out⟩

end Go.Proofs.YtokemdbgcegjiaaGreat

namespace Go.Proofs.YtokemdbgcegjiaaGreat
open Go.RowKit Go.Maps
set_option linter.unusedVariables false
set_option linter.unusedSimpArgs false
attribute [local go_sem ↓] Go.wp_at_zero Go.wp_at_succ

/-- Cells in a block of cells. -/
def TyC (w : World) (a : Option Addr) (l : List Cl) : Prop := Seg w a l ∧ ∀ b o, a = some ⟨b, o, none⟩ → ∃ cur, w.heap[b]? = some (.cells cur 41 (0, 0))
theorem TyC.rows {w w' : World} {a : Option Addr} {l : List Cl} (h : TyC w a l) (k : RowsKept w w') : TyC w' a l := by
  refine ⟨fun i hi => ?_, fun b o e => ?_⟩
  · obtain ⟨b, o, e, hb, p1, p2⟩ := h.1 i hi
    obtain ⟨cur, hc⟩ := h.2 b o e
    have hh := k.block hc (by decide) (by decide)
    exact ⟨b, o, e, lt_of_blk (hh.trans hc), (World.cell?_of_block (a := ⟨b, o + i * 2, none⟩) hh).trans p1, (World.cell?_of_block (a := ⟨b, o + i * 2 + 1, none⟩) hh).trans p2⟩
  · obtain ⟨cur, hc⟩ := h.2 b o e
    exact ⟨cur, (k.block hc (by decide) (by decide)).trans hc⟩
theorem OwnS.tyc {w : World} {base : Nat} {v : Value} {l : List Cl} (h : OwnS w base v l) : ∃ a ca, v = .slice a l.length ca ∧ TyC w a l := by
  obtain ⟨a, ca, e, hs⟩ := h.form
  refine ⟨a, ca, e, hs, fun b o e2 => ?_⟩
  rcases h.2 with ⟨e3, _⟩ | ⟨g, cap, cur, e3, hb, hg, _⟩
  · rw [e] at e3
    simp only [Value.slice.injEq] at e3
    rw [e2] at e3
    cases e3.1
  · rw [e] at e3
    simp only [Value.slice.injEq] at e3
    rw [e2] at e3
    simp only [Option.some.injEq, Addr.mk.injEq, and_true] at e3
    obtain ⟨⟨rfl, _⟩, _⟩ := e3
    exact ⟨cur, hg⟩
theorem TyC.none (w : World) : TyC w none [] := ⟨fun i hi => by simp at hi, fun b o e => by cases e⟩

set_option maxHeartbeats 4000000 in
set_option maxRecDepth 100000 in
theorem c_plantE (L : List Cl) (la : Option Addr) (lca : Nat) (hLl : L.length ≤ 1048576) (hr : risTo L L.length = true) (base p mb : Nat) : ∀ (n : Nat) (x y : Int) (G : List Qd) (g cap : Nat) (w : World),
    n ≤ 5 → Grows G → G.length + 4 ^ n ≤ 90000 → -100000 ≤ x → x + 2 ^ n ≤ 100000 → -100000 ≤ y → y + 2 ^ n ≤ 100000 → Grv w base p g cap mb G → TyC w la L →
    Calls Tryz.prog 142 #[.pointer (some ⟨p, 0, none⟩), .int .i64 (n : Int), .agg #[.int .i64 x, .int .i64 y], .slice la L.length lca] w fun e w' => ∃ g' cap', e = .returned (.int .i64 ((treeL L n x y G).2 : Int)) ∧ Grv w' base p g' cap' mb (treeL L n x y G).1 ∧ Below base w w' ∧ RowsKept w w' ∧ GElse w w' p g mb ∧ (g' = g ∨ w.heap.size ≤ g') := by
  intro n
  induction n with
  | zero =>
    intro x y G g cap w hn hGr hlen x0 x1 y0 y1 hG hB
    have HX := hid (BoxIn.new w (x, y) 41)
    have hb1 := HX.out.below
    have HG := hid (hG.below hb1)
    have HB1 := hid hb1
    have hbs : base ≤ w.heap.size := Nat.le_trans hG.lowp (Nat.le_of_lt hG.box.lt)
    have HC := hid (c_hasCell la L lca (x, y) _ (hB.1.below hb1) hLl hr)
    dsimp only at HX HG HB1 HC
    by_cases e : (x, y) ∈ L
    · rw [show decide ((x, y) ∈ L) = true by simp [e]] at HC
      have HV : Hid (treeL L 0 x y G = (G, 1)) := by simp [Hid, treeL, e]
      clear hG hB e hb1 HX
      go_enter Tryz.func142, Tryz.ntmps142
      go_wp2_with fail
      refine HC.out.mono ?_
      rintro e w1 ⟨rfl, hb⟩
      go_wp2_with fail
      go_ret
      rw [HV.out]
      have hbb := HB1.out.trans (hb.mono HB1.out.size)
      exact ⟨g, cap, rfl, HG.out.below hb, hbb.mono hbs, RowsKept.of_below hbb, GElse.of_below hbb, .inl rfl⟩
    · rw [show decide ((x, y) ∈ L) = false by simp [e]] at HC
      have HV : Hid (treeL L 0 x y G = (G, 0)) := by simp [Hid, treeL, e]
      clear hG hB e hb1 HX
      go_enter Tryz.func142, Tryz.ntmps142
      go_wp2_with fail
      refine HC.out.mono ?_
      rintro e w1 ⟨rfl, hb⟩
      go_wp2_with fail
      go_ret
      rw [HV.out]
      have hbb := HB1.out.trans (hb.mono HB1.out.size)
      exact ⟨g, cap, rfl, HG.out.below hb, hbb.mono hbs, RowsKept.of_below hbb, GElse.of_below hbb, .inl rfl⟩
  | succ n ih =>
    intro x y G g cap w hn hGr hlen x0 x1 y0 y1 hG hB
    have HIH := hid ih
    have hpos := pow_pos' n
    have hle : (2 : Int) ^ n ≤ 16 := by
      rcases (show n = 0 ∨ n = 1 ∨ n = 2 ∨ n = 3 ∨ n = 4 by omega) with rfl | rfl | rfl | rfl | rfl <;> decide
    have h4 : (4 : Nat) ^ (n + 1) = 4 * 4 ^ n := by rw [Nat.pow_succ]; omega
    rw [h4] at hlen
    rw [two_pow] at x1 y1
    have HPF := hid (fun k => pk_facts L n x y G (by omega) hGr k)
    have HPJ := hid (pk_join L n x y G (by omega) hGr)
    have HPA := hid (fun k j => pk_at L n x y G (by omega) hGr k j)
    have HP4 := hid (pk_four L n x y G)
    have HLEN := hid hlen
    have hbs : base ≤ w.heap.size := Nat.le_trans hG.lowp (Nat.le_of_lt hG.box.lt)
    have hb1 := (Below.refl w.heap.size w).alloc (Nat.le_refl _) (.cells #[.int .i64 x, .int .i64 y] 41)
    have hb2 := hb1.alloc hb1.size (.cells #[.int .i64 0, .int .i64 0, .int .i64 0, .int .i64 0] 96)
    have C2 : CRow ((w.alloc (.cells #[.int .i64 x, .int .i64 y] 41)).alloc (.cells #[.int .i64 0, .int .i64 0, .int .i64 0, .int .i64 0] 96)) w.heap.size x y := World.rowIs.alloc (two_row (heap_alloc_new _ _)) _
    have F2 := frow_new (w.alloc (.cells #[.int .i64 x, .int .i64 y] 41))
    rw [show (w.alloc (.cells #[.int .i64 x, .int .i64 y] 41)).heap.size = w.heap.size + 1 by simp] at F2
    have HC2 := hid C2
    have HF2 := hid F2
    have HG2 := hid (hG.below hb2)
    have HB2 := hid hb2
    have HBO := hid hB
    clear hG hB ih hlen h4 hb1 hb2 C2 F2
    have dn : ((n : Int) + 1 == 0) = false := by simp; omega
    rw [show ((n + 1 : Nat) : Int) = (n : Int) + 1 by omega]
    go_enter Tryz.func142, Tryz.ntmps142
    go_wp2_with fail
    go_loopw [16] (fun i wr => ∃ (k g' cap' : Nat), k ≤ 4 ∧ i = .int .i64 k ∧ Hid (Grv wr base p g' cap' mb (pk L n x y G k).1) ∧ Hid (CRow wr w.heap.size x y) ∧ Hid (FRow wr (w.heap.size + 1) (fun j => if j < k then ia (pk L n x y G k).2 j else 0)) ∧ Hid (Below base w wr) ∧ Hid (RowsKept w wr) ∧ Hid (GElse w wr p g mb) ∧ Hid (g' = g ∨ w.heap.size ≤ g')) (fun i _ => 4 - (intOf i).toNat)
    case atStart => exact ⟨0, g, cap, by omega, rfl, HG2.out, HC2.out, (HF2.out.congr fun j hj => by simp), HB2.out.mono hbs, RowsKept.of_below HB2.out, GElse.of_below HB2.out, (.inl rfl : _ ∨ _)⟩
    case round =>
      clear HG2 HC2 HF2 HB2
      obtain ⟨k, g1, cap1, hk, rfl, HG, HCR, HFR, HB, HRK, HGE, HGG⟩ := hrel
      by_cases hlt : k < 4
      · have k0 : (0 : Int) ≤ (k : Int) := by omega
        have k1 : (k : Int) < 4 := by omega
        have b0 := World.rowIs.cell HCR.out (i := 0) (by omega)
        have b1 := World.rowIs.cell HCR.out (i := 1) (by omega)
        simp only [if_true, if_false, Nat.one_ne_zero] at b0 b1
        have hx : -100000 ≤ kx n k x ∧ kx n k x + 2 ^ n ≤ 100000 := by
          unfold kx
          rcases (show k % 2 = 0 ∨ k % 2 = 1 by omega) with e | e <;> rw [e] <;> simp <;> omega
        have hy : -100000 ≤ ky n k y ∧ ky n k y + 2 ^ n ≤ 100000 := by
          unfold ky
          rcases (show k / 2 = 0 ∨ k / 2 = 1 by omega) with e | e <;> rw [e] <;> simp <;> omega
        have HKC := hid (c_kidCorner n k (by omega) hlt x y wr x0 (by omega) y0 (by omega))
        have HPK := hid (show (pk L n x y G (k + 1)).1 = (treeL L n (kx n k x) (ky n k y) (pk L n x y G k).1).1 from rfl)
        go_wp2_with fail
        refine HKC.out.mono ?_
        rintro e w2 ⟨rfl, hb⟩
        have hpf := HPF.out k
        have hl4 : k * 4 ^ n ≤ 3 * 4 ^ n := Nat.mul_le_mul_right _ (by omega)
        have HPL := hid (HIH.out (kx n k x) (ky n k y) (pk L n x y G k).1 g1 cap1 w2 (by omega) hpf.1 (by have := HLEN.out; have := hpf.2.1; omega) hx.1 hx.2 hy.1 hy.2 (HG.out.below hb) (HBO.out.rows (HRK.out.trans (RowsKept.of_below hb))))
        have HR2 := hid (HRK.out.trans (RowsKept.of_below hb))
        have HC2 := hid (World.rowIs.of_block HCR.out (hb.block _ (World.rowIs.lt HCR.out)))
        have HF2 := hid (World.rowIs.of_block HFR.out (hb.block _ (World.rowIs.lt HFR.out)))
        have HB2 := hid (HB.out.trans (hb.mono (Nat.le_trans hbs HB.out.size)))
        have HGE2 := hid (GElse.trans HGE.out HB.out.size HGG.out (GElse.of_below (p := p) (g := g1) (mb := mb) hb))
        have HSZ2 := hid (Nat.le_trans HB.out.size hb.size)
        clear HKC hb hpf hl4 HG HCR HFR HB HRK HGE
        go_wp2_with fail
        refine HPL.out.mono ?_
        rintro e w3 ⟨g3, cap3, rfl, hG3, hb3, hr3, he3, hg3⟩
        have HC3 := hid (hr3 _ _ _ _ (by decide) (by decide) HC2.out)
        have hF3 := hr3 _ _ _ _ (by decide) (by decide) HF2.out
        have c9 := hF3.cell (i := k) (by omega)
        have f9 := hF3.frozen k
        have hF4 : FRow (w3.setCell ⟨w.heap.size + 1, k, none⟩ (.int .i64 ((treeL L n (kx n k x) (ky n k y) (pk L n x y G k).1).2 : Int))) (w.heap.size + 1) (fun j => if j < k + 1 then ia (pk L n x y G (k + 1)).2 j else 0) := by
          refine (World.rowIs.set hF3 k _).congr fun j hj => ?_
          dsimp only
          rw [← HPA.out k j]
          by_cases e : j = k
          · rw [if_pos e, if_pos e]
          · rw [if_neg e, if_neg e]
        have HF4 := hid hF4
        have HC4 := hid (World.rowIs.setOther HC3.out (a := ⟨w.heap.size + 1, k, none⟩) (by dsimp only; omega) (.int .i64 ((treeL L n (kx n k x) (ky n k y) (pk L n x y G k).1).2 : Int)))
        have HG4 := hid (hG3.setFour hF3 k ((treeL L n (kx n k x) (ky n k y) (pk L n x y G k).1).2 : Int))
        have HB4 := hid ((HB2.out.trans hb3).setCell (p := ⟨w.heap.size + 1, k, none⟩) (by dsimp only; omega) (.int .i64 ((treeL L n (kx n k x) (ky n k y) (pk L n x y G k).1).2 : Int)))
        have HR4 := hid (rows_set (HR2.out.trans hr3) (show w.heap.size ≤ w.heap.size + 1 by omega) k (.int .i64 ((treeL L n (kx n k x) (ky n k y) (pk L n x y G k).1).2 : Int)))
        have HE4 := hid ((HGE2.out.trans HSZ2.out HGG.out he3).set (show w.heap.size ≤ w.heap.size + 1 by omega) k (.int .i64 ((treeL L n (kx n k x) (ky n k y) (pk L n x y G k).1).2 : Int)))
        have HGG4 := hid (show g3 = g ∨ w.heap.size ≤ g3 by
          have h1 := HGG.out
          have h2 := HSZ2.out
          rcases hg3 with rfl | h3
          · exact h1
          · exact .inr (Nat.le_trans h2 h3))
        rw [← HPK.out] at HG4
        clear HPL hG3 hb3 hr3 he3 hg3 hF3 hF4 HC3 HC2 HF2 HB2 HR2 b0 b1 HGE2 HSZ2 HGG
        generalize ((treeL L n (kx n k x) (ky n k y) (pk L n x y G k).1).2 : Int) = TQ at *
        go_wp2_with fail
        go_roundw
        case rel => exact ⟨k + 1, g3, cap3, by omega, by go_num, HG4.out, HC4.out, HF4.out, HB4.out, HR4.out, HE4.out, HGG4.out⟩
        case measure => simp [intOf]; omega
      · obtain rfl : k = 4 := by omega
        have hpf := HPF.out 4
        have b0 := World.rowIs.cell HFR.out (i := 0) (by omega)
        have b1 := World.rowIs.cell HFR.out (i := 1) (by omega)
        have b2 := World.rowIs.cell HFR.out (i := 2) (by omega)
        have b3 := World.rowIs.cell HFR.out (i := 3) (by omega)
        simp only [show (0 : Nat) < 4 by omega, show (1 : Nat) < 4 by omega, show (2 : Nat) < 4 by omega, show (3 : Nat) < 4 by omega, if_true] at b0 b1 b2 b3
        have HJ := hid (c_ijoinE (pk L n x y G 4).2 hpf.2.2 wr HG.out hpf.1 (by have := HLEN.out; have := hpf.2.1; omega) HPJ.out)
        unfold kv at HJ
        generalize pk L n x y G 4 = PP at *
        clear hpf
        go_wp2_with fail
        refine HJ.out.mono ?_
        rintro e w3 ⟨g3, cap3, rfl, hG3, hb3, hr3, he3, hg3⟩
        have HG3 := hid hG3
        have HB3 := hid (HB.out.trans hb3)
        have HR3 := hid (HRK.out.trans hr3)
        have HE3 := hid (HGE.out.trans HB.out.size HGG.out he3)
        have HGG3 := hid (show g3 = g ∨ w.heap.size ≤ g3 by
          have h1 := HGG.out
          have h2 := HB.out.size
          rcases hg3 with rfl | h3
          · exact h1
          · exact .inr (Nat.le_trans h2 h3))
        clear hG3 hb3 hr3 he3 hg3 HJ
        go_wp2_with fail
        go_ret
        rw [HP4.out]
        exact ⟨g3, cap3, rfl, HG3.out, HB3.out, HR3.out, HE3.out, HGG3.out⟩

end Go.Proofs.YtokemdbgcegjiaaGreat

namespace Go.Proofs.YtokemdbgcegjiaaGreat
open Go.RowKit Go.Maps
set_option linter.unusedVariables false
set_option linter.unusedSimpArgs false

theorem lawN : Keyed Tryz.prog 3 := int_keyed Tryz.underlying3
theorem mundN : Tryz.prog.underlying 138 = some (.map 3 3) := Tryz.underlying138
theorem key_ofN {n : Int} (h : fit1 n) : keyOf Tryz.prog 3 (.int .i64 n) = some (.int .i64 n) := by
  unfold keyOf
  rw [Tryz.underlying3]
  simp [mapKey, Tryz.underlying3, wf1 h]
/-- The map in block b holds f l at each number l that f knows, and nothing at every other one; it has at most n entries. -/
def MapN (w : World) (b n : Nat) (f : Int → Option Int) : Prop :=
  ∃ D : DataW Unit, w.ownsMap Tryz.prog 3 (plainElem Tryz.prog 3) b n D ∧ ∀ l, fit1 l → ∀ zd, D.atKey (.int .i64 l) zd = (match f l with | some i => .lit (.int .i64 i) | none => zd)
theorem MapN.made (w : World) : MapN (w.alloc (.map #[] 0)) w.heap.size 0 (fun _ => none) :=
  ⟨.map [], World.ownsMap_made w _ _ _, fun _ _ _ => rfl⟩
theorem MapN.lt {w : World} {b n : Nat} {f : Int → Option Int} (h : MapN w b n f) : b < w.heap.size := by
  obtain ⟨D, ho, _⟩ := h; exact ho.lt
theorem MapN.kept {w w' : World} {b n : Nat} {f : Int → Option Int} {row : Option Nat} (h : MapN w b n f) (hg : w.grownBy w' row) (hne : some b ≠ row) : MapN w' b n f := by
  obtain ⟨D, ho, h1⟩ := h; exact ⟨D, ho.kept hg hne, h1⟩
theorem MapN.blk {w w' : World} {b n : Nat} {f : Int → Option Int} (h : MapN w b n f) (hb : w'.heap[b]? = w.heap[b]?) : MapN w' b n f := by
  obtain ⟨D, ⟨es, clock, h1, r⟩, h2⟩ := h
  exact ⟨D, ⟨es, clock, hb.trans h1, r⟩, h2⟩
/-- What looking up gives. -/
theorem MapN.look {w : World} {b n : Nat} {f : Int → Option Int} (h : MapN w b n f) {l : Int} (hl : fit1 l) :
    (Instr.lookup 138 (.map (some b)) (.int .i64 l) true).run Tryz.prog w = .ok (.tuple #[.int .i64 ((f l).getD 0), .bool (f l).isSome]) w := by
  obtain ⟨D, ⟨es, clock, hb, F, _, rfl⟩, h2⟩ := h
  have hk := h2 l hl
  rcases Maps.fit_look true lawN mundN (mzero4 w) hb F (key_ofN hl) with ⟨hrun, _, hat⟩ | ⟨e0, y, _, _, hrun, hRv, hat, _⟩
  · cases hf : f l with
    | none => rw [hrun]; rfl
    | some i =>
      have := hk (.lit (.int .i64 (i + 1)))
      rw [hat, hf] at this
      simp only [DataW.lit.injEq, Lit.int.injEq, true_and] at this
      omega
  · cases hf : f l with
    | none =>
      have t0 := hk (.lit (.int .i64 0))
      have t1 := hk (.lit (.int .i64 1))
      rw [hat, hf] at t0 t1
      simp only at t0 t1
      rw [t0] at t1
      simp at t1
    | some i =>
      have t0 := hk (.lit (.int .i64 0))
      rw [hat, hf] at t0
      simp only at t0
      obtain ⟨a, e1, e2, _⟩ := plainElem_int_inv Tryz.underlying3 hRv
      rw [e2] at t0
      simp at t0
      rw [hrun, e1, t0]; rfl
/-- What a store leaves. -/
theorem MapN.put {w : World} {b n : Nat} {f : Int → Option Int} (h : MapN w b n f) {l : Int} (hl : fit1 l) (hn : n < maxLen) {v : Int} (hv : fit1 v) :
    ∃ w', (Instr.mapUpdate 138 (.map (some b)) (.int .i64 l) (.int .i64 v)).run Tryz.prog w = .ok () w' ∧ MapN w' b (n + 1) (fun m => if m = l then some v else f m) ∧ w.grownBy w' (some b) := by
  obtain ⟨D, ho, h2⟩ := h
  have him : Maps.IsMap D := by
    obtain ⟨es, clock, hb, F, _, hD⟩ := ho
    exact ⟨_, hD⟩
  obtain ⟨w', hrun, ho', hg⟩ := ho.update lawN mundN hn (key_ofN hl) (plainElem_int Tryz.underlying3 (wf1 hv))
  refine ⟨w', hrun, ⟨_, ho', fun m hm zd => ?_⟩, hg⟩
  by_cases e : m = l
  · subst e
    rw [Maps.atKey_put_same him (lawN.key (key_ofN hm))]; simp
  · rw [Maps.atKey_put_other (fun h => e (by simpa using h)), h2 m hm]; simp [e]

end Go.Proofs.YtokemdbgcegjiaaGreat
