/- The specification's tree, of cells that may be newer than the forest. -/
import Derived.Test.YtnabgfbempkgnaaSTree
namespace Go.Proofs.Ytnabgfbempkgnaa
open Go.RowKit
set_option linter.unusedVariables false
set_option linter.unusedSimpArgs false
attribute [local go_sem ↓] Go.wp_at_zero Go.wp_at_succ

/-- All but forests that grow stays as it is. -/
def KeepT (w w' : World) : Prop := w.heap.size ≤ w'.heap.size ∧ ∀ (k : Nat) (c : Array Value) (t : TypeId) (fr : Nat × Nat), w.heap[k]? = some (Obj.cells c t fr) → t ≠ 72 → t ≠ 85 → w'.heap[k]? = w.heap[k]?
theorem KeepT.trans {a b c : World} (h : KeepT a b) (k : KeepT b c) : KeepT a c := ⟨Nat.le_trans h.1 k.1, fun i d t fr hi h1 h2 => (k.2 i d t fr ((h.2 i d t fr hi h1 h2).trans hi) h1 h2).trans (h.2 i d t fr hi h1 h2)⟩
theorem KeepT.of {w w' : World} (h : Below w.heap.size w w') : KeepT w w' := ⟨h.size, fun k c t fr hk _ _ => h.block k (lt_of_blk hk)⟩
theorem KeepT.else {gg : Option Nat} {w w' : World} {base p : Nat} {v : Value} {F : List Qd} (hS : SF w base p v F gg) (hE : Else w w' p v) (hs : w.heap.size ≤ w'.heap.size) : KeepT w w' := by
  refine ⟨hs, fun k c t fr hk t1 t2 => hE k (lt_of_blk hk) ?_ ?_⟩
  · rintro rfl
    obtain ⟨c2, h2, _⟩ := hS.box
    rw [hk] at h2
    simp only [Option.some.injEq, Obj.cells.injEq] at h2
    exact t1 h2.2.1
  · intro e
    obtain ⟨cur, h2⟩ := hS.gf.type e.symm
    rw [hk] at h2
    simp only [Option.some.injEq, Obj.cells.injEq] at h2
    exact t2 h2.2.1
/-- Cells in a block of cells. -/
def TyS (w : World) (a : Option Addr) (l : List Cl) : Prop := Seg w a l ∧ ∀ g o, a = some ⟨g, o, none⟩ → ∃ c fr, w.heap[g]? = some (.cells c 44 fr)
theorem TyS.keep {w w' : World} {a : Option Addr} {l : List Cl} (h : TyS w a l) (k : KeepT w w') : TyS w' a l := by
  refine ⟨fun i hi => ?_, fun g o e => ?_⟩
  · obtain ⟨b, o, e, hb, p1, p2⟩ := h.1 i hi
    obtain ⟨c, fr, hc⟩ := h.2 b o e
    have hh := k.2 b c _ fr hc (by decide) (by decide)
    exact ⟨b, o, e, Nat.lt_of_lt_of_le hb k.1, (World.cell?_of_block (a := ⟨b, o + i * 2, none⟩) hh).trans p1, (World.cell?_of_block (a := ⟨b, o + i * 2 + 1, none⟩) hh).trans p2⟩
  · obtain ⟨c, fr, hc⟩ := h.2 g o e
    exact ⟨c, fr, (k.2 g c _ fr hc (by decide) (by decide)).trans hc⟩
theorem OwnS.tys {w : World} {base : Nat} {a : Option Addr} {n ca : Nat} {l : List Cl} (h : OwnS w base (.slice a n ca) l) : n = l.length ∧ TyS w a l := by
  obtain ⟨a', c', e, hs⟩ := h.form
  simp only [Value.slice.injEq] at e
  obtain ⟨rfl, rfl, rfl⟩ := e
  refine ⟨rfl, hs, fun g o e => ?_⟩
  rcases h.2 with ⟨e2, _⟩ | ⟨g2, cap, cur, e2, hb, hg, _⟩
  · simp only [Value.slice.injEq] at e2
    rw [e] at e2
    cases e2.1
  · simp only [Value.slice.injEq] at e2
    rw [e] at e2
    simp only [Option.some.injEq, Addr.mk.injEq, and_true] at e2
    obtain ⟨⟨rfl, rfl⟩, _⟩ := e2
    exact ⟨cur, _, hg⟩

set_option maxHeartbeats 4000000 in
set_option maxRecDepth 100000 in
theorem c_streeE (L : List Cl) (la : Option Addr) (lca : Nat) (hLl : L.length ≤ 1048576) (base p : Nat) {gg : Option Nat} : ∀ (n : Nat) (x y : Int) (v : Value) (F : List Qd) (w : World),
    n ≤ 5 → Grows F → F.length + 4 ^ n ≤ 10000 → -100000 ≤ x → x + 2 ^ n ≤ 100000 → -100000 ≤ y → y + 2 ^ n ≤ 100000 → SF w base p v F gg → TyS w la L → (∀ z, gg = some z → z < w.heap.size) →
    Calls Try.prog 47 #[.pointer (some ⟨p, 0, none⟩), .int .i64 (n : Int), .int .i64 x, .int .i64 y, .slice la L.length lca] w fun e w' => ∃ v', e = .returned (.int .i64 ((treeL L n x y F).2 : Int)) ∧ SF w' base p v' (treeL L n x y F).1 gg ∧ Below base w w' ∧ KeepT w w' := by
  intro n
  induction n with
  | zero =>
    intro x y v F w hn hGr hlen x0 x1 y0 y1 hS hB hgl
    have HS := hid hS
    have HC := hid (c_l1Alive la L lca (x, y) w hB.1 hLl)
    have hbs : base ≤ w.heap.size := Nat.le_trans hS.low (Nat.le_of_lt hS.box.lt)
    by_cases e : (x, y) ∈ L
    · rw [show decide ((x, y) ∈ L) = true by simp [e]] at HC
      have HV : Hid (treeL L 0 x y F = (F, 1)) := by simp [Hid, treeL, e]
      clear hS hB e
      go_enter Try.func47, Try.ntmps47
      go_wp2_with fail
      refine HC.out.mono ?_
      rintro e w1 ⟨rfl, hb⟩
      go_wp2_with fail
      go_ret
      rw [HV.out]
      exact ⟨_, rfl, HS.out.below hb, hb.mono hbs, KeepT.of hb⟩
    · rw [show decide ((x, y) ∈ L) = false by simp [e]] at HC
      have HV : Hid (treeL L 0 x y F = (F, 0)) := by simp [Hid, treeL, e]
      clear hS hB e
      go_enter Try.func47, Try.ntmps47
      go_wp2_with fail
      refine HC.out.mono ?_
      rintro e w1 ⟨rfl, hb⟩
      go_wp2_with fail
      go_ret
      rw [HV.out]
      exact ⟨_, rfl, HS.out.below hb, hb.mono hbs, KeepT.of hb⟩
  | succ n ih =>
    intro x y v F w hn hGr hlen x0 x1 y0 y1 hS hB hgl
    have HIH := hid ih
    have HS := hid hS
    have HB := hid hB
    have hpos := pow_pos' n
    have hle : (2 : Int) ^ n ≤ 16 := by
      rcases (show n = 0 ∨ n = 1 ∨ n = 2 ∨ n = 3 ∨ n = 4 by omega) with rfl | rfl | rfl | rfl | rfl <;> decide
    have h4 : (4 : Nat) ^ (n + 1) = 4 * 4 ^ n := by rw [Nat.pow_succ]; omega
    rw [h4] at hlen
    rw [two_pow] at x1 y1
    have t0 := treeL_tr L n x y F (by omega) hGr
    have t1 := treeL_tr L n (x + 2 ^ n) y _ (by omega) t0.grows
    have t2 := treeL_tr L n x (y + 2 ^ n) _ (by omega) t1.grows
    have t3 := treeL_tr L n (x + 2 ^ n) (y + 2 ^ n) _ (by omega) t2.grows
    have HTJ := hid (tr_join (by omega) t0 t1 t2 t3)
    have HT0 := hid t0
    have HT1 := hid t1
    have HT2 := hid t2
    have HT3 := hid t3
    have HCL := hid (show treeL L (n + 1) x y F = joinF (treeL L n (x + 2 ^ n) (y + 2 ^ n) (treeL L n x (y + 2 ^ n) (treeL L n (x + 2 ^ n) y (treeL L n x y F).1).1).1).1 [((treeL L n x y F).2 : Int), ((treeL L n (x + 2 ^ n) y (treeL L n x y F).1).2 : Int), ((treeL L n x (y + 2 ^ n) (treeL L n (x + 2 ^ n) y (treeL L n x y F).1).1).2 : Int), ((treeL L n (x + 2 ^ n) (y + 2 ^ n) (treeL L n x (y + 2 ^ n) (treeL L n (x + 2 ^ n) y (treeL L n x y F).1).1).1).2 : Int)] from rfl)
    have l0 := t0.most
    have l1 := t1.most
    have l2 := t2.most
    have l3 := t3.most
    rw [HCL.out]
    have HQ := hid (⟨l0, l1, l2, l3, hlen⟩ : _ ∧ _ ∧ _ ∧ _ ∧ _)
    have HG0 := hid t0.grows
    have HG1 := hid t1.grows
    have HG2 := hid t2.grows
    have HG3 := hid t3.grows
    clear t0 t1 t2 t3 hS hB ih l0 l1 l2 l3 hlen h4 HCL HT0 HT1 HT2 HT3
    generalize hr0 : treeL L n x y F = r0 at *
    generalize hr1 : treeL L n (x + 2 ^ n) y r0.1 = r1 at *
    generalize hr2 : treeL L n x (y + 2 ^ n) r1.1 = r2 at *
    generalize hr3 : treeL L n (x + 2 ^ n) (y + 2 ^ n) r2.1 = r3 at *
    have HR0 := hid hr0
    have HR1 := hid hr1
    have HR2 := hid hr2
    have HR3 := hid hr3
    have HGF := hid hGr
    clear hr0 hr1 hr2 hr3 hGr
    have dn : ((n : Int) + 1 == 0) = false := by simp; omega
    rw [show ((n + 1 : Nat) : Int) = (n : Int) + 1 by omega]
    go_enter Try.func47, Try.ntmps47
    go_wp2_with fail
    have H0 := hid (HIH.out x y v F w (by omega) HGF.out (by have := HQ.out; omega) x0 (by omega) y0 (by omega) HS.out HB.out hgl)
    rw [HR0.out] at H0
    refine H0.out.mono ?_
    rintro e w1 ⟨v1, rfl, hS1, hB1, hK1⟩
    have HS1 := hid hS1
    have HBA := hid hB1
    have HKA := hid hK1
    have HO1 := hid (HB.out.keep hK1)
    clear H0 hS1 hB1 hK1
    go_wp2_with fail
    have H1 := hid (HIH.out (x + 2 ^ n) y v1 r0.1 w1 (by omega) HG0.out (by have := HQ.out; omega) (by omega) (by omega) y0 (by omega) HS1.out HO1.out (fun z hz => Nat.lt_of_lt_of_le (hgl z hz) HKA.out.1))
    rw [HR1.out] at H1
    refine H1.out.mono ?_
    rintro e w2 ⟨v2, rfl, hS2, hB2, hK2⟩
    have HS2 := hid hS2
    replace HBA := hid (HBA.out.trans hB2)
    have HO2 := hid (HO1.out.keep hK2)
    replace HKA := hid (HKA.out.trans hK2)
    clear H1 hS2 hB2 hK2
    go_wp2_with fail
    have H2 := hid (HIH.out x (y + 2 ^ n) v2 r1.1 w2 (by omega) HG1.out (by have := HQ.out; omega) x0 (by omega) (by omega) (by omega) HS2.out HO2.out (fun z hz => Nat.lt_of_lt_of_le (hgl z hz) HKA.out.1))
    rw [HR2.out] at H2
    refine H2.out.mono ?_
    rintro e w3 ⟨v3, rfl, hS3, hB3, hK3⟩
    have HS3 := hid hS3
    replace HBA := hid (HBA.out.trans hB3)
    have HO3 := hid (HO2.out.keep hK3)
    replace HKA := hid (HKA.out.trans hK3)
    clear H2 hS3 hB3 hK3
    go_wp2_with fail
    have H3 := hid (HIH.out (x + 2 ^ n) (y + 2 ^ n) v3 r2.1 w3 (by omega) HG2.out (by have := HQ.out; omega) (by omega) (by omega) (by omega) (by omega) HS3.out HO3.out (fun z hz => Nat.lt_of_lt_of_le (hgl z hz) HKA.out.1))
    rw [HR3.out] at H3
    refine H3.out.mono ?_
    rintro e w4 ⟨v4, rfl, hS4, hB4, hK4⟩
    have HS4 := hid hS4
    replace HBA := hid (HBA.out.trans hB4)
    replace HKA := hid (HKA.out.trans hK4)
    clear H3 hS4 hB4 hK4
    have hkk := HTJ.out.2.1 0 (by omega)
    have HJ := hid (c_sjoin [(r0.2 : Int), (r1.2 : Int), (r2.2 : Int), (r3.2 : Int)] rfl w4 HS4.out (by have := HQ.out; omega) HG3.out.kidsLe hkk.1 hkk.2 (by rw [HTJ.out.2.2]; omega) (by rw [HTJ.out.2.2]; omega) (fun z hz => Nat.lt_of_lt_of_le (hgl z hz) HKA.out.1))
    clear hkk
    go_wp2_with fail
    refine HJ.out.mono ?_
    rintro e w5 ⟨v5, rfl, hS5, hB5, hE5⟩
    have HS5 := hid hS5
    replace HBA := hid (HBA.out.trans hB5)
    replace HKA := hid (HKA.out.trans (KeepT.else HS4.out hE5 hB5.size))
    clear HJ hS5 hB5 hE5
    go_wp2_with fail
    go_ret
    exact ⟨_, rfl, HS5.out, HBA.out, HKA.out⟩

end Go.Proofs.Ytnabgfbempkgnaa
