/- What the specification's small functions of changing trees answer. -/
import Derived.Test.YtmapbkefndbnnaaSTof
import Derived.Test.YtmapbkefndbnnaaCellK
import Derived.Test.YtmapbkefndbnnaaIMid
namespace Go.Proofs.Ytmapbkefndbnnaa
open Go.RowKit
set_option linter.unusedVariables false
set_option linter.unusedSimpArgs false
attribute [local go_sem ↓] Go.wp_at_zero Go.wp_at_succ

/-- Blocks of the call's own, from the heap's end of w on. -/
def Bx (w W : World) (bs : List (Array Value × TypeId)) : Prop := (∀ i c t, bs[i]? = some (c, t) → W.heap[w.heap.size + i]? = some (.cells c t)) ∧ w.heap.size + bs.length ≤ W.heap.size ∧ Below w.heap.size w W
theorem Bx.nil (w : World) : Bx w w [] := ⟨fun i c t h => by simp at h, Nat.le_refl _, Below.refl _ _⟩
theorem Bx.add {w W : World} {bs : List (Array Value × TypeId)} (h : Bx w W bs) (hs : W.heap.size = w.heap.size + bs.length) (c : Array Value) (t : TypeId) : Bx w (W.alloc (.cells c t)) (bs ++ [(c, t)]) := by
  have hb := (Below.refl W.heap.size W).alloc (Nat.le_refl _) (.cells c t)
  refine ⟨fun i c' t' hi => ?_, by simp; omega, h.2.2.trans (hb.mono h.2.2.size)⟩
  by_cases e : i < bs.length
  · rw [List.getElem?_append_left e] at hi
    exact (hb.block _ (by omega)).trans (h.1 i c' t' hi)
  · have e2 : i = bs.length := by
      by_cases h2 : i = bs.length
      · exact h2
      · rw [List.getElem?_eq_none (by simp; omega)] at hi; cases hi
    subst e2
    simp at hi
    obtain ⟨rfl, rfl⟩ := hi
    rw [← hs]
    exact heap_alloc_new _ _
theorem Bx.step {w W W' : World} {bs : List (Array Value × TypeId)} (h : Bx w W bs) (hb : Below W.heap.size W W') : Bx w W' bs :=
  ⟨fun i c t hi => (hb.block _ (by have := (List.getElem?_eq_some_iff.1 hi).1; have := h.2.1; omega)).trans (h.1 i c t hi), Nat.le_trans h.2.1 hb.size, h.2.2.trans (hb.mono h.2.2.size)⟩
theorem Bx.cell {w W : World} {bs : List (Array Value × TypeId)} (h : Bx w W bs) (i j : Nat) {c : Array Value} {t : TypeId} {v : Value} (hi : bs[i]? = some (c, t)) (hj : c[j]? = some v) : W.cell? ⟨w.heap.size + i, j, none⟩ = some v := by
  unfold World.cell?
  rw [h.1 i c t hi]
  exact hj
theorem Bx.row {w W : World} {bs : List (Array Value × TypeId)} (h : Bx w W bs) (i : Nat) {v : Value} {t : TypeId} (hi : bs[i]? = some (#[v], t)) : W.rowIs (w.heap.size + i) t 1 (fun _ => v) := one_row (h.1 i _ t hi)
theorem Bx.lt {w W : World} {bs : List (Array Value × TypeId)} (h : Bx w W bs) (i : Nat) (hi : i < bs.length) : w.heap.size + i < W.heap.size := by have := h.2.1; omega

theorem hoB_in (n : Nat) (c : Cl) : hoB n c = (inB 0 (2 ^ n - 1) c.1 && inB 0 (2 ^ n - 1) c.2) := by
  have : ∀ z : Int, (decide (0 ≤ z) && decide (z ≤ 2 ^ n - 1)) = (decide (0 ≤ z) && decide (z < 2 ^ n)) := by
    intro z
    congr 1
    rw [decide_eq_decide]
    omega
  unfold hoB inB
  rw [this, this, Bool.and_assoc, Bool.and_assoc]

set_option maxHeartbeats 1000000 in
set_option maxRecDepth 100000 in
theorem c_l4Within (a : Option Addr) (F : List Qd) (ca : Nat) (q : Int) (c : Cl) (n : Nat) (hn : n ≤ 5) (v : Bool) (w : World) (hv : hoB n c = v) (h0 : 0 ≤ q) (h1 : q < (F.length : Int)) (hl : (qa F q.toNat).1 = (n : Int)) (ha : QSeg w a F) :
    Calls Try.prog 105 #[.agg #[.slice a F.length ca], .int .i64 q, .agg #[.int .i64 c.1, .int .i64 c.2]] w fun e w' => e = .returned (.bool v) ∧ Below w.heap.size w w' := by
  have hpos := pow_pos' n
  have hle : (2 : Int) ^ n ≤ 32 := pow_le5 hn
  obtain ⟨b1, o1, ak, ck, rfl, hb1, p1, _⟩ := ha q.toNat (by omega)
  have B1 := (Bx.nil w).add (by simp) #[.slice (some ⟨b1, o1, none⟩) F.length ca] 25
  have B2 := hid (B1.add (by simp) #[.int .i64 c.1, .int .i64 c.2] 39)
  have y := (B2.out.2.2.cell (p := ⟨b1, o1 + q.toNat * 2, none⟩) hb1).trans p1
  rw [hl] at y
  rw [hoB_in] at hv
  clear p1 B1 ha hl
  cases h1' : inB 0 (2 ^ n - 1) c.1
  · have HC := hid (fun W => c_l1In' c.1 0 (2 ^ n - 1) false h1' W)
    have HV := hid (show v = false by rw [h1'] at hv; simpa using hv.symm)
    clear hv h1'
    go_enter Try.func105, Try.ntmps105
    go_wp2_with fail
    refine (HC.out _).mono ?_
    rintro e w1 ⟨rfl, rfl⟩
    go_wp2_with fail
    go_ret
    exact ⟨ret_bool HV.out.symm, B2.out.2.2⟩
  · have HC := hid (fun W => c_l1In' c.1 0 (2 ^ n - 1) true h1' W)
    have HD := hid (fun W => c_l1In' c.2 0 (2 ^ n - 1) v (by rw [h1'] at hv; simpa using hv) W)
    clear hv h1'
    go_enter Try.func105, Try.ntmps105
    go_wp2_with fail
    refine (HC.out _).mono ?_
    rintro e w1 ⟨rfl, rfl⟩
    go_wp2_with fail
    refine (HD.out _).mono ?_
    rintro e w1 ⟨rfl, rfl⟩
    go_wp2_with fail
    go_ret
    exact ⟨rfl, B2.out.2.2⟩

/-- Cells without those that are to go. -/
def dropL (l m : List Cl) : List Cl := l.filter fun c => !decide (c ∈ m)
theorem filter_take_succ {l : List Cl} {f : Cl → Bool} {k : Nat} (h : k < l.length) : (l.take (k + 1)).filter f = (l.take k).filter f ++ (if f (at_ l k) then [at_ l k] else []) := by
  rw [List.take_succ_eq_append_getElem h, List.filter_append]
  have : l[k] = at_ l k := by simp [at_, h]
  rw [this]
  split <;> rename_i hf <;> simp [hf]

set_option maxHeartbeats 1000000 in
theorem c_l4Drop (a : Option Addr) (l : List Cl) (ca : Nat) (ga : Option Addr) (m : List Cl) (gc : Nat) (w : World) (ha : Seg w a l) (hl : l.length ≤ 1048576) (hm : Seg w ga m) (hml : m.length ≤ 1048576) :
    Calls Try.prog 106 #[.slice a l.length ca, .slice ga m.length gc] w fun e w' => ∃ v, e = .returned v ∧ OwnS w' w.heap.size v (dropL l m) ∧ Below w.heap.size w w' := by
  have HM := hid hm
  clear hm
  go_enter Try.func106, Try.ntmps106
  go_wp2
  go_loopw [5, 10] (fun v i wr => ∃ k : Nat, k ≤ l.length ∧ i = .int .i64 k ∧ Hid (OwnS wr w.heap.size v (dropL (l.take k) m)) ∧ Hid (Below w.heap.size w wr)) (fun _ i _ => l.length - (intOf i).toNat)
  case atStart => exact ⟨0, Nat.zero_le _, rfl, OwnS.nil _ _, Below.refl _ _⟩
  case round =>
    obtain ⟨k, hk, rfl, HO, HB⟩ := hrel
    by_cases hlt : k < l.length
    · obtain ⟨b1, o1, rfl, hb1, p1, p2⟩ := ha k hlt
      have g1 := (HB.out.cell (p := ⟨b1, o1 + k * 2, none⟩) hb1).trans p1
      have g2 := (HB.out.cell (p := ⟨b1, o1 + k * 2 + 1, none⟩) hb1).trans p2
      change _ = some (Value.int .i64 (at_ l k).1) at g1
      change _ = some (Value.int .i64 (at_ l k).2) at g2
      clear p1 p2
      have k0 : (0 : Int) ≤ (k : Int) := by omega
      have k1 : (k : Int) < (l.length : Int) := by omega
      have HS := hid (filter_take_succ (f := fun c => !decide (c ∈ m)) hlt)
      have HLL := hid (show (dropL (l.take k) m).length ≤ 1048576 by
        have h1 : (dropL (l.take k) m).length ≤ (l.take k).length := List.length_filter_le _ _
        rw [List.length_take] at h1; omega)
      have HSS : Hid (dropL (l.take (k + 1)) m = dropL (l.take k) m ++ (if !decide (at_ l k ∈ m) then [at_ l k] else [])) := HS.out
      clear HS
      generalize at_ l k = c at *
      generalize dropL (l.take k) m = lm at *
      have B1 := hid ((Bx.nil wr).add (by simp) #[.int .i64 c.1, .int .i64 c.2] 39)
      have hwr := HB.out.size
      cases hd : decide (c ∈ m)
      · have HC := hid (fun W (h : Below wr.heap.size wr W) => by have := c_l1Alive ga m gc c W ((HM.out.below HB.out).below h) hml; rw [hd] at this; exact this)
        rw [hd] at HSS
        go_wp2_with fail
        refine (HC.out _ B1.out.2.2).mono ?_
        rintro e w1 ⟨rfl, hb⟩
        have B2 := hid (B1.out.step hb)
        have e0 := B2.out.cell 0 0 (v := .int .i64 c.1) rfl rfl
        have e1 := B2.out.cell 0 1 (v := .int .i64 c.2) rfl rfl
        rw [Nat.add_zero] at e0 e1
        have hlw : wr.heap.size < w1.heap.size := by have := B2.out.lt 0 (by simp); simpa using this
        have HO1 := hid ((HO.out.below B2.out.2.2).below ((Below.refl w1.heap.size w1).alloc (Nat.le_refl _) (.cells #[.int .i64 c.1, .int .i64 c.2] 39)))
        have HBB := HB.out.trans (B2.out.2.2.mono hwr)
        have HB1 := hid (HBB.alloc HBB.size (.cells #[.int .i64 c.1, .int .i64 c.2] 39))
        have HSg := hid (seg_block (c := (c.1, c.2)) (heap_alloc_new w1 (.cells #[.int .i64 c.1, .int .i64 c.2] 39)))
        clear HC hb HBB
        go_wp2_with (at_builtin; refine wpList_app rfl _ _ rfl w.heap.size _ lm [(c.1, c.2)] _ 1 rfl HO1.out rfl HSg.out (by intro h; cases h) (by have := HLL.out; simp; omega) HB1.out.size ?_; intro v' w2 hO2 hG2)
        go_roundw
        case rel => exact ⟨k + 1, by omega, by go_num, by (show OwnS _ _ _ _; rw [HSS.out]; exact hO2), below_grown HB1.out HO1.out hG2⟩
        case measure => simp [intOf]; omega
      · have HC := hid (fun W (h : Below wr.heap.size wr W) => by have := c_l1Alive ga m gc c W ((HM.out.below HB.out).below h) hml; rw [hd] at this; exact this)
        rw [hd] at HSS
        go_wp2_with fail
        refine (HC.out _ B1.out.2.2).mono ?_
        rintro e w1 ⟨rfl, hb⟩
        have B2 := hid (B1.out.step hb)
        clear HC hb
        go_wp2_with fail
        go_roundw
        case rel => exact ⟨k + 1, by omega, by go_num, by (show OwnS _ _ _ _; rw [HSS.out]; simpa using HO.out.below B2.out.2.2), HB.out.trans (B2.out.2.2.mono hwr)⟩
        case measure => simp [intOf]; omega
    · go_wp2
      go_ret
      have : k = l.length := by omega
      subst this
      exact ⟨_, rfl, by simpa using HO.out, HB.out⟩

set_option maxHeartbeats 2000000 in
set_option maxRecDepth 100000 in
theorem c_l4Tell {F : List Qd} (hg : goodF F = true) (a : Option Addr) (ca : Nat) (n : Nat) (hn : n ≤ 5) (la : Option Addr) (L : List Cl) (lca : Nat) (w : World) (ha : QSeg w a F) (hnc : NoneCap w a F) (hL : Seg w la L) (hLl : L.length ≤ 1048576) :
    Calls Try.prog 107 #[.agg #[.slice a F.length ca], .int .i64 (n : Int), .slice la L.length lca] w fun e w' => ∃ u, e = .returned (.tuple #[.agg #[u], .int .i64 (tellQ (treeL L n 0 0 F).1 ((treeL L n 0 0 F).2 : Int)), .bool (tellB (treeL L n 0 0 F).1)]) ∧ GF w' w.heap.size u (tellF (treeL L n 0 0 F).1) ∧ Below w.heap.size w w' := by
  have hg2 := good_len2 hg
  have hGr := good_grows hg
  have hk : KidsLe F := hGr.kidsLe
  have HT := hid (treeL_tr L n 0 0 F hn hGr)
  have HP4 := hid (pow4_le hn)
  have HP2 := hid (pow_le_32 hn)
  have B1 := (Bx.nil w).add (by simp) #[.slice a F.length ca] 25
  have B2 := hid (B1.add (by simp) #[.slice none 0 0] 25)
  have Q2 := hid (ha.below B2.out.2.2)
  have N2 := hid (hnc.below ha B2.out.2.2)
  have L2 := hid (hL.below B2.out.2.2)
  have HGR := hid hGr
  clear B1 ha hnc hL hg hGr
  have x0 := B2.out.cell 0 0 (v := .slice a F.length ca) rfl rfl
  rw [Nat.add_zero] at x0
  go_enter Try.func107, Try.ntmps107
  go_wp2_with fail
  refine (c_l3Own a F ca _ Q2.out (by omega) hk N2.out).mono ?_
  rintro e w6 ⟨u, rfl, hG6, hb6⟩
  have HG6 := hid hG6
  obtain ⟨ua, uc, rfl, _⟩ := hG6.form
  have hb7 := (Below.refl w6.heap.size w6).alloc (Nat.le_refl _) (.cells #[.slice ua F.length uc, .bool false] 102)
  have B7 := hid ((B2.out.step hb6).step hb7)
  have hlow : w.heap.size + 2 ≤ w6.heap.size := by have := (B2.out.step hb6).2.1; simpa using this
  have hSF : SF (w6.alloc (.cells #[.slice ua F.length uc, .bool false] 102)) (w.heap.size + 2) w6.heap.size (.slice ua F.length uc) F := by
    refine ⟨(HG6.out.below hb7).mono (by simp), (two_row (heap_alloc_new _ _)).congr fun j hj => ?_, hlow⟩
    rcases (show j = 0 ∨ j = 1 by omega) with rfl | rfl
    · simp
    · simp; omega
  have HSF := hid hSF
  have HBL := hid (hb6.trans (hb7.mono hb6.size))
  have HCT := hid (c_stree L la lca _ L2.out hLl (w.heap.size + 2) w6.heap.size (by simp) n 0 0 _ F _ hn HGR.out (by have := HP4.out; omega) (by omega) (by have := HP2.out; omega) (by omega) (by have := HP2.out; omega) HSF.out HBL.out)
  clear hG6 hb6 hb7 hSF x0 HG6
  go_wp2_with fail
  refine HCT.out.mono ?_
  rintro e w7 ⟨v7, rfl, hS7, hb7⟩
  have HS7 := hid hS7
  have R7 := hid ((B7.out.row 1 (v := .slice none 0 0) rfl).of_block (hb7.block _ (by simp)))
  have B8 := hid (B7.out.2.2.trans (hb7.mono (by omega)))
  have hmost := HT.out.most
  clear HCT hS7 hb7
  have HTL := hid (c_tell ((treeL L n 0 0 F).2 : Int) w7 HS7.out (by have := HP4.out; omega) HT.out.grows.kidsLe)
  clear hmost
  go_wp2_with fail
  refine HTL.out.mono ?_
  rintro e w8 ⟨u8, rfl, hG8, hb8⟩
  have HG8 := hid hG8
  obtain ⟨ua8, uc8, rfl, _⟩ := hG8.form
  have R9 := R7.out.of_block (hb8.block _ R7.out.lt)
  have r0 := R9.cell (i := 0) (by omega)
  have f0 := R9.frozen 0
  have E0 := hid ((R9.set 0 (.slice ua8 (tellF (treeL L n 0 0 F).1).length uc8)).cell (i := 0) (by omega))
  simp only [if_true] at E0
  have HG9 := hid ((HG8.out.setRow (o := 0) R9 (by decide) (by decide) (.slice ua8 (tellF (treeL L n 0 0 F).1).length uc8)).mono (show w.heap.size ≤ _ from B8.out.size))
  have HB9 := hid ((B8.out.trans (hb8.mono B8.out.size)).setCell (p := ⟨w.heap.size + 1, 0, none⟩) (by dsimp only; omega) (.slice ua8 (tellF (treeL L n 0 0 F).1).length uc8))
  clear HTL hG8 HG8 hb8 R9 B8 HS7
  generalize hT : tellF (treeL L n 0 0 F).1 = TF at *
  generalize hQ' : tellQ (treeL L n 0 0 F).1 ((treeL L n 0 0 F).2 : Int) = TQ at *
  generalize hB' : tellB (treeL L n 0 0 F).1 = TB at *
  go_wp2_with fail
  subst hT hQ' hB'
  exact bodyPost_ret (v := .tuple #[.agg #[.slice ua8 _ uc8], .int .i64 _, .bool _]) (by simp [results, Try.results107, go_sem, E0.out]) rfl ⟨.slice ua8 _ uc8, rfl, HG9.out, HB9.out⟩

end Go.Proofs.Ytmapbkefndbnnaa
