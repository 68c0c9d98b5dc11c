/- Texts of this seat, one behind the other: HMk, Hom, IHom. -/
import Derived.Test.YtgfdkolhldbehaaLl
import Derived.Test.YtgfdkolhldbehaaBoxY
namespace Go.Proofs.Ytgfdkolhldbehaa
open Go.RowKit
set_option linter.unusedVariables false
set_option linter.unusedSimpArgs false

/-- How many cells the first j lists have together. -/
def totTo (H : List (List Cl)) : Nat → Nat
  | 0 => 0
  | j + 1 => totTo H j + (ht H j).length
theorem totTo_mono (H : List (List Cl)) {i j : Nat} (h : i ≤ j) : totTo H i ≤ totTo H j := by
  induction j with
  | zero => have : i = 0 := by omega
            subst this; exact Nat.le_refl _
  | succ j ih =>
    by_cases e : i = j + 1
    · subst e; exact Nat.le_refl _
    · have := ih (by omega); simp only [totTo]; omega
theorem totTo_le (H : List (List Cl)) (B : Nat) (h : ∀ i, i < H.length → (ht H i).length ≤ B) : ∀ j, j ≤ H.length → totTo H j ≤ j * B
  | 0, _ => by simp [totTo]
  | j + 1, hj => by
    have h1 := totTo_le H B h j (by omega)
    have h2 := h j (by omega)
    simp only [totTo]
    rw [Nat.add_mul]; omega
/-- Lists of which the first j are marked. -/
def mkTo (k : Int) (H : List (List Cl)) : Nat → List (List Cl)
  | 0 => H
  | j + 1 => (mkTo k H j).set j (marks (k + 2 * (totTo H j : Int)) (ht H j).length)
theorem mkTo_length (k : Int) (H : List (List Cl)) : ∀ j, (mkTo k H j).length = H.length
  | 0 => rfl
  | j + 1 => by simp [mkTo, mkTo_length k H j]
theorem mkTo_ht (k : Int) (H : List (List Cl)) : ∀ j i, j ≤ H.length → i < H.length → ht (mkTo k H j) i = if i < j then marks (k + 2 * (totTo H i : Int)) (ht H i).length else ht H i
  | 0, i, _, hi => by simp [mkTo]
  | j + 1, i, hj, hi => by
    rw [mkTo, ht_set (by rw [mkTo_length]; omega), mkTo_ht k H j i (by omega) hi]
    by_cases e : i = j
    · subst e; rw [if_pos rfl, if_pos (by omega)]
    · rw [if_neg e]
      by_cases h : i < j
      · rw [if_pos h, if_pos (by omega)]
      · rw [if_neg h, if_neg (by omega)]

/-- What stands at a place of a row of slices. -/
theorem OwnH.at {w : World} {base n ca j : Nat} {a : Option Addr} {vs : List Value} {H : List (List Cl)} (h : OwnH w base (.slice a n ca) vs H) (hj : j < H.length) :
    ∃ g a' c', a = some ⟨g, 0, none⟩ ∧ n = H.length ∧ g < w.heap.size ∧ va vs j = .slice a' (ht H j).length c' ∧ w.cell? ⟨g, j, none⟩ = some (.slice a' (ht H j).length c') := by
  rcases h.row.2 with ⟨e, hn⟩ | ⟨g, cap, cur, e, hb, hg, _⟩
  · omega
  · simp only [Value.slice.injEq] at e
    obtain ⟨rfl, rfl, rfl⟩ := e
    obtain ⟨a', c', e2, _⟩ := (h.each j hj).form
    refine ⟨g, a', c', rfl, rfl, (Array.getElem?_eq_some_iff.1 hg).1, e2, ?_⟩
    have := World.ownsRow.cellAt h.row j (by omega)
    rw [va_get (by rw [h.len]; exact hj), e2] at this
    exact this

set_option maxHeartbeats 1000000 in
theorem c_markCellSS (a : Option Addr) (ca base : Nat) (vs : List Value) (H : List (List Cl)) (k : Int) (w : World) (h : OwnH w base (.slice a H.length ca) vs H) (hb : base ≤ w.heap.size) (hl : H.length ≤ 100000) (h1 : ∀ i, i < H.length → (ht H i).length ≤ 1048576) (k0 : 0 ≤ k) (k1 : k + 2 * (totTo H H.length : Int) ≤ 16777216) :
    Calls Try.prog 46 #[.slice a H.length ca, .int .i64 k] w fun e w' => e = .returned (.int .i64 (k + 2 * (totTo H H.length : Int))) ∧ OwnH w' base (.slice a H.length ca) vs (mkTo k H H.length) ∧ Below base w w' := by
  have HO := hid h
  have HL := hid h1
  clear h h1
  go_enter Try.func46, Try.ntmps46
  go_wp2
  go_loopw [1, 5] (fun kv iv wr => ∃ j : Nat, j ≤ H.length ∧ iv = .int .i64 (j : Int) ∧ kv = .int .i64 (k + 2 * (totTo H j : Int)) ∧ Hid (OwnH wr base (.slice a H.length ca) vs (mkTo k H j)) ∧ Below base w wr) (fun _ iv _ => H.length - (intOf iv).toNat)
  case atStart => exact ⟨0, Nat.zero_le _, rfl, by simp [totTo], HO.out, Below.refl _ _⟩
  case round =>
    clear HO
    obtain ⟨j, hj, rfl, rfl, hO, hbel⟩ := hrel
    have HB := hid hbel
    clear hbel
    by_cases hlt : j < H.length
    · have hjl : j < (mkTo k H j).length := by rw [mkTo_length]; exact hlt
      have hht : ht (mkTo k H j) j = ht H j := by rw [mkTo_ht k H j j (by omega) hlt, if_neg (by omega)]
      have hat := hO.out.at (j := j) hjl
      rw [hht] at hat
      obtain ⟨g, a', c', e1, -, hgw, e2, hc⟩ := hat
      have hS := hO.out.each j hjl
      rw [hht, e2] at hS
      have HS := hid hS
      have HE := hid e2
      have hm1 := HL.out j hlt
      have hm2 : totTo H j + (ht H j).length ≤ totTo H H.length := totTo_mono H (show j + 1 ≤ H.length by omega)
      have HT : Hid (totTo H (j + 1) = totTo H j + (ht H j).length) := rfl
      subst e1
      clear hS hht e2
      have HMK : Hid (mkTo k H (j + 1) = (mkTo k H j).set j (marks (k + 2 * (totTo H j : Int)) (ht H j).length)) := rfl
      have j0 : (0 : Int) ≤ (j : Int) := by omega
      have j1 : (j : Int) < (H.length : Int) := by omega
      generalize hx : ht H j = x at *
      clear hx
      go_wp2_with fail
      refine (c_mark a' c' base x (k + 2 * (totTo H j : Int)) wr HS.out hm1 (by omega) (by omega)).mono ?_
      rintro e w1 ⟨rfl, hO1, hG1⟩
      have hbz : base ≤ wr.heap.size := Nat.le_trans hb HB.out.size
      have HO1 := hid (hO.out.turn (i := j) hjl (by rw [HE.out]; exact hG1) (by rw [HE.out]; exact hO1))
      have HB1 := hid (HB.out.grown hG1 hbz (fun q e => (HS.out.lt q e).1))
      clear hO1 hG1
      go_wp2
      go_roundw
      case rel =>
        refine ⟨j + 1, by omega, by go_num, ?_, ?_, HB1.out⟩
        · rw [HT.out]; simp only [Value.int.injEq, true_and]; push_cast; omega
        · show OwnH _ _ _ _ _; rw [HMK.out]; exact HO1.out
      case measure => simp [intOf]; omega
    · have hje : j = H.length := by omega
      subst hje
      go_wp2
      go_ret
      exact ⟨rfl, hO.out, HB.out⟩

set_option maxHeartbeats 1000000 in
theorem c_heldCellSS (a : Option Addr) (ca base : Nat) (vs : List Value) (H : List (List Cl)) (k : Int) (w : World) (h : OwnH w base (.slice a H.length ca) vs (mkTo k H H.length)) (hl : H.length ≤ 100000) (h1 : ∀ i, i < H.length → (ht H i).length ≤ 1048576) (k0 : 0 ≤ k) (k1 : k + 2 * (totTo H H.length : Int) ≤ 16777216) :
    Calls Try.prog 47 #[.slice a H.length ca, .int .i64 k] w fun e w' => e = .returned (.int .i64 (k + 2 * (totTo H H.length : Int))) ∧ w' = w := by
  have HO := hid h
  have HL := hid h1
  clear h h1
  go_enter Try.func47, Try.ntmps47
  go_wp2
  go_loop [1, 5] (fun kv iv => ∃ j : Nat, j ≤ H.length ∧ iv = .int .i64 (j : Int) ∧ kv = .int .i64 (k + 2 * (totTo H j : Int))) (fun _ iv => H.length - (intOf iv).toNat)
  case atStart => exact ⟨0, Nat.zero_le _, rfl, by simp [totTo]⟩
  case round =>
    obtain ⟨j, hj, rfl, rfl⟩ := hrel
    by_cases hlt : j < H.length
    · have hjl : j < (mkTo k H H.length).length := by rw [mkTo_length]; exact hlt
      have hht : ht (mkTo k H H.length) j = marks (k + 2 * (totTo H j : Int)) (ht H j).length := by rw [mkTo_ht k H H.length j (by omega) hlt, if_pos hlt]
      have hat := HO.out.at (j := j) hjl
      rw [hht, marks_length] at hat
      obtain ⟨g, a', c', e1, -, hgw, e2, hc⟩ := hat
      have hS := HO.out.each j hjl
      rw [hht, e2] at hS
      have HS := hid hS.seg
      have hm1 := HL.out j hlt
      have hm2 : totTo H j + (ht H j).length ≤ totTo H H.length := totTo_mono H (show j + 1 ≤ H.length by omega)
      have HT : Hid (totTo H (j + 1) = totTo H j + (ht H j).length) := rfl
      subst e1
      clear hS hht e2
      have j0 : (0 : Int) ≤ (j : Int) := by omega
      have j1 : (j : Int) < (H.length : Int) := by omega
      generalize hx : (ht H j).length = x at *
      clear hx
      have hn : ¬ k + 2 * (totTo H j : Int) + 2 * (x : Int) < 0 := by omega
      go_wp2_with fail
      refine (c_held a' c' x (k + 2 * (totTo H j : Int)) _ HS.out hm1 (by omega) (by omega)).mono ?_
      rintro e w1 ⟨rfl, rfl⟩
      go_wp2
      go_round
      case rel =>
        refine ⟨j + 1, by omega, by go_num, ?_⟩
        rw [HT.out]; simp only [Value.int.injEq, true_and]; push_cast; omega
      case measure => simp [intOf]; omega
    · have hje : j = H.length := by omega
      subst hje
      go_wp2
      go_ret
      exact ⟨rfl, rfl⟩
end Go.Proofs.Ytgfdkolhldbehaa

namespace Go.Proofs.Ytgfdkolhldbehaa
open Go.RowKit
set_option linter.unusedVariables false
set_option linter.unusedSimpArgs false

theorem boxLo_in (l : List Cl) : inR (boxLo l) = true := by
  cases hb : boxOk l
  · simp [boxLo, hb, inR]
  · exact (box_reach hb).1
theorem home_good {l : List Cl} (hg : good l = true) : home l = mv l (-(boxLo l).1) (-(boxLo l).2) := by
  cases hb : boxOk l
  · have h0 : l = [] := by
      simp only [boxOk, hg, Bool.true_and, decide_eq_false_iff_not, ne_eq, Classical.not_not] at hb
      exact List.eq_nil_of_length_eq_zero hb
    subst h0
    simp [home, boxOk, mv]
  · simp [home, hb]
theorem home_bad {l : List Cl} (hg : good l = false) : home l = [] := by simp [home, boxOk, hg]

set_option maxHeartbeats 2000000 in
set_option maxRecDepth 100000 in
theorem c_l7Corner (a : Option Addr) (l : List Cl) (ca : Nat) (w : World) (ha : Seg w a l) (hl : l.length ≤ 1048576) :
    Calls Try.prog 65 #[.slice a l.length ca] w fun e w' => e = .returned (.agg #[.int .i64 (boxLo l).1, .int .i64 (boxLo l).2]) ∧ Below w.heap.size w w' := by
  have P0 := WRow.new w (.int .i64 0) 0 36
  have B0 := hid ((Below.refl w.heap.size w).alloc (Nat.le_refl _) (.cells #[.int .i64 0, .int .i64 0] 36))
  have HC := hid (c_sBoxOf a l ca _ (ha.below B0.out) hl)
  have P0 := hid P0
  clear ha
  generalize boxLo l = lo at *
  generalize boxHi l = hi at *
  go_enter Try.func65, Try.ntmps65
  go_wp2_with fail
  refine HC.out.mono ?_
  rintro e w1 ⟨rfl, b1⟩
  have k1 := (Below.refl w1.heap.size w1).alloc (Nat.le_refl _) (.cells #[.int .i64 lo.1, .int .i64 lo.2] 36)
  have k2 := k1.alloc k1.size (.cells #[.int .i64 hi.1, .int .i64 hi.2] 36)
  have RW := hid ((P0.out.below b1).below k2)
  have B2 := hid (B0.out.trans ((b1.trans (k2.mono b1.size)).mono B0.out.size))
  have L1 := hid ((WRow.new w1 (.int .i64 lo.1) lo.2 36).below ((Below.refl _ _).alloc (Nat.le_refl _) (.cells #[.int .i64 hi.1, .int .i64 hi.2] 36)))
  clear HC b1 P0 B0 k1 k2
  have x0 := RW.out.c0
  have x1 := RW.out.c1
  have f0 := RW.out.fr 0
  have f1 := RW.out.fr 1
  have y0 := L1.out.c0
  have y1 := L1.out.c1
  go_wp2_with fail
  have RZ := hid (RW.out.put (.int .i64 lo.1) lo.2)
  have z0 := RZ.out.c0
  have z1 := RZ.out.c1
  refine bodyPost_ret (v := .agg #[.int .i64 lo.1, .int .i64 lo.2]) (by simp [results, Try.results65, go_sem, z0, z1]) rfl ⟨rfl, ?_⟩
  exact (B2.out.setCell (p := ⟨w.heap.size, 0, none⟩) (Nat.le_refl _) _).setCell (p := ⟨w.heap.size, 1, none⟩) (Nat.le_refl _) _

set_option maxHeartbeats 4000000 in
set_option maxRecDepth 100000 in
theorem c_homeward (a : Option Addr) (l : List Cl) (ca : Nat) (w : World) (ha : Seg w a l) (hl : l.length ≤ 1048576) (hg : good l = true) :
    Calls Try.prog 71 #[.slice a l.length ca] w fun e w' => ∃ v, e = .returned (.tuple #[v, .agg #[.int .i64 (boxLo l).1, .int .i64 (boxLo l).2]]) ∧ OwnS w' w.heap.size v (home l) ∧ Below w.heap.size w w' := by
  have HV := hid (home_good hg)
  have hlo := boxLo_in l
  simp only [inR, Bool.and_eq_true, decide_eq_true_eq] at hlo
  have HIN := hid (good_in hg)
  have P0 := hid (WRow.new w (.int .i64 0) 0 36)
  have B0 := hid ((Below.refl w.heap.size w).alloc (Nat.le_refl _) (.cells #[.int .i64 0, .int .i64 0] 36))
  have HC := hid (c_iBoxOf a l ca _ (ha.below B0.out) hl)
  have HA := hid (ha.below B0.out)
  clear ha hg
  generalize boxLo l = lo at *
  generalize boxHi l = hi at *
  go_enter Try.func71, Try.ntmps71
  go_wp2_with fail
  refine HC.out.mono ?_
  rintro e w1 ⟨rfl, b1⟩
  have k1 := (Below.refl w1.heap.size w1).alloc (Nat.le_refl _) (.cells #[.int .i64 lo.1, .int .i64 lo.2] 36)
  have k2 := k1.alloc k1.size (.cells #[.int .i64 hi.1, .int .i64 hi.2] 36)
  have RW := hid ((P0.out.below b1).below k2)
  have A2 := hid ((HA.out.below b1).below k2)
  have B2 := hid (B0.out.trans ((b1.trans (k2.mono b1.size)).mono B0.out.size))
  have L1 := hid ((WRow.new w1 (.int .i64 lo.1) lo.2 36).below ((Below.refl _ _).alloc (Nat.le_refl _) (.cells #[.int .i64 hi.1, .int .i64 hi.2] 36)))
  have hn1 : w.heap.size < w1.heap.size := Nat.lt_of_lt_of_le (by simp) b1.size
  clear HC b1 P0 B0 k1 k2 HA
  generalize hW2 : (w1.alloc (.cells #[.int .i64 lo.1, .int .i64 lo.2] 36)).alloc (.cells #[.int .i64 hi.1, .int .i64 hi.2] 36) = w2 at *
  have E1 := hid (show IntKind.i64.wrap (-lo.1) = -lo.1 from IntWalk.i64_in _ ⟨by omega, by omega⟩)
  have E2 := hid (show IntKind.i64.wrap (-lo.2) = -lo.2 from IntWalk.i64_in _ ⟨by omega, by omega⟩)
  have AD := hid (A2.out.below ((Below.refl w2.heap.size w2).drew))
  have BD := hid ((Below.refl w2.heap.size w2).drew)
  have hlw : w1.heap.size < w2.heap.size := by rw [← hW2]; simp; omega
  have hnw : w.heap.size < w2.heap.size := by omega
  have y0 := L1.out.c0
  have y1 := L1.out.c1
  have q0 := RW.out.c0
  have q1 := RW.out.c1
  have RD := hid (RW.out.below BD.out)
  have LD := hid (L1.out.below BD.out)
  have hne1 : ¬ w1.heap.size = w.heap.size := by omega
  have hne2 : ¬ w.heap.size = w1.heap.size := by omega
  go_wp2_with fail
  go_region_held3 (fun W => W.cell? ⟨w1.heap.size, 0, none⟩ = some (.int .i64 lo.1) ∧ W.cell? ⟨w1.heap.size, 1, none⟩ = some (.int .i64 lo.2))
    (first | exact ⟨y0, y1⟩ | exact ⟨(LD.out.below b3).c0, (LD.out.below b3).c1⟩ | exact ⟨((LD.out.below b3).other hne1 _ |>.other hne1 _).c0, ((LD.out.below b3).other hne1 _ |>.other hne1 _).c1⟩ | go_keep)
    (first | (go_at_call 69; rw [E1.out, E2.out]; refine (c_moveFreely a l ca (-lo.1) (-lo.2) _ AD.out hl HIN.out (by omega) (by omega)).mono ?_; rintro e w3 ⟨rfl, hR, b3⟩; have R3 := hid (RD.out.below b3); have x0 := R3.out.c0; have x1 := R3.out.c1; have f0 := R3.out.fr 0; have f1 := R3.out.fr 1; have z0 := (LD.out.below b3).c0; have z1 := (LD.out.below b3).c1))
  go_wp2_with fail
  have RZ := hid (R3.out.put (.int .i64 lo.1) lo.2)
  have v0 := RZ.out.c0
  have v1 := RZ.out.c1
  have hO := hR.own (by rw [mv_length]; exact hl)
  rw [mv_length] at hO
  have hlt3 := hO.lt
  have hO2 := (hO.other (b := w.heap.size) (o := 0) (u := .int .i64 lo.1) (fun k hk => by have := (hO.lt k hk).1; simp at this; omega)).other (b := w.heap.size) (o := 1) (u := .int .i64 lo.2) (fun k hk => by have := (hO.lt k hk).1; simp at this; omega)
  refine bodyPost_ret (v := .tuple #[.slice (some ⟨w2.heap.size, 0, none⟩) l.length l.length, .agg #[.int .i64 lo.1, .int .i64 lo.2]]) (by simp [results, Try.results71, go_sem, v0, v1]) rfl ⟨_, rfl, ?_, ?_⟩
  · rw [HV.out]; exact hO2.mono (by simp; omega)
  · exact ((B2.out.trans ((ofDrew b3).mono B2.out.size)).setCell (p := ⟨w.heap.size, 0, none⟩) (Nat.le_refl _) _).setCell (p := ⟨w.heap.size, 1, none⟩) (Nat.le_refl _) _

theorem homeL_le (l : List Cl) : (homeL l).length ≤ 120 := by
  unfold homeL; split
  · rename_i h; simp only [homeOk, Bool.and_eq_true] at h; exact good_le h.2
  · simp
theorem c_sGood1 (a : Option Addr) (l : List Cl) (ca : Nat) (v : Bool) (h : good l = v) (w : World) (ha : Seg w a l) (hl : l.length ≤ 1048576) :
    Calls Try.prog 72 #[.slice a l.length ca] w fun e w' => e = .returned (.bool v) ∧ Below w.heap.size w w' := by
  rw [← h]; exact c_sGood a l ca w ha hl

set_option maxHeartbeats 4000000 in
set_option maxRecDepth 100000 in
theorem c_sHomeOf (a : Option Addr) (l : List Cl) (ca : Nat) (w : World) (ha : Seg w a l) (hl : l.length ≤ 1048576) :
    Calls Try.prog 21 #[.slice a l.length ca] w fun e w' => ∃ v, e = .returned (.tuple #[v, .agg #[.int .i64 (homeC l).1, .int .i64 (homeC l).2], .bool (homeOk l)]) ∧ OwnS w' w.heap.size v (homeL l) ∧ Below w.heap.size w w' := by
  have P0 := hid (WRow.new w (.int .i64 0) 0 36)
  have B0 := hid ((Below.refl w.heap.size w).alloc (Nat.le_refl _) (.cells #[.int .i64 0, .int .i64 0] 36))
  have A0 := hid (ha.below B0.out)
  have hlt0 : w.heap.size < (w.alloc (.cells #[.int .i64 0, .int .i64 0] 36)).heap.size := by simp
  have hle := home_le l
  clear ha
  cases hg : good l
  · have HV : Hid (homeL l = [] ∧ homeC l = (0, 0) ∧ homeOk l = false) := by simp [Hid, homeL, homeC, homeOk, hg]
    have HC := hid (c_sGood1 a l ca false hg _ A0.out hl)
    go_enter Try.func21, Try.ntmps21
    go_wp2_with fail
    refine HC.out.mono ?_
    rintro e w1 ⟨rfl, b1⟩
    have R1 := hid (P0.out.below b1)
    have B1 := hid (B0.out.trans (b1.mono B0.out.size))
    have x0 := R1.out.c0
    have x1 := R1.out.c1
    have f0 := R1.out.fr 0
    have f1 := R1.out.fr 1
    clear HC b1 P0 B0 A0
    go_wp2_with fail
    have RZ := hid (R1.out.put (.int .i64 0) 0)
    have v0 := RZ.out.c0
    have v1 := RZ.out.c1
    refine bodyPost_ret (v := .tuple #[.slice none 0 0, .agg #[.int .i64 0, .int .i64 0], .bool false]) (by simp [results, Try.results21, go_sem, v0, v1]) rfl ⟨_, by rw [HV.out.2.1, HV.out.2.2], by rw [HV.out.1]; exact OwnS.nil _ _, ?_⟩
    exact (B1.out.setCell (p := ⟨w.heap.size, 0, none⟩) (Nat.le_refl _) _).setCell (p := ⟨w.heap.size, 1, none⟩) (Nat.le_refl _) _
  · have HC := hid (c_sGood1 a l ca true hg _ A0.out hl)
    cases hh : good (home l)
    · have HV : Hid (homeL l = [] ∧ homeC l = (0, 0) ∧ homeOk l = false) := by simp [Hid, homeL, homeC, homeOk, hh]
      have HG := hid (fun (b : Option Addr) (c : Nat) (W : World) (h : Seg W b (home l)) => c_sGood1 b (home l) c false hh W h (by omega))
      go_enter Try.func21, Try.ntmps21
      go_wp2_with fail
      refine HC.out.mono ?_
      rintro e w1 ⟨rfl, b1⟩
      have R1 := hid (P0.out.below b1)
      have A1 := hid (A0.out.below b1)
      have B1 := hid (B0.out.trans (b1.mono B0.out.size))
      clear HC b1 P0 B0 A0
      go_wp2_with fail
      refine (c_l6Home a l ca w1 A1.out hl).mono ?_
      rintro e w2 ⟨v2, rfl, o2, b2⟩
      obtain ⟨a2, c2, rfl, s2⟩ := o2.form
      have S2 := hid s2
      have R2 := hid (R1.out.below b2)
      have B2 := hid (B1.out.trans (b2.mono B1.out.size))
      clear o2 s2 b2 R1 B1 A1
      go_wp2_with fail
      refine (HG.out a2 c2 w2 S2.out).mono ?_
      rintro e w3 ⟨rfl, b3⟩
      have R3 := hid (R2.out.below b3)
      have B3 := hid (B2.out.trans (b3.mono B2.out.size))
      have x0 := R3.out.c0
      have x1 := R3.out.c1
      have f0 := R3.out.fr 0
      have f1 := R3.out.fr 1
      clear b3 R2 B2 HG
      go_wp2_with fail
      have RZ := hid (R3.out.put (.int .i64 0) 0)
      have v0 := RZ.out.c0
      have v1 := RZ.out.c1
      refine bodyPost_ret (v := .tuple #[.slice none 0 0, .agg #[.int .i64 0, .int .i64 0], .bool false]) (by simp [results, Try.results21, go_sem, v0, v1]) rfl ⟨_, by rw [HV.out.2.1, HV.out.2.2], by rw [HV.out.1]; exact OwnS.nil _ _, ?_⟩
      exact (B3.out.setCell (p := ⟨w.heap.size, 0, none⟩) (Nat.le_refl _) _).setCell (p := ⟨w.heap.size, 1, none⟩) (Nat.le_refl _) _
    · have HV : Hid (homeL l = home l ∧ homeC l = boxLo l ∧ homeOk l = true) := by simp [Hid, homeL, homeC, homeOk, hh, hg]
      have HG := hid (fun (b : Option Addr) (c : Nat) (W : World) (h : Seg W b (home l)) => c_sGood1 b (home l) c true hh W h (by omega))
      go_enter Try.func21, Try.ntmps21
      go_wp2_with fail
      refine HC.out.mono ?_
      rintro e w1 ⟨rfl, b1⟩
      have R1 := hid (P0.out.below b1)
      have A1 := hid (A0.out.below b1)
      have B1 := hid (B0.out.trans (b1.mono B0.out.size))
      clear HC b1 P0 B0 A0
      go_wp2_with fail
      refine (c_l6Home a l ca w1 A1.out hl).mono ?_
      rintro e w2 ⟨v2, rfl, o2, b2⟩
      obtain ⟨a2, c2, rfl, s2⟩ := o2.form
      have S2 := hid s2
      have R2 := hid (R1.out.below b2)
      have A2 := hid (A1.out.below b2)
      have B2 := hid (B1.out.trans (b2.mono B1.out.size))
      clear o2 s2 b2 R1 B1 A1
      go_wp2_with fail
      refine (HG.out a2 c2 w2 S2.out).mono ?_
      rintro e w3 ⟨rfl, b3⟩
      have R3 := hid (R2.out.below b3)
      have A3 := hid (A2.out.below b3)
      have B3 := hid (B2.out.trans (b3.mono B2.out.size))
      clear b3 R2 B2 HG A2
      go_wp2_with fail
      refine (c_l6Home a l ca w3 A3.out hl).mono ?_
      rintro e w4 ⟨v4, rfl, o4, b4⟩
      obtain ⟨a4, c4, rfl, s4⟩ := o4.form
      have hlt4 := hid (fun k hk => (o4.lt k hk).1)
      have O4 := hid o4
      have R4 := hid (R3.out.below b4)
      have A4 := hid (A3.out.below b4)
      have B4 := hid (B3.out.trans (b4.mono B3.out.size))
      have Z3 := hid (show w.heap.size < w3.heap.size from World.rowIs.lt R3.out)
      clear o4 s4 b4 R3 B3 A3
      go_wp2_with fail
      refine (c_l7Corner a l ca w4 A4.out hl).mono ?_
      rintro e w5 ⟨rfl, b5⟩
      have R5 := hid (R4.out.below b5)
      have O5 := hid (O4.out.below b5)
      have B5 := hid (B4.out.trans (b5.mono B4.out.size))
      have x0 := R5.out.c0
      have x1 := R5.out.c1
      have f0 := R5.out.fr 0
      have f1 := R5.out.fr 1
      clear b5 R4 B4 A4 O4
      generalize boxLo l = lo at *
      go_wp2_with fail
      have RZ := hid (R5.out.put (.int .i64 lo.1) lo.2)
      have v0 := RZ.out.c0
      have v1 := RZ.out.c1
      have hO2 := (O5.out.other (b := w.heap.size) (o := 0) (fun k hk => by have := hlt4.out k hk; have := Z3.out; omega) (.int .i64 lo.1)).other (b := w.heap.size) (o := 1) (fun k hk => by have := hlt4.out k hk; have := Z3.out; omega) (.int .i64 lo.2)
      refine bodyPost_ret (v := .tuple #[.slice a4 (home l).length c4, .agg #[.int .i64 lo.1, .int .i64 lo.2], .bool true]) (by simp [results, Try.results21, go_sem, v0, v1]) rfl ⟨_, by rw [HV.out.2.1, HV.out.2.2], by rw [HV.out.1]; exact hO2.mono (by have := Z3.out; omega), ?_⟩
      exact (B5.out.setCell (p := ⟨w.heap.size, 0, none⟩) (Nat.le_refl _) _).setCell (p := ⟨w.heap.size, 1, none⟩) (Nat.le_refl _) _

end Go.Proofs.Ytgfdkolhldbehaa

namespace Go.Proofs.Ytgfdkolhldbehaa
open Go.RowKit
set_option linter.unusedVariables false
set_option linter.unusedSimpArgs false

set_option maxHeartbeats 4000000 in
set_option maxRecDepth 100000 in
theorem c_iHomeOf (a : Option Addr) (l : List Cl) (ca : Nat) (w : World) (ha : Seg w a l) (hl : l.length ≤ 1048576) :
    Calls Try.prog 20 #[.slice a l.length ca] w fun e w' => ∃ v, e = .returned (.tuple #[v, .agg #[.int .i64 (homeC l).1, .int .i64 (homeC l).2], .bool (homeOk l)]) ∧ OwnS w' w.heap.size v (homeL l) ∧ Below w.heap.size w w' := by
  have P0 := hid (WRow.new w (.int .i64 0) 0 36)
  have B0 := hid ((Below.refl w.heap.size w).alloc (Nat.le_refl _) (.cells #[.int .i64 0, .int .i64 0] 36))
  have A0 := hid (ha.below B0.out)
  have hlt0 : w.heap.size < (w.alloc (.cells #[.int .i64 0, .int .i64 0] 36)).heap.size := by simp
  have hle := home_le l
  clear ha
  cases hg : good l
  · have HV : Hid (homeL l = [] ∧ homeC l = (0, 0) ∧ homeOk l = false) := by simp [Hid, homeL, homeC, homeOk, hg]
    have HC := hid (c_iGood' a l ca false hg _ A0.out hl)
    go_enter Try.func20, Try.ntmps20
    go_wp2_with fail
    refine HC.out.mono ?_
    rintro e w1 ⟨rfl, b1⟩
    have R1 := hid (P0.out.below b1)
    have B1 := hid (B0.out.trans (b1.mono B0.out.size))
    have x0 := R1.out.c0
    have x1 := R1.out.c1
    have f0 := R1.out.fr 0
    have f1 := R1.out.fr 1
    clear HC b1 P0 B0 A0
    go_wp2_with fail
    have RZ := hid (R1.out.put (.int .i64 0) 0)
    have v0 := RZ.out.c0
    have v1 := RZ.out.c1
    refine bodyPost_ret (v := .tuple #[.slice none 0 0, .agg #[.int .i64 0, .int .i64 0], .bool false]) (by simp [results, Try.results20, go_sem, v0, v1]) rfl ⟨_, by rw [HV.out.2.1, HV.out.2.2], by rw [HV.out.1]; exact OwnS.nil _ _, ?_⟩
    exact (B1.out.setCell (p := ⟨w.heap.size, 0, none⟩) (Nat.le_refl _) _).setCell (p := ⟨w.heap.size, 1, none⟩) (Nat.le_refl _) _
  · have HC := hid (c_iGood' a l ca true hg _ A0.out hl)
    have HW := hid (fun (W : World) (h : Seg W a l) => c_homeward a l ca W h hl hg)
    have HVF : good (home l) = false → Hid (homeL l = [] ∧ homeC l = (0, 0) ∧ homeOk l = false) := fun hh => by simp [Hid, homeL, homeC, homeOk, hh]
    have HVT : good (home l) = true → Hid (homeL l = home l ∧ homeC l = boxLo l ∧ homeOk l = true) := fun hh => by simp [Hid, homeL, homeC, homeOk, hh, hg]
    have HVF := hid HVF
    have HVT := hid HVT
    go_enter Try.func20, Try.ntmps20
    go_wp2_with fail
    refine HC.out.mono ?_
    rintro e w1 ⟨rfl, b1⟩
    have R1 := hid (P0.out.below b1)
    have A1 := hid (A0.out.below b1)
    have B1 := hid (B0.out.trans (b1.mono B0.out.size))
    clear HC b1 P0 B0 A0
    go_wp2_with fail
    refine (HW.out w1 A1.out).mono ?_
    rintro e w2 ⟨v2, rfl, o2, b2⟩
    obtain ⟨a2, c2, rfl, s2⟩ := o2.form
    generalize boxLo l = lo at *
    have k2 := (Below.refl w2.heap.size w2).alloc (Nat.le_refl _) (.cells #[.int .i64 lo.1, .int .i64 lo.2] 36)
    have L2 := hid (WRow.new w2 (.int .i64 lo.1) lo.2 36)
    have O2 := hid (o2.below k2)
    have R2 := hid ((R1.out.below b2).below k2)
    have B2 := hid (B1.out.trans ((b2.trans (k2.mono b2.size)).mono B1.out.size))
    have Z1 := hid (show w.heap.size < w1.heap.size from World.rowIs.lt R1.out)
    have Z2 := hid (show w1.heap.size ≤ w2.heap.size from b2.size)
    have zl : w2.heap.size < (w2.alloc (.cells #[.int .i64 lo.1, .int .i64 lo.2] 36)).heap.size := by simp
    clear o2 s2 b2 R1 B1 A1 k2 HW
    go_wp2_with fail
    generalize w2.alloc (.cells #[.int .i64 lo.1, .int .i64 lo.2] 36) = w3 at *
    refine (c_onlyGood a2 (home l) c2 w1.heap.size w3 O2.out O2.out.seg (by omega)).mono ?_
    rintro e w4 ⟨v4, rfl, o4, b4⟩
    obtain ⟨a4, c4, rfl, s4⟩ := o4.form
    have O4 := hid o4
    have R4 := hid (R2.out.below b4)
    have L4 := hid (L2.out.below b4)
    have B4 := hid (B2.out.trans (b4.mono B2.out.size))
    have Z4 := hid (show w3.heap.size ≤ w4.heap.size from b4.size)
    clear o4 s4 b4 O2 R2 B2 L2
    have x0 := R4.out.c0
    have x1 := R4.out.c1
    have f0 := R4.out.fr 0
    have f1 := R4.out.fr 1
    cases hh : good (home l)
    · have HV := HVF.out hh
      clear HVF HVT
      go_wp2_with fail
      have RZ := hid (R4.out.put (.int .i64 0) 0)
      have v0 := RZ.out.c0
      have v1 := RZ.out.c1
      refine bodyPost_ret (v := .tuple #[.slice none 0 0, .agg #[.int .i64 0, .int .i64 0], .bool false]) (by simp [results, Try.results20, go_sem, v0, v1]) rfl ⟨_, by rw [HV.out.2.1, HV.out.2.2], by rw [HV.out.1]; exact OwnS.nil _ _, ?_⟩
      exact (B4.out.setCell (p := ⟨w.heap.size, 0, none⟩) (Nat.le_refl _) _).setCell (p := ⟨w.heap.size, 1, none⟩) (Nat.le_refl _) _
    · have HV := HVT.out hh
      have HT : Hid (tellV (home l) = home l) := by simp [Hid, tellV, hh]
      have y0 := L4.out.c0
      have y1 := L4.out.c1
      rw [HT.out] at O4
      have hne : ¬ w2.heap.size = w.heap.size := by have := Z1.out; have := Z2.out; omega
      have hne2 : ¬ w.heap.size = w2.heap.size := by have := Z1.out; have := Z2.out; omega
      clear HVF HVT
      rw [HT.out]
      go_wp2_with fail
      go_region_held3 (fun W => W.cell? ⟨w2.heap.size, 0, none⟩ = some (.int .i64 lo.1) ∧ W.cell? ⟨w2.heap.size, 1, none⟩ = some (.int .i64 lo.2))
        (first | exact ⟨y0, y1⟩ | exact ⟨((L4.out.other hne _).other hne _).c0, ((L4.out.other hne _).other hne _).c1⟩ | go_keep) (fail)
      go_wp2_with fail
      have RZ := hid (R4.out.put (.int .i64 lo.1) lo.2)
      have hlt4 := O4.out.lt
      have O5 := (O4.out.other (b := w.heap.size) (o := 0) (fun k hk => by have := (hlt4 k hk).1; have := Z1.out; omega) (.int .i64 lo.1)).other (b := w.heap.size) (o := 1) (fun k hk => by have := (hlt4 k hk).1; have := Z1.out; omega) (.int .i64 lo.2)
      have hBZ := (B4.out.setCell (p := ⟨w.heap.size, 0, none⟩) (Nat.le_refl _) (.int .i64 lo.1)).setCell (p := ⟨w.heap.size, 1, none⟩) (Nat.le_refl _) (.int .i64 lo.2)
      have hdr := (Below.refl ((w4.setCell ⟨w.heap.size, 0, none⟩ (.int .i64 lo.1)).setCell ⟨w.heap.size, 1, none⟩ (.int .i64 lo.2)).heap.size ((w4.setCell ⟨w.heap.size, 0, none⟩ (.int .i64 lo.1)).setCell ⟨w.heap.size, 1, none⟩ (.int .i64 lo.2))).drew
      have RD := RZ.out.below hdr
      have v0 := RD.c0
      have v1 := RD.c1
      refine bodyPost_ret (v := .tuple #[.slice a4 (home l).length c4, .agg #[.int .i64 lo.1, .int .i64 lo.2], .bool true]) (by simp [results, Try.results20, go_sem, v0, v1]) rfl ⟨_, by rw [HV.out.2.1, HV.out.2.2], by rw [HV.out.1]; exact (O5.below hdr).mono (by have := Z1.out; omega), ?_⟩
      exact hBZ.trans (hdr.mono hBZ.size)
end Go.Proofs.Ytgfdkolhldbehaa
