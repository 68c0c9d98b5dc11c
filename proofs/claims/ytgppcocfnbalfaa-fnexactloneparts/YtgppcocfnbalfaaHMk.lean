/- Lists of lists of cells marked, and found marked. -/
import Derived.Test.YtgppcocfnbalfaaHss
namespace Go.Proofs.Ytgppcocfnbalfaa
open Go.RowKit
set_option linter.unusedVariables false
set_option linter.unusedSimpArgs false

/-- How many cells the first j lists have together. -/
def totTo (H : List (List Cl)) : Nat → Nat
  | 0 => 0
  | j + 1 => totTo H j + (ht H j).length
theorem totTo_mono (H : List (List Cl)) {i j : Nat} (h : i ≤ j) : totTo H i ≤ totTo H j := by
  induction j with
  | zero => have : i = 0 := by omega
            subst this; exact Nat.le_refl _
  | succ j ih =>
    by_cases e : i = j + 1
    · subst e; exact Nat.le_refl _
    · have := ih (by omega); simp only [totTo]; omega
theorem totTo_le (H : List (List Cl)) (B : Nat) (h : ∀ i, i < H.length → (ht H i).length ≤ B) : ∀ j, j ≤ H.length → totTo H j ≤ j * B
  | 0, _ => by simp [totTo]
  | j + 1, hj => by
    have h1 := totTo_le H B h j (by omega)
    have h2 := h j (by omega)
    simp only [totTo]
    rw [Nat.add_mul]; omega
/-- Lists of which the first j are marked. -/
def mkTo (k : Int) (H : List (List Cl)) : Nat → List (List Cl)
  | 0 => H
  | j + 1 => (mkTo k H j).set j (marks (k + 2 * (totTo H j : Int)) (ht H j).length)
theorem mkTo_length (k : Int) (H : List (List Cl)) : ∀ j, (mkTo k H j).length = H.length
  | 0 => rfl
  | j + 1 => by simp [mkTo, mkTo_length k H j]
theorem mkTo_ht (k : Int) (H : List (List Cl)) : ∀ j i, j ≤ H.length → i < H.length → ht (mkTo k H j) i = if i < j then marks (k + 2 * (totTo H i : Int)) (ht H i).length else ht H i
  | 0, i, _, hi => by simp [mkTo]
  | j + 1, i, hj, hi => by
    rw [mkTo, ht_set (by rw [mkTo_length]; omega), mkTo_ht k H j i (by omega) hi]
    by_cases e : i = j
    · subst e; rw [if_pos rfl, if_pos (by omega)]
    · rw [if_neg e]
      by_cases h : i < j
      · rw [if_pos h, if_pos (by omega)]
      · rw [if_neg h, if_neg (by omega)]

/-- What stands at a place of a row of slices. -/
theorem OwnH.at {w : World} {base n ca j : Nat} {a : Option Addr} {vs : List Value} {H : List (List Cl)} (h : OwnH w base (.slice a n ca) vs H) (hj : j < H.length) :
    ∃ g a' c', a = some ⟨g, 0, none⟩ ∧ n = H.length ∧ g < w.heap.size ∧ va vs j = .slice a' (ht H j).length c' ∧ w.cell? ⟨g, j, none⟩ = some (.slice a' (ht H j).length c') := by
  rcases h.row.2 with ⟨e, hn⟩ | ⟨g, cap, cur, e, hb, hg, _⟩
  · omega
  · simp only [Value.slice.injEq] at e
    obtain ⟨rfl, rfl, rfl⟩ := e
    obtain ⟨a', c', e2, _⟩ := (h.each j hj).form
    refine ⟨g, a', c', rfl, rfl, (Array.getElem?_eq_some_iff.1 hg).1, e2, ?_⟩
    have := World.ownsRow.cellAt h.row j (by omega)
    rw [va_get (by rw [h.len]; exact hj), e2] at this
    exact this

set_option maxHeartbeats 1000000 in
theorem c_markCellSS (a : Option Addr) (ca base : Nat) (vs : List Value) (H : List (List Cl)) (k : Int) (w : World) (h : OwnH w base (.slice a H.length ca) vs H) (hb : base ≤ w.heap.size) (hl : H.length ≤ 100000) (h1 : ∀ i, i < H.length → (ht H i).length ≤ 1048576) (k0 : 0 ≤ k) (k1 : k + 2 * (totTo H H.length : Int) ≤ 16777216) :
    Calls Try.prog 44 #[.slice a H.length ca, .int .i64 k] w fun e w' => e = .returned (.int .i64 (k + 2 * (totTo H H.length : Int))) ∧ OwnH w' base (.slice a H.length ca) vs (mkTo k H H.length) ∧ Below base w w' := by
  have HO := hid h
  have HL := hid h1
  clear h h1
  go_enter Try.func44, Try.ntmps44
  go_wp2
  go_loopw [1, 5] (fun kv iv wr => ∃ j : Nat, j ≤ H.length ∧ iv = .int .i64 (j : Int) ∧ kv = .int .i64 (k + 2 * (totTo H j : Int)) ∧ Hid (OwnH wr base (.slice a H.length ca) vs (mkTo k H j)) ∧ Below base w wr) (fun _ iv _ => H.length - (intOf iv).toNat)
  case atStart => exact ⟨0, Nat.zero_le _, rfl, by simp [totTo], HO.out, Below.refl _ _⟩
  case round =>
    clear HO
    obtain ⟨j, hj, rfl, rfl, hO, hbel⟩ := hrel
    have HB := hid hbel
    clear hbel
    by_cases hlt : j < H.length
    · have hjl : j < (mkTo k H j).length := by rw [mkTo_length]; exact hlt
      have hht : ht (mkTo k H j) j = ht H j := by rw [mkTo_ht k H j j (by omega) hlt, if_neg (by omega)]
      have hat := hO.out.at (j := j) hjl
      rw [hht] at hat
      obtain ⟨g, a', c', e1, -, hgw, e2, hc⟩ := hat
      have hS := hO.out.each j hjl
      rw [hht, e2] at hS
      have HS := hid hS
      have HE := hid e2
      have hm1 := HL.out j hlt
      have hm2 : totTo H j + (ht H j).length ≤ totTo H H.length := totTo_mono H (show j + 1 ≤ H.length by omega)
      have HT : Hid (totTo H (j + 1) = totTo H j + (ht H j).length) := rfl
      subst e1
      clear hS hht e2
      have HMK : Hid (mkTo k H (j + 1) = (mkTo k H j).set j (marks (k + 2 * (totTo H j : Int)) (ht H j).length)) := rfl
      have j0 : (0 : Int) ≤ (j : Int) := by omega
      have j1 : (j : Int) < (H.length : Int) := by omega
      generalize hx : ht H j = x at *
      clear hx
      go_wp2_with fail
      refine (c_mark a' c' base x (k + 2 * (totTo H j : Int)) wr HS.out hm1 (by omega) (by omega)).mono ?_
      rintro e w1 ⟨rfl, hO1, hG1⟩
      have hbz : base ≤ wr.heap.size := Nat.le_trans hb HB.out.size
      have HO1 := hid (hO.out.turn (i := j) hjl (by rw [HE.out]; exact hG1) (by rw [HE.out]; exact hO1))
      have HB1 := hid (HB.out.grown hG1 hbz (fun q e => (HS.out.lt q e).1))
      clear hO1 hG1
      go_wp2
      go_roundw
      case rel =>
        refine ⟨j + 1, by omega, by go_num, ?_, ?_, HB1.out⟩
        · rw [HT.out]; simp only [Value.int.injEq, true_and]; push_cast; omega
        · show OwnH _ _ _ _ _; rw [HMK.out]; exact HO1.out
      case measure => simp [intOf]; omega
    · have hje : j = H.length := by omega
      subst hje
      go_wp2
      go_ret
      exact ⟨rfl, hO.out, HB.out⟩

set_option maxHeartbeats 1000000 in
theorem c_heldCellSS (a : Option Addr) (ca base : Nat) (vs : List Value) (H : List (List Cl)) (k : Int) (w : World) (h : OwnH w base (.slice a H.length ca) vs (mkTo k H H.length)) (hl : H.length ≤ 100000) (h1 : ∀ i, i < H.length → (ht H i).length ≤ 1048576) (k0 : 0 ≤ k) (k1 : k + 2 * (totTo H H.length : Int) ≤ 16777216) :
    Calls Try.prog 45 #[.slice a H.length ca, .int .i64 k] w fun e w' => e = .returned (.int .i64 (k + 2 * (totTo H H.length : Int))) ∧ w' = w := by
  have HO := hid h
  have HL := hid h1
  clear h h1
  go_enter Try.func45, Try.ntmps45
  go_wp2
  go_loop [1, 5] (fun kv iv => ∃ j : Nat, j ≤ H.length ∧ iv = .int .i64 (j : Int) ∧ kv = .int .i64 (k + 2 * (totTo H j : Int))) (fun _ iv => H.length - (intOf iv).toNat)
  case atStart => exact ⟨0, Nat.zero_le _, rfl, by simp [totTo]⟩
  case round =>
    obtain ⟨j, hj, rfl, rfl⟩ := hrel
    by_cases hlt : j < H.length
    · have hjl : j < (mkTo k H H.length).length := by rw [mkTo_length]; exact hlt
      have hht : ht (mkTo k H H.length) j = marks (k + 2 * (totTo H j : Int)) (ht H j).length := by rw [mkTo_ht k H H.length j (by omega) hlt, if_pos hlt]
      have hat := HO.out.at (j := j) hjl
      rw [hht, marks_length] at hat
      obtain ⟨g, a', c', e1, -, hgw, e2, hc⟩ := hat
      have hS := HO.out.each j hjl
      rw [hht, e2] at hS
      have HS := hid hS.seg
      have hm1 := HL.out j hlt
      have hm2 : totTo H j + (ht H j).length ≤ totTo H H.length := totTo_mono H (show j + 1 ≤ H.length by omega)
      have HT : Hid (totTo H (j + 1) = totTo H j + (ht H j).length) := rfl
      subst e1
      clear hS hht e2
      have j0 : (0 : Int) ≤ (j : Int) := by omega
      have j1 : (j : Int) < (H.length : Int) := by omega
      generalize hx : (ht H j).length = x at *
      clear hx
      have hn : ¬ k + 2 * (totTo H j : Int) + 2 * (x : Int) < 0 := by omega
      go_wp2_with fail
      refine (c_held a' c' x (k + 2 * (totTo H j : Int)) _ HS.out hm1 (by omega) (by omega)).mono ?_
      rintro e w1 ⟨rfl, rfl⟩
      go_wp2
      go_round
      case rel =>
        refine ⟨j + 1, by omega, by go_num, ?_⟩
        rw [HT.out]; simp only [Value.int.injEq, true_and]; push_cast; omega
      case measure => simp [intOf]; omega
    · have hje : j = H.length := by omega
      subst hje
      go_wp2
      go_ret
      exact ⟨rfl, rfl⟩
end Go.Proofs.Ytgppcocfnbalfaa
