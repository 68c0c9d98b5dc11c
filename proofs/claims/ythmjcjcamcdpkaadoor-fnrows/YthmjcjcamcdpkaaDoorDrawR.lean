/- The draw of a text of runs; cells and texts there and back. -/
import Derived.Test.YthmjcjcamcdpkaaDoorSpoilt
import Derived.Test.YthmjcjcamcdpkaaDoorOfRuns
import Derived.Test.YthmjcjcamcdpkaaDoorRdR
namespace Go.Proofs.YthmjcjcamcdpkaaDoor
open Go.RowKit
set_option linter.unusedVariables false

theorem runsGo_len {l : List Cl} (ht : TextL l) : ∀ f i (x y : Int), 0 ≤ x → 0 ≤ y → i ≤ l.length → (runsGo l f i x y).length ≤ 9 * (l.length - i) + 1
  | 0, i, x, y, _, _, _ => by simp [runsGo]
  | f + 1, i, x, y, hx, hy, hi => by
    unfold runsGo
    by_cases hlt : i < l.length
    · rw [if_pos hlt]
      have hb := inTTo_at ht.inn hlt
      have hs1 := sb_ge l i
      have hs2 := sb_le hlt
      have hs3 := sb_bd ht hlt
      have h1 : (rowB (at_ l i) y).length ≤ 3 := by
        unfold rowB
        split
        · exact runB_len _ (by omega)
        · simp
      have hxo : 0 ≤ xOf (at_ l i) x y := by unfold xOf; split <;> omega
      have h2 : (runB ((at_ l i).1 - xOf (at_ l i) x y).toNat 98).length ≤ 3 := runB_len _ (by omega)
      have h3 : (runB (sb l i) 111).length ≤ 3 := runB_len _ (by omega)
      have h4 := runsGo_len ht f (i + sb l i) ((at_ l i).1 + (sb l i : Int)) (yOf (at_ l i) y) (by omega) (by unfold yOf; split <;> omega) hs2
      simp only [List.length_append]
      omega
    · rw [if_neg hlt]
      simp
theorem runsTx_size {l : List Cl} (h : l.length ≤ 20) : (runsTx l).size ≤ 181 := by
  have e : (runsTx l).size = (if runsOk l then runs l else []).length := by
    show ((if runsOk l then runs l else []).toArray).size = _
    simp
  rw [e]
  split
  · rename_i ho
    have := runsGo_len (runsOk_text ho) l.length 0 0 0 (by omega) (by omega) (by omega)
    unfold runs
    omega
  · simp
/-- Cells come back from their text. -/
theorem runs_back {l : List Cl} (h : runsOk l = true) (hs : (runsTx l).size ≤ 400) : ofOk (runsTx l) = true ∧ ofCode (runsTx l) = 0 ∧ ofL (runsTx l) = l := by
  have e : runsTx l = ⟨(runs l).toArray⟩ := by unfold runsTx; rw [if_pos h]
  obtain ⟨q1, q2⟩ := rd_runs (runsOk_text h) (s := runsTx l) (by rw [e])
  have hb : backT (runsTx l) = runsTx l := by unfold backT; rw [q1, e]
  obtain ⟨r1, r2, r3⟩ := of_good hs q2 hb
  exact ⟨r1, r2, r3.trans q1⟩
/-- A text that is read is the text of what is read. -/
theorem runs_again {s : Tx} (h : ofOk s = true) : runsOk (ofL s) = true ∧ runsTx (ofL s) = s := by
  have h' := h
  simp only [ofOk, Bool.and_eq_true, decide_eq_true_eq] at h'
  have e : ofL s = (rdAll s).1 := by unfold ofL; rw [if_pos h]
  have ht := rdAll_text h'.1.2
  have ho : runsOk (ofL s) = true := by
    rw [e]
    unfold runsOk good
    rw [ht.inn, ht.ris]
    have hall : allTo (rdAll s).1 (rdAll s).1.length = true := by
      simp only [allTo, List.all_eq_true, List.mem_range]
      intro i hi
      have := inTTo_at ht.inn hi
      simp [inR]; omega
    rw [hall]
    simpa using ht.len
  refine ⟨ho, ?_⟩
  unfold runsTx
  rw [if_pos ho, e]
  exact h'.2
def EvAt (W : World) (ev : Value) : Prop := W.cell? ⟨1, 0, none⟩ = some ev ∧ 1 < W.heap.size
theorem EvAt.below {w w' : World} {ev : Value} (h : EvAt w ev) (hb : Below w.heap.size w w') : EvAt w' ev := ⟨(hb.cell (p := ⟨1, 0, none⟩) h.2).trans h.1, Nat.lt_of_lt_of_le h.2 hb.size⟩

set_option maxHeartbeats 1000000 in
set_option maxRecDepth 100000 in
theorem c_DrawOfRuns (a : Option Addr) (l : List Int) (ca : Nat) (w : World) (ha : BSeg w a l) (hl : l.length ≤ 9223372036854775807) :
    Calls Tryd.prog 25 #[.slice a l.length ca] w fun e w' => ∃ t : Tx, e = .returned (.string t) ∧ t.size ≤ 183 ∧ Below w.heap.size w w' := by
  have HC := hid (cur_new w a l ca ha hl)
  clear ha
  go_enter Tryd.func25, Tryd.ntmps25
  go_wp2_with fail
  refine (c_small w.heap.size w.heap.size l.length 0 (curW w a l.length ca) HC.out (by omega)).mono ?_
  rintro e w1 ⟨v1, L, rfl, hO1, hl1, hs1, hc1, hg1⟩
  have HU := hid (show CU (curW w a l.length ca) w1 w.heap.size w.heap.size l.length (0 + 1000) v1 L from ⟨hO1, hc1, hg1, by simp⟩)
  have hT := runsTx_size hl1
  clear hO1 hs1 hc1 hg1 HC
  obtain ⟨a2, c2, rfl, hs2⟩ := HU.out.own.form
  go_wp2_with fail
  refine (c_sRunsOf a2 L c2 w1 hs2 (by omega)).mono ?_
  rintro e w2 ⟨rfl, b2⟩
  have HU2 := hid (HU.out.below b2)
  clear b2 HU hs2
  generalize runsOk L = ok at *
  generalize runsTx L = s at *
  go_wp2_with fail
  refine (c_one w.heap.size w.heap.size l.length _ 3 w2 HU2.out.cur (by omega) (by omega) (by omega)).mono ?_
  rintro e w3 ⟨x, rfl, hc3, hg3⟩
  have HU3 := hid (HU2.out.cur' hc3 hg3)
  clear hc3 hg3 HU2
  cases x
  · go_wp2
    go_ret
    exact ⟨s, rfl, by omega, below_cur HU3.out.gr⟩
  · go_wp2_with fail
    refine (c_spoilt w.heap.size w.heap.size l.length _ s ⟨#[98, 111, 36, 33, 48, 49, 50]⟩ w3 HU3.out.cur (by omega) (by omega) (by decide) (by decide)).mono ?_
    rintro e w4 ⟨t, rfl, ht, hc4, hg4⟩
    have HU4 := hid (HU3.out.cur' hc4 hg4)
    clear hc4 hg4 HU3
    go_wp2
    go_ret
    exact ⟨t, rfl, by omega, below_cur HU4.out.gr⟩
end Go.Proofs.YthmjcjcamcdpkaaDoor
