/- What groveOf and GoodForest of the program answer. -/
import Derived.Test.YtnabgfbempkgnaaGroveM
namespace Go.Proofs.Ytnabgfbempkgnaa
open Go.RowKit Go.Maps
set_option linter.unusedVariables false
set_option linter.unusedSimpArgs false
attribute [local go_sem ↓] Go.wp_at_zero Go.wp_at_succ

set_option maxHeartbeats 1000000 in
theorem c_areCellKinds (a : Option Addr) (F : List Qd) (ca : Nat) (w : World) (ha : QSeg w a F) (hl : 2 ≤ F.length) :
    Calls Try.prog 93 #[.slice a 2 ca] w fun e w' => e = .returned (.bool (allB (fineQ F) 2)) ∧ Below w.heap.size w w' := by
  go_enter Try.func93, Try.ntmps93
  go_wp2
  go_loopw [7] (fun i wr => ∃ k : Nat, k ≤ 2 ∧ i = .int .i64 k ∧ Hid (allB (fineQ F) k = true) ∧ Below w.heap.size w wr) (fun i _ => 2 - (intOf i).toNat)
  case atStart => exact ⟨0, Nat.zero_le _, rfl, (rfl : _ = _), Below.refl _ _⟩
  case round =>
    obtain ⟨k, hkk, rfl, hT, hbel⟩ := hrel
    by_cases hlt : k < 2
    · obtain ⟨b1, o1, ak, ck, rfl, hb1, p1, p2, p3, p4⟩ := ha k (by omega)
      have g1 := (hbel.cell (p := ⟨b1, o1 + k * 2, none⟩) hb1).trans p1
      have g2 := (hbel.cell (p := ⟨b1, o1 + k * 2 + 1, none⟩) hb1).trans p2
      have hw1 : b1 < wr.heap.size := Nat.lt_of_lt_of_le hb1 hbel.size
      clear p1 p2 p3
      have k0 : (0 : Int) ≤ (k : Int) := by omega
      have k1 : (k : Int) < 2 := by omega
      have HB := hid (hbel.alloc hbel.size (.cells #[.int .i64 (qa F k).1, .slice ak (qa F k).2.length ck] 85))
      have HN := hid (fun h => allB_false (p := fineQ F) hlt h)
      have HS := hid (allB_succ (fineQ F) k)
      by_cases h3 : (qa F k).1 = 0
      · have d3 : ((qa F k).1 != 0) = false := by simp [h3]
        by_cases h4 : (qa F k).2.length = 0
        · have d4 : (((qa F k).2.length : Int) != 0) = false := by simp [h4]
          have HV := hid (show allB (fineQ F) (k + 1) = true by rw [HS.out, hT.out, fine_low hlt h3 h4]; rfl)
          clear HN HS h3 h4 p4
          generalize qa F k = q at *
          go_wp2
          go_roundw
          case rel => exact ⟨k + 1, by omega, by go_num, HV.out, HB.out⟩
          case measure => simp [intOf]; omega
        · have d4 : (((qa F k).2.length : Int) != 0) = true := by simp; simpa using h4
          have HV := hid (HN.out (fine_low_kids hlt h4))
          clear HN HS h3 h4 p4
          generalize qa F k = q at *
          go_wp2
          go_ret
          exact ⟨ret_bool HV.out.symm, HB.out⟩
      · have d3 : ((qa F k).1 != 0) = true := by simp [h3]
        have HV := hid (HN.out (fine_low_lev hlt h3))
        clear HN HS h3 p4
        generalize qa F k = q at *
        go_wp2
        go_ret
        exact ⟨ret_bool HV.out.symm, HB.out⟩
    · go_wp2
      go_ret
      obtain rfl : k = 2 := by omega
      exact ⟨ret_bool hT.out.symm, hbel⟩
theorem c_areCellKinds' (a : Option Addr) (F : List Qd) (ca : Nat) (v : Bool) (hv : allB (fineQ F) 2 = v) (w : World) (ha : QSeg w a F) (hl : 2 ≤ F.length) :
    Calls Try.prog 93 #[.slice a 2 ca] w fun e w' => e = .returned (.bool v) ∧ Below w.heap.size w w' := by
  rw [← hv]; exact c_areCellKinds a F ca w ha hl

/-- Levels of good quads. -/
theorem good_lev {F : List Qd} {k i : Nat} (h : allB (fineQ F) k = true) (hi : i < k) : 0 ≤ (qa F i).1 ∧ (qa F i).1 ≤ 5 := by
  have := allB_iff.1 h i hi
  unfold fineQ at this
  split at this
  · simp only [Bool.and_eq_true, decide_eq_true_eq] at this
    omega
  · simp only [Bool.and_eq_true, inB, decide_eq_true_eq] at this
    omega
theorem qa_take_at {F : List Qd} {k i : Nat} (h : i < k) : qa (F.take k) i = qa F i := by
  simp [qa, List.getElem?_take, h]
theorem take_two {F : List Qd} (h : allB (fineQ F) 2 = true) (hl : 2 ≤ F.length) : F.take 2 = two := by
  have h0 := allB_iff.1 h 0 (by omega)
  have h1 := allB_iff.1 h 1 (by omega)
  simp only [fineQ, show (0 : Nat) < 2 from by omega, show (1 : Nat) < 2 from by omega, if_true, Bool.and_eq_true, decide_eq_true_eq] at h0 h1
  match F, hl with
  | x :: y :: r, _ =>
    simp [qa] at h0 h1
    obtain ⟨x1, x2⟩ := x
    obtain ⟨y1, y2⟩ := y
    simp at h0 h1
    simp [two, h0, h1]
/-- Quad k is as it must be just where it can be joined, is new, and has that level. -/
theorem fine_can {F : List Qd} {k : Nat} (hk : 2 ≤ k) (hl : k < F.length) (h : allB (fineQ F) k = true) (h4 : (qa F k).2.length = 4) :
    fineQ F k = (canJ (F.take k) (qa F k).2 && (numTo (F.take k) k (qa F k).2).isNone && decide ((qa F k).1 = (qa (F.take k) (ia (qa F k).2 0).toNat).1 + 1)) := by
  have hlen : (F.take k).length = k := by simp; omega
  have hin : ∀ i, inB 0 ((k : Int) - 1) i = true → i.toNat < k := by intro i hi; have := inB_bd hi; omega
  have hnew : newB F k = (numTo (F.take k) k (qa F k).2).isNone := by
    cases hn : numTo (F.take k) k (qa F k).2 with
    | some i =>
      obtain ⟨n, _, _, hn2, hn3⟩ := numTo_some hn
      rw [qa_take_at hn2] at hn3
      simp only [Option.isNone_some]
      exact allB_false hn2 (by simp [hn3])
    | none =>
      have := numTo_none hn
      simp only [Option.isNone_none]
      refine allB_iff.2 fun j hj => ?_
      by_cases e : 2 ≤ j
      · have h5 := this j e hj
        rw [qa_take_at hj] at h5
        simp [h5]
      · have h6 := allB_iff.1 h j hj
        unfold fineQ at h6
        rw [if_pos (by omega)] at h6
        simp only [Bool.and_eq_true, decide_eq_true_eq] at h6
        have : (qa F j).2 ≠ (qa F k).2 := by intro e2; rw [e2] at h6; omega
        simp [this]
  unfold fineQ
  rw [if_neg (by omega), hnew, decide_eq_true h4]
  generalize hq : qa F k = q at *
  unfold canJ
  rw [Bool.eq_iff_iff]
  simp only [Bool.and_eq_true, decide_eq_true_eq, Bool.true_and]
  constructor
  · rintro ⟨⟨⟨h1, h2⟩, h3⟩, h5⟩
    have a1 := fun i (hi : i < q.2.length) => allB_iff.1 h1 i hi
    have a3 := fun i (hi : i < q.2.length) => allB_iff.1 h3 i hi
    have t0 := hin _ (a1 0 (by omega))
    have l0 := a3 0 (by omega)
    simp only [decide_eq_true_eq] at l0
    have b2 := inB_bd h2
    rw [qa_take_at t0]
    refine ⟨⟨⟨allB_iff.2 fun i hi => ?_, by omega⟩, h5⟩, by omega⟩
    have li := a3 i (by omega)
    simp only [decide_eq_true_eq] at li
    have ti := hin _ (a1 i (by omega))
    unfold kidB
    rw [hlen, a1 i (by omega), qa_take_at ti, qa_take_at t0, li, l0]
    simp
  · rintro ⟨⟨⟨h1, h2⟩, h5⟩, h6⟩
    have a1 : ∀ i, i < 4 → inB 0 ((k : Int) - 1) (ia q.2 i) = true ∧ (qa (F.take k) (ia q.2 i).toNat).1 = (qa (F.take k) (ia q.2 0).toNat).1 := by
      intro i hi
      have := allB_iff.1 h1 i hi
      unfold kidB at this
      rw [hlen] at this
      simpa using this
    have t0 := hin _ (a1 0 (by omega)).1
    rw [qa_take_at t0] at h2 h6
    have lv := good_lev h t0
    refine ⟨⟨⟨allB_iff.2 fun i hi => (a1 i (by omega)).1, ?_⟩, allB_iff.2 fun i hi => ?_⟩, h5⟩
    · simp [inB]; omega
    · have := a1 i (by omega)
      rw [qa_take_at (hin _ this.1), qa_take_at t0] at this
      simp only [decide_eq_true_eq]
      omega
theorem take_snocQ {F : List Qd} {k : Nat} (h : k < F.length) : F.take (k + 1) = F.take k ++ [qa F k] := by
  rw [List.take_succ_eq_append_getElem h]; simp [qa, h]

end Go.Proofs.Ytnabgfbempkgnaa
