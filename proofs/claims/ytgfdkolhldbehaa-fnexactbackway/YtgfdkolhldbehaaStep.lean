/- StepCells of both sides. -/
import Derived.Test.YtgfdkolhldbehaaDead
import Derived.Test.YtgfdkolhldbehaaCounts
import Derived.Test.YtgfdkolhldbehaaAdd
import Derived.Test.YtgfdkolhldbehaaMove
namespace Go.Proofs.Ytgfdkolhldbehaa
open Go.RowKit Go.Maps
set_option linter.unusedVariables false

theorem nearB_comm (x c : Cl) : nearB x c = nearB c x := by
  obtain ⟨a, b⟩ := x
  obtain ⟨u, v⟩ := c
  simp only [nearB]
  congr 1
  · congr 1
    · congr 1; apply propext; constructor <;> exact fun h e => h e.symm
    · rw [Bool.and_comm]; congr 1 <;> (congr 1; apply propext; constructor <;> intro h <;> omega)
  · rw [Bool.and_comm]; congr 1 <;> (congr 1; apply propext; constructor <;> intro h <;> omega)
theorem cnt_about (l : List Cl) (c : Cl) : cnt (l.flatMap about) c = (near l c : Int) := by
  unfold cnt near
  congr 1
  induction l with
  | nil => rfl
  | cons x r ih =>
    rw [List.flatMap_cons, List.countP_append, ih, countP_is (about x) c (about_nodup x), List.countP_cons, ← nearB_comm]
    by_cases h : c ∈ about x
    · rw [if_pos h, if_pos ((mem_about x c).1 h)]; omega
    · rw [if_neg h, if_neg (fun e => h ((mem_about x c).2 e))]; omega

/-- Whether a cell is alive next. -/
def nxtB (l : List Cl) (c : Cl) : Bool := kp l (near l c : Int) c
theorem nxt_near {l : List Cl} {c : Cl} (h : nxtB l c = true) : ∃ x ∈ l, nearB c x = true := by
  have h2 : 0 < near l c := by
    simp [nxtB, kp] at h
    omega
  unfold near at h2
  rw [List.countP_pos_iff] at h2
  exact h2
theorem about_mem_fits {l : List Cl} (h : ∀ i, i < l.length → inR (at_ l i) = true) {c : Cl} (hc : c ∈ l.flatMap about) : fits c := by
  rw [List.mem_flatMap] at hc
  obtain ⟨x, hx, hcx⟩ := hc
  obtain ⟨i, hi, rfl⟩ := mem_at.1 hx
  obtain ⟨j, hj, e⟩ := mem_at.1 hcx
  exact about_fits (inR_bd (h i hi)) (by simpa [about] using hj) e
theorem about_len (l : List Cl) : (l.flatMap about).length = l.length * 8 := by
  induction l with
  | nil => rfl
  | cons c r ih => rw [List.flatMap_cons, List.length_append, ih]; simp [about]; omega

/-- The cells that p names, in order, if a list can hold them. -/
noncomputable def pickL (p : Cl → Bool) : List Cl := open Classical in if h : ∃ l', risTo l' l'.length = true ∧ ∀ c, c ∈ l' ↔ p c = true then Classical.choose h else []
theorem pickL_eq {p : Cl → Bool} {l' : List Cl} (h1 : risTo l' l'.length = true) (h2 : ∀ c, c ∈ l' ↔ p c = true) : pickL p = l' := by
  unfold pickL
  have h : ∃ l', risTo l' l'.length = true ∧ ∀ c, c ∈ l' ↔ p c = true := ⟨l', h1, h2⟩
  rw [dif_pos h]
  exact ris_unique (Classical.choose_spec h).1 h1 (fun c => ((Classical.choose_spec h).2 c).trans (h2 c).symm)

/-- What StepCells answers. -/
noncomputable def stepOk (l : List Cl) : Bool := good l && good (pickL (nxtB l))
noncomputable def stepL (l : List Cl) : List Cl := if good l then tellV (pickL (nxtB l)) else []
theorem stepL_le (l : List Cl) : (stepL l).length ≤ 120 := by
  unfold stepL; split
  · exact tellV_le _
  · simp

set_option maxRecDepth 100000 in
set_option maxHeartbeats 1000000 in
theorem c_stepFreely (a : Option Addr) (l : List Cl) (ca : Nat) (w : World) (ha : Seg w a l) (hg : good l = true) :
    Calls Try.prog 78 #[.slice a l.length ca] w fun e w' => ∃ v m, e = .returned v ∧ OwnS w' w.heap.size v m ∧ risTo m m.length = true ∧ (∀ c, c ∈ m ↔ nxtB l c = true) ∧ m.length ≤ 960 ∧ Below w.heap.size w w' := by
  have hl := good_le hg
  have HIN := hid (good_in hg)
  have HR := hid (good_ris hg)
  have HA := hid ha
  have HLEN := hid (about_len l)
  clear ha hg
  go_enter Try.func78, Try.ntmps78
  go_wp2_with fail
  refine (c_nearCounts a l ca _ HA.out (by omega) HIN.out).mono ?_
  rintro e w1 ⟨rfl, hC1, hb1⟩
  have HC1 := hid hC1
  have HB1 := hid hb1
  clear hC1 hb1
  go_wp2_with fail
  refine (c_deleteDead w a l ca w.heap.size _ _ _ w1 HA.out (by omega) HR.out HB1.out (Nat.le_refl _) HC1.out (fun c _ => by have := cnt_le (l.flatMap about) c; have := HLEN.out; omega)).mono ?_
  rintro e w2 ⟨rfl, hM2, hb2⟩
  have HM2 := hid hM2
  have HB2 := hid hb2
  clear hM2 hb2
  go_wp2_with fail
  refine (c_inOrder _ _ _ _ w2 HM2.out (by have := HLEN.out; omega)).mono ?_
  rintro e w3 ⟨v, m, rfl, hO, hr, hm, hl3, hb3⟩
  have HO := hid (hO.mono HB2.out.size)
  have HRR := hid hr
  have HMM := hid hm
  have HB3 := hid (HB2.out.trans (hb3.mono HB2.out.size))
  have HLL := hid hl3
  clear hO hr hm hl3 hb3
  go_wp2
  go_ret
  refine ⟨_, m, rfl, HO.out, HRR.out, fun c => ?_, by have := HLL.out; have := HLEN.out; omega, HB3.out⟩
  rw [HMM.out, cnt_about]
  constructor
  · rintro ⟨_, h⟩
    rw [Bool.and_eq_true] at h
    exact h.2
  · intro h
    obtain ⟨x, hx, hn⟩ := nxt_near h
    have hm : c ∈ l.flatMap about := by
      rw [List.mem_flatMap]
      exact ⟨x, hx, (mem_about x c).2 (by rw [nearB_comm]; exact hn)⟩
    refine ⟨about_mem_fits HIN.out hm, ?_⟩
    rw [Bool.and_eq_true]
    exact ⟨by simpa using hm, h⟩

set_option maxRecDepth 100000 in
set_option maxHeartbeats 1000000 in
theorem c_iStepCells (a : Option Addr) (l : List Cl) (ca : Nat) (w : World) (ha : Seg w a l) (hl : l.length ≤ 1048576) :
    Calls Try.prog 25 #[.slice a l.length ca] w fun e w' => ∃ v, e = .returned (.tuple #[v, .bool (stepOk l)]) ∧ OwnS w' w.heap.size v (stepL l) ∧ Below w.heap.size w w' := by
  cases hg : good l
  · have HC := hid (c_iGood' a l ca false hg _ ha hl)
    have HV : Hid (stepL l = [] ∧ stepOk l = false) := by simp [Hid, stepL, stepOk, hg]
    clear ha
    go_enter Try.func25, Try.ntmps25
    go_wp2_with fail
    refine HC.out.mono ?_
    rintro e w1 ⟨rfl, hb1⟩
    go_wp2
    go_ret2
    exact ⟨_, by rw [HV.out.2]; rfl, by rw [HV.out.1]; exact OwnS.nil _ _, hb1⟩
  · have HC := hid (c_iGood' a l ca true hg _ ha hl)
    have HA := hid ha
    clear ha
    go_enter Try.func25, Try.ntmps25
    go_wp2_with fail
    refine HC.out.mono ?_
    rintro e w1 ⟨rfl, hb1⟩
    have HB1 := hid hb1
    clear hb1
    go_wp2_with fail
    refine (c_stepFreely a l ca w1 (HA.out.below HB1.out) hg).mono ?_
    rintro e w2 ⟨v, m, rfl, hO, hr, hm, hl3, hb2⟩
    have HV : Hid (stepL l = tellV m ∧ stepOk l = good m) := by simp [Hid, stepL, stepOk, hg, pickL_eq hr hm]
    obtain ⟨a2, c2, rfl, hs2⟩ := hO.form
    have HB2 := hid (HB1.out.trans (hb2.mono HB1.out.size))
    have HS := hid hs2
    have HO := hid hO
    clear hs2 hO hr hm hb2
    go_wp2_with fail
    refine (c_onlyGood a2 m c2 w1.heap.size w2 HO.out HS.out (by omega)).mono ?_
    rintro e w5 ⟨v, rfl, hO5, hB5⟩
    go_wp2
    go_ret2
    exact ⟨_, by rw [HV.out.2]; rfl, by rw [HV.out.1]; exact hO5.mono HB1.out.size, HB2.out.trans (hB5.mono HB2.out.size)⟩

end Go.Proofs.Ytgfdkolhldbehaa
