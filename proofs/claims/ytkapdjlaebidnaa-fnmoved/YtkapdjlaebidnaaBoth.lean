/- BothCells of both sides. -/
import Derived.Test.YtkapdjlaebidnaaCellsOf
namespace Go.Proofs.Ytkapdjlaebidnaa
open Go.RowKit Go.Maps
set_option linter.unusedVariables false

/-- What BothCells answers. -/
noncomputable def bothOk (l m : List Cl) : Bool := good l && good m && good (ordL (l ++ m))
noncomputable def bothL (l m : List Cl) : List Cl := if good l && good m then tellV (ordL (l ++ m)) else []
theorem bothL_le (l m : List Cl) : (bothL l m).length ≤ 120 := by
  unfold bothL; split
  · exact tellV_le _
  · simp

set_option maxHeartbeats 1000000 in
theorem c_sBothCells (a b : Option Addr) (l m : List Cl) (ca cb : Nat) (w : World) (ha : SL w (.slice a l.length ca) l) (hb : Seg w b m) (hl : l.length ≤ 1048576) (hm : m.length ≤ 1048576) :
    Calls Try.prog 28 #[.slice a l.length ca, .slice b m.length cb] w fun e w' => ∃ v, e = .returned (.tuple #[v, .bool (bothOk l m)]) ∧ OwnS w' w.heap.size v (bothL l m) ∧ Below w.heap.size w w' := by
  have hsa : Seg w a l := by
    obtain ⟨a', c', e, h, _⟩ := ha.form
    simp only [Value.slice.injEq] at e
    obtain ⟨rfl, _, rfl⟩ := e
    exact h
  cases hg : good l
  · have HC := hid (c_sGood' a l ca false hg _ hsa hl)
    have HV : Hid (bothL l m = [] ∧ bothOk l m = false) := by simp [Hid, bothL, bothOk, hg]
    clear ha hb hsa
    go_enter Try.func28, Try.ntmps28
    go_wp2_with fail
    refine HC.out.mono ?_
    rintro e w1 ⟨rfl, hb1⟩
    go_wp2
    go_ret2
    exact ⟨_, by rw [HV.out.2]; rfl, by rw [HV.out.1]; exact OwnS.nil _ _, hb1⟩
  · have HC := hid (c_sGood' a l ca true hg _ hsa hl)
    cases hg2 : good m
    · have HV : Hid (bothL l m = [] ∧ bothOk l m = false) := by simp [Hid, bothL, bothOk, hg, hg2]
      have HBB := hid hb
      clear ha hsa hb
      go_enter Try.func28, Try.ntmps28
      go_wp2_with fail
      refine HC.out.mono ?_
      rintro e w1 ⟨rfl, hb1⟩
      have HB1 := hid hb1
      clear hb1
      go_wp2_with fail
      refine (c_sGood' b m cb false hg2 _ (HBB.out.below HB1.out) hm).mono ?_
      rintro e w2 ⟨rfl, hb2⟩
      go_wp2
      go_ret2
      exact ⟨_, by rw [HV.out.2]; rfl, by rw [HV.out.1]; exact OwnS.nil _ _, HB1.out.trans (hb2.mono HB1.out.size)⟩
    · have HR0 := hid (good_ris hg)
      have hl1 := good_le hg
      have hl2 := good_le hg2
      have HA := hid ha
      clear ha hsa
      go_enter Try.func28, Try.ntmps28
      go_wp2_with fail
      refine HC.out.mono ?_
      rintro e w1 ⟨rfl, hb1⟩
      have HB1 := hid hb1
      clear hb1
      go_wp2_with fail
      refine (c_sGood' b m cb true hg2 _ (hb.below HB1.out) hm).mono ?_
      rintro e w2 ⟨rfl, hb2⟩
      have HB2 := hid (HB1.out.trans (hb2.mono HB1.out.size))
      clear hb2
      have HA2 := hid (HA.out.below HB2.out)
      clear HC HB1 HA
      go_wp2_with fail
      go_loopw [6, 20] (fun v i wr => ∃ (k : Nat) (r : List Cl), k ≤ m.length ∧ i = .int .i64 k ∧ SL wr v r ∧ risTo r r.length = true ∧ (∀ c, c ∈ r ↔ c ∈ l ++ m.take k) ∧ r.length ≤ l.length + k ∧ Below w.heap.size w wr) (fun _ i _ => m.length - (intOf i).toNat)
      case atStart => exact ⟨0, l, Nat.zero_le _, rfl, HA2.out, HR0.out, fun c => by simp, by simp, HB2.out⟩
      case round =>
        clear HA2 HB2 HR0
        obtain ⟨k, r, hk, rfl, hSL, hris, hmem, hml, hbel⟩ := hrel
        have HR := hid hris
        have HM := hid hmem
        have HB := hid hbel
        have HSL := hid hSL
        clear hris hmem hSL
        by_cases hlt : k < m.length
        · obtain ⟨b1, o1, rfl, hb1, p1, p2⟩ := hb k hlt
          have g1 := (hbel.cell (p := ⟨b1, o1 + k * 2, none⟩) hb1).trans p1
          have g2 := (hbel.cell (p := ⟨b1, o1 + k * 2 + 1, none⟩) hb1).trans p2
          change _ = some (Value.int .i64 (at_ m k).1) at g1
          change _ = some (Value.int .i64 (at_ m k).2) at g2
          have HT := hid (take_snoc' hlt)
          generalize at_ m k = x at *
          clear p1 p2 hbel
          have q0 := cell_new0 wr (.int .i64 x.1) (.int .i64 x.2) 30
          have q1 := cell_new1 wr (.int .i64 x.1) (.int .i64 x.2) 30
          have HB1 := hid (HB.out.alloc HB.out.size (.cells #[.int .i64 x.1, .int .i64 x.2] 30))
          have HS1 := hid (HSL.out.below ((Below.refl wr.heap.size wr).alloc (Nat.le_refl _) (.cells #[.int .i64 x.1, .int .i64 x.2] 30)))
          go_wp2_with fail
          refine (c_l1Add _ r x _ HS1.out (by omega) HR.out).mono ?_
          rintro e w3 ⟨v3, m3, rfl, hS3, hW3, hb3⟩
          have HB3 := hid (HB1.out.trans (hb3.mono HB1.out.size))
          have HS3 := hid hS3
          have HW3 := hid hW3
          clear hS3 hW3 hb3
          go_wp2
          go_roundw
          case rel => exact ⟨k + 1, m3, by omega, by go_num, HS3.out, HW3.out.1, fun c => by rw [HW3.out.2.1, HM.out, HT.out, List.mem_append, List.mem_append, List.mem_append, List.mem_singleton]; exact ⟨fun h => h.elim (fun h => .inr (.inr h)) (fun h => h.elim .inl (fun h => .inr (.inl h))), fun h => h.elim (fun h => .inr (.inl h)) (fun h => h.elim (fun h => .inr (.inr h)) .inl)⟩, by have := HW3.out.2.2; omega, HB3.out⟩
          case measure => simp [intOf]; omega
        · have : k = m.length := by omega
          subst this
          have HV : Hid (bothL l m = tellV r ∧ bothOk l m = good r) := by
            have := ordL_eq HR.out (fun c => (HM.out c).trans (by rw [List.take_length]))
            simp [Hid, bothL, bothOk, hg, hg2, this]
          obtain ⟨a1, c1, rfl, hs1, hc1⟩ := HSL.out.form
          have HS := hid hs1
          clear hs1 HSL hbel
          go_wp2_with fail
          refine (c_l1Tell a1 r c1 _ HS.out (by omega) hc1).mono ?_
          rintro e w5 ⟨v, rfl, hO5, hB5⟩
          go_wp2
          go_ret2
          exact ⟨_, by rw [HV.out.2]; rfl, by rw [HV.out.1]; exact hO5.mono HB.out.size, HB.out.trans (hB5.mono HB.out.size)⟩

theorem inR_fits {c : Cl} (h : inR c = true) : fits c := by
  have := inR_bd h
  unfold fits; omega
theorem good_fits {l : List Cl} (h : good l = true) : ∀ c ∈ l, fits c := by
  intro c hc
  obtain ⟨i, hi, rfl⟩ := mem_at.1 hc
  exact inR_fits (good_in h i hi)
theorem cnt_two (l m : List Cl) : (List.range 2).flatMap (fun i => if i = 0 then l else m) = l ++ m := by simp [List.range_succ]

set_option maxHeartbeats 1000000 in
theorem c_iBothCells (a b : Option Addr) (l m : List Cl) (ca cb : Nat) (w : World) (ha : Seg w a l) (hb : Seg w b m) (hl : l.length ≤ 1048576) (hm : m.length ≤ 1048576) :
    Calls Try.prog 27 #[.slice a l.length ca, .slice b m.length cb] w fun e w' => ∃ v, e = .returned (.tuple #[v, .bool (bothOk l m)]) ∧ OwnS w' w.heap.size v (bothL l m) ∧ Below w.heap.size w w' := by
  cases hg : good l
  · have HC := hid (c_iGood' a l ca false hg _ ha hl)
    have HV : Hid (bothL l m = [] ∧ bothOk l m = false) := by simp [Hid, bothL, bothOk, hg]
    clear ha hb
    go_enter Try.func27, Try.ntmps27
    go_wp2_with fail
    refine HC.out.mono ?_
    rintro e w1 ⟨rfl, hb1⟩
    go_wp2
    go_ret2
    exact ⟨_, by rw [HV.out.2]; rfl, by rw [HV.out.1]; exact OwnS.nil _ _, hb1⟩
  · have HC := hid (c_iGood' a l ca true hg _ ha hl)
    cases hg2 : good m
    · have HV : Hid (bothL l m = [] ∧ bothOk l m = false) := by simp [Hid, bothL, bothOk, hg, hg2]
      have HBB := hid hb
      clear ha hb
      go_enter Try.func27, Try.ntmps27
      go_wp2_with fail
      refine HC.out.mono ?_
      rintro e w1 ⟨rfl, hb1⟩
      have HB1 := hid hb1
      clear hb1
      go_wp2_with fail
      refine (c_iGood' b m cb false hg2 _ (HBB.out.below HB1.out) hm).mono ?_
      rintro e w2 ⟨rfl, hb2⟩
      go_wp2
      go_ret2
      exact ⟨_, by rw [HV.out.2]; rfl, by rw [HV.out.1]; exact OwnS.nil _ _, HB1.out.trans (hb2.mono HB1.out.size)⟩
    · have hl1 := good_le hg
      have hl2 := good_le hg2
      have HF1 := hid (good_fits hg)
      have HF2 := hid (good_fits hg2)
      have HBB := hid hb
      have HAA := hid ha
      clear ha hb
      go_enter Try.func27, Try.ntmps27
      go_wp2_with fail
      refine HC.out.mono ?_
      rintro e w1 ⟨rfl, hb1⟩
      have HB1 := hid hb1
      clear hb1
      go_wp2_with fail
      refine (c_iGood' b m cb true hg2 _ (HBB.out.below HB1.out) hm).mono ?_
      rintro e w2 ⟨rfl, hb2⟩
      have HB2 := hid (HB1.out.trans (hb2.mono HB1.out.size))
      clear hb2 HC HB1
      go_wp2_with fail
      have hz0 : (w2.alloc (.cells #[.slice a l.length ca, .slice b m.length cb] 23)).heap.size = w2.heap.size + 1 := by simp
      have HB0 := hid (HB2.out.alloc HB2.out.size (.cells #[.slice a l.length ca, .slice b m.length cb] 23))
      refine (c_countsOf w2.heap.size 2 (fun i => if i = 0 then a else b) (fun i => if i = 0 then ca else cb) (fun i => if i = 0 then l else m) _ (by omega) (by simp)
        (fun i hi => by
          rcases (show i = 0 ∨ i = 1 by omega) with e | e
          · subst e; exact cell_new0 w2 _ _ _
          · subst e; exact cell_new1 w2 _ _ _)
        (fun i _ => by
          by_cases e : i = 0
          · simp only [e, if_true]; exact HAA.out.below HB0.out
          · simp only [e, if_false]; exact HBB.out.below HB0.out)
        (fun i _ => by by_cases e : i = 0 <;> simp only [e, if_true, if_false] <;> omega)
        (fun i _ => by
          by_cases e : i = 0
          · simp only [e, if_true]; exact HF1.out
          · simp only [e, if_false]; exact HF2.out)).mono ?_
      rintro e w3 ⟨rfl, hC1, hb3⟩
      rw [cnt_two] at hC1
      rw [hz0] at hC1 hb3
      have HC1 := hid hC1
      have HB3 := hid (HB0.out.trans (hb3.mono (by have := HB2.out.size; omega)))
      clear hC1 hb3 hz0 HB0
      go_wp2_with fail
      refine (c_inOrder _ _ _ _ w3 HC1.out (by rw [List.length_append]; omega)).mono ?_
      rintro e w4 ⟨v2, r, rfl, hO2, hr2, hm2, hl3, hb4⟩
      have hm2' : ∀ c, c ∈ r ↔ c ∈ l ++ m := fun c => by
        rw [hm2, decide_eq_true_eq]
        refine ⟨fun h => h.2, fun h => ⟨?_, h⟩⟩
        rw [List.mem_append] at h
        exact h.elim (HF1.out c) (HF2.out c)
      have HV : Hid (bothL l m = tellV r ∧ bothOk l m = good r) := by simp [Hid, bothL, bothOk, hg, hg2, ordL_eq hr2 hm2']
      obtain ⟨a2, c2, rfl, hs2⟩ := hO2.form
      have HB4 := hid (HB3.out.trans (hb4.mono HB3.out.size))
      have HS := hid hs2
      have HO := hid hO2
      rw [List.length_append] at hl3
      clear hs2 hO2 hr2 hm2 hm2' hb4
      go_wp2_with fail
      refine (c_onlyGood a2 r c2 w3.heap.size w4 HO.out HS.out (by omega)).mono ?_
      rintro e w5 ⟨v, rfl, hO5, hB5⟩
      go_wp2
      go_ret2
      exact ⟨_, by rw [HV.out.2]; rfl, by rw [HV.out.1]; exact hO5.mono HB3.out.size, HB4.out.trans (hB5.mono HB4.out.size)⟩
end Go.Proofs.Ytkapdjlaebidnaa
