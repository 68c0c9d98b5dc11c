/- Texts of this seat, one behind the other: GroveO, GroveP, Lev, CellQ, CellC, CellI. -/
import Derived.Test.YtnabgfbempkgnaaGreatDoorGroveM
import Derived.Test.YtnabgfbempkgnaaGreatDoorKb
import Derived.Test.YtnabgfbempkgnaaGreatDoorKa
import Derived.StillTailTactics
import Derived.Deep.RegionHeld3
namespace Go.Proofs.YtnabgfbempkgnaaGreatDoor
open Go.RowKit Go.Maps
set_option linter.unusedVariables false
set_option linter.unusedSimpArgs false
attribute [local go_sem ↓] Go.wp_at_zero Go.wp_at_succ

set_option maxHeartbeats 1000000 in
theorem c_areCellKinds (a : Option Addr) (F : List Qd) (ca : Nat) (w : World) (ha : QSeg w a F) (hl : 2 ≤ F.length) :
    Calls Tryz.prog 70 #[.slice a 2 ca] w fun e w' => e = .returned (.bool (allB (fineQ F) 2)) ∧ Below w.heap.size w w' := by
  go_enter Tryz.func70, Tryz.ntmps70
  go_wp2
  go_loopw [7] (fun i wr => ∃ k : Nat, k ≤ 2 ∧ i = .int .i64 k ∧ Hid (allB (fineQ F) k = true) ∧ Below w.heap.size w wr) (fun i _ => 2 - (intOf i).toNat)
  case atStart => exact ⟨0, Nat.zero_le _, rfl, (rfl : _ = _), Below.refl _ _⟩
  case round =>
    obtain ⟨k, hkk, rfl, hT, hbel⟩ := hrel
    by_cases hlt : k < 2
    · obtain ⟨b1, o1, ak, ck, rfl, hb1, p1, p2, p3, p4⟩ := ha k (by omega)
      have g1 := (hbel.cell (p := ⟨b1, o1 + k * 2, none⟩) hb1).trans p1
      have g2 := (hbel.cell (p := ⟨b1, o1 + k * 2 + 1, none⟩) hb1).trans p2
      have hw1 : b1 < wr.heap.size := Nat.lt_of_lt_of_le hb1 hbel.size
      clear p1 p2 p3
      have k0 : (0 : Int) ≤ (k : Int) := by omega
      have k1 : (k : Int) < 2 := by omega
      have HB := hid (hbel.alloc hbel.size (.cells #[.int .i64 (qa F k).1, .slice ak (qa F k).2.length ck] 95))
      have HN := hid (fun h => allB_false (p := fineQ F) hlt h)
      have HS := hid (allB_succ (fineQ F) k)
      by_cases h3 : (qa F k).1 = 0
      · have d3 : ((qa F k).1 != 0) = false := by simp [h3]
        by_cases h4 : (qa F k).2.length = 0
        · have d4 : (((qa F k).2.length : Int) != 0) = false := by simp [h4]
          have HV := hid (show allB (fineQ F) (k + 1) = true by rw [HS.out, hT.out, fine_low hlt h3 h4]; rfl)
          clear HN HS h3 h4 p4
          generalize qa F k = q at *
          go_wp2
          go_roundw
          case rel => exact ⟨k + 1, by omega, by go_num, HV.out, HB.out⟩
          case measure => simp [intOf]; omega
        · have d4 : (((qa F k).2.length : Int) != 0) = true := by simp; simpa using h4
          have HV := hid (HN.out (fine_low_kids hlt h4))
          clear HN HS h3 h4 p4
          generalize qa F k = q at *
          go_wp2
          go_ret
          exact ⟨ret_bool HV.out.symm, HB.out⟩
      · have d3 : ((qa F k).1 != 0) = true := by simp [h3]
        have HV := hid (HN.out (fine_low_lev hlt h3))
        clear HN HS h3 p4
        generalize qa F k = q at *
        go_wp2
        go_ret
        exact ⟨ret_bool HV.out.symm, HB.out⟩
    · go_wp2
      go_ret
      obtain rfl : k = 2 := by omega
      exact ⟨ret_bool hT.out.symm, hbel⟩
theorem c_areCellKinds' (a : Option Addr) (F : List Qd) (ca : Nat) (v : Bool) (hv : allB (fineQ F) 2 = v) (w : World) (ha : QSeg w a F) (hl : 2 ≤ F.length) :
    Calls Tryz.prog 70 #[.slice a 2 ca] w fun e w' => e = .returned (.bool v) ∧ Below w.heap.size w w' := by
  rw [← hv]; exact c_areCellKinds a F ca w ha hl

/-- Levels of good quads. -/
theorem good_lev {F : List Qd} {k i : Nat} (h : allB (fineQ F) k = true) (hi : i < k) : 0 ≤ (qa F i).1 ∧ (qa F i).1 ≤ 5 := by
  have := allB_iff.1 h i hi
  unfold fineQ at this
  split at this
  · simp only [Bool.and_eq_true, decide_eq_true_eq] at this
    omega
  · simp only [Bool.and_eq_true, inB, decide_eq_true_eq] at this
    omega
theorem qa_take_at {F : List Qd} {k i : Nat} (h : i < k) : qa (F.take k) i = qa F i := by
  simp [qa, List.getElem?_take, h]
theorem take_two {F : List Qd} (h : allB (fineQ F) 2 = true) (hl : 2 ≤ F.length) : F.take 2 = two := by
  have h0 := allB_iff.1 h 0 (by omega)
  have h1 := allB_iff.1 h 1 (by omega)
  simp only [fineQ, show (0 : Nat) < 2 from by omega, show (1 : Nat) < 2 from by omega, if_true, Bool.and_eq_true, decide_eq_true_eq] at h0 h1
  match F, hl with
  | x :: y :: r, _ =>
    simp [qa] at h0 h1
    obtain ⟨x1, x2⟩ := x
    obtain ⟨y1, y2⟩ := y
    simp at h0 h1
    simp [two, h0, h1]
/-- Quad k is as it must be just where it can be joined, is new, and has that level. -/
theorem fine_can {F : List Qd} {k : Nat} (hk : 2 ≤ k) (hl : k < F.length) (h : allB (fineQ F) k = true) (h4 : (qa F k).2.length = 4) :
    fineQ F k = (canJ (F.take k) (qa F k).2 && (numTo (F.take k) k (qa F k).2).isNone && decide ((qa F k).1 = (qa (F.take k) (ia (qa F k).2 0).toNat).1 + 1)) := by
  have hlen : (F.take k).length = k := by simp; omega
  have hin : ∀ i, inB 0 ((k : Int) - 1) i = true → i.toNat < k := by intro i hi; have := inB_bd hi; omega
  have hnew : newB F k = (numTo (F.take k) k (qa F k).2).isNone := by
    cases hn : numTo (F.take k) k (qa F k).2 with
    | some i =>
      obtain ⟨n, _, _, hn2, hn3⟩ := numTo_some hn
      rw [qa_take_at hn2] at hn3
      simp only [Option.isNone_some]
      exact allB_false hn2 (by simp [hn3])
    | none =>
      have := numTo_none hn
      simp only [Option.isNone_none]
      refine allB_iff.2 fun j hj => ?_
      by_cases e : 2 ≤ j
      · have h5 := this j e hj
        rw [qa_take_at hj] at h5
        simp [h5]
      · have h6 := allB_iff.1 h j hj
        unfold fineQ at h6
        rw [if_pos (by omega)] at h6
        simp only [Bool.and_eq_true, decide_eq_true_eq] at h6
        have : (qa F j).2 ≠ (qa F k).2 := by intro e2; rw [e2] at h6; omega
        simp [this]
  unfold fineQ
  rw [if_neg (by omega), hnew, decide_eq_true h4]
  generalize hq : qa F k = q at *
  unfold canJ
  rw [Bool.eq_iff_iff]
  simp only [Bool.and_eq_true, decide_eq_true_eq, Bool.true_and]
  constructor
  · rintro ⟨⟨⟨h1, h2⟩, h3⟩, h5⟩
    have a1 := fun i (hi : i < q.2.length) => allB_iff.1 h1 i hi
    have a3 := fun i (hi : i < q.2.length) => allB_iff.1 h3 i hi
    have t0 := hin _ (a1 0 (by omega))
    have l0 := a3 0 (by omega)
    simp only [decide_eq_true_eq] at l0
    have b2 := inB_bd h2
    rw [qa_take_at t0]
    refine ⟨⟨⟨allB_iff.2 fun i hi => ?_, by omega⟩, h5⟩, by omega⟩
    have li := a3 i (by omega)
    simp only [decide_eq_true_eq] at li
    have ti := hin _ (a1 i (by omega))
    unfold kidB
    rw [hlen, a1 i (by omega), qa_take_at ti, qa_take_at t0, li, l0]
    simp
  · rintro ⟨⟨⟨h1, h2⟩, h5⟩, h6⟩
    have a1 : ∀ i, i < 4 → inB 0 ((k : Int) - 1) (ia q.2 i) = true ∧ (qa (F.take k) (ia q.2 i).toNat).1 = (qa (F.take k) (ia q.2 0).toNat).1 := by
      intro i hi
      have := allB_iff.1 h1 i hi
      unfold kidB at this
      rw [hlen] at this
      simpa using this
    have t0 := hin _ (a1 0 (by omega)).1
    rw [qa_take_at t0] at h2 h6
    have lv := good_lev h t0
    refine ⟨⟨⟨allB_iff.2 fun i hi => (a1 i (by omega)).1, ?_⟩, allB_iff.2 fun i hi => ?_⟩, h5⟩
    · simp [inB]; omega
    · have := a1 i (by omega)
      rw [qa_take_at (hin _ this.1), qa_take_at t0] at this
      simp only [decide_eq_true_eq]
      omega
theorem take_snocQ {F : List Qd} {k : Nat} (h : k < F.length) : F.take (k + 1) = F.take k ++ [qa F k] := by
  rw [List.take_succ_eq_append_getElem h]; simp [qa, h]

end Go.Proofs.YtnabgfbempkgnaaGreatDoor

namespace Go.Proofs.YtnabgfbempkgnaaGreatDoor
open Go.RowKit Go.Maps
set_option linter.unusedVariables false
set_option linter.unusedSimpArgs false
attribute [local go_sem ↓] Go.wp_at_zero Go.wp_at_succ

theorem c_canJoin' (l : List Int) (v : Bool) {G : List Qd} (hv : canJ G l = v) (w : World) {base p g cap mb : Nat} (h : Grv w base p g cap mb G) (hG : G.length ≤ 1048576) :
    Calls Tryz.prog 71 #[.pointer (some ⟨p, 0, none⟩), kv l] w fun e w' => e = .returned (.bool v) ∧ Below w.heap.size w w' := by
  rw [← hv]; exact c_canJoin l w h hG

theorem canJ_in {G : List Qd} {l : List Int} (h : canJ G l = true) : ∀ i, i < 4 → 0 ≤ ia l i ∧ ia l i ≤ (G.length : Int) - 1 := by
  intro i hi
  simp only [canJ, Bool.and_eq_true] at h
  have := allB_iff.1 h.1 i hi
  simp only [kidB, Bool.and_eq_true] at this
  exact inB_bd this.1
theorem arr_at (ad : Option Addr) (n ck : Nat) (h : 4 ≤ n) (w : World) : (Instr.arrayAt 85 (.slice ad n ck)).run Tryz.prog w = .ok (.pointer ad) w := by
  have h' : ¬ n < 4 := by omega
  simp [Instr.arrayAt, run_underlying und_four, Result.andThen, h']

/-- What groveOf tells: a grove of the forest, or nothing. -/
def GOut (F : List Qd) (w w' : World) (pv : Value) : Prop :=
  (goodF F = true ∧ ∃ p g cap mb base, w.heap.size ≤ base ∧ pv = .pointer (some ⟨p, 0, none⟩) ∧ Grv w' base p g cap mb F) ∨ (goodF F = false ∧ pv = .pointer none)
theorem goodF_short {F : List Qd} (h : F.length < 2 ∨ 400 < F.length) : goodF F = false := by
  have : inB 2 400 (F.length : Int) = false := by
    unfold inB
    rcases h with h | h
    · rw [decide_eq_false (by omega)]; rfl
    · rw [decide_eq_false (show ¬ (F.length : Int) ≤ 400 by omega)]; simp
  simp [goodF, this]
theorem goodF_low {F : List Qd} (h : allB (fineQ F) 2 = false) (hl : 2 ≤ F.length) : goodF F = false := by
  have : allB (fineQ F) F.length = false := by
    cases e : allB (fineQ F) F.length
    · rfl
    · have : allB (fineQ F) 2 = true := allB_iff.2 fun i hi => allB_iff.1 e i (by omega)
      rw [h] at this; cases this
  simp [goodF, this]
theorem goodF_all {F : List Qd} (h : allB (fineQ F) F.length = true) (h2 : 2 ≤ F.length) (h4 : F.length ≤ 400) : goodF F = true := by
  have : inB 2 400 (F.length : Int) = true := by simp [inB]; omega
  simp [goodF, this, h]

set_option maxHeartbeats 8000000 in
set_option maxRecDepth 100000 in
theorem c_groveOf (a : Option Addr) (F : List Qd) (ca : Nat) (w : World) (ha : QSeg w a F) (hl : F.length ≤ 1048576) (hk : KidsLe F) (hca : F.length ≤ ca) (hcm : ca ≤ 9223372036854775807) :
    Calls Tryz.prog 47 #[.agg #[.slice a F.length ca]] w fun e w' => ∃ pv, e = .returned (.tuple #[pv, .bool (goodF F)]) ∧ GOut F w w' pv ∧ Below w.heap.size w w' := by
  have BX := hid (Box1.new w (.slice a F.length ca) 56)
  by_cases h2 : F.length < 2
  · have d2 : decide ((F.length : Int) < 2) = true := decide_eq_true (by omega)
    have HG := hid (goodF_short (.inl h2))
    go_enter Tryz.func47, Tryz.ntmps47
    go_wp2
    go_ret2
    exact ⟨.pointer none, by rw [HG.out]; rfl, .inr ⟨HG.out, rfl⟩, BX.out.2.2⟩
  · have d2 : decide ((F.length : Int) < 2) = false := decide_eq_false (by omega)
    by_cases h4 : 400 < F.length
    · have d4 : decide ((400 : Int) < (F.length : Int)) = true := decide_eq_true (by omega)
      have HG := hid (goodF_short (.inr h4))
      go_enter Tryz.func47, Tryz.ntmps47
      go_wp2
      go_ret2
      exact ⟨.pointer none, by rw [HG.out]; rfl, .inr ⟨HG.out, rfl⟩, BX.out.2.2⟩
    · have d4 : decide ((400 : Int) < (F.length : Int)) = false := decide_eq_false (by omega)
      obtain ⟨b1, o1, _, _, rfl, hb1, _⟩ := ha 0 (by omega)
      have ca2 : (2 : Int) ≤ (ca : Int) := by omega
      cases hlow : allB (fineQ F) 2
      · have HG := hid (goodF_low hlow (by omega))
        have HC := hid (c_areCellKinds' (some ⟨b1, o1, none⟩) F ca false hlow _ (ha.below BX.out.2.2) (by omega))
        clear ha hlow
        go_enter Tryz.func47, Tryz.ntmps47
        go_wp2_with fail
        refine HC.out.mono ?_
        rintro e w1 ⟨rfl, hb⟩
        clear HC
        go_wp2
        go_ret2
        exact ⟨.pointer none, by rw [HG.out]; rfl, .inr ⟨HG.out, rfl⟩, (BX.out.step hb).2.2⟩
      · have HC := hid (c_areCellKinds' (some ⟨b1, o1, none⟩) F ca true hlow _ (ha.below BX.out.2.2) (by omega))
        have HLO := hid hlow
        have HT2 := hid (take_two hlow (by omega))
        have HQ := hid ha
        have HK := hid hk
        clear ha hlow hk
        go_enter Tryz.func47, Tryz.ntmps47
        go_wp2_with fail
        refine HC.out.mono ?_
        rintro e w1 ⟨rfl, hb⟩
        have BX1 := hid (BX.out.step hb)
        clear HC hb BX
        go_wp2_with fail
        refine (c_newGrove w1).mono ?_
        rintro e w2 ⟨rfl, hGr, hb⟩
        have BX2 := hid (BX1.out.step hb)
        have HGR := hid hGr
        have HS1 := hid BX1.out.2.1
        clear hb BX1 hGr
        have x0 := BX2.out.1
        by_cases hc2 : ca = 2
        · have hF2 : F.length = 2 := by omega
          have HGF := hid (goodF_all (F := F) (by rw [hF2]; exact HLO.out) (by omega) (by omega))
          have HTT := hid (show F = two by rw [← HT2.out, ← hF2, List.take_length])
          have HF2 := hid hF2
          go_wp2
          go_loopw [30] (fun i wr => i = .int .i64 0 ∧ wr = w2) (fun i _ => 0)
          case atStart => exact ⟨rfl, rfl⟩
          case round =>
            obtain ⟨rfl, rfl⟩ := hrel
            go_wp2
            go_ret2
            refine ⟨.pointer (some ⟨w1.heap.size + 2, 0, none⟩), by rw [HGF.out]; rfl, .inl ⟨HGF.out, w1.heap.size + 2, w1.heap.size, 2, w1.heap.size + 1, w1.heap.size, by have := HS1.out; omega, rfl, ?_⟩, BX2.out.2.2⟩
            rw [HTT.out]; exact HGR.out
        · have HG0 : Hid (Grv w2 w1.heap.size (w1.heap.size + 2) w1.heap.size 2 (w1.heap.size + 1) (F.take 2)) := by show Grv _ _ _ _ _ _ _; rw [HT2.out]; exact HGR.out
          have HB2 := hid BX2.out.2.2
          clear HGR BX2
          go_wp2
          go_loopw [30] (fun i wr => ∃ (j g cap : Nat), j + 2 ≤ F.length ∧ i = .int .i64 j ∧ Hid (allB (fineQ F) (j + 2) = true) ∧ Hid (Grv wr w1.heap.size (w1.heap.size + 2) g cap (w1.heap.size + 1) (F.take (j + 2))) ∧ Hid (Below w.heap.size w wr)) (fun i _ => F.length - (intOf i).toNat)
          case atStart => exact ⟨0, w1.heap.size, 2, by omega, rfl, HLO.out, HG0.out, HB2.out⟩
          case round =>
            clear HG0 HB2 HLO HT2 x0
            obtain ⟨j, g, cap, hjj, rfl, hT, HGR, HB⟩ := hrel
            have hw12 := HS1.out
            by_cases hlt : j + 2 < F.length
            · obtain ⟨b2, o2, ak, ck, e2, hb2, p1, p2, p3, p4⟩ := HQ.out (j + 2) hlt
              simp only [Option.some.injEq, Addr.mk.injEq, and_true] at e2
              obtain ⟨rfl, rfl⟩ := e2
              have hbel := HB.out
              have g1 := (hbel.cell (p := ⟨b1, o1 + (j + 2) * 2, none⟩) hb2).trans p1
              have g2 := (hbel.cell (p := ⟨b1, o1 + (j + 2) * 2 + 1, none⟩) hb2).trans p2
              rw [show o1 + (j + 2) * 2 = o1 + 4 + j * 2 by omega] at g1 g2
              have P3 := hid (p3.below hbel)
              clear p1 p2 p3 hbel
              have k0 : (0 : Int) ≤ (j : Int) := by omega
              have k1 : (j : Int) < ((F.length - 2 : Nat) : Int) := by omega
              have HN := hid (fun h => goodF_no (F := F) hlt h)
              have HS := hid (allB_succ (fineQ F) (j + 2))
              have HFC := hid (fun h => fine_can (F := F) (k := j + 2) (by omega) hlt hT.out h)
              have HTS := hid (take_snocQ hlt)
              have HGL := hid (fun i hi => good_lev (F := F) (k := j + 2) (i := i) hT.out hi)
              have hkk' := HK.out (j + 2) hlt
              have HTL := hid (show (F.take (j + 2)).length = j + 2 by simp; omega)
              have HBA := hid ((Below.refl wr.heap.size wr).alloc (Nat.le_refl _) (.cells #[.int .i64 (qa F (j + 2)).1, .slice ak (qa F (j + 2)).2.length ck] 95))
              have BQ := hid (Box2.new wr (.int .i64 (qa F (j + 2)).1) (.slice ak (qa F (j + 2)).2.length ck) 95)
              have HB4 := hid (HB.out.trans (HBA.out.mono HB.out.size))
              have HG4 := hid (HGR.out.below HBA.out)
              have P4 := hid (P3.out.below HBA.out)
              by_cases h3 : (qa F (j + 2)).2.length = 4
              · have d3 : (((qa F (j + 2)).2.length : Int) != 4) = false := by simp [h3]
                have n4 : 4 ≤ (qa F (j + 2)).2.length := by omega
                have H3 := hid h3
                have HF4 := hid (HFC.out h3)
                obtain ⟨bk, ok, rfl, hbk, kc0⟩ := P3.out 0 (by omega)
                obtain ⟨_, _, e1, _, kc1⟩ := P3.out 1 (by omega)
                obtain ⟨_, _, e2, _, kc2⟩ := P3.out 2 (by omega)
                obtain ⟨_, _, e3, _, kc3⟩ := P3.out 3 (by omega)
                simp only [Option.some.injEq, Addr.mk.injEq, and_true] at e1 e2 e3
                obtain ⟨rfl, rfl⟩ := e1
                obtain ⟨rfl, rfl⟩ := e2
                obtain ⟨rfl, rfl⟩ := e3
                rw [Nat.add_zero] at kc0
                clear h3 HFC P3 P4
                generalize hq : qa F (j + 2) = q at *
                have HEQ := hid hq
                clear hq
                have harr := arr_at (some ⟨bk, ok, none⟩) q.2.length ck n4
                cases hcan : canJ (F.take (j + 2)) q.2
                · have HV := hid (HN.out (by rw [HF4.out, hcan]; rfl))
                  have HC := hid (c_canJoin' q.2 false hcan _ HG4.out (by rw [HTL.out]; omega))
                  unfold kv at HC
                  clear HN HS
                  go_wp2_with fail
                  refine HC.out.mono ?_
                  rintro e w5 ⟨rfl, hb5⟩
                  clear HC
                  go_wp2
                  go_ret2
                  exact ⟨.pointer none, by rw [HV.out]; rfl, .inr ⟨HV.out, rfl⟩, HB4.out.trans (hb5.mono HB4.out.size)⟩
                · have HC := hid (c_canJoin' q.2 true hcan _ HG4.out (by rw [HTL.out]; omega))
                  unfold kv at HC
                  have HCN := hid hcan
                  go_wp2_with fail
                  refine HC.out.mono ?_
                  rintro e w5 ⟨rfl, hb5⟩
                  have G5 := hid (HG4.out.below hb5)
                  have BQ5 := hid (BQ.out.step hb5)
                  have hbw := BQ5.out.2.2.2
                  have HB5 := hid (HB4.out.trans (hb5.mono HB4.out.size))
                  have z1 := BQ5.out.2.1
                  have m0 := (hbw.cell (p := ⟨bk, ok, none⟩) hbk).trans kc0
                  have m1 := (hbw.cell (p := ⟨bk, ok + 1, none⟩) hbk).trans kc1
                  have m2 := (hbw.cell (p := ⟨bk, ok + 2, none⟩) hbk).trans kc2
                  have m3 := (hbw.cell (p := ⟨bk, ok + 3, none⟩) hbk).trans kc3
                  have hin4 := canJ_in HCN.out
                  rw [HTL.out] at hin4
                  have HFT := hid (show fits4 q.2 from ⟨H3.out, fun i hi => by have := hin4 i hi; unfold fit1; omega⟩)
                  have hz0 := hin4 0 (by omega)
                  have hpw : w1.heap.size + 2 < wr.heap.size := HGR.out.box.lt
                  have hgw := HGR.out.lt.2
                  have hmw : w1.heap.size + 1 < wr.heap.size := HGR.out.map.lt
                  have hw5 := BQ5.out.2.2.1
                  clear HC hb5 kc0 kc1 kc2 kc3 hbw g1 g2 HG4 HBA BQ HB4
                  cases hn : numTo (F.take (j + 2)) (j + 2) q.2 with
                  | some i =>
                    obtain ⟨n, rfl, hn2, hnk, _⟩ := numTo_some hn
                    have HV := hid (HN.out (by rw [HF4.out, hn]; simp))
                    have HJ := hid (c_join_old q.2 (n : Int) w5 G5.out HFT.out (by rw [HTL.out]; exact hn))
                    unfold kv at HJ
                    have dn : ((n : Int) != (j : Int) + 2) = true := by simp; omega
                    clear hn HN HS HF4
                    go_wp2_with fail
                    refine HJ.out.mono ?_
                    rintro e w6 ⟨rfl, hb6⟩
                    clear HJ z1 m0 m1 m2 m3 harr
                    have hne := Gr.ne w6
                    go_wp2
                    refine wp_region_gr (by kernel_rfl) (by kernel_rfl) ?_
                    repeat (go_big_quiet_step (fail))
                    refine wpQuiet_nil ?_
                    rintro _ ⟨G', rfl⟩
                    go_wp2
                    go_ret2
                    exact ⟨.pointer none, by rw [HV.out]; rfl, .inr ⟨HV.out, rfl⟩, (HB5.out.trans (hb6.mono HB5.out.size)).trans (G'.below.mono (by have := HB5.out.size; have := hb6.size; omega))⟩
                  | none =>
                    have t0 : (ia q.2 0).toNat < j + 2 := by omega
                    have hlv := HGL.out (ia q.2 0).toNat t0
                    have HTA := hid (qa_take_at (F := F) t0)
                    have HJ := hid (c_join_new q.2 w5 G5.out HFT.out (by rw [HTL.out]; exact hn) (by rw [HTL.out]; omega) (by rw [HTL.out]; omega) (by omega) (by rw [HTL.out]; omega) (by rw [HTA.out]; omega) (by rw [HTA.out]; omega))
                    rw [HTL.out, HTA.out] at HJ
                    rw [hn, HCN.out, HTA.out] at HF4
                    unfold kv at HJ
                    generalize (qa F (ia q.2 0).toNat).1 = lv at *
                    clear HTA hn
                    go_wp2_with fail
                    refine HJ.out.mono ?_
                    rintro e w6 ⟨g', cap', rfl, hG6, hb6, hkb, _⟩
                    have G6 := hid hG6
                    have HB6 := hid (HB5.out.trans (hb6.mono (by omega)))
                    have e6 := hkb wr.heap.size hw5 (by omega) (by omega) (by omega)
                    have y0 := (World.cell?_of_block (a := ⟨wr.heap.size, 0, none⟩) e6).trans BQ5.out.1
                    have hy6 : wr.heap.size < w6.heap.size := Nat.lt_of_lt_of_le hw5 hb6.size
                    have HLN := hid (show (F.take (j + 2) ++ [(lv + 1, q.2)]).length = j + 3 by rw [List.length_append, HTL.out]; rfl)
                    have c0 := hG6.c0
                    have cl := hG6.lev (i := j + 2) (by rw [HLN.out]; omega)
                    have hqn := qa_snoc_new (F.take (j + 2)) (lv + 1, q.2)
                    rw [HTL.out] at hqn
                    rw [hqn] at cl
                    rw [HLN.out] at c0
                    have hgl := hG6.lt.2
                    have hpl := hG6.box.lt
                    clear HJ z1 m0 m1 m2 m3 harr hG6 hb6 hkb e6 hqn G5 BQ5 HB5
                    have C0 := fun G' : Gr w6 => G'.cell c0 hpl
                    have CL := fun G' : Gr w6 => G'.cell cl hgl
                    have Y0 := fun G' : Gr w6 => G'.cell y0 hy6
                    have hne := Gr.ne w6
                    have dn : (((j + 2 : Nat) : Int) != (j : Int) + 2) = false := by simp
                    have i2 : ((j + 2 : Nat) : Int) < ((j + 3 : Nat) : Int) := by omega
                    have i3 : (0 : Int) ≤ ((j + 2 : Nat) : Int) := by omega
                    have i4 : ((j + 2 : Nat) : Int).toNat = j + 2 := by omega
                    clear c0 cl y0
                    by_cases hv : q.1 = lv + 1
                    · have d5 : (lv + 1 != q.1) = false := by simp [hv]
                      have HV := hid (show allB (fineQ F) (j + 2 + 1) = true by rw [HS.out, hT.out, HF4.out]; simp [hv])
                      have HGN := hid (show Grv w6 w1.heap.size (w1.heap.size + 2) g' cap' (w1.heap.size + 1) (F.take (j + 2 + 1)) by
                        rw [HTS.out]
                        have : qa F (j + 2) = (lv + 1, q.2) := by rw [HEQ.out, ← hv]
                        first | (rw [this]; exact G6.out) | (have e := G6.out; rw [← hv] at e; exact e))
                      clear hv HN HS HF4
                      go_wp2
                      refine wp_region_gr (by kernel_rfl) (by kernel_rfl) ?_
                      repeat (go_big_quiet_step (fail))
                      refine wpQuiet_nil ?_
                      rintro _ ⟨G', rfl⟩
                      clear C0 CL Y0
                      go_wp2
                      go_roundw
                      case rel => exact ⟨j + 1, g', cap', by omega, by go_num, HV.out, HGN.out.below G'.below, HB6.out.trans (G'.below.mono HB6.out.size)⟩
                      case measure => simp [intOf]; omega
                    · have d5 : (lv + 1 != q.1) = true := by simp; omega
                      have HV := hid (HN.out (by rw [HF4.out]; simp [hv]))
                      clear hv HN HS HF4
                      go_wp2
                      refine wp_region_gr (by kernel_rfl) (by kernel_rfl) ?_
                      repeat (go_big_quiet_step (fail))
                      refine wpQuiet_nil ?_
                      rintro _ ⟨G', rfl⟩
                      clear C0 CL Y0
                      go_wp2
                      go_ret2
                      exact ⟨.pointer none, by rw [HV.out]; rfl, .inr ⟨HV.out, rfl⟩, HB6.out.trans (G'.below.mono HB6.out.size)⟩
              · have d3 : (((qa F (j + 2)).2.length : Int) != 4) = true := by simp; omega
                have HV := hid (HN.out (fine_len (by omega) h3))
                clear HN HS h3 HFC P3 P4
                generalize qa F (j + 2) = q at *
                go_wp2
                go_ret2
                exact ⟨.pointer none, by rw [HV.out]; rfl, .inr ⟨HV.out, rfl⟩, HB4.out⟩
            · have hF : F.length = j + 2 := by omega
              have HGF := hid (goodF_all (F := F) (by rw [hF]; exact hT.out) (by omega) (by omega))
              have HTT := hid (show F.take (j + 2) = F by rw [← hF, List.take_length])
              have k1 : ((F.length - 2 : Nat) : Int) ≤ (j : Int) := by omega
              clear hF
              go_wp2
              go_ret2
              refine ⟨.pointer (some ⟨w1.heap.size + 2, 0, none⟩), by rw [HGF.out]; rfl, .inl ⟨HGF.out, w1.heap.size + 2, g, cap, w1.heap.size + 1, w1.heap.size, by omega, rfl, ?_⟩, HB.out⟩
              have := HGR.out
              rw [HTT.out] at this
              exact this

end Go.Proofs.YtnabgfbempkgnaaGreatDoor

namespace Go.Proofs.YtnabgfbempkgnaaGreatDoor
open Go.RowKit Go.Maps
set_option linter.unusedVariables false
set_option linter.unusedSimpArgs false
attribute [local go_sem ↓] Go.wp_at_zero Go.wp_at_succ

/-- Is there such a quad in a good forest? -/
def thereB (F : List Qd) (q : Int) : Bool := goodF F && inB 0 ((F.length : Int) - 1) q
def levV (F : List Qd) (q : Int) : Int := if thereB F q then (qa F q.toNat).1 else 0
theorem c_sGoodForest' (a : Option Addr) (F : List Qd) (ca : Nat) (v : Bool) (hv : goodF F = v) (w : World) (ha : QSeg w a F) (hl : F.length ≤ 1048576) (hk : KidsLe F) (hca : F.length ≤ ca) (hcm : ca ≤ 9223372036854775807) :
    Calls Tryz.prog 91 #[.agg #[.slice a F.length ca]] w fun e w' => e = .returned (.bool v) ∧ Below w.heap.size w w' := by
  rw [← hv]; exact c_sGoodForest a F ca w ha hl hk hca hcm

set_option maxHeartbeats 1000000 in
theorem c_l3There (a : Option Addr) (F : List Qd) (ca : Nat) (q : Int) (w : World) (ha : QSeg w a F) (hl : F.length ≤ 1048576) (hk : KidsLe F) (hca : F.length ≤ ca) (hcm : ca ≤ 9223372036854775807) :
    Calls Tryz.prog 85 #[.agg #[.slice a F.length ca], .int .i64 q] w fun e w' => e = .returned (.bool (thereB F q)) ∧ Below w.heap.size w w' := by
  have BX := hid (Box1.new w (.slice a F.length ca) 56)
  cases hg : goodF F
  · have HC := hid (c_sGoodForest' a F ca false hg _ (ha.below BX.out.2.2) hl hk hca hcm)
    have HV : Hid (thereB F q = false) := by simp [Hid, thereB, hg]
    clear ha hg
    go_enter Tryz.func85, Tryz.ntmps85
    go_wp2_with fail
    refine HC.out.mono ?_
    rintro e w1 ⟨rfl, hb⟩
    clear HC
    go_wp2
    go_ret
    exact ⟨ret_bool HV.out.symm, (BX.out.step hb).2.2⟩
  · have HC := hid (c_sGoodForest' a F ca true hg _ (ha.below BX.out.2.2) hl hk hca hcm)
    have HV0 : Hid (thereB F q = inB 0 ((F.length : Int) - 1) q) := by simp [Hid, thereB, hg]
    clear ha hg
    by_cases h0 : 0 ≤ q
    · have d0 : decide (0 ≤ q) = true := decide_eq_true h0
      by_cases h1 : q < (F.length : Int)
      · have d1 : decide (q < (F.length : Int)) = true := decide_eq_true h1
        have HV := hid (show thereB F q = true by rw [HV0.out]; simp [inB]; omega)
        go_enter Tryz.func85, Tryz.ntmps85
        go_wp2_with fail
        refine HC.out.mono ?_
        rintro e w1 ⟨rfl, hb⟩
        clear HC
        have x := (BX.out.step hb).1
        go_wp2
        go_ret
        exact ⟨ret_bool HV.out.symm, (BX.out.step hb).2.2⟩
      · have d1 : decide (q < (F.length : Int)) = false := decide_eq_false h1
        have HV := hid (show thereB F q = false by rw [HV0.out]; unfold inB; rw [decide_eq_false (show ¬ q ≤ (F.length : Int) - 1 by omega)]; simp)
        go_enter Tryz.func85, Tryz.ntmps85
        go_wp2_with fail
        refine HC.out.mono ?_
        rintro e w1 ⟨rfl, hb⟩
        clear HC
        have x := (BX.out.step hb).1
        go_wp2
        go_ret
        exact ⟨ret_bool HV.out.symm, (BX.out.step hb).2.2⟩
    · have d0 : decide (0 ≤ q) = false := decide_eq_false h0
      have HV := hid (show thereB F q = false by rw [HV0.out]; unfold inB; rw [d0]; rfl)
      go_enter Tryz.func85, Tryz.ntmps85
      go_wp2_with fail
      refine HC.out.mono ?_
      rintro e w1 ⟨rfl, hb⟩
      clear HC
      go_wp2
      go_ret
      exact ⟨ret_bool HV.out.symm, (BX.out.step hb).2.2⟩
theorem c_l3There' (a : Option Addr) (F : List Qd) (ca : Nat) (q : Int) (v : Bool) (hv : thereB F q = v) (w : World) (ha : QSeg w a F) (hl : F.length ≤ 1048576) (hk : KidsLe F) (hca : F.length ≤ ca) (hcm : ca ≤ 9223372036854775807) :
    Calls Tryz.prog 85 #[.agg #[.slice a F.length ca], .int .i64 q] w fun e w' => e = .returned (.bool v) ∧ Below w.heap.size w w' := by
  rw [← hv]; exact c_l3There a F ca q w ha hl hk hca hcm
theorem there_bd {F : List Qd} {q : Int} (h : thereB F q = true) : goodF F = true ∧ 0 ≤ q ∧ q < (F.length : Int) := by
  simp only [thereB, Bool.and_eq_true] at h
  have := inB_bd h.2
  exact ⟨h.1, by omega, by omega⟩

end Go.Proofs.YtnabgfbempkgnaaGreatDoor

namespace Go.Proofs.YtnabgfbempkgnaaGreatDoor
set_option linter.unusedVariables false

/-- Kid i of quad q. -/
def kidq (F : List Qd) (q i : Nat) : Nat := (ia (qa F q).2 i).toNat
/-- The cells of quad q of level n, from a corner on. -/
def cellsL (F : List Qd) : Nat → Nat → Int → Int → List Cl
  | 0, q, x, y => if q = 1 then [(x, y)] else []
  | n + 1, q, x, y => cellsL F n (kidq F q 0) x y ++ cellsL F n (kidq F q 1) (x + 2 ^ n) y ++ cellsL F n (kidq F q 2) x (y + 2 ^ n) ++ cellsL F n (kidq F q 3) (x + 2 ^ n) (y + 2 ^ n)

theorem good_fine {F : List Qd} (h : goodF F = true) {q : Nat} (hq : q < F.length) : fineQ F q = true := by
  simp only [goodF, Bool.and_eq_true] at h
  exact allB_iff.1 h.2 q hq
theorem good_len2 {F : List Qd} (h : goodF F = true) : 2 ≤ F.length ∧ F.length ≤ 400 := by
  simp only [goodF, Bool.and_eq_true] at h
  have := inB_bd h.1
  omega
theorem good_zero {F : List Qd} (h : goodF F = true) {q : Nat} (hq : q < F.length) (h2 : q < 2) : (qa F q).1 = 0 ∧ (qa F q).2.length = 0 := by
  have := good_fine h hq
  simp only [fineQ, if_pos h2, Bool.and_eq_true, decide_eq_true_eq] at this
  exact this
/-- What a quad of a good forest is like. -/
theorem good_quad {F : List Qd} (h : goodF F = true) {q : Nat} (hq : q < F.length) (h2 : 2 ≤ q) :
    (qa F q).2.length = 4 ∧ 1 ≤ (qa F q).1 ∧ (qa F q).1 ≤ 5 ∧ (∀ i, i < 4 → 0 ≤ ia (qa F q).2 i ∧ ia (qa F q).2 i < (q : Int)) ∧ (∀ i, i < 4 → (qa F (kidq F q i)).1 = (qa F q).1 - 1) := by
  have := good_fine h hq
  simp only [fineQ, if_neg (show ¬ q < 2 by omega), Bool.and_eq_true, decide_eq_true_eq] at this
  obtain ⟨⟨⟨⟨h1, h3⟩, h4⟩, h5⟩, h6⟩ := this
  have b4 := inB_bd h4
  refine ⟨h1, b4.1, b4.2, fun i hi => ?_, fun i hi => ?_⟩
  · have := inB_bd (allB_iff.1 h3 i (by omega))
    omega
  · have := allB_iff.1 h5 i (by omega)
    simpa [kidq] using this
theorem kid_lt {F : List Qd} (h : goodF F = true) {q : Nat} (hq : q < F.length) (h2 : 2 ≤ q) {i : Nat} (hi : i < 4) : kidq F q i < q := by
  have := (good_quad h hq h2).2.2.2.1 i hi
  unfold kidq; omega
theorem lev_nonneg {F : List Qd} (h : goodF F = true) {q : Nat} (hq : q < F.length) : 0 ≤ (qa F q).1 ∧ (qa F q).1 ≤ 5 := by
  by_cases h2 : q < 2
  · have := (good_zero h hq h2).1; omega
  · have := good_quad h hq (by omega); omega
theorem lev_two {F : List Qd} (h : goodF F = true) {q : Nat} (hq : q < F.length) : (qa F q).1 = 0 ↔ q < 2 := by
  constructor
  · intro e
    by_cases h2 : q < 2
    · exact h2
    · have := good_quad h hq (by omega); omega
  · intro h2; exact (good_zero h hq h2).1

theorem two_pow (n : Nat) : (2 : Int) ^ (n + 1) = 2 ^ n + 2 ^ n := by rw [Int.pow_succ]; omega
theorem pow_pos' (n : Nat) : (0 : Int) < 2 ^ n := by
  induction n with
  | zero => decide
  | succ n ih => rw [two_pow]; omega
theorem cellsL_in (F : List Qd) : ∀ (n q : Nat) (x y : Int) (c : Cl), c ∈ cellsL F n q x y → x ≤ c.1 ∧ c.1 < x + 2 ^ n ∧ y ≤ c.2 ∧ c.2 < y + 2 ^ n
  | 0, q, x, y, c, h => by
    simp only [cellsL] at h
    split at h
    · simp at h; subst h; simp; omega
    · simp at h
  | n + 1, q, x, y, c, h => by
    have hp := pow_pos' n
    rw [two_pow]
    simp only [cellsL, List.mem_append] at h
    rcases h with ((h | h) | h) | h
    all_goals
      have := cellsL_in F n _ _ _ c h
      omega
theorem cellsL_len (F : List Qd) : ∀ (n q : Nat) (x y : Int), (cellsL F n q x y).length ≤ 4 ^ n
  | 0, q, x, y => by simp only [cellsL]; split <;> simp
  | n + 1, q, x, y => by
    simp only [cellsL, List.length_append]
    have a := cellsL_len F n (kidq F q 0) x y
    have b := cellsL_len F n (kidq F q 1) (x + 2 ^ n) y
    have c := cellsL_len F n (kidq F q 2) x (y + 2 ^ n)
    have d := cellsL_len F n (kidq F q 3) (x + 2 ^ n) (y + 2 ^ n)
    rw [Nat.pow_succ]; omega
theorem cellsL_nodup (F : List Qd) : ∀ (n q : Nat) (x y : Int), (cellsL F n q x y).Nodup
  | 0, q, x, y => by simp only [cellsL]; split <;> simp
  | n + 1, q, x, y => by
    have hp := pow_pos' n
    simp only [cellsL]
    rw [List.nodup_append, List.nodup_append, List.nodup_append]
    refine ⟨⟨⟨cellsL_nodup F n _ _ _, cellsL_nodup F n _ _ _, ?_⟩, cellsL_nodup F n _ _ _, ?_⟩, cellsL_nodup F n _ _ _, ?_⟩
    · intro a ha b hb e
      subst e
      have := cellsL_in F n _ _ _ a ha
      have := cellsL_in F n _ _ _ a hb
      omega
    · intro a ha b hb e
      subst e
      have hb' := cellsL_in F n _ _ _ a hb
      rw [List.mem_append] at ha
      rcases ha with ha | ha
      all_goals
        have := cellsL_in F n _ _ _ a ha
        omega
    · intro a ha b hb e
      subst e
      have hb' := cellsL_in F n _ _ _ a hb
      rw [List.mem_append, List.mem_append] at ha
      rcases ha with (ha | ha) | ha
      all_goals
        have := cellsL_in F n _ _ _ a ha
        omega
/-- The level of a quad, as a number. -/
def levN (F : List Qd) (q : Nat) : Nat := (qa F q).1.toNat
/-- The cells of a quad. -/
def cellsOfQ (F : List Qd) (q : Nat) : List Cl := cellsL F (levN F q) q 0 0

end Go.Proofs.YtnabgfbempkgnaaGreatDoor

namespace Go.Proofs.YtnabgfbempkgnaaGreatDoor
open Go.RowKit
set_option linter.unusedVariables false
attribute [local go_sem ↓] Go.wp_at_zero Go.wp_at_succ

set_option maxHeartbeats 2000000 in
set_option maxRecDepth 100000 in
theorem c_l3Cells {F : List Qd} (hg : goodF F = true) (a : Option Addr) (ca : Nat) (W0 : World) (hQ : QSeg W0 a F) : ∀ (n : Nat) (q x y : Int) (v : Value) (out : List Cl) (w : World) (base : Nat),
    0 ≤ q → q < (F.length : Int) → (qa F q.toNat).1 = (n : Int) → -100000 ≤ x → x + 2 ^ n ≤ 100000 → -100000 ≤ y → y + 2 ^ n ≤ 100000 → Below W0.heap.size W0 w → W0.heap.size ≤ base → base ≤ w.heap.size → OwnS w base v out → out.length + 4 ^ n ≤ 4000000 →
    Calls Tryz.prog 61 #[.agg #[.slice a F.length ca], .int .i64 q, .int .i64 x, .int .i64 y, v] w fun e w' => ∃ v', e = .returned v' ∧ OwnS w' base v' (out ++ cellsL F n q.toNat x y) ∧ w.grownBy w' v.ownBlock ∧ Near' w v v' := by
  intro n
  induction n with
  | zero =>
    intro q x y v out w base h0 h1 hlev x0 x1 y0 y1 hB hb0 hb1 hO hlen
    have hq2 := (lev_two hg (q := q.toNat) (by omega)).1 (by simpa using hlev)
    rcases (show q = 0 ∨ q = 1 by omega) with rfl | rfl
    · have HO := hid hO
      have S1 := hid (Stg.new hO [.slice a F.length ca] 56)
      clear hO
      go_enter Tryz.func61, Tryz.ntmps61
      go_wp2
      go_ret
      exact ⟨v, rfl, by simpa [cellsL] using S1.out.own, S1.out.gr, S1.out.near⟩
    · have HO := hid hO
      have S1 := hid (Stg.new hO [.slice a F.length ca] 56)
      clear hO
      have HS2 := hid (S1.out.below ((Below.refl _ _).alloc (Nat.le_refl _) (.cells #[.int .i64 x, .int .i64 y] 51)))
      have hsg := (seg_block (heap_alloc_new (w.alloc (.cells #[.slice a F.length ca] 56)) (.cells #[.int .i64 x, .int .i64 y] 51)) : Seg _ _ [(x, y)])
      rw [show (w.alloc (.cells #[.slice a F.length ca] 56)).heap.size = w.heap.size + 1 by simp] at hsg
      have HSG := hid hsg
      clear hsg
      go_enter Tryz.func61, Tryz.ntmps61
      go_wp2_with (at_builtin; refine wpList_appAt rfl _ _ rfl base _ out [(x, y)] _ 1 rfl HS2.out.own rfl HSG.out (by simp at hlen ⊢; omega) (by simp; omega) ?_; intro v' w2 hO2 hG2 hN2)
      go_ret
      have S3 := HS2.out.step HO.out hO2 hG2 hN2
      exact ⟨v', rfl, by simpa [cellsL] using S3.own, S3.gr, S3.near⟩
  | succ n ih =>
    intro q x y v out w base h0 h1 hlev x0 x1 y0 y1 hB hb0 hb1 hO hlen
    have hq2 : 2 ≤ q := by
      have := (lev_two hg (q := q.toNat) (by omega))
      rw [hlev] at this
      have h3 : ¬ q.toNat < 2 := fun h => by have := this.2 h; omega
      omega
    obtain ⟨k4, l1, l5, kin, klev⟩ := good_quad hg (q := q.toNat) (by omega) (by omega)
    obtain ⟨b1, o1, ak, ck, rfl, hb1', p1, p2, p3, p4⟩ := hQ q.toNat (by omega)
    obtain ⟨bk, ok, rfl, hbk, kc0⟩ := p3 0 (by omega)
    have d0 : (q == 0) = false := by simp; omega
    have d1 : (q == 1) = false := by simp; omega
    have S1 := hid (Stg.new hO [.slice (some ⟨b1, o1, none⟩) F.length ca] 56)
    have c1 := (((S1.out.old hO hB hb0).cell (p := ⟨b1, o1 + q.toNat * 2, none⟩) hb1').trans p1)
    have c2 := (((S1.out.old hO hB hb0).cell (p := ⟨b1, o1 + q.toNat * 2 + 1, none⟩) hb1').trans p2)
    rw [hlev] at c1
    obtain ⟨_, _, e1, _, kc1⟩ := p3 1 (by omega)
    obtain ⟨_, _, e2, _, kc2⟩ := p3 2 (by omega)
    obtain ⟨_, _, e3, _, kc3⟩ := p3 3 (by omega)
    simp only [Option.some.injEq, Addr.mk.injEq, and_true] at e1 e2 e3
    obtain ⟨rfl, rfl⟩ := e1
    obtain ⟨rfl, rfl⟩ := e2
    obtain ⟨rfl, rfl⟩ := e3
    rw [Nat.add_zero] at kc0
    have HIH := hid ih
    have HB := hid hB
    have HO := hid hO
    have hn5 : n < 5 := by omega
    have hpos := pow_pos' n
    have hle : (2 : Int) ^ n ≤ 16 := by
      rcases (show n = 0 ∨ n = 1 ∨ n = 2 ∨ n = 3 ∨ n = 4 by omega) with rfl | rfl | rfl | rfl | rfl <;> decide
    have HW := hid (show wrap64 ((2 : Int) ^ n) = 2 ^ n by unfold wrap64; omega)
    have h4 : (4 : Nat) ^ (n + 1) = 4 * 4 ^ n := by rw [Nat.pow_succ]; omega
    have hcl := hid (show cellsL F (n + 1) q.toNat x y = cellsL F n (kidq F q.toNat 0) x y ++ cellsL F n (kidq F q.toNat 1) (x + 2 ^ n) y ++ cellsL F n (kidq F q.toNat 2) x (y + 2 ^ n) ++ cellsL F n (kidq F q.toNat 3) (x + 2 ^ n) (y + 2 ^ n) from rfl)
    have L0 := cellsL_len F n (kidq F q.toNat 0) x y
    have L1 := cellsL_len F n (kidq F q.toNat 1) (x + 2 ^ n) y
    have L2 := cellsL_len F n (kidq F q.toNat 2) x (y + 2 ^ n)
    rw [two_pow] at x1 y1
    rw [hlev] at klev
    have i0 := kin 0 (by omega)
    have i1 := kin 1 (by omega)
    have i2 := kin 2 (by omega)
    have i3 := kin 3 (by omega)
    have j0 := klev 0 (by omega)
    have j1 := klev 1 (by omega)
    have j2 := klev 2 (by omega)
    have j3 := klev 3 (by omega)
    simp only [kidq] at j0 j1 j2 j3 L0 L1 L2
    have HJ0 := hid (show (qa F (ia (qa F q.toNat).2 0).toNat).1 = (n : Int) by omega)
    have HJ1 := hid (show (qa F (ia (qa F q.toNat).2 1).toNat).1 = (n : Int) by omega)
    have HJ2 := hid (show (qa F (ia (qa F q.toNat).2 2).toNat).1 = (n : Int) by omega)
    have HJ3 := hid (show (qa F (ia (qa F q.toNat).2 3).toNat).1 = (n : Int) by omega)
    have HL0 := hid L0
    have HL1 := hid L1
    have HL2 := hid L2
    have H4 := hid h4
    have HLEN := hid hlen
    have HK := hid (⟨kc0, kc1, kc2, kc3⟩ : _ ∧ _ ∧ _ ∧ _)
    rw [k4] at c2
    clear j0 j1 j2 j3 klev kin ih hB hO p1 p2 p3 p4 kc0 kc1 kc2 kc3 hQ L0 L1 L2 h4 hlen hlev l1 l5 k4
    have hcl' : Hid (cellsL F (n + 1) q.toNat x y = cellsL F n (ia (qa F q.toNat).2 0).toNat x y ++ cellsL F n (ia (qa F q.toNat).2 1).toNat (x + 2 ^ n) y ++ cellsL F n (ia (qa F q.toNat).2 2).toNat x (y + 2 ^ n) ++ cellsL F n (ia (qa F q.toNat).2 3).toNat (x + 2 ^ n) (y + 2 ^ n)) := hcl
    clear hcl
    generalize ia (qa F q.toNat).2 0 = q0 at *
    generalize ia (qa F q.toNat).2 1 = q1 at *
    generalize ia (qa F q.toNat).2 2 = q2 at *
    generalize ia (qa F q.toNat).2 3 = q3 at *
    go_enter Tryz.func61, Tryz.ntmps61
    go_wp2_with fail
    clear HW c1 c2 d0 d1
    generalize (2 : Int) ^ n = H at *
    generalize w.alloc (.cells #[.slice (some ⟨b1, o1, none⟩) F.length ca] 56) = W1 at *
    have HL := HLEN.out
    rw [H4.out] at HL
    have HLL := hid HL
    clear HL HLEN H4
    have x0 := S1.out.box 0 _ rfl
    have y0' := ((S1.out.old HO.out HB.out hb0).cell (p := ⟨bk, ok, none⟩) hbk).trans HK.out.1
    refine wp_region_still_tail 7 (by kernel_rfl) (by kernel_rfl) ?_
    simp only [List.take_succ_cons, List.take_zero, List.drop_succ_cons, List.drop_zero]
    iterate 7 still_step
    refine wpStill_nil ?_
    clear x0 y0'
    go_wp2_with fail
    refine (HIH.out q0 x y _ _ _ base (by omega) (by omega) HJ0.out (by omega) (by omega) (by omega) (by omega) (S1.out.drew.old HO.out HB.out hb0) hb0 (Nat.le_trans hb1 S1.out.drew.gr.size) S1.out.drew.own (by have := HLL.out; omega)).mono ?_
    rintro e W2 ⟨v2, rfl, hO2, hG2, hN2⟩
    replace S1 := hid (S1.out.drew.step HO.out hO2 hG2 hN2)
    clear hO2 hG2 hN2
    go_wp2_with fail
    have x0 := S1.out.box 0 _ rfl
    have y0' := ((S1.out.old HO.out HB.out hb0).cell (p := ⟨bk, ok + 1, none⟩) hbk).trans HK.out.2.1
    refine wp_region_still_tail 9 (by kernel_rfl) (by kernel_rfl) ?_
    simp only [List.take_succ_cons, List.take_zero, List.drop_succ_cons, List.drop_zero]
    iterate 9 still_step
    refine wpStill_nil ?_
    clear x0 y0'
    go_wp2_with fail
    refine (HIH.out q1 (x + H) y _ _ _ base (by omega) (by omega) HJ1.out (by omega) (by omega) (by omega) (by omega) (S1.out.drew.old HO.out HB.out hb0) hb0 (Nat.le_trans hb1 S1.out.drew.gr.size) S1.out.drew.own (by have := HLL.out; have := HL0.out; rw [List.length_append]; omega)).mono ?_
    rintro e W2 ⟨v2, rfl, hO2, hG2, hN2⟩
    replace S1 := hid (S1.out.drew.step HO.out hO2 hG2 hN2)
    clear hO2 hG2 hN2
    go_wp2_with fail
    have x0 := S1.out.box 0 _ rfl
    have y0' := ((S1.out.old HO.out HB.out hb0).cell (p := ⟨bk, ok + 2, none⟩) hbk).trans HK.out.2.2.1
    refine wp_region_still_tail 9 (by kernel_rfl) (by kernel_rfl) ?_
    simp only [List.take_succ_cons, List.take_zero, List.drop_succ_cons, List.drop_zero]
    iterate 9 still_step
    refine wpStill_nil ?_
    clear x0 y0'
    go_wp2_with fail
    refine (HIH.out q2 x (y + H) _ _ _ base (by omega) (by omega) HJ2.out (by omega) (by omega) (by omega) (by omega) (S1.out.drew.old HO.out HB.out hb0) hb0 (Nat.le_trans hb1 S1.out.drew.gr.size) S1.out.drew.own (by have := HLL.out; have := HL0.out; have := HL1.out; rw [List.length_append, List.length_append]; omega)).mono ?_
    rintro e W2 ⟨v2, rfl, hO2, hG2, hN2⟩
    replace S1 := hid (S1.out.drew.step HO.out hO2 hG2 hN2)
    clear hO2 hG2 hN2
    go_wp2_with fail
    have x0 := S1.out.box 0 _ rfl
    have y0' := ((S1.out.old HO.out HB.out hb0).cell (p := ⟨bk, ok + 3, none⟩) hbk).trans HK.out.2.2.2
    refine wp_region_still_tail 11 (by kernel_rfl) (by kernel_rfl) ?_
    simp only [List.take_succ_cons, List.take_zero, List.drop_succ_cons, List.drop_zero]
    iterate 11 still_step
    refine wpStill_nil ?_
    clear x0 y0'
    go_wp2_with fail
    refine (HIH.out q3 (x + H) (y + H) _ _ _ base (by omega) (by omega) HJ3.out (by omega) (by omega) (by omega) (by omega) (S1.out.drew.old HO.out HB.out hb0) hb0 (Nat.le_trans hb1 S1.out.drew.gr.size) S1.out.drew.own (by have := HLL.out; have := HL0.out; have := HL1.out; have := HL2.out; rw [List.length_append, List.length_append, List.length_append]; omega)).mono ?_
    rintro e W2 ⟨v2, rfl, hO2, hG2, hN2⟩
    replace S1 := hid (S1.out.drew.step HO.out hO2 hG2 hN2)
    clear hO2 hG2 hN2
    go_wp2_with fail
    go_ret
    refine ⟨_, rfl, ?_, S1.out.gr, S1.out.near⟩
    rw [hcl'.out]
    simpa [List.append_assoc] using S1.out.own

end Go.Proofs.YtnabgfbempkgnaaGreatDoor

namespace Go.Proofs.YtnabgfbempkgnaaGreatDoor
open Go.RowKit
set_option linter.unusedVariables false
set_option linter.unusedSimpArgs false
attribute [local go_sem ↓] Go.wp_at_zero Go.wp_at_succ

/-- The corner of kid i. -/
def kx (n i : Nat) (x : Int) : Int := x + ((i % 2 : Nat) : Int) * 2 ^ n
def ky (n i : Nat) (y : Int) : Int := y + ((i / 2 : Nat) : Int) * 2 ^ n

set_option maxHeartbeats 1000000 in
set_option maxRecDepth 100000 in
theorem c_kidCorner (n i : Nat) (hn : n < 5) (hi : i < 4) (x y : Int) (w : World) (x0 : -100000 ≤ x) (x1 : x ≤ 100000) (y0 : -100000 ≤ y) (y1 : y ≤ 100000) :
    Calls Tryz.prog 74 #[.int .i64 ((n : Int) + 1), .agg #[.int .i64 x, .int .i64 y], .int .i64 (i : Int)] w fun e w' => e = .returned (.agg #[.int .i64 (kx n i x), .int .i64 (ky n i y)]) ∧ Below w.heap.size w w' := by
  have hpos := pow_pos' n
  have hle : (2 : Int) ^ n ≤ 16 := by
    rcases (show n = 0 ∨ n = 1 ∨ n = 2 ∨ n = 3 ∨ n = 4 by omega) with rfl | rfl | rfl | rfl | rfl <;> decide
  have B2 := hid (((Below.refl w.heap.size w).alloc (Nat.le_refl _) (.cells #[.int .i64 x, .int .i64 y] 51)).alloc (by simp) (.cells #[.int .i64 0, .int .i64 0] 51))
  rcases (show i = 0 ∨ i = 1 ∨ i = 2 ∨ i = 3 by omega) with rfl | rfl | rfl | rfl
  all_goals
    go_enter Tryz.func74, Tryz.ntmps74
    go_wp2
    refine bodyPost_ret (v := .agg #[.int .i64 (kx n _ x), .int .i64 (ky n _ y)]) (by simp [results, Tryz.results74, go_sem, kx, ky]) rfl ⟨rfl, ((Below.refl _ _).alloc (Nat.le_refl _) _).alloc (by simp) _⟩

/-- The cells of the first i kids. -/
def cellsTo (F : List Qd) (n q : Nat) (x y : Int) : Nat → List Cl
  | 0 => []
  | i + 1 => cellsTo F n q x y i ++ cellsL F n (kidq F q i) (kx n i x) (ky n i y)
theorem cellsTo_four (F : List Qd) (n q : Nat) (x y : Int) : cellsTo F n q x y 4 = cellsL F (n + 1) q x y := by
  simp [cellsTo, cellsL, kx, ky]
theorem cellsTo_len (F : List Qd) (n q : Nat) (x y : Int) : ∀ i, (cellsTo F n q x y i).length ≤ i * 4 ^ n
  | 0 => by simp [cellsTo]
  | i + 1 => by
    have h1 := cellsTo_len F n q x y i
    have h2 := cellsL_len F n (kidq F q i) (kx n i x) (ky n i y)
    have h3 : (i + 1) * 4 ^ n = i * 4 ^ n + 4 ^ n := Nat.succ_mul _ _
    simp only [cellsTo, List.length_append]
    omega
theorem Grv.kidAt {w : World} {base p g cap mb : Nat} {G : List Qd} (h : Grv w base p g cap mb G) {i : Nat} (hi : i < G.length) {j : Nat} (hj : j < 4) : w.cell? ⟨g, i * 5 + 1 + j, none⟩ = some (.int .i64 (ia (qa G i).2 j)) := by
  have h1 := World.ownsRow.cellAt h.own (i * 5 + (1 + j)) (by omega)
  have e := nflat_at (G := G) (i := i) (j := 1 + j) hi (by omega)
  rw [show i * 5 + 1 + j = i * 5 + (1 + j) by omega, h1, e]
  rcases (show j = 0 ∨ j = 1 ∨ j = 2 ∨ j = 3 by omega) with rfl | rfl | rfl | rfl <;> rfl

/-- What a round of appendCells reads. -/
theorem seenA {W0 w W : World} {b0 p g cap mb base : Nat} {F : List Qd} {v vi : Value} {x y : Int} {l l0 : List Cl} {q n : Nat} (hG : Grv W0 b0 p g cap mb F) (h : Stg w W base v vi [.int .i64 x, .int .i64 y] l) (hv : OwnS w base v l0) (hB : Below W0.heap.size W0 w) (hb : W0.heap.size ≤ base) (hq : q < F.length) (hlev : (qa F q).1 = (n : Int) + 1) :
    W.cell? ⟨p, 0, none⟩ = some (.slice (some ⟨g, 0, none⟩) F.length cap) ∧ W.cell? ⟨g, q * 5, none⟩ = some (.int .i64 ((n : Int) + 1)) ∧ W.cell? ⟨w.heap.size, 0, none⟩ = some (.int .i64 x) ∧ W.cell? ⟨w.heap.size, 1, none⟩ = some (.int .i64 y) := by
  have G := hG.below (h.old hv hB hb)
  exact ⟨G.c0, by rw [← hlev]; exact G.lev hq, h.box 0 _ rfl, h.box 1 _ rfl⟩

set_option maxHeartbeats 4000000 in
set_option maxRecDepth 100000 in
theorem c_appendCells {F : List Qd} (hg : goodF F = true) {W0 : World} {b0 p g cap mb : Nat} (hG : Grv W0 b0 p g cap mb F) : ∀ (n : Nat) (q x y : Int) (v : Value) (out : List Cl) (w : World) (base : Nat),
    0 ≤ q → q < (F.length : Int) → (qa F q.toNat).1 = (n : Int) → -100000 ≤ x → x + 2 ^ n ≤ 100000 → -100000 ≤ y → y + 2 ^ n ≤ 100000 → Below W0.heap.size W0 w → W0.heap.size ≤ base → base ≤ w.heap.size → OwnS w base v out → out.length + 4 ^ n ≤ 4000000 →
    Calls Tryz.prog 76 #[.pointer (some ⟨p, 0, none⟩), v, .int .i64 q, .agg #[.int .i64 x, .int .i64 y]] w fun e w' => ∃ v', e = .returned v' ∧ OwnS w' base v' (out ++ cellsL F n q.toNat x y) ∧ w.grownBy w' v.ownBlock ∧ Near' w v v' := by
  intro n
  induction n with
  | zero =>
    intro q x y v out w base h0 h1 hlev x0 x1 y0 y1 hB hb0 hb1 hO hlen
    have hq2 := (lev_two hg (q := q.toNat) (by omega)).1 (by simpa using hlev)
    rcases (show q = 0 ∨ q = 1 by omega) with rfl | rfl
    · have S1 := hid (Stg.new hO [.int .i64 x, .int .i64 y] 51)
      clear hO
      go_enter Tryz.func76, Tryz.ntmps76
      go_wp2
      go_ret
      exact ⟨v, rfl, by simpa [cellsL] using S1.out.own, S1.out.gr, S1.out.near⟩
    · have HO := hid hO
      have S1 := hid (Stg.new hO [.int .i64 x, .int .i64 y] 51)
      clear hO
      have HS2 := hid (S1.out.below ((Below.refl _ _).alloc (Nat.le_refl _) (.cells #[.int .i64 x, .int .i64 y] 51)))
      have hsg := (seg_block (heap_alloc_new (w.alloc (.cells #[.int .i64 x, .int .i64 y] 51)) (.cells #[.int .i64 x, .int .i64 y] 51)) : Seg _ _ [(x, y)])
      rw [show (w.alloc (.cells #[.int .i64 x, .int .i64 y] 51)).heap.size = w.heap.size + 1 by simp] at hsg
      have HSG := hid hsg
      clear hsg
      go_enter Tryz.func76, Tryz.ntmps76
      go_wp2_with (at_builtin; refine wpList_appAt rfl _ _ rfl base _ out [(x, y)] _ 1 rfl HS2.out.own rfl HSG.out (by simp at hlen ⊢; omega) (by simp; omega) ?_; intro v' w2 hO2 hG2 hN2)
      go_ret
      have S3 := HS2.out.step HO.out hO2 hG2 hN2
      exact ⟨v', rfl, by simpa [cellsL] using S3.own, S3.gr, S3.near⟩
  | succ n ih =>
    intro q x y v out w base h0 h1 hlev x0 x1 y0 y1 hB hb0 hb1 hO hlen
    have hq2 : 2 ≤ q := by
      have := (lev_two hg (q := q.toNat) (by omega))
      rw [hlev] at this
      have h3 : ¬ q.toNat < 2 := fun h => by have := this.2 h; omega
      omega
    obtain ⟨k4, l1, l5, kin, klev⟩ := good_quad hg (q := q.toNat) (by omega) (by omega)
    have d0 : (q == 0) = false := by simp; omega
    have d1 : (q == 1) = false := by simp; omega
    have hn5 : n < 5 := by omega
    have hlev' : (qa F q.toNat).1 = (n : Int) + 1 := by rw [hlev]; omega
    have hqn : q.toNat < F.length := by omega
    have S1 := hid (Stg.new hO [.int .i64 x, .int .i64 y] 51)
    have G1 := hG.below (S1.out.old hO hB hb0)
    have c0 := G1.c0
    have e0 := G1.kidAt (i := q.toNat) (by omega) (j := 0) (by omega)
    have e1 := G1.kidAt (i := q.toNat) (by omega) (j := 1) (by omega)
    have e2 := G1.kidAt (i := q.toNat) (by omega) (j := 2) (by omega)
    have e3 := G1.kidAt (i := q.toNat) (by omega) (j := 3) (by omega)
    rw [Nat.add_zero] at e0
    have hpos := pow_pos' n
    have hle : (2 : Int) ^ n ≤ 16 := by
      rcases (show n = 0 ∨ n = 1 ∨ n = 2 ∨ n = 3 ∨ n = 4 by omega) with rfl | rfl | rfl | rfl | rfl <;> decide
    have H4 := hid (show (4 : Nat) ^ (n + 1) = 4 * 4 ^ n by rw [Nat.pow_succ]; omega)
    rw [two_pow] at x1 y1
    have HIH := hid ih
    have HB := hid hB
    have HO := hid hO
    have HLV := hid hlev'
    have HLEN := hid hlen
    have HKI := hid kin
    have HKL := hid klev
    have HGG := hid hG
    clear ih hB hO hlen hlev hlev' kin klev l1 l5 k4 G1
    go_enter Tryz.func76, Tryz.ntmps76
    go_wp2_with fail
    go_loopw [29, 1] (fun i vi wr => ∃ k : Nat, k ≤ 4 ∧ i = .int .i64 k ∧ Hid (Stg w wr base v vi [.int .i64 x, .int .i64 y] (out ++ cellsTo F n q.toNat x y k))) (fun i _ _ => 4 - (intOf i).toNat)
    case atStart => exact ⟨0, by omega, rfl, (by show Stg _ _ _ _ _ _ _; simpa [cellsTo] using S1.out)⟩
    case round =>
      clear S1 c0 e0 e1 e2 e3
      obtain ⟨k, hk, rfl, SG⟩ := hrel
      by_cases hlt : k < 4
      · have hidx := four_index (qa F q.toNat).2 k hlt
        unfold kv at hidx
        have k0 : (0 : Int) ≤ (k : Int) := by omega
        have k1 : (k : Int) < 4 := by omega
        have hki := HKI.out k hlt
        have HKK := hid (show (qa F (ia (qa F q.toNat).2 k).toNat).1 = (n : Int) by have := HKL.out k hlt; rw [HLV.out] at this; unfold kidq at this; omega)
        have HT := hid (show cellsTo F n q.toNat x y (k + 1) = cellsTo F n q.toNat x y k ++ cellsL F n (ia (qa F q.toNat).2 k).toNat (kx n k x) (ky n k y) from rfl)
        have HLN := hid (show (out ++ cellsTo F n q.toNat x y k).length + 4 ^ n ≤ 4000000 by
          have h1 := cellsTo_len F n q.toNat x y k
          have h2 := HLEN.out
          rw [H4.out] at h2
          have h3 : k * 4 ^ n ≤ 3 * 4 ^ n := Nat.mul_le_mul_right _ (by omega)
          rw [List.length_append]; omega)
        have hx : -100000 ≤ kx n k x ∧ kx n k x + 2 ^ n ≤ 100000 := by
          unfold kx
          rcases (show k % 2 = 0 ∨ k % 2 = 1 by omega) with e | e <;> rw [e] <;> simp <;> omega
        have hy : -100000 ≤ ky n k y ∧ ky n k y + 2 ^ n ≤ 100000 := by
          unfold ky
          rcases (show k / 2 = 0 ∨ k / 2 = 1 by omega) with e | e <;> rw [e] <;> simp <;> omega
        have HSN := hid (seenA HGG.out SG.out HO.out HB.out hb0 hqn HLV.out)
        have SD := hid SG.out.drew
        have HSN2 := hid (fun (W : World) (h : Below wr.drew.heap.size wr.drew W) => seenA HGG.out (SD.out.below h) HO.out HB.out hb0 hqn HLV.out)
        have HSN3 := hid (fun (W : World) (vj : Value) (l : List Cl) (h : Stg w W base v vj [.int .i64 x, .int .i64 y] l) => seenA HGG.out h HO.out HB.out hb0 hqn HLV.out)
        have HKC := hid (fun W : World => c_kidCorner n k hn5 hlt x y W x0 (by omega) y0 (by omega))
        generalize hkq : ia (qa F q.toNat).2 k = qk at *
        have HQK := hid hkq
        clear hkq
        obtain ⟨s1, s2, s3, s4⟩ := HSN.out
        go_wp2_with fail
        go_region_held3 (fun w' => w'.cell? ⟨p, 0, none⟩ = some (.slice (some ⟨g, 0, none⟩) F.length cap) ∧ w'.cell? ⟨g, q.toNat * 5, none⟩ = some (.int .i64 ((n : Int) + 1)) ∧ w'.cell? ⟨w.heap.size, 0, none⟩ = some (.int .i64 x) ∧ w'.cell? ⟨w.heap.size, 1, none⟩ = some (.int .i64 y))
          (first | exact HSN.out | exact HSN2.out _ hb2 | exact HSN3.out _ _ _ S3.out | go_keep)
          (first
            | (go_at_call 74; refine (HKC.out _).mono ?_; rintro e w2 ⟨rfl, hb2⟩)
            | (go_at_call 76; refine (HIH.out qk (kx n k x) (ky n k y) _ _ w2 base (by omega) (by omega) HKK.out hx.1 hx.2 hy.1 hy.2 ((SD.out.below hb2).old HO.out HB.out hb0) hb0 (Nat.le_trans hb1 (SD.out.below hb2).gr.size) (SD.out.below hb2).own HLN.out).mono ?_; rintro e w3 ⟨v3, rfl, hO3, hG3, hN3⟩; have S3 := hid ((SD.out.below hb2).step HO.out hO3 hG3 hN3)))
        go_wp2_with fail
        go_roundw
        case rel => exact ⟨k + 1, by omega, by go_num, by (show Stg _ _ _ _ _ _ _; rw [HT.out, ← List.append_assoc]; exact S3.out)⟩
        case measure => simp [intOf]; omega
      · obtain rfl : k = 4 := by omega
        go_wp2_with fail
        go_ret
        refine ⟨_, rfl, ?_, SG.out.gr, SG.out.near⟩
        have := SG.out.own
        rw [cellsTo_four] at this
        exact this

end Go.Proofs.YtnabgfbempkgnaaGreatDoor
