/- What the specification's joining does, and what it tells. -/
import Derived.Test.YtnabgfbempkgnaaSOwn
import Derived.Test.YtnabgfbempkgnaaJnP
namespace Go.Proofs.Ytnabgfbempkgnaa
open Go.RowKit
set_option linter.unusedVariables false
set_option linter.unusedSimpArgs false
attribute [local go_sem ↓] Go.wp_at_zero Go.wp_at_succ

/-- The specification's forest: its box is block p, its quads the slice v. -/
structure SF (w : World) (base p : Nat) (v : Value) (F : List Qd) (gg : Option Nat := none) : Prop where
  gf : GF w base v F gg
  box : w.rowIs p 72 2 (fun j => if j = 0 then v else .bool (decide (400 < F.length)))
  low : base ≤ p
theorem SF.below {gg : Option Nat} {w w' : World} {base p : Nat} {v : Value} {F : List Qd} (h : SF w base p v F gg) (hb : Below w.heap.size w w') : SF w' base p v F gg :=
  ⟨h.gf.below hb, h.box.of_block (hb.block _ h.box.lt), h.low⟩
theorem SF.c0 {gg : Option Nat} {w : World} {base p : Nat} {v : Value} {F : List Qd} (h : SF w base p v F gg) : w.cell? ⟨p, 0, none⟩ = some v := by
  have := h.box.cell (i := 0) (by omega); simpa using this
theorem SF.c1 {gg : Option Nat} {w : World} {base p : Nat} {v : Value} {F : List Qd} (h : SF w base p v F gg) : w.cell? ⟨p, 1, none⟩ = some (.bool (decide (400 < F.length))) := by
  have := h.box.cell (i := 1) (by omega); simpa using this

set_option maxHeartbeats 400000 in
theorem c_level {gg : Option Nat} (q : Int) (w : World) {base p : Nat} {a : Option Addr} {n cap : Nat} {F : List Qd} (hg : GF w base (.slice a n cap) F gg) (c0 : w.cell? ⟨p, 0, none⟩ = some (.slice a n cap)) (h0 : 0 ≤ q) (h1 : q < (F.length : Int)) :
    Calls Try.prog 90 #[.pointer (some ⟨p, 0, none⟩), .int .i64 q] w fun e w' => e = .returned (.int .i64 (qa F q.toNat).1) ∧ w' = w := by
  obtain ⟨a', cap', e, _, _, hs⟩ := hg.form
  simp only [Value.slice.injEq] at e
  obtain ⟨rfl, rfl, rfl⟩ := e
  obtain ⟨b1, o1, ak, ck, rfl, hb1, p1, _⟩ := hs q.toNat (by omega)
  clear hs hg
  go_enter Try.func90, Try.ntmps90
  go_wp2
  go_ret
  exact ⟨rfl, rfl⟩

/-- What a joining leaves of all else. -/
def Else (w w' : World) (p : Nat) (v : Value) : Prop := ∀ k, k < w.heap.size → k ≠ p → some k ≠ v.ownBlock → w'.heap[k]? = w.heap[k]?

/-- The kids, in the block that was made for them. -/
theorem kids_new {gg : Option Nat} {w : World} {base : Nat} {l : List Int} (hl : l.length = 4) (hb : base ≤ w.heap.size) (hgl : ∀ x, gg = some x → x < w.heap.size) : KidAt (w.alloc (.cells #[.int .i64 (ia l 0), .int .i64 (ia l 1), .int .i64 (ia l 2), .int .i64 (ia l 3)] 3)) base (some ⟨w.heap.size, 0, none⟩) l gg := by
  intro j hj
  refine ⟨w.heap.size, 0, _, _, rfl, ⟨hb, fun e => absurd (hgl _ e.symm) (Nat.lt_irrefl _)⟩, heap_alloc_new _ _, ?_⟩
  unfold World.cell?
  rw [heap_alloc_new]
  rcases (show j = 0 ∨ j = 1 ∨ j = 2 ∨ j = 3 by omega) with rfl | rfl | rfl | rfl <;> rfl

theorem findF_step_no {F : List Qd} {l : List Int} {k : Nat} (h : findF F l k = none) (h2 : ¬ (2 ≤ k ∧ (qa F k).2 = l)) : findF F l (k + 1) = none := by
  simp only [findF, h]; rw [if_neg h2]
theorem findF_step_yes {F : List Qd} {l : List Int} {k : Nat} (h : findF F l k = none) (h2 : 2 ≤ k) (h3 : (qa F k).2 = l) : findF F l (k + 1) = some k := by
  simp only [findF, h]; rw [if_pos ⟨h2, h3⟩]
theorem findF_more {F : List Qd} {l : List Int} {k i : Nat} (h : findF F l k = some i) : ∀ n, k ≤ n → findF F l n = some i := by
  intro n hn
  induction n with
  | zero => have : k = 0 := by omega
            subst this; exact h
  | succ n ih =>
    by_cases e : k = n + 1
    · rw [← e]; exact h
    · simp only [findF, ih (by omega)]

theorem sjoin_done {gg : Option Nat} {w7 : World} {base p : Nat} {v v7 : Value} {F : List Qd} {b : Bool} (hg : GF w7 base v7 F gg) (r : w7.rowIs p 72 2 (fun j => if j = 0 then v else .bool b)) (hb : b = decide (400 < F.length)) (hl : base ≤ p) : SF (w7.setCell ⟨p, 0, none⟩ v7) base p v7 F gg := by
  refine ⟨hg.setRow r (by decide) (by decide) v7, (r.set 0 v7).congr fun j hj => ?_, hl⟩
  rcases (show j = 0 ∨ j = 1 by omega) with rfl | rfl
  · simp
  · simp [hb]

set_option maxHeartbeats 8000000 in
set_option maxRecDepth 100000 in
theorem c_sjoin {gg : Option Nat} (l : List Int) (hl : l.length = 4) (w : World) {base p : Nat} {v : Value} {F : List Qd} (h : SF w base p v F gg) (hF : F.length ≤ 100000) (hk : KidsLe F) (hi0 : 0 ≤ ia l 0) (hi1 : ia l 0 < (F.length : Int)) (hv0 : -1000 ≤ (qa F (ia l 0).toNat).1) (hv1 : (qa F (ia l 0).toNat).1 ≤ 1000) (hgl : ∀ x, gg = some x → x < w.heap.size := by intro x h; cases h) :
    Calls Try.prog 70 #[.pointer (some ⟨p, 0, none⟩), .int .i64 (ia l 0), .int .i64 (ia l 1), .int .i64 (ia l 2), .int .i64 (ia l 3)] w fun e w' => ∃ v', e = .returned (.int .i64 ((joinF F l).2 : Int)) ∧ SF w' base p v' (joinF F l).1 gg ∧ Below base w w' ∧ Else w w' p v := by
  obtain ⟨a, cap, rfl, hcap, hcm, hQ⟩ := h.gf.form
  have hbase : base ≤ w.heap.size := Nat.le_trans h.low (Nat.le_of_lt h.box.lt)
  have hb1 := (Below.refl w.heap.size w).alloc (Nat.le_refl _) (.cells #[.int .i64 (ia l 0), .int .i64 (ia l 1), .int .i64 (ia l 2), .int .i64 (ia l 3)] 3)
  have H1 := hid (h.below hb1)
  have HK1 := hid (kids_new hl hbase hgl)
  have HB1 := hid hb1
  have HQ1 := hid (hQ.below hb1)
  have HLL := hid hl
  have HPL := hid h.box.lt
  have c0 := H1.out.c0
  clear h hQ hb1 hl
  go_enter Try.func70, Try.ntmps70
  go_wp2
  generalize w.alloc (.cells #[.int .i64 (ia l 0), .int .i64 (ia l 1), .int .i64 (ia l 2), .int .i64 (ia l 3)] 3) = W1 at *
  go_loopw [25] (fun i wr => ∃ k : Nat, k ≤ F.length ∧ i = .int .i64 k ∧ Hid (findF F l k = none) ∧ Hid (Below W1.heap.size W1 wr)) (fun i _ => F.length - (intOf i).toNat)
  case atStart => exact ⟨0, Nat.zero_le _, rfl, (rfl : _ = _), Below.refl _ _⟩
  case round =>
    clear c0
    obtain ⟨k, hkk, rfl, HN, HB⟩ := hrel
    by_cases hlt : k < F.length
    · obtain ⟨b1, o1, ak, ck, rfl, hb1, p1, p2, p3, p4⟩ := HQ1.out k hlt
      have g1 := (HB.out.cell (p := ⟨b1, o1 + k * 2, none⟩) hb1).trans p1
      have g2 := (HB.out.cell (p := ⟨b1, o1 + k * 2 + 1, none⟩) hb1).trans p2
      have hb4 := (Below.refl wr.heap.size wr).alloc (Nat.le_refl _) (.cells #[.int .i64 (qa F k).1, .slice ak (qa F k).2.length ck] 85)
      have HB4 := hid (HB.out.trans (hb4.mono HB.out.size))
      have P3 := hid (p3.below HB4.out)
      have K3 := hid (HK1.out.seg.below HB4.out)
      have k0 : (0 : Int) ≤ (k : Int) := by omega
      have k1 : (k : Int) < (F.length : Int) := by omega
      have hkl := hk k hlt
      have HNO := hid (fun h => findF_step_no (l := l) HN.out h)
      have HYE := hid (fun (h : 2 ≤ k) h' => findF_more (findF_step_yes HN.out h h') F.length (by omega))
      clear p1 p2 p3 p4 hb4
      by_cases h2 : 2 ≤ k
      · have d2 : decide ((k : Int) > 1) = true := decide_eq_true (by omega)
        have d2' : decide (1 < (k : Int)) = true := decide_eq_true (by omega)
        have HC := hid (c_l3Same' ak (some ⟨w.heap.size, 0, none⟩) (qa F k).2 l ck 4)
        rw [HLL.out] at HC
        cases hs : decide ((qa F k).2 = l)
        · have HV := hid (HNO.out (fun h => by simp at hs; exact hs h.2))
          have HC' := hid (HC.out false hs _ P3.out K3.out hkl (by omega))
          clear HC HNO HYE hs
          generalize qa F k = q at *
          go_wp2_with fail
          refine HC'.out.mono ?_
          rintro e w5 ⟨rfl, hb5⟩
          have HB5 := hid (HB4.out.trans (hb5.mono HB4.out.size))
          clear HC' hb5
          go_wp2_with fail
          go_roundw
          case rel => exact ⟨k + 1, by omega, by go_num, HV.out, HB5.out⟩
          case measure => simp [intOf]; omega
        · have HV := hid (HYE.out h2 (by simpa using hs))
          have HC' := hid (HC.out true hs _ P3.out K3.out hkl (by omega))
          clear HC HNO HYE hs
          generalize qa F k = q at *
          go_wp2_with fail
          refine HC'.out.mono ?_
          rintro e w5 ⟨rfl, hb5⟩
          have HB5 := hid (HB4.out.trans (hb5.mono HB4.out.size))
          have HBW := hid (HB1.out.trans (HB5.out.mono HB1.out.size))
          clear HC' hb5
          go_wp2_with fail
          go_ret
          have hj : joinF F l = (F, k) := by unfold joinF; rw [HV.out]
          rw [hj]
          exact ⟨_, rfl, H1.out.below HB5.out, HBW.out.mono hbase, fun i hi _ _ => HBW.out.block i hi⟩
      · have d2 : decide ((k : Int) > 1) = false := decide_eq_false (by omega)
        have d2' : decide (1 < (k : Int)) = false := decide_eq_false (by omega)
        have HV := hid (HNO.out (fun h => h2 h.1))
        clear HNO HYE
        generalize qa F k = q at *
        go_wp2_with fail
        go_roundw
        case rel => exact ⟨k + 1, by omega, by go_num, HV.out, HB4.out⟩
        case measure => simp [intOf]; omega
    · obtain rfl : k = F.length := by omega
      have HJ := hid (show joinF F l = (F ++ [((qa F (ia l 0).toNat).1 + 1, l)], F.length) by unfold joinF; rw [HN.out])
      have SW := hid (H1.out.below HB.out)
      have HKW := hid (HK1.out.below HB.out)
      have HBW := hid (HB1.out.trans (HB.out.mono HB1.out.size))
      have hWR : Hid (IntKind.i64.wrap ((qa F (ia l 0).toNat).1 + 1) = (qa F (ia l 0).toNat).1 + 1) := by show _ = _; rw [IntKind.wrap_i64]; omega
      have e0 := SW.out.c0
      have e1 := SW.out.c1
      have f1 := SW.out.box.frozen 1
      have HLP := hid SW.out.low
      have HBWE := hid (fun i (hi : i < w.heap.size) => HBW.out.block i hi)
      clear HN HB HQ1 HK1 H1
      by_cases h4 : 400 ≤ F.length
      · have d4 : (400 : Int) ≤ (F.length : Int) := by omega
        have HGF := hid (SW.out.gf.setRow (o := 1) SW.out.box (by decide) (by decide) (.bool true))
        have HRW : Hid ((wr.setCell ⟨p, 1, none⟩ (.bool true)).rowIs p 72 2 (fun j => if j = 0 then .slice a F.length cap else .bool (decide (400 < F.length + 1)))) := by
          refine (SW.out.box.set 1 (.bool true)).congr fun j hj => ?_
          rcases (show j = 0 ∨ j = 1 by omega) with rfl | rfl
          · simp
          · simp; omega
        have HKF := hid (HKW.out.kept (w' := wr.setCell ⟨p, 1, none⟩ (.bool true)) fun b c f hb => Below.heap_setCell wr ⟨p, 1, none⟩ (.bool true) b (by
          intro e
          dsimp only at e
          subst e
          obtain ⟨cc, hcc, _⟩ := SW.out.box
          rw [hb] at hcc
          simp at hcc))
        have HBF := hid ((HBW.out.mono hbase).setCell (p := ⟨p, 1, none⟩) SW.out.low (.bool true))
        have HELF : Hid (Else w (wr.setCell ⟨p, 1, none⟩ (.bool true)) p (.slice a F.length cap)) := fun k h1 h2 h3 => (Below.heap_setCell wr ⟨p, 1, none⟩ (.bool true) k h2).trans (HBWE.out k h1)
        clear HBW HBWE SW HKW
        go_wp2_with fail
        clear e0 e1 f1
        generalize wr.setCell ⟨p, 1, none⟩ (.bool true) = WF at *
        have HWF := hid HBF.out
        have c0 := HRW.out.cell (i := 0) (by omega)
        simp only [if_true] at c0
        have lp := HRW.out.lt
        have hbD := (Below.refl WF.heap.size WF).drew
        have HGD := hid (HGF.out.below hbD)
        have HLV := hid (c_level (p := p) (ia l 0) WF.drew HGD.out (by simpa using c0) hi0 hi1)
        have hbA := ((Below.refl WF.heap.size WF).alloc (Nat.le_refl _) (.cells #[.int .i64 (IntKind.i64.wrap ((qa F (ia l 0).toNat).1 + 1)), .slice (some ⟨w.heap.size, 0, none⟩) 4 4] 85)).drew
        have HGA := hid (HGF.out.below hbA)
        have HKA := hid (HKF.out.below hbA)
        have HRA := hid (HRW.out.of_block (hbA.block _ lp))
        have HBA := hid hbA
        have ca := HRA.out.cell (i := 0) (by omega)
        simp only [if_true] at ca
        have HQF : Hid (qf (IntKind.i64.wrap ((qa F (ia l 0).toNat).1 + 1), l) (some ⟨w.heap.size, 0, none⟩, 4) = [.int .i64 (IntKind.i64.wrap ((qa F (ia l 0).toNat).1 + 1)), .slice (some ⟨w.heap.size, 0, none⟩) 4 4]) := by simp [Hid, qf, HLL.out]
        have HBS := hid (show base ≤ WF.heap.size from Nat.le_trans hbase HWF.out.size)
        have HLE := hid (show (F ++ [(IntKind.i64.wrap ((qa F (ia l 0).toNat).1 + 1), l)]).length = F.length + 1 by simp)
        clear hbD hbA
        go_region_law (first
          | (refine step_appQ rfl (.tmp 55) (.tmp 62) rfl base (.slice a F.length cap) F (IntKind.i64.wrap ((qa F (ia l 0).toNat).1 + 1), l) (some ⟨w.heap.size, 0, none⟩) 4 WF.heap.size (by simp [Act.eval, Act.put]) HGA.out (by simp [Act.eval, Act.put]) (by rw [HQF.out]; exact heap_alloc_new _ _) HKA.out (by rw [HLL.out]; omega) (by intro h; cases h) (by omega) (Nat.le_trans HBS.out HBA.out.size) ?_
             intro v7 w7 hG7 hg7 _
             have HG7 := hid hG7
             obtain ⟨a7, c7, rfl, _⟩ := hG7.form
             rw [HLE.out] at HG7
             have r7 := HRA.out.of_block (hg7.block _ HRA.out.lt (HGA.out.ne_row HRA.out (by decide)))
             have q1 := r7.cell (i := 0) (by omega)
             simp only [if_true] at q1
             have q2 := r7.frozen 0
             have R7 := hid r7
             have HG7g := hid hg7
             clear r7 hG7 hg7)
          | (go_simp; go_at_call 90; refine HLV.out.mono ?_; rintro e w' ⟨rfl, rfl⟩; dsimp only))
        all_goals
          rw [hWR.out] at HG7 HLE
          have SF8 := hid (sjoin_done HG7.out R7.out (by rw [HLE.out]) HLP.out)
          have B8 := hid (((HWF.out.trans (HBA.out.mono HBS.out)).grown HG7g.out (Nat.le_trans HBS.out HBA.out.size) (fun k e => (HGA.out.lt k e).1)).setCell (p := ⟨p, 0, none⟩) HLP.out (.slice a7 (F.length + 1) c7))
          have EL8 : Hid (Else w (w7.setCell ⟨p, 0, none⟩ (.slice a7 (F.length + 1) c7)) p (.slice a F.length cap)) := by
            intro k h1 h2 h3
            have e1 := HELF.out k h1 h2 h3
            have hk1 : k < WF.heap.size := Nat.lt_of_lt_of_le h1 HWF.out.size
            have e2 := HBA.out.block k hk1
            have e3 := HG7g.out.block k (Nat.lt_of_lt_of_le hk1 HBA.out.size) h3
            exact (Below.heap_setCell w7 ⟨p, 0, none⟩ _ k h2).trans (e3.trans (e2.trans e1))
          have y0 := SF8.out.c0
          clear HG7 R7 HG7g q1 q2
          generalize w7.setCell ⟨p, 0, none⟩ (.slice a7 (F.length + 1) c7) = W8 at *
          go_wp2_with fail
          go_ret
          rw [HJ.out]
          exact ⟨_, rfl, SF8.out, B8.out, EL8.out⟩
      · have d4 : ¬ (400 : Int) ≤ (F.length : Int) := by omega
        have HGF := hid SW.out.gf
        have HRW : Hid (wr.rowIs p 72 2 (fun j => if j = 0 then .slice a F.length cap else .bool (decide (400 < F.length + 1)))) := by
          refine SW.out.box.congr fun j hj => ?_
          rcases (show j = 0 ∨ j = 1 by omega) with rfl | rfl
          · simp
          · simp; omega
        have HKF := hid HKW.out
        have HBF := hid (HBW.out.mono hbase)
        have HELF : Hid (Else w wr p (.slice a F.length cap)) := fun k h1 h2 h3 => HBWE.out k h1
        clear HBW HBWE SW HKW
        go_wp2_with fail
        clear e0 e1 f1
        generalize hWF : wr = WF at *
        clear hWF
        have HWF := hid HBF.out
        have c0 := HRW.out.cell (i := 0) (by omega)
        simp only [if_true] at c0
        have lp := HRW.out.lt
        have hbD := (Below.refl WF.heap.size WF).drew
        have HGD := hid (HGF.out.below hbD)
        have HLV := hid (c_level (p := p) (ia l 0) WF.drew HGD.out (by simpa using c0) hi0 hi1)
        have hbA := ((Below.refl WF.heap.size WF).alloc (Nat.le_refl _) (.cells #[.int .i64 (IntKind.i64.wrap ((qa F (ia l 0).toNat).1 + 1)), .slice (some ⟨w.heap.size, 0, none⟩) 4 4] 85)).drew
        have HGA := hid (HGF.out.below hbA)
        have HKA := hid (HKF.out.below hbA)
        have HRA := hid (HRW.out.of_block (hbA.block _ lp))
        have HBA := hid hbA
        have ca := HRA.out.cell (i := 0) (by omega)
        simp only [if_true] at ca
        have HQF : Hid (qf (IntKind.i64.wrap ((qa F (ia l 0).toNat).1 + 1), l) (some ⟨w.heap.size, 0, none⟩, 4) = [.int .i64 (IntKind.i64.wrap ((qa F (ia l 0).toNat).1 + 1)), .slice (some ⟨w.heap.size, 0, none⟩) 4 4]) := by simp [Hid, qf, HLL.out]
        have HBS := hid (show base ≤ WF.heap.size from Nat.le_trans hbase HWF.out.size)
        have HLE := hid (show (F ++ [(IntKind.i64.wrap ((qa F (ia l 0).toNat).1 + 1), l)]).length = F.length + 1 by simp)
        clear hbD hbA
        go_region_law (first
          | (refine step_appQ rfl (.tmp 55) (.tmp 62) rfl base (.slice a F.length cap) F (IntKind.i64.wrap ((qa F (ia l 0).toNat).1 + 1), l) (some ⟨w.heap.size, 0, none⟩) 4 WF.heap.size (by simp [Act.eval, Act.put]) HGA.out (by simp [Act.eval, Act.put]) (by rw [HQF.out]; exact heap_alloc_new _ _) HKA.out (by rw [HLL.out]; omega) (by intro h; cases h) (by omega) (Nat.le_trans HBS.out HBA.out.size) ?_
             intro v7 w7 hG7 hg7 _
             have HG7 := hid hG7
             obtain ⟨a7, c7, rfl, _⟩ := hG7.form
             rw [HLE.out] at HG7
             have r7 := HRA.out.of_block (hg7.block _ HRA.out.lt (HGA.out.ne_row HRA.out (by decide)))
             have q1 := r7.cell (i := 0) (by omega)
             simp only [if_true] at q1
             have q2 := r7.frozen 0
             have R7 := hid r7
             have HG7g := hid hg7
             clear r7 hG7 hg7)
          | (go_simp; go_at_call 90; refine HLV.out.mono ?_; rintro e w' ⟨rfl, rfl⟩; dsimp only))
        all_goals
          rw [hWR.out] at HG7 HLE
          have SF8 := hid (sjoin_done HG7.out R7.out (by rw [HLE.out]) HLP.out)
          have B8 := hid (((HWF.out.trans (HBA.out.mono HBS.out)).grown HG7g.out (Nat.le_trans HBS.out HBA.out.size) (fun k e => (HGA.out.lt k e).1)).setCell (p := ⟨p, 0, none⟩) HLP.out (.slice a7 (F.length + 1) c7))
          have EL8 : Hid (Else w (w7.setCell ⟨p, 0, none⟩ (.slice a7 (F.length + 1) c7)) p (.slice a F.length cap)) := by
            intro k h1 h2 h3
            have e1 := HELF.out k h1 h2 h3
            have hk1 : k < WF.heap.size := Nat.lt_of_lt_of_le h1 HWF.out.size
            have e2 := HBA.out.block k hk1
            have e3 := HG7g.out.block k (Nat.lt_of_lt_of_le hk1 HBA.out.size) h3
            exact (Below.heap_setCell w7 ⟨p, 0, none⟩ _ k h2).trans (e3.trans (e2.trans e1))
          have y0 := SF8.out.c0
          clear HG7 R7 HG7g q1 q2
          generalize w7.setCell ⟨p, 0, none⟩ (.slice a7 (F.length + 1) c7) = W8 at *
          go_wp2_with fail
          go_ret
          rw [HJ.out]
          exact ⟨_, rfl, SF8.out, B8.out, EL8.out⟩

end Go.Proofs.Ytnabgfbempkgnaa
