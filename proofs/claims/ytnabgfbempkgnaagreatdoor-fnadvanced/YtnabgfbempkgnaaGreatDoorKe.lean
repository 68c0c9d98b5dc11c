/- Texts of this seat, one behind the other: SJoin, STree, STreeE, AnsP, STof, IFor, Near, ITree, ITof, TrP. -/
import Derived.Test.YtnabgfbempkgnaaGreatDoorSOwn
import Derived.Test.YtnabgfbempkgnaaGreatDoorKd
import Derived.Test.YtnabgfbempkgnaaGreatDoorKa
import Derived.Test.YtnabgfbempkgnaaGreatDoorKc
import Derived.Test.YtnabgfbempkgnaaGreatDoorGroveM
namespace Go.Proofs.YtnabgfbempkgnaaGreatDoor
open Go.RowKit
set_option linter.unusedVariables false
set_option linter.unusedSimpArgs false
attribute [local go_sem ↓] Go.wp_at_zero Go.wp_at_succ

/-- The specification's forest: its box is block p, its quads the slice v. -/
structure SF (w : World) (base p : Nat) (v : Value) (F : List Qd) (gg : Option Nat := none) : Prop where
  gf : GF w base v F gg
  box : w.rowIs p 64 2 (fun j => if j = 0 then v else .bool (decide (400 < F.length)))
  low : base ≤ p
theorem SF.below {gg : Option Nat} {w w' : World} {base p : Nat} {v : Value} {F : List Qd} (h : SF w base p v F gg) (hb : Below w.heap.size w w') : SF w' base p v F gg :=
  ⟨h.gf.below hb, h.box.of_block (hb.block _ h.box.lt), h.low⟩
theorem SF.c0 {gg : Option Nat} {w : World} {base p : Nat} {v : Value} {F : List Qd} (h : SF w base p v F gg) : w.cell? ⟨p, 0, none⟩ = some v := by
  have := h.box.cell (i := 0) (by omega); simpa using this
theorem SF.c1 {gg : Option Nat} {w : World} {base p : Nat} {v : Value} {F : List Qd} (h : SF w base p v F gg) : w.cell? ⟨p, 1, none⟩ = some (.bool (decide (400 < F.length))) := by
  have := h.box.cell (i := 1) (by omega); simpa using this

set_option maxHeartbeats 400000 in
theorem c_level {gg : Option Nat} (q : Int) (w : World) {base p : Nat} {a : Option Addr} {n cap : Nat} {F : List Qd} (hg : GF w base (.slice a n cap) F gg) (c0 : w.cell? ⟨p, 0, none⟩ = some (.slice a n cap)) (h0 : 0 ≤ q) (h1 : q < (F.length : Int)) :
    Calls Tryz.prog 84 #[.pointer (some ⟨p, 0, none⟩), .int .i64 q] w fun e w' => e = .returned (.int .i64 (qa F q.toNat).1) ∧ w' = w := by
  obtain ⟨a', cap', e, _, _, hs⟩ := hg.form
  simp only [Value.slice.injEq] at e
  obtain ⟨rfl, rfl, rfl⟩ := e
  obtain ⟨b1, o1, ak, ck, rfl, hb1, p1, _⟩ := hs q.toNat (by omega)
  clear hs hg
  go_enter Tryz.func84, Tryz.ntmps84
  go_wp2
  go_ret
  exact ⟨rfl, rfl⟩

/-- What a joining leaves of all else. -/
def Else (w w' : World) (p : Nat) (v : Value) : Prop := ∀ k, k < w.heap.size → k ≠ p → some k ≠ v.ownBlock → w'.heap[k]? = w.heap[k]?

/-- The kids, in the block that was made for them. -/
theorem kids_new {gg : Option Nat} {w : World} {base : Nat} {l : List Int} (hl : l.length = 4) (hb : base ≤ w.heap.size) (hgl : ∀ x, gg = some x → x < w.heap.size) : KidAt (w.alloc (.cells #[.int .i64 (ia l 0), .int .i64 (ia l 1), .int .i64 (ia l 2), .int .i64 (ia l 3)] 3)) base (some ⟨w.heap.size, 0, none⟩) l gg := by
  intro j hj
  refine ⟨w.heap.size, 0, _, _, rfl, ⟨hb, fun e => absurd (hgl _ e.symm) (Nat.lt_irrefl _)⟩, heap_alloc_new _ _, ?_⟩
  unfold World.cell?
  rw [heap_alloc_new]
  rcases (show j = 0 ∨ j = 1 ∨ j = 2 ∨ j = 3 by omega) with rfl | rfl | rfl | rfl <;> rfl

theorem findF_step_no {F : List Qd} {l : List Int} {k : Nat} (h : findF F l k = none) (h2 : ¬ (2 ≤ k ∧ (qa F k).2 = l)) : findF F l (k + 1) = none := by
  simp only [findF, h]; rw [if_neg h2]
theorem findF_step_yes {F : List Qd} {l : List Int} {k : Nat} (h : findF F l k = none) (h2 : 2 ≤ k) (h3 : (qa F k).2 = l) : findF F l (k + 1) = some k := by
  simp only [findF, h]; rw [if_pos ⟨h2, h3⟩]
theorem findF_more {F : List Qd} {l : List Int} {k i : Nat} (h : findF F l k = some i) : ∀ n, k ≤ n → findF F l n = some i := by
  intro n hn
  induction n with
  | zero => have : k = 0 := by omega
            subst this; exact h
  | succ n ih =>
    by_cases e : k = n + 1
    · rw [← e]; exact h
    · simp only [findF, ih (by omega)]

theorem sjoin_done {gg : Option Nat} {w7 : World} {base p : Nat} {v v7 : Value} {F : List Qd} {b : Bool} (hg : GF w7 base v7 F gg) (r : w7.rowIs p 64 2 (fun j => if j = 0 then v else .bool b)) (hb : b = decide (400 < F.length)) (hl : base ≤ p) : SF (w7.setCell ⟨p, 0, none⟩ v7) base p v7 F gg := by
  refine ⟨hg.setRow r (by decide) (by decide) v7, (r.set 0 v7).congr fun j hj => ?_, hl⟩
  rcases (show j = 0 ∨ j = 1 by omega) with rfl | rfl
  · simp
  · simp [hb]

set_option maxHeartbeats 8000000 in
set_option maxRecDepth 100000 in
theorem c_sjoin {gg : Option Nat} (l : List Int) (hl : l.length = 4) (w : World) {base p : Nat} {v : Value} {F : List Qd} (h : SF w base p v F gg) (hF : F.length ≤ 100000) (hk : KidsLe F) (hi0 : 0 ≤ ia l 0) (hi1 : ia l 0 < (F.length : Int)) (hv0 : -1000 ≤ (qa F (ia l 0).toNat).1) (hv1 : (qa F (ia l 0).toNat).1 ≤ 1000) (hgl : ∀ x, gg = some x → x < w.heap.size := by intro x h; cases h) :
    Calls Tryz.prog 58 #[.pointer (some ⟨p, 0, none⟩), .int .i64 (ia l 0), .int .i64 (ia l 1), .int .i64 (ia l 2), .int .i64 (ia l 3)] w fun e w' => ∃ v', e = .returned (.int .i64 ((joinF F l).2 : Int)) ∧ SF w' base p v' (joinF F l).1 gg ∧ Below base w w' ∧ Else w w' p v := by
  obtain ⟨a, cap, rfl, hcap, hcm, hQ⟩ := h.gf.form
  have hbase : base ≤ w.heap.size := Nat.le_trans h.low (Nat.le_of_lt h.box.lt)
  have hb1 := (Below.refl w.heap.size w).alloc (Nat.le_refl _) (.cells #[.int .i64 (ia l 0), .int .i64 (ia l 1), .int .i64 (ia l 2), .int .i64 (ia l 3)] 3)
  have H1 := hid (h.below hb1)
  have HK1 := hid (kids_new hl hbase hgl)
  have HB1 := hid hb1
  have HQ1 := hid (hQ.below hb1)
  have HLL := hid hl
  have HPL := hid h.box.lt
  have c0 := H1.out.c0
  clear h hQ hb1 hl
  go_enter Tryz.func58, Tryz.ntmps58
  go_wp2
  generalize w.alloc (.cells #[.int .i64 (ia l 0), .int .i64 (ia l 1), .int .i64 (ia l 2), .int .i64 (ia l 3)] 3) = W1 at *
  go_loopw [25] (fun i wr => ∃ k : Nat, k ≤ F.length ∧ i = .int .i64 k ∧ Hid (findF F l k = none) ∧ Hid (Below W1.heap.size W1 wr)) (fun i _ => F.length - (intOf i).toNat)
  case atStart => exact ⟨0, Nat.zero_le _, rfl, (rfl : _ = _), Below.refl _ _⟩
  case round =>
    clear c0
    obtain ⟨k, hkk, rfl, HN, HB⟩ := hrel
    by_cases hlt : k < F.length
    · obtain ⟨b1, o1, ak, ck, rfl, hb1, p1, p2, p3, p4⟩ := HQ1.out k hlt
      have g1 := (HB.out.cell (p := ⟨b1, o1 + k * 2, none⟩) hb1).trans p1
      have g2 := (HB.out.cell (p := ⟨b1, o1 + k * 2 + 1, none⟩) hb1).trans p2
      have hb4 := (Below.refl wr.heap.size wr).alloc (Nat.le_refl _) (.cells #[.int .i64 (qa F k).1, .slice ak (qa F k).2.length ck] 95)
      have HB4 := hid (HB.out.trans (hb4.mono HB.out.size))
      have P3 := hid (p3.below HB4.out)
      have K3 := hid (HK1.out.seg.below HB4.out)
      have k0 : (0 : Int) ≤ (k : Int) := by omega
      have k1 : (k : Int) < (F.length : Int) := by omega
      have hkl := hk k hlt
      have HNO := hid (fun h => findF_step_no (l := l) HN.out h)
      have HYE := hid (fun (h : 2 ≤ k) h' => findF_more (findF_step_yes HN.out h h') F.length (by omega))
      clear p1 p2 p3 p4 hb4
      by_cases h2 : 2 ≤ k
      · have d2 : decide ((k : Int) > 1) = true := decide_eq_true (by omega)
        have d2' : decide (1 < (k : Int)) = true := decide_eq_true (by omega)
        have HC := hid (c_l3Same' ak (some ⟨w.heap.size, 0, none⟩) (qa F k).2 l ck 4)
        rw [HLL.out] at HC
        cases hs : decide ((qa F k).2 = l)
        · have HV := hid (HNO.out (fun h => by simp at hs; exact hs h.2))
          have HC' := hid (HC.out false hs _ P3.out K3.out hkl (by omega))
          clear HC HNO HYE hs
          generalize qa F k = q at *
          go_wp2_with fail
          refine HC'.out.mono ?_
          rintro e w5 ⟨rfl, hb5⟩
          have HB5 := hid (HB4.out.trans (hb5.mono HB4.out.size))
          clear HC' hb5
          go_wp2_with fail
          go_roundw
          case rel => exact ⟨k + 1, by omega, by go_num, HV.out, HB5.out⟩
          case measure => simp [intOf]; omega
        · have HV := hid (HYE.out h2 (by simpa using hs))
          have HC' := hid (HC.out true hs _ P3.out K3.out hkl (by omega))
          clear HC HNO HYE hs
          generalize qa F k = q at *
          go_wp2_with fail
          refine HC'.out.mono ?_
          rintro e w5 ⟨rfl, hb5⟩
          have HB5 := hid (HB4.out.trans (hb5.mono HB4.out.size))
          have HBW := hid (HB1.out.trans (HB5.out.mono HB1.out.size))
          clear HC' hb5
          go_wp2_with fail
          go_ret
          have hj : joinF F l = (F, k) := by unfold joinF; rw [HV.out]
          rw [hj]
          exact ⟨_, rfl, H1.out.below HB5.out, HBW.out.mono hbase, fun i hi _ _ => HBW.out.block i hi⟩
      · have d2 : decide ((k : Int) > 1) = false := decide_eq_false (by omega)
        have d2' : decide (1 < (k : Int)) = false := decide_eq_false (by omega)
        have HV := hid (HNO.out (fun h => h2 h.1))
        clear HNO HYE
        generalize qa F k = q at *
        go_wp2_with fail
        go_roundw
        case rel => exact ⟨k + 1, by omega, by go_num, HV.out, HB4.out⟩
        case measure => simp [intOf]; omega
    · obtain rfl : k = F.length := by omega
      have HJ := hid (show joinF F l = (F ++ [((qa F (ia l 0).toNat).1 + 1, l)], F.length) by unfold joinF; rw [HN.out])
      have SW := hid (H1.out.below HB.out)
      have HKW := hid (HK1.out.below HB.out)
      have HBW := hid (HB1.out.trans (HB.out.mono HB1.out.size))
      have hWR : Hid (IntKind.i64.wrap ((qa F (ia l 0).toNat).1 + 1) = (qa F (ia l 0).toNat).1 + 1) := by show _ = _; rw [IntKind.wrap_i64]; omega
      have e0 := SW.out.c0
      have e1 := SW.out.c1
      have f1 := SW.out.box.frozen 1
      have HLP := hid SW.out.low
      have HBWE := hid (fun i (hi : i < w.heap.size) => HBW.out.block i hi)
      clear HN HB HQ1 HK1 H1
      by_cases h4 : 400 ≤ F.length
      · have d4 : (400 : Int) ≤ (F.length : Int) := by omega
        have HGF := hid (SW.out.gf.setRow (o := 1) SW.out.box (by decide) (by decide) (.bool true))
        have HRW : Hid ((wr.setCell ⟨p, 1, none⟩ (.bool true)).rowIs p 64 2 (fun j => if j = 0 then .slice a F.length cap else .bool (decide (400 < F.length + 1)))) := by
          refine (SW.out.box.set 1 (.bool true)).congr fun j hj => ?_
          rcases (show j = 0 ∨ j = 1 by omega) with rfl | rfl
          · simp
          · simp; omega
        have HKF := hid (HKW.out.kept (w' := wr.setCell ⟨p, 1, none⟩ (.bool true)) fun b c f hb => Below.heap_setCell wr ⟨p, 1, none⟩ (.bool true) b (by
          intro e
          dsimp only at e
          subst e
          obtain ⟨cc, hcc, _⟩ := SW.out.box
          rw [hb] at hcc
          simp at hcc))
        have HBF := hid ((HBW.out.mono hbase).setCell (p := ⟨p, 1, none⟩) SW.out.low (.bool true))
        have HELF : Hid (Else w (wr.setCell ⟨p, 1, none⟩ (.bool true)) p (.slice a F.length cap)) := fun k h1 h2 h3 => (Below.heap_setCell wr ⟨p, 1, none⟩ (.bool true) k h2).trans (HBWE.out k h1)
        clear HBW HBWE SW HKW
        go_wp2_with fail
        clear e0 e1 f1
        generalize wr.setCell ⟨p, 1, none⟩ (.bool true) = WF at *
        have HWF := hid HBF.out
        have c0 := HRW.out.cell (i := 0) (by omega)
        simp only [if_true] at c0
        have lp := HRW.out.lt
        have hbD := (Below.refl WF.heap.size WF).drew
        have HGD := hid (HGF.out.below hbD)
        have HLV := hid (c_level (p := p) (ia l 0) WF.drew HGD.out (by simpa using c0) hi0 hi1)
        have hbA := ((Below.refl WF.heap.size WF).alloc (Nat.le_refl _) (.cells #[.int .i64 (IntKind.i64.wrap ((qa F (ia l 0).toNat).1 + 1)), .slice (some ⟨w.heap.size, 0, none⟩) 4 4] 95)).drew
        have HGA := hid (HGF.out.below hbA)
        have HKA := hid (HKF.out.below hbA)
        have HRA := hid (HRW.out.of_block (hbA.block _ lp))
        have HBA := hid hbA
        have ca := HRA.out.cell (i := 0) (by omega)
        simp only [if_true] at ca
        have HQF : Hid (qf (IntKind.i64.wrap ((qa F (ia l 0).toNat).1 + 1), l) (some ⟨w.heap.size, 0, none⟩, 4) = [.int .i64 (IntKind.i64.wrap ((qa F (ia l 0).toNat).1 + 1)), .slice (some ⟨w.heap.size, 0, none⟩) 4 4]) := by simp [Hid, qf, HLL.out]
        have HBS := hid (show base ≤ WF.heap.size from Nat.le_trans hbase HWF.out.size)
        have HLE := hid (show (F ++ [(IntKind.i64.wrap ((qa F (ia l 0).toNat).1 + 1), l)]).length = F.length + 1 by simp)
        clear hbD hbA
        go_region_law (first
          | (refine step_appQ rfl (.tmp 55) (.tmp 62) rfl base (.slice a F.length cap) F (IntKind.i64.wrap ((qa F (ia l 0).toNat).1 + 1), l) (some ⟨w.heap.size, 0, none⟩) 4 WF.heap.size (by simp [Act.eval, Act.put]) HGA.out (by simp [Act.eval, Act.put]) (by rw [HQF.out]; exact heap_alloc_new _ _) HKA.out (by rw [HLL.out]; omega) (by intro h; cases h) (by omega) (Nat.le_trans HBS.out HBA.out.size) ?_
             intro v7 w7 hG7 hg7 _
             have HG7 := hid hG7
             obtain ⟨a7, c7, rfl, _⟩ := hG7.form
             rw [HLE.out] at HG7
             have r7 := HRA.out.of_block (hg7.block _ HRA.out.lt (HGA.out.ne_row HRA.out (by decide)))
             have q1 := r7.cell (i := 0) (by omega)
             simp only [if_true] at q1
             have q2 := r7.frozen 0
             have R7 := hid r7
             have HG7g := hid hg7
             clear r7 hG7 hg7)
          | (go_simp; go_at_call 84; refine HLV.out.mono ?_; rintro e w' ⟨rfl, rfl⟩; dsimp only))
        all_goals
          rw [hWR.out] at HG7 HLE
          have SF8 := hid (sjoin_done HG7.out R7.out (by rw [HLE.out]) HLP.out)
          have B8 := hid (((HWF.out.trans (HBA.out.mono HBS.out)).grown HG7g.out (Nat.le_trans HBS.out HBA.out.size) (fun k e => (HGA.out.lt k e).1)).setCell (p := ⟨p, 0, none⟩) HLP.out (.slice a7 (F.length + 1) c7))
          have EL8 : Hid (Else w (w7.setCell ⟨p, 0, none⟩ (.slice a7 (F.length + 1) c7)) p (.slice a F.length cap)) := by
            intro k h1 h2 h3
            have e1 := HELF.out k h1 h2 h3
            have hk1 : k < WF.heap.size := Nat.lt_of_lt_of_le h1 HWF.out.size
            have e2 := HBA.out.block k hk1
            have e3 := HG7g.out.block k (Nat.lt_of_lt_of_le hk1 HBA.out.size) h3
            exact (Below.heap_setCell w7 ⟨p, 0, none⟩ _ k h2).trans (e3.trans (e2.trans e1))
          have y0 := SF8.out.c0
          clear HG7 R7 HG7g q1 q2
          generalize w7.setCell ⟨p, 0, none⟩ (.slice a7 (F.length + 1) c7) = W8 at *
          go_wp2_with fail
          go_ret
          rw [HJ.out]
          exact ⟨_, rfl, SF8.out, B8.out, EL8.out⟩
      · have d4 : ¬ (400 : Int) ≤ (F.length : Int) := by omega
        have HGF := hid SW.out.gf
        have HRW : Hid (wr.rowIs p 64 2 (fun j => if j = 0 then .slice a F.length cap else .bool (decide (400 < F.length + 1)))) := by
          refine SW.out.box.congr fun j hj => ?_
          rcases (show j = 0 ∨ j = 1 by omega) with rfl | rfl
          · simp
          · simp; omega
        have HKF := hid HKW.out
        have HBF := hid (HBW.out.mono hbase)
        have HELF : Hid (Else w wr p (.slice a F.length cap)) := fun k h1 h2 h3 => HBWE.out k h1
        clear HBW HBWE SW HKW
        go_wp2_with fail
        clear e0 e1 f1
        generalize hWF : wr = WF at *
        clear hWF
        have HWF := hid HBF.out
        have c0 := HRW.out.cell (i := 0) (by omega)
        simp only [if_true] at c0
        have lp := HRW.out.lt
        have hbD := (Below.refl WF.heap.size WF).drew
        have HGD := hid (HGF.out.below hbD)
        have HLV := hid (c_level (p := p) (ia l 0) WF.drew HGD.out (by simpa using c0) hi0 hi1)
        have hbA := ((Below.refl WF.heap.size WF).alloc (Nat.le_refl _) (.cells #[.int .i64 (IntKind.i64.wrap ((qa F (ia l 0).toNat).1 + 1)), .slice (some ⟨w.heap.size, 0, none⟩) 4 4] 95)).drew
        have HGA := hid (HGF.out.below hbA)
        have HKA := hid (HKF.out.below hbA)
        have HRA := hid (HRW.out.of_block (hbA.block _ lp))
        have HBA := hid hbA
        have ca := HRA.out.cell (i := 0) (by omega)
        simp only [if_true] at ca
        have HQF : Hid (qf (IntKind.i64.wrap ((qa F (ia l 0).toNat).1 + 1), l) (some ⟨w.heap.size, 0, none⟩, 4) = [.int .i64 (IntKind.i64.wrap ((qa F (ia l 0).toNat).1 + 1)), .slice (some ⟨w.heap.size, 0, none⟩) 4 4]) := by simp [Hid, qf, HLL.out]
        have HBS := hid (show base ≤ WF.heap.size from Nat.le_trans hbase HWF.out.size)
        have HLE := hid (show (F ++ [(IntKind.i64.wrap ((qa F (ia l 0).toNat).1 + 1), l)]).length = F.length + 1 by simp)
        clear hbD hbA
        go_region_law (first
          | (refine step_appQ rfl (.tmp 55) (.tmp 62) rfl base (.slice a F.length cap) F (IntKind.i64.wrap ((qa F (ia l 0).toNat).1 + 1), l) (some ⟨w.heap.size, 0, none⟩) 4 WF.heap.size (by simp [Act.eval, Act.put]) HGA.out (by simp [Act.eval, Act.put]) (by rw [HQF.out]; exact heap_alloc_new _ _) HKA.out (by rw [HLL.out]; omega) (by intro h; cases h) (by omega) (Nat.le_trans HBS.out HBA.out.size) ?_
             intro v7 w7 hG7 hg7 _
             have HG7 := hid hG7
             obtain ⟨a7, c7, rfl, _⟩ := hG7.form
             rw [HLE.out] at HG7
             have r7 := HRA.out.of_block (hg7.block _ HRA.out.lt (HGA.out.ne_row HRA.out (by decide)))
             have q1 := r7.cell (i := 0) (by omega)
             simp only [if_true] at q1
             have q2 := r7.frozen 0
             have R7 := hid r7
             have HG7g := hid hg7
             clear r7 hG7 hg7)
          | (go_simp; go_at_call 84; refine HLV.out.mono ?_; rintro e w' ⟨rfl, rfl⟩; dsimp only))
        all_goals
          rw [hWR.out] at HG7 HLE
          have SF8 := hid (sjoin_done HG7.out R7.out (by rw [HLE.out]) HLP.out)
          have B8 := hid (((HWF.out.trans (HBA.out.mono HBS.out)).grown HG7g.out (Nat.le_trans HBS.out HBA.out.size) (fun k e => (HGA.out.lt k e).1)).setCell (p := ⟨p, 0, none⟩) HLP.out (.slice a7 (F.length + 1) c7))
          have EL8 : Hid (Else w (w7.setCell ⟨p, 0, none⟩ (.slice a7 (F.length + 1) c7)) p (.slice a F.length cap)) := by
            intro k h1 h2 h3
            have e1 := HELF.out k h1 h2 h3
            have hk1 : k < WF.heap.size := Nat.lt_of_lt_of_le h1 HWF.out.size
            have e2 := HBA.out.block k hk1
            have e3 := HG7g.out.block k (Nat.lt_of_lt_of_le hk1 HBA.out.size) h3
            exact (Below.heap_setCell w7 ⟨p, 0, none⟩ _ k h2).trans (e3.trans (e2.trans e1))
          have y0 := SF8.out.c0
          clear HG7 R7 HG7g q1 q2
          generalize w7.setCell ⟨p, 0, none⟩ (.slice a7 (F.length + 1) c7) = W8 at *
          go_wp2_with fail
          go_ret
          rw [HJ.out]
          exact ⟨_, rfl, SF8.out, B8.out, EL8.out⟩

end Go.Proofs.YtnabgfbempkgnaaGreatDoor

namespace Go.Proofs.YtnabgfbempkgnaaGreatDoor
open Go.RowKit
set_option linter.unusedVariables false
set_option linter.unusedSimpArgs false
attribute [local go_sem ↓] Go.wp_at_zero Go.wp_at_succ

/-- What is told of a forest: nothing, where it has outgrown. -/
def tellF (F : List Qd) : List Qd := if F.length ≤ 400 then F else []
def tellQ (F : List Qd) (q : Int) : Int := if F.length ≤ 400 then q else 0
def tellB (F : List Qd) : Bool := decide (F.length ≤ 400)

set_option maxHeartbeats 4000000 in
set_option maxRecDepth 100000 in
theorem c_stree (L : List Cl) (la : Option Addr) (lca : Nat) (W0 : World) (hL : Seg W0 la L) (hLl : L.length ≤ 1048576) (base p : Nat) (hb0 : W0.heap.size ≤ base) : ∀ (n : Nat) (x y : Int) (v : Value) (F : List Qd) (w : World),
    n ≤ 5 → Grows F → F.length + 4 ^ n ≤ 10000 → -100000 ≤ x → x + 2 ^ n ≤ 100000 → -100000 ≤ y → y + 2 ^ n ≤ 100000 → SF w base p v F → Below W0.heap.size W0 w →
    Calls Tryz.prog 31 #[.pointer (some ⟨p, 0, none⟩), .int .i64 (n : Int), .int .i64 x, .int .i64 y, .slice la L.length lca] w fun e w' => ∃ v', e = .returned (.int .i64 ((treeL L n x y F).2 : Int)) ∧ SF w' base p v' (treeL L n x y F).1 ∧ Below base w w' := by
  intro n
  induction n with
  | zero =>
    intro x y v F w hn hGr hlen x0 x1 y0 y1 hS hB
    have HS := hid hS
    have HC := hid (c_l1Alive la L lca (x, y) w (hL.below hB) hLl)
    have hbs : base ≤ w.heap.size := Nat.le_trans hS.low (Nat.le_of_lt hS.box.lt)
    by_cases e : (x, y) ∈ L
    · rw [show decide ((x, y) ∈ L) = true by simp [e]] at HC
      have HV : Hid (treeL L 0 x y F = (F, 1)) := by simp [Hid, treeL, e]
      clear hS hB e
      go_enter Tryz.func31, Tryz.ntmps31
      go_wp2_with fail
      refine HC.out.mono ?_
      rintro e w1 ⟨rfl, hb⟩
      go_wp2_with fail
      go_ret
      rw [HV.out]
      exact ⟨_, rfl, HS.out.below hb, hb.mono hbs⟩
    · rw [show decide ((x, y) ∈ L) = false by simp [e]] at HC
      have HV : Hid (treeL L 0 x y F = (F, 0)) := by simp [Hid, treeL, e]
      clear hS hB e
      go_enter Tryz.func31, Tryz.ntmps31
      go_wp2_with fail
      refine HC.out.mono ?_
      rintro e w1 ⟨rfl, hb⟩
      go_wp2_with fail
      go_ret
      rw [HV.out]
      exact ⟨_, rfl, HS.out.below hb, hb.mono hbs⟩
  | succ n ih =>
    intro x y v F w hn hGr hlen x0 x1 y0 y1 hS hB
    have HIH := hid ih
    have HS := hid hS
    have HB := hid hB
    have hpos := pow_pos' n
    have hle : (2 : Int) ^ n ≤ 16 := by
      rcases (show n = 0 ∨ n = 1 ∨ n = 2 ∨ n = 3 ∨ n = 4 by omega) with rfl | rfl | rfl | rfl | rfl <;> decide
    have h4 : (4 : Nat) ^ (n + 1) = 4 * 4 ^ n := by rw [Nat.pow_succ]; omega
    rw [h4] at hlen
    rw [two_pow] at x1 y1
    have t0 := treeL_tr L n x y F (by omega) hGr
    have t1 := treeL_tr L n (x + 2 ^ n) y _ (by omega) t0.grows
    have t2 := treeL_tr L n x (y + 2 ^ n) _ (by omega) t1.grows
    have t3 := treeL_tr L n (x + 2 ^ n) (y + 2 ^ n) _ (by omega) t2.grows
    have HTJ := hid (tr_join (by omega) t0 t1 t2 t3)
    have HT0 := hid t0
    have HT1 := hid t1
    have HT2 := hid t2
    have HT3 := hid t3
    have HCL := hid (show treeL L (n + 1) x y F = joinF (treeL L n (x + 2 ^ n) (y + 2 ^ n) (treeL L n x (y + 2 ^ n) (treeL L n (x + 2 ^ n) y (treeL L n x y F).1).1).1).1 [((treeL L n x y F).2 : Int), ((treeL L n (x + 2 ^ n) y (treeL L n x y F).1).2 : Int), ((treeL L n x (y + 2 ^ n) (treeL L n (x + 2 ^ n) y (treeL L n x y F).1).1).2 : Int), ((treeL L n (x + 2 ^ n) (y + 2 ^ n) (treeL L n x (y + 2 ^ n) (treeL L n (x + 2 ^ n) y (treeL L n x y F).1).1).1).2 : Int)] from rfl)
    have l0 := t0.most
    have l1 := t1.most
    have l2 := t2.most
    have l3 := t3.most
    rw [HCL.out]
    have HQ := hid (⟨l0, l1, l2, l3, hlen⟩ : _ ∧ _ ∧ _ ∧ _ ∧ _)
    have HG0 := hid t0.grows
    have HG1 := hid t1.grows
    have HG2 := hid t2.grows
    have HG3 := hid t3.grows
    clear t0 t1 t2 t3 hS hB ih l0 l1 l2 l3 hlen h4 HCL HT0 HT1 HT2 HT3
    generalize hr0 : treeL L n x y F = r0 at *
    generalize hr1 : treeL L n (x + 2 ^ n) y r0.1 = r1 at *
    generalize hr2 : treeL L n x (y + 2 ^ n) r1.1 = r2 at *
    generalize hr3 : treeL L n (x + 2 ^ n) (y + 2 ^ n) r2.1 = r3 at *
    have HR0 := hid hr0
    have HR1 := hid hr1
    have HR2 := hid hr2
    have HR3 := hid hr3
    have HGF := hid hGr
    clear hr0 hr1 hr2 hr3 hGr
    have dn : ((n : Int) + 1 == 0) = false := by simp; omega
    rw [show ((n + 1 : Nat) : Int) = (n : Int) + 1 by omega]
    go_enter Tryz.func31, Tryz.ntmps31
    go_wp2_with fail
    have H0 := hid (HIH.out x y v F w (by omega) HGF.out (by have := HQ.out; omega) x0 (by omega) y0 (by omega) HS.out HB.out)
    rw [HR0.out] at H0
    refine H0.out.mono ?_
    rintro e w1 ⟨v1, rfl, hS1, hB1⟩
    have HS1 := hid hS1
    have HBA := hid hB1
    have HO1 := hid (show Below W0.heap.size W0 w1 from HB.out.trans (hB1.mono hb0 |>.mono (Nat.le_refl _)))
    clear H0 hS1 hB1
    go_wp2_with fail
    have H1 := hid (HIH.out (x + 2 ^ n) y v1 r0.1 w1 (by omega) HG0.out (by have := HQ.out; omega) (by omega) (by omega) y0 (by omega) HS1.out HO1.out)
    rw [HR1.out] at H1
    refine H1.out.mono ?_
    rintro e w2 ⟨v2, rfl, hS2, hB2⟩
    have HS2 := hid hS2
    replace HBA := hid (HBA.out.trans hB2)
    have HO2 := hid (show Below W0.heap.size W0 w2 from HO1.out.trans (hB2.mono hb0))
    clear H1 hS2 hB2
    go_wp2_with fail
    have H2 := hid (HIH.out x (y + 2 ^ n) v2 r1.1 w2 (by omega) HG1.out (by have := HQ.out; omega) x0 (by omega) (by omega) (by omega) HS2.out HO2.out)
    rw [HR2.out] at H2
    refine H2.out.mono ?_
    rintro e w3 ⟨v3, rfl, hS3, hB3⟩
    have HS3 := hid hS3
    replace HBA := hid (HBA.out.trans hB3)
    have HO3 := hid (show Below W0.heap.size W0 w3 from HO2.out.trans (hB3.mono hb0))
    clear H2 hS3 hB3
    go_wp2_with fail
    have H3 := hid (HIH.out (x + 2 ^ n) (y + 2 ^ n) v3 r2.1 w3 (by omega) HG2.out (by have := HQ.out; omega) (by omega) (by omega) (by omega) (by omega) HS3.out HO3.out)
    rw [HR3.out] at H3
    refine H3.out.mono ?_
    rintro e w4 ⟨v4, rfl, hS4, hB4⟩
    have HS4 := hid hS4
    replace HBA := hid (HBA.out.trans hB4)
    clear H3 hS4 hB4
    have hkk := HTJ.out.2.1 0 (by omega)
    have HJ := hid (c_sjoin [(r0.2 : Int), (r1.2 : Int), (r2.2 : Int), (r3.2 : Int)] rfl w4 HS4.out (by have := HQ.out; omega) HG3.out.kidsLe hkk.1 hkk.2 (by rw [HTJ.out.2.2]; omega) (by rw [HTJ.out.2.2]; omega))
    clear hkk
    go_wp2_with fail
    refine HJ.out.mono ?_
    rintro e w5 ⟨v5, rfl, hS5, hB5, _⟩
    have HS5 := hid hS5
    replace HBA := hid (HBA.out.trans hB5)
    clear HJ hS5 hB5
    go_wp2_with fail
    go_ret
    exact ⟨_, rfl, HS5.out, HBA.out⟩

end Go.Proofs.YtnabgfbempkgnaaGreatDoor

namespace Go.Proofs.YtnabgfbempkgnaaGreatDoor
open Go.RowKit
set_option linter.unusedVariables false
set_option linter.unusedSimpArgs false
attribute [local go_sem ↓] Go.wp_at_zero Go.wp_at_succ

/-- All but forests that grow stays as it is. -/
def KeepT (w w' : World) : Prop := w.heap.size ≤ w'.heap.size ∧ ∀ (k : Nat) (c : Array Value) (t : TypeId) (fr : Nat × Nat), w.heap[k]? = some (Obj.cells c t fr) → t ≠ 64 → t ≠ 95 → w'.heap[k]? = w.heap[k]?
theorem KeepT.trans {a b c : World} (h : KeepT a b) (k : KeepT b c) : KeepT a c := ⟨Nat.le_trans h.1 k.1, fun i d t fr hi h1 h2 => (k.2 i d t fr ((h.2 i d t fr hi h1 h2).trans hi) h1 h2).trans (h.2 i d t fr hi h1 h2)⟩
theorem KeepT.of {w w' : World} (h : Below w.heap.size w w') : KeepT w w' := ⟨h.size, fun k c t fr hk _ _ => h.block k (lt_of_blk hk)⟩
theorem KeepT.else {gg : Option Nat} {w w' : World} {base p : Nat} {v : Value} {F : List Qd} (hS : SF w base p v F gg) (hE : Else w w' p v) (hs : w.heap.size ≤ w'.heap.size) : KeepT w w' := by
  refine ⟨hs, fun k c t fr hk t1 t2 => hE k (lt_of_blk hk) ?_ ?_⟩
  · rintro rfl
    obtain ⟨c2, h2, _⟩ := hS.box
    rw [hk] at h2
    simp only [Option.some.injEq, Obj.cells.injEq] at h2
    exact t1 h2.2.1
  · intro e
    obtain ⟨cur, h2⟩ := hS.gf.type e.symm
    rw [hk] at h2
    simp only [Option.some.injEq, Obj.cells.injEq] at h2
    exact t2 h2.2.1
/-- Cells in a block of cells. -/
def TyS (w : World) (a : Option Addr) (l : List Cl) : Prop := Seg w a l ∧ ∀ g o, a = some ⟨g, o, none⟩ → ∃ c fr, w.heap[g]? = some (.cells c 51 fr)
theorem TyS.keep {w w' : World} {a : Option Addr} {l : List Cl} (h : TyS w a l) (k : KeepT w w') : TyS w' a l := by
  refine ⟨fun i hi => ?_, fun g o e => ?_⟩
  · obtain ⟨b, o, e, hb, p1, p2⟩ := h.1 i hi
    obtain ⟨c, fr, hc⟩ := h.2 b o e
    have hh := k.2 b c _ fr hc (by decide) (by decide)
    exact ⟨b, o, e, Nat.lt_of_lt_of_le hb k.1, (World.cell?_of_block (a := ⟨b, o + i * 2, none⟩) hh).trans p1, (World.cell?_of_block (a := ⟨b, o + i * 2 + 1, none⟩) hh).trans p2⟩
  · obtain ⟨c, fr, hc⟩ := h.2 g o e
    exact ⟨c, fr, (k.2 g c _ fr hc (by decide) (by decide)).trans hc⟩
theorem OwnS.tys {w : World} {base : Nat} {a : Option Addr} {n ca : Nat} {l : List Cl} (h : OwnS w base (.slice a n ca) l) : n = l.length ∧ TyS w a l := by
  obtain ⟨a', c', e, hs⟩ := h.form
  simp only [Value.slice.injEq] at e
  obtain ⟨rfl, rfl, rfl⟩ := e
  refine ⟨rfl, hs, fun g o e => ?_⟩
  rcases h.2 with ⟨e2, _⟩ | ⟨g2, cap, cur, e2, hb, hg, _⟩
  · simp only [Value.slice.injEq] at e2
    rw [e] at e2
    cases e2.1
  · simp only [Value.slice.injEq] at e2
    rw [e] at e2
    simp only [Option.some.injEq, Addr.mk.injEq, and_true] at e2
    obtain ⟨⟨rfl, rfl⟩, _⟩ := e2
    exact ⟨cur, _, hg⟩

set_option maxHeartbeats 4000000 in
set_option maxRecDepth 100000 in
theorem c_streeE (L : List Cl) (la : Option Addr) (lca : Nat) (hLl : L.length ≤ 1048576) (base p : Nat) {gg : Option Nat} : ∀ (n : Nat) (x y : Int) (v : Value) (F : List Qd) (w : World),
    n ≤ 5 → Grows F → F.length + 4 ^ n ≤ 10000 → -100000 ≤ x → x + 2 ^ n ≤ 100000 → -100000 ≤ y → y + 2 ^ n ≤ 100000 → SF w base p v F gg → TyS w la L → (∀ z, gg = some z → z < w.heap.size) →
    Calls Tryz.prog 31 #[.pointer (some ⟨p, 0, none⟩), .int .i64 (n : Int), .int .i64 x, .int .i64 y, .slice la L.length lca] w fun e w' => ∃ v', e = .returned (.int .i64 ((treeL L n x y F).2 : Int)) ∧ SF w' base p v' (treeL L n x y F).1 gg ∧ Below base w w' ∧ KeepT w w' := by
  intro n
  induction n with
  | zero =>
    intro x y v F w hn hGr hlen x0 x1 y0 y1 hS hB hgl
    have HS := hid hS
    have HC := hid (c_l1Alive la L lca (x, y) w hB.1 hLl)
    have hbs : base ≤ w.heap.size := Nat.le_trans hS.low (Nat.le_of_lt hS.box.lt)
    by_cases e : (x, y) ∈ L
    · rw [show decide ((x, y) ∈ L) = true by simp [e]] at HC
      have HV : Hid (treeL L 0 x y F = (F, 1)) := by simp [Hid, treeL, e]
      clear hS hB e
      go_enter Tryz.func31, Tryz.ntmps31
      go_wp2_with fail
      refine HC.out.mono ?_
      rintro e w1 ⟨rfl, hb⟩
      go_wp2_with fail
      go_ret
      rw [HV.out]
      exact ⟨_, rfl, HS.out.below hb, hb.mono hbs, KeepT.of hb⟩
    · rw [show decide ((x, y) ∈ L) = false by simp [e]] at HC
      have HV : Hid (treeL L 0 x y F = (F, 0)) := by simp [Hid, treeL, e]
      clear hS hB e
      go_enter Tryz.func31, Tryz.ntmps31
      go_wp2_with fail
      refine HC.out.mono ?_
      rintro e w1 ⟨rfl, hb⟩
      go_wp2_with fail
      go_ret
      rw [HV.out]
      exact ⟨_, rfl, HS.out.below hb, hb.mono hbs, KeepT.of hb⟩
  | succ n ih =>
    intro x y v F w hn hGr hlen x0 x1 y0 y1 hS hB hgl
    have HIH := hid ih
    have HS := hid hS
    have HB := hid hB
    have hpos := pow_pos' n
    have hle : (2 : Int) ^ n ≤ 16 := by
      rcases (show n = 0 ∨ n = 1 ∨ n = 2 ∨ n = 3 ∨ n = 4 by omega) with rfl | rfl | rfl | rfl | rfl <;> decide
    have h4 : (4 : Nat) ^ (n + 1) = 4 * 4 ^ n := by rw [Nat.pow_succ]; omega
    rw [h4] at hlen
    rw [two_pow] at x1 y1
    have t0 := treeL_tr L n x y F (by omega) hGr
    have t1 := treeL_tr L n (x + 2 ^ n) y _ (by omega) t0.grows
    have t2 := treeL_tr L n x (y + 2 ^ n) _ (by omega) t1.grows
    have t3 := treeL_tr L n (x + 2 ^ n) (y + 2 ^ n) _ (by omega) t2.grows
    have HTJ := hid (tr_join (by omega) t0 t1 t2 t3)
    have HT0 := hid t0
    have HT1 := hid t1
    have HT2 := hid t2
    have HT3 := hid t3
    have HCL := hid (show treeL L (n + 1) x y F = joinF (treeL L n (x + 2 ^ n) (y + 2 ^ n) (treeL L n x (y + 2 ^ n) (treeL L n (x + 2 ^ n) y (treeL L n x y F).1).1).1).1 [((treeL L n x y F).2 : Int), ((treeL L n (x + 2 ^ n) y (treeL L n x y F).1).2 : Int), ((treeL L n x (y + 2 ^ n) (treeL L n (x + 2 ^ n) y (treeL L n x y F).1).1).2 : Int), ((treeL L n (x + 2 ^ n) (y + 2 ^ n) (treeL L n x (y + 2 ^ n) (treeL L n (x + 2 ^ n) y (treeL L n x y F).1).1).1).2 : Int)] from rfl)
    have l0 := t0.most
    have l1 := t1.most
    have l2 := t2.most
    have l3 := t3.most
    rw [HCL.out]
    have HQ := hid (⟨l0, l1, l2, l3, hlen⟩ : _ ∧ _ ∧ _ ∧ _ ∧ _)
    have HG0 := hid t0.grows
    have HG1 := hid t1.grows
    have HG2 := hid t2.grows
    have HG3 := hid t3.grows
    clear t0 t1 t2 t3 hS hB ih l0 l1 l2 l3 hlen h4 HCL HT0 HT1 HT2 HT3
    generalize hr0 : treeL L n x y F = r0 at *
    generalize hr1 : treeL L n (x + 2 ^ n) y r0.1 = r1 at *
    generalize hr2 : treeL L n x (y + 2 ^ n) r1.1 = r2 at *
    generalize hr3 : treeL L n (x + 2 ^ n) (y + 2 ^ n) r2.1 = r3 at *
    have HR0 := hid hr0
    have HR1 := hid hr1
    have HR2 := hid hr2
    have HR3 := hid hr3
    have HGF := hid hGr
    clear hr0 hr1 hr2 hr3 hGr
    have dn : ((n : Int) + 1 == 0) = false := by simp; omega
    rw [show ((n + 1 : Nat) : Int) = (n : Int) + 1 by omega]
    go_enter Tryz.func31, Tryz.ntmps31
    go_wp2_with fail
    have H0 := hid (HIH.out x y v F w (by omega) HGF.out (by have := HQ.out; omega) x0 (by omega) y0 (by omega) HS.out HB.out hgl)
    rw [HR0.out] at H0
    refine H0.out.mono ?_
    rintro e w1 ⟨v1, rfl, hS1, hB1, hK1⟩
    have HS1 := hid hS1
    have HBA := hid hB1
    have HKA := hid hK1
    have HO1 := hid (HB.out.keep hK1)
    clear H0 hS1 hB1 hK1
    go_wp2_with fail
    have H1 := hid (HIH.out (x + 2 ^ n) y v1 r0.1 w1 (by omega) HG0.out (by have := HQ.out; omega) (by omega) (by omega) y0 (by omega) HS1.out HO1.out (fun z hz => Nat.lt_of_lt_of_le (hgl z hz) HKA.out.1))
    rw [HR1.out] at H1
    refine H1.out.mono ?_
    rintro e w2 ⟨v2, rfl, hS2, hB2, hK2⟩
    have HS2 := hid hS2
    replace HBA := hid (HBA.out.trans hB2)
    have HO2 := hid (HO1.out.keep hK2)
    replace HKA := hid (HKA.out.trans hK2)
    clear H1 hS2 hB2 hK2
    go_wp2_with fail
    have H2 := hid (HIH.out x (y + 2 ^ n) v2 r1.1 w2 (by omega) HG1.out (by have := HQ.out; omega) x0 (by omega) (by omega) (by omega) HS2.out HO2.out (fun z hz => Nat.lt_of_lt_of_le (hgl z hz) HKA.out.1))
    rw [HR2.out] at H2
    refine H2.out.mono ?_
    rintro e w3 ⟨v3, rfl, hS3, hB3, hK3⟩
    have HS3 := hid hS3
    replace HBA := hid (HBA.out.trans hB3)
    have HO3 := hid (HO2.out.keep hK3)
    replace HKA := hid (HKA.out.trans hK3)
    clear H2 hS3 hB3 hK3
    go_wp2_with fail
    have H3 := hid (HIH.out (x + 2 ^ n) (y + 2 ^ n) v3 r2.1 w3 (by omega) HG2.out (by have := HQ.out; omega) (by omega) (by omega) (by omega) (by omega) HS3.out HO3.out (fun z hz => Nat.lt_of_lt_of_le (hgl z hz) HKA.out.1))
    rw [HR3.out] at H3
    refine H3.out.mono ?_
    rintro e w4 ⟨v4, rfl, hS4, hB4, hK4⟩
    have HS4 := hid hS4
    replace HBA := hid (HBA.out.trans hB4)
    replace HKA := hid (HKA.out.trans hK4)
    clear H3 hS4 hB4 hK4
    have hkk := HTJ.out.2.1 0 (by omega)
    have HJ := hid (c_sjoin [(r0.2 : Int), (r1.2 : Int), (r2.2 : Int), (r3.2 : Int)] rfl w4 HS4.out (by have := HQ.out; omega) HG3.out.kidsLe hkk.1 hkk.2 (by rw [HTJ.out.2.2]; omega) (by rw [HTJ.out.2.2]; omega) (fun z hz => Nat.lt_of_lt_of_le (hgl z hz) HKA.out.1))
    clear hkk
    go_wp2_with fail
    refine HJ.out.mono ?_
    rintro e w5 ⟨v5, rfl, hS5, hB5, hE5⟩
    have HS5 := hid hS5
    replace HBA := hid (HBA.out.trans hB5)
    replace HKA := hid (HKA.out.trans (KeepT.else HS4.out hE5 hB5.size))
    clear HJ hS5 hB5 hE5
    go_wp2_with fail
    go_ret
    exact ⟨_, rfl, HS5.out, HBA.out, HKA.out⟩

end Go.Proofs.YtnabgfbempkgnaaGreatDoor

namespace Go.Proofs.YtnabgfbempkgnaaGreatDoor
set_option linter.unusedVariables false

/-- What is answered where ok, of a forest and a quad. -/
def ansF (ok : Bool) (R : List Qd × Nat) : List Qd := if ok then tellF R.1 else []
def ansQ (ok : Bool) (R : List Qd × Nat) : Int := if ok then tellQ R.1 (R.2 : Int) else 0
def ansB (ok : Bool) (R : List Qd × Nat) : Bool := ok && tellB R.1
theorem ans_no (R : List Qd × Nat) : ansF false R = [] ∧ ansQ false R = 0 ∧ ansB false R = false := ⟨rfl, rfl, rfl⟩
theorem ans_yes (R : List Qd × Nat) : ansF true R = tellF R.1 ∧ ansQ true R = tellQ R.1 (R.2 : Int) ∧ ansB true R = tellB R.1 := ⟨rfl, rfl, rfl⟩
/-- Is there a quad of so great a level? -/
def quadB (F : List Qd) (q m : Int) : Bool := thereB F q && decide (m ≤ (qa F q.toNat).1)

end Go.Proofs.YtnabgfbempkgnaaGreatDoor

namespace Go.Proofs.YtnabgfbempkgnaaGreatDoor
open Go.RowKit
set_option linter.unusedVariables false
set_option linter.unusedSimpArgs false
attribute [local go_sem ↓] Go.wp_at_zero Go.wp_at_succ

/-- May a tree be made? -/
def tofOK (F : List Qd) (lv : Int) (L : List Cl) : Bool := goodF F && inB 0 5 lv && good L
def tofR (F : List Qd) (lv : Int) (L : List Cl) : List Qd × Nat := treeL L lv.toNat 0 0 F
def tofF (F : List Qd) (lv : Int) (L : List Cl) : List Qd := if tofOK F lv L then tellF (tofR F lv L).1 else []
def tofQ (F : List Qd) (lv : Int) (L : List Cl) : Int := if tofOK F lv L then tellQ (tofR F lv L).1 ((tofR F lv L).2 : Int) else 0
def tofB (F : List Qd) (lv : Int) (L : List Cl) : Bool := tofOK F lv L && tellB (tofR F lv L).1

end Go.Proofs.YtnabgfbempkgnaaGreatDoor

namespace Go.Proofs.YtnabgfbempkgnaaGreatDoor
open Go.RowKit Go.Maps
set_option linter.unusedVariables false
set_option linter.unusedSimpArgs false
attribute [local go_sem ↓] Go.wp_at_zero Go.wp_at_succ

set_option maxHeartbeats 1000000 in
set_option maxRecDepth 100000 in
theorem c_clone (b o : Nat) (l : List Int) (w : World) (h : ISeg w (some ⟨b, o, none⟩) l) (hl : l.length = 4) :
    Calls Tryz.prog 75 #[.slice (some ⟨b, o, none⟩) 4 4] w fun e w' => ∃ v, e = .returned v ∧ OwnI w' w.heap.size v l ∧ Below w.heap.size w w' := by
  have HB6 := hid ((Below.refl w.heap.size w).alloc (Nat.le_refl _) (.cells #[] 3))
  have HO6 := hid (slice_empty_int w)
  have HS6 := hid (h.below HB6.out)
  have HL := hid hl
  have hcmp : ∀ w : World, (binOp BinOp.eql 32 (.slice (some ⟨b, o, none⟩) 4 4) (.slice none 0 0)).run Tryz.prog w = .ok (.bool false) w := fun w => by kernel_rfl
  clear h hl
  go_enter Tryz.func75, Tryz.ntmps75
  go_wp2_with (at_builtin; refine wpList_appI rfl (.tmp 5) (.tmp 6) rfl w.heap.size _ [] l (some ⟨b, o, none⟩) 4 4 rfl HO6.out rfl HL.out HS6.out (by intro h; cases h) (by rw [HL.out]; simp) HB6.out.size ?_; intro v6 w6 hO6 hG6 _)
  go_ret
  exact ⟨_, rfl, by simpa using hO6, below_grownI HB6.out HO6.out hG6⟩

/-- What stands in a row of quads of which the first k are laid: the first two have no kids. -/
def bt (G : List Qd) (ks cs : Nat → Nat) (k j : Nat) : Value :=
  if j % 2 = 0 then .int .i64 (if j / 2 < k then (qa G (j / 2)).1 else 0) else (if 2 ≤ j / 2 ∧ j / 2 < k then .slice (some ⟨ks (j / 2), 0, none⟩) 4 (cs (j / 2)) else .slice none 0 0)
theorem bt_even (G : List Qd) (ks cs : Nat → Nat) (k i : Nat) : bt G ks cs k (i * 2) = .int .i64 (if i < k then (qa G i).1 else 0) := by simp [bt]
theorem bt_odd (G : List Qd) (ks cs : Nat → Nat) (k i : Nat) : bt G ks cs k (i * 2 + 1) = (if 2 ≤ i ∧ i < k then .slice (some ⟨ks i, 0, none⟩) 4 (cs i) else .slice none 0 0) := by
  have e1 : (i * 2 + 1) % 2 = 1 := by omega
  have e2 : (i * 2 + 1) / 2 = i := by omega
  simp [bt, e1, e2]
structure FBuild (w : World) (g : Nat) (ks cs : Nat → Nat) (G : List Qd) (k : Nat) : Prop where
  row : w.rowIs g 95 (G.length * 2) (bt G ks cs k)
  kid : ∀ i, 2 ≤ i → i < k → (∀ j, j < 4 → WC w (ks i) j (.int .i64 (ia (qa G i).2 j))) ∧ g < ks i ∧ 4 ≤ cs i ∧ ∀ j, 2 ≤ j → j < i → ks j < ks i
theorem fb_made (w : World) (G : List Qd) (ks cs : Nat → Nat) : FBuild (w.alloc (.cells (madeCells #[.int .i64 0, .slice none 0 0] (G.length * 2)) 95)) w.heap.size ks cs G 0 := by
  refine ⟨⟨_, heap_alloc_new _ _, size_madeCells _ _, fun i hi => ?_⟩, fun i _ h => by omega⟩
  have h2 : i % 2 = 0 ∨ i % 2 = 1 := by omega
  rcases h2 with h2 | h2 <;> simp [madeCells, hi, h2, bt]
theorem FBuild.below {w w' : World} {g : Nat} {ks cs : Nat → Nat} {G : List Qd} {k : Nat} (h : FBuild w g ks cs G k) (hb : Below w.heap.size w w') : FBuild w' g ks cs G k :=
  ⟨h.row.of_block (hb.block _ h.row.lt), fun i h2 hi => ⟨fun j hj => ((h.kid i h2 hi).1 j hj).of_block (hb.block _ ((h.kid i h2 hi).1 j hj).2.2) hb.size, (h.kid i h2 hi).2⟩⟩
/-- A level is laid. -/
theorem FBuild.lev {w : World} {g : Nat} {ks cs : Nat → Nat} {G : List Qd} {k : Nat} (h : FBuild w g ks cs G k) :
    (w.setCell ⟨g, k * 2, none⟩ (.int .i64 (qa G k).1)).rowIs g 95 (G.length * 2) (fun j => if j = k * 2 then .int .i64 (qa G k).1 else bt G ks cs k j) := h.row.set (k * 2) _
theorem bt_low {G : List Qd} {ks cs : Nat → Nat} {k : Nat} (hk : k < 2) (j : Nat) : (if j = k * 2 then .int .i64 (qa G k).1 else bt G ks cs k j) = bt G ks cs (k + 1) j := by
  rcases (show j = j / 2 * 2 ∨ j = j / 2 * 2 + 1 by omega) with e | e
  · rw [e, bt_even, bt_even]
    generalize j / 2 = i
    by_cases h1 : i = k
    · subst h1; rw [if_pos rfl, if_pos (by omega)]
    · rw [if_neg (by omega)]
      have : (i < k + 1) = (i < k) := by apply propext; omega
      simp [this]
  · rw [e, bt_odd, bt_odd]
    generalize j / 2 = i
    rw [if_neg (by omega)]
    by_cases h1 : 2 ≤ i ∧ i < k
    · omega
    · rw [if_neg h1, if_neg (by omega)]
theorem bt_high {G : List Qd} {ks cs : Nat → Nat} {k b c : Nat} (hk : 2 ≤ k) (j : Nat) : (if j = k * 2 + 1 then .slice (some ⟨b, 0, none⟩) 4 c else if j = k * 2 then .int .i64 (qa G k).1 else bt G ks cs k j) = bt G (fun i => if i = k then b else ks i) (fun i => if i = k then c else cs i) (k + 1) j := by
  rcases (show j = j / 2 * 2 ∨ j = j / 2 * 2 + 1 by omega) with e | e
  · rw [e, bt_even, bt_even]
    generalize j / 2 = i
    rw [if_neg (by omega)]
    by_cases h1 : i = k
    · subst h1; rw [if_pos rfl, if_pos (by omega)]
    · rw [if_neg (by omega)]
      have : (i < k + 1) = (i < k) := by apply propext; omega
      simp [this]
  · rw [e, bt_odd, bt_odd]
    generalize j / 2 = i
    by_cases h1 : i = k
    · subst h1
      rw [if_pos rfl, if_pos (by omega), if_pos rfl, if_pos rfl]
    · rw [if_neg (by omega), if_neg (by omega)]
      by_cases h2 : 2 ≤ i ∧ i < k
      · rw [if_pos h2, if_pos (by omega), if_neg h1, if_neg h1]
      · rw [if_neg h2, if_neg (by omega)]
theorem FBuild.stepLow {w : World} {g : Nat} {ks cs : Nat → Nat} {G : List Qd} {k : Nat} (h : FBuild w g ks cs G k) (hk : k < 2) : FBuild (w.setCell ⟨g, k * 2, none⟩ (.int .i64 (qa G k).1)) g ks cs G (k + 1) :=
  ⟨h.lev.congr fun j _ => bt_low hk j, fun i h2 hi => by omega⟩
theorem FBuild.stepHigh {w w5 : World} {g : Nat} {ks cs : Nat → Nat} {G : List Qd} {k b c : Nat} (h : FBuild w g ks cs G k) (hk : 2 ≤ k) (hb : Below w.heap.size (w.setCell ⟨g, k * 2, none⟩ (.int .i64 (qa G k).1)) w5) (hK : ∀ j, j < 4 → WC w5 b j (.int .i64 (ia (qa G k).2 j))) (hn : w.heap.size ≤ b) (hc : 4 ≤ c) :
    FBuild (w5.setCell ⟨g, k * 2 + 1, none⟩ (.slice (some ⟨b, 0, none⟩) 4 c)) g (fun i => if i = k then b else ks i) (fun i => if i = k then c else cs i) G (k + 1) := by
  have hs : w.heap.size = (w.setCell ⟨g, k * 2, none⟩ (.int .i64 (qa G k).1)).heap.size := by simp
  have hgl := h.row.lt
  have r := h.lev.of_block (hb.block _ hgl)
  refine ⟨(r.set (k * 2 + 1) _).congr fun j _ => bt_high hk j, fun i h2 hi => ?_⟩
  by_cases e : i = k
  · subst e
    rw [if_pos rfl, if_pos rfl]
    refine ⟨fun j hj => (hK j hj).other (.inl (by omega)) _, by omega, hc, fun j hj1 hj2 => ?_⟩
    rw [if_neg (by omega)]
    have := ((h.kid j hj1 hj2).1 0 (by omega)).2.2
    omega
  · have hi' : i < k := by omega
    obtain ⟨k1, k2, k3, k4⟩ := h.kid i h2 hi'
    rw [if_neg e, if_neg e]
    refine ⟨fun j hj => ?_, k2, k3, fun j hj1 hj2 => by rw [if_neg (by omega)]; exact k4 j hj1 hj2⟩
    have h1 := (k1 j hj).other (b' := g) (o' := k * 2) (.inl (by omega)) (.int .i64 (qa G k).1)
    have h2 := h1.of_block (hb.block _ (k1 j hj).2.2) hb.size
    exact h2.other (.inl (by omega)) _
theorem FBuild.mem {w : World} {g : Nat} {ks cs : Nat → Nat} {G : List Qd} (h : FBuild w g ks cs G G.length) (hG : Grows G) : FMem w g w.heap.size G.length g ks (nsF G) (lvF G) (kdF G) := by
  have low : ∀ i, i < G.length → nsF G i = if 2 ≤ i then 4 else 0 := by
    intro i hi
    unfold nsF
    by_cases h2 : 2 ≤ i
    · rw [if_pos h2]; exact hG.len i h2 hi
    · rw [if_neg h2, hG.low i (by omega)]; rfl
  refine ⟨⟨Nat.le_refl _, h.row.lt, Nat.le_refl _⟩, fun i hi => ?_, fun i hi => ?_, fun i hi j hj => ?_, fun i hi hn => ?_, fun i j hi hj hne h1 h2 => ?_⟩
  · have c0 := h.row.cell (i := i * 2) (by omega)
    rw [bt_even, if_pos hi] at c0
    exact ⟨c0, h.row.frozen _, h.row.lt⟩
  · have c1 := h.row.cell (i := i * 2 + 1) (by omega)
    rw [bt_odd] at c1
    rw [low i hi]
    by_cases h2 : 2 ≤ i
    · rw [if_pos ⟨h2, hi⟩] at c1
      rw [if_pos h2]
      exact ⟨_, _, c1, (h.kid i h2 hi).2.2.1, fun _ => rfl⟩
    · rw [if_neg (by omega)] at c1
      rw [if_neg h2]
      exact ⟨_, _, c1, Nat.le_refl _, fun h => by omega⟩
  · rw [low i hi] at hj
    split at hj
    · rename_i h2; exact (h.kid i h2 hi).1 j hj
    · omega
  · rw [low i hi] at hn
    split at hn
    · rename_i h2
      have := h.kid i h2 hi
      have h0 := (this.1 0 (by omega)).2.2
      omega
    · omega
  · rw [low i hi] at h1
    rw [low j hj] at h2
    split at h1
    · split at h2
      · rename_i a b
        rcases Nat.lt_or_gt_of_ne hne with h'' | h'
        · have := (h.kid j b hj).2.2.2 i a h''; omega
        · have := (h.kid i a hi).2.2.2 j b h'; omega
      · omega
    · omega

theorem node_kids {w : World} {B : Nat} {x : Int} {l : List Int} (hl : l.length = 4) (h : w.heap[B]? = some (.cells #[.int .i64 x, .int .i64 (ia l 0), .int .i64 (ia l 1), .int .i64 (ia l 2), .int .i64 (ia l 3)] 87)) : ISeg w (some ⟨B, 1, none⟩) l := by
  intro j hj
  refine ⟨B, 1, rfl, (Array.getElem?_eq_some_iff.1 h).1, ?_⟩
  unfold World.cell?
  rw [h]
  rcases (show j = 0 ∨ j = 1 ∨ j = 2 ∨ j = 3 by omega) with rfl | rfl | rfl | rfl <;> rfl
theorem OwnI.wc {w : World} {base : Nat} {v : Value} {l : List Int} (h : OwnI w base v l) (hl : l.length = 4) : ∃ b c, v = .slice (some ⟨b, 0, none⟩) 4 c ∧ base ≤ b ∧ 4 ≤ c ∧ ∀ j, j < 4 → WC w b j (.int .i64 (ia l j)) := by
  have h0 := h
  rcases h.2 with ⟨rfl, hn⟩ | ⟨g, cap, cur, rfl, hb, hg, hcap, hm, hs, ht⟩
  · omega
  · have hlt := (Array.getElem?_eq_some_iff.1 hg).1
    refine ⟨g, cap, by rw [hl], hb, by omega, fun j hj => ⟨?_, World.ownsRow.frozenAt h0 j, hlt⟩⟩
    have := World.ownsRow.cellAt h0 j (by omega)
    rw [iv_at (by omega)] at this
    exact this

set_option maxHeartbeats 2000000 in
set_option maxRecDepth 100000 in
theorem c_forest (w : World) {base p g cap mb : Nat} {G : List Qd} (h : Grv w base p g cap mb G) (hG : Grows G) (hlen : G.length ≤ 100000) :
    Calls Tryz.prog 51 #[.pointer (some ⟨p, 0, none⟩)] w fun e w' => e = .returned (.agg #[.slice (some ⟨w.heap.size + 1, 0, none⟩) G.length G.length]) ∧ FOwn w' w.heap.size w'.heap.size (.slice (some ⟨w.heap.size + 1, 0, none⟩) G.length G.length) G ∧ Below w.heap.size w w' := by
  have hmk := make_Quads G.length (by omega)
  have c0 := h.c0
  have hpl := h.box.lt
  have B1 := hid ((Below.refl w.heap.size w).alloc (Nat.le_refl _) (.cells #[.slice none 0 0] 56))
  have B2 := hid (B1.out.alloc (by simp) (.cells (madeCells #[.int .i64 0, .slice none 0 0] (G.length * 2)) 95))
  have F2 := fb_made (w.alloc (.cells #[.slice none 0 0] 56)) G (fun _ => 0) (fun _ => 0)
  rw [show (w.alloc (.cells #[.slice none 0 0] 56)).heap.size = w.heap.size + 1 by simp] at F2
  have FF2 := hid F2
  have HG := hid h
  clear h F2
  go_enter Tryz.func51, Tryz.ntmps51
  go_wp2_with fail
  go_loopw [17] (fun i wr => ∃ (k : Nat) (ks cs : Nat → Nat), k ≤ G.length ∧ i = .int .i64 k ∧ Hid (FBuild wr (w.heap.size + 1) ks cs G k) ∧ Hid (wr.rowIs w.heap.size 56 1 (fun _ => .slice none 0 0)) ∧ Hid (Below w.heap.size w wr)) (fun i _ => G.length - (intOf i).toNat)
  case atStart => exact ⟨0, _, _, by omega, rfl, FF2.out, ((one_row (heap_alloc_new _ _) : World.rowIs _ _ _ _ _).alloc _ : World.rowIs _ _ _ _ _), B2.out⟩
  case round =>
    clear FF2 B1 B2 hmk c0
    obtain ⟨k, ks, cs, hk, rfl, HF, HX, HB⟩ := hrel
    have HGw := hid (HG.out.below HB.out)
    by_cases hlt : k < G.length
    · have k0 : (0 : Int) ≤ (k : Int) := by omega
      have k1 : (k : Int) < (G.length : Int) := by omega
      have n0 := HGw.out.lev hlt
      have n1 := HGw.out.kidAt hlt (j := 0) (by omega)
      have n2 := HGw.out.kidAt hlt (j := 1) (by omega)
      have n3 := HGw.out.kidAt hlt (j := 2) (by omega)
      have n4 := HGw.out.kidAt hlt (j := 3) (by omega)
      rw [Nat.add_zero] at n1
      have hb4 := (Below.refl wr.heap.size wr).alloc (Nat.le_refl _) (.cells #[.int .i64 (qa G k).1, .int .i64 (ia (qa G k).2 0), .int .i64 (ia (qa G k).2 1), .int .i64 (ia (qa G k).2 2), .int .i64 (ia (qa G k).2 3)] 87)
      have HF4 := hid (HF.out.below hb4)
      have HX4 := hid (HX.out.alloc (.cells #[.int .i64 (qa G k).1, .int .i64 (ia (qa G k).2 0), .int .i64 (ia (qa G k).2 1), .int .i64 (ia (qa G k).2 2), .int .i64 (ia (qa G k).2 3)] 87))
      have HB4 := hid (HB.out.trans (hb4.mono HB.out.size))
      have HN4 := hid (heap_alloc_new wr (.cells #[.int .i64 (qa G k).1, .int .i64 (ia (qa G k).2 0), .int .i64 (ia (qa G k).2 1), .int .i64 (ia (qa G k).2 2), .int .i64 (ia (qa G k).2 3)] 87))
      have HZ4 := hid (show wr.heap.size < (wr.alloc (.cells #[.int .i64 (qa G k).1, .int .i64 (ia (qa G k).2 0), .int .i64 (ia (qa G k).2 1), .int .i64 (ia (qa G k).2 2), .int .i64 (ia (qa G k).2 3)] 87)).heap.size by simp)
      have hrl := HF.out.row.lt
      have r0 := HF.out.row.cell (i := k * 2) (by omega)
      have f0 := HF.out.row.frozen (k * 2)
      clear hb4
      by_cases h2 : k < 2
      · have hk2 : ¬ (2 : Int) ≤ (k : Int) := by omega
        have HF5 := hid ((HF.out.stepLow h2).below ((Below.refl _ _).alloc (Nat.le_refl _) (.cells #[.int .i64 (qa G k).1, .int .i64 (ia (qa G k).2 0), .int .i64 (ia (qa G k).2 1), .int .i64 (ia (qa G k).2 2), .int .i64 (ia (qa G k).2 3)] 87)))
        have HX5 := hid ((HX.out.setOther (a := ⟨w.heap.size + 1, k * 2, none⟩) (by dsimp only; omega) (.int .i64 (qa G k).1)).alloc (.cells #[.int .i64 (qa G k).1, .int .i64 (ia (qa G k).2 0), .int .i64 (ia (qa G k).2 1), .int .i64 (ia (qa G k).2 2), .int .i64 (ia (qa G k).2 3)] 87))
        have hBz := HB.out.setCell (p := ⟨w.heap.size + 1, k * 2, none⟩) (by dsimp only; omega) (.int .i64 (qa G k).1)
        have HB5 := hid (hBz.alloc hBz.size (.cells #[.int .i64 (qa G k).1, .int .i64 (ia (qa G k).2 0), .int .i64 (ia (qa G k).2 1), .int .i64 (ia (qa G k).2 2), .int .i64 (ia (qa G k).2 3)] 87))
        clear hBz HF HX HB HGw
        go_wp2_with fail
        go_roundw
        case rel => exact ⟨k + 1, ks, cs, by omega, by go_num, HF5.out, HX5.out, HB5.out⟩
        case measure => simp [intOf]; omega
      · have hk2 : (2 : Int) ≤ (k : Int) := by omega
        have hBz := HB.out.setCell (p := ⟨w.heap.size + 1, k * 2, none⟩) (by dsimp only; omega) (.int .i64 (qa G k).1)
        have hs0 : (wr.setCell ⟨w.heap.size + 1, k * 2, none⟩ (.int .i64 (qa G k).1)).heap.size = wr.heap.size := by simp
        have hbN := (Below.refl wr.heap.size (wr.setCell ⟨w.heap.size + 1, k * 2, none⟩ (.int .i64 (qa G k).1))).alloc (by rw [hs0]; exact Nat.le_refl _) (.cells #[.int .i64 (qa G k).1, .int .i64 (ia (qa G k).2 0), .int .i64 (ia (qa G k).2 1), .int .i64 (ia (qa G k).2 2), .int .i64 (ia (qa G k).2 3)] 87)
        have HBN := hid hbN
        have hnew := heap_alloc_new (wr.setCell ⟨w.heap.size + 1, k * 2, none⟩ (.int .i64 (qa G k).1)) (.cells #[.int .i64 (qa G k).1, .int .i64 (ia (qa G k).2 0), .int .i64 (ia (qa G k).2 1), .int .i64 (ia (qa G k).2 2), .int .i64 (ia (qa G k).2 3)] 87)
        rw [hs0] at hnew
        have HSG := hid (node_kids (hG.len k (by omega) hlt) hnew)
        have HCL := hid (c_clone wr.heap.size 1 (qa G k).2 _ HSG.out (hG.len k (by omega) hlt))
        have HBZ := hid hBz
        have HXZ := hid (HX.out.setOther (a := ⟨w.heap.size + 1, k * 2, none⟩) (by dsimp only; omega) (.int .i64 (qa G k).1))
        have HRL := hid (HF.out.lev)
        have HS0 := hid hs0
        clear hBz hbN hnew hs0
        go_wp2_with fail
        refine HCL.out.mono ?_
        rintro e w5 ⟨v5, rfl, hO5, hb5⟩
        have hK5 := OwnI.wc hO5 (hG.len k (by omega) hlt)
        obtain ⟨b5, c5, rfl, hlow5, hc5, hW5⟩ := hK5
        have hb6 : Below wr.heap.size (wr.setCell ⟨w.heap.size + 1, k * 2, none⟩ (.int .i64 (qa G k).1)) w5 := HBN.out.trans (hb5.mono (by simp))
        have hlw : wr.heap.size ≤ b5 := Nat.le_trans (by simp) hlow5
        have HFH := hid (HF.out.stepHigh (by omega) hb6 hW5 hlw hc5)
        have r5 := HRL.out.of_block (hb6.block _ hrl)
        have q0 := r5.cell (i := k * 2 + 1) (by omega)
        have q1 := r5.frozen (k * 2 + 1)
        have X5 := HXZ.out.of_block (hb6.block _ HX.out.lt)
        have HX6 := hid (X5.setOther (a := ⟨w.heap.size + 1, k * 2 + 1, none⟩) (by dsimp only; omega) (.slice (some ⟨b5, 0, none⟩) 4 c5))
        have HB6 := hid ((HBZ.out.trans (hb6.mono HB.out.size)).setCell (p := ⟨w.heap.size + 1, k * 2 + 1, none⟩) (by dsimp only; omega) (.slice (some ⟨b5, 0, none⟩) 4 c5))
        have k2 : (k : Int) < (G.length : Int) := by omega
        rw [if_neg (by omega)] at q0
        clear HCL hO5 hb5 hW5 hb6 X5 r5 HRL HXZ HBZ HBN HF HX HB HGw n0 n1 n2 n3 n4 r0 f0
        go_wp2_with fail
        go_roundw
        case rel => exact ⟨k + 1, _, _, by omega, by go_num, HFH.out, HX6.out, HB6.out⟩
        case measure => simp [intOf]; omega
    · obtain rfl : k = G.length := by omega
      have x0 := HX.out.cell (i := 0) (by omega)
      have f0 := HX.out.frozen 0
      have E0 := hid ((HX.out.set 0 (.slice (some ⟨w.heap.size + 1, 0, none⟩) G.length G.length)).cell (i := 0) (by omega))
      simp only [if_true] at E0
      have hs : (wr.setCell ⟨w.heap.size, 0, none⟩ (.slice (some ⟨w.heap.size + 1, 0, none⟩) G.length G.length)).heap.size = wr.heap.size := by simp
      have HM := hid (HF.out.mem hG)
      have HBS := hid (HB.out.setCell (p := ⟨w.heap.size, 0, none⟩) (Nat.le_refl _) (.slice (some ⟨w.heap.size + 1, 0, none⟩) G.length G.length))
      have HGW : Hid (Grew wr (wr.setCell ⟨w.heap.size, 0, none⟩ (.slice (some ⟨w.heap.size + 1, 0, none⟩) G.length G.length)) w.heap.size (w.heap.size + 1)) := (Grew.refl wr _ _).set (Nat.le_refl _) (by omega) _
      have HMM := hid ((HM.out.kept HGW.out (by omega)).wide (lo' := w.heap.size) (hi' := wr.heap.size) (by omega) (Nat.le_refl _) (by rw [hs]; exact Nat.le_refl _))
      have HSS := hid hs
      clear HF HX HB HGw HM hs
      go_wp2_with fail
      refine bodyPost_ret (v := .agg #[.slice (some ⟨w.heap.size + 1, 0, none⟩) G.length G.length]) (by simp [results, Tryz.results51, go_sem, E0.out]) rfl ⟨rfl, .inr ⟨w.heap.size + 1, G.length, ks, rfl, Nat.le_refl _, by omega, ?_⟩, HBS.out⟩
      rw [HSS.out]; exact HMM.out

end Go.Proofs.YtnabgfbempkgnaaGreatDoor

namespace Go.Proofs.YtnabgfbempkgnaaGreatDoor
open Go.RowKit
set_option linter.unusedVariables false

/-- Is x near c, and not c itself? -/
def nearB (c x : Cl) : Bool := decide (x ≠ c) && (decide (-1 ≤ x.1 - c.1) && decide (x.1 - c.1 ≤ 1)) && (decide (-1 ≤ x.2 - c.2) && decide (x.2 - c.2 ≤ 1))
/-- How many of the first k are near c. -/
def nearTo (l : List Cl) (c : Cl) (k : Nat) : Nat := (l.take k).countP (nearB c)
/-- How many are near c. -/
def near (l : List Cl) (c : Cl) : Nat := l.countP (nearB c)
/-- The eight places about c. -/
def about (c : Cl) : List Cl := [(c.1 - 1, c.2 - 1), (c.1, c.2 - 1), (c.1 + 1, c.2 - 1), (c.1 - 1, c.2), (c.1 + 1, c.2), (c.1 - 1, c.2 + 1), (c.1, c.2 + 1), (c.1 + 1, c.2 + 1)]

theorem nearTo_succ {l : List Cl} {c : Cl} {k : Nat} (h : k < l.length) : nearTo l c (k + 1) = nearTo l c k + if nearB c (at_ l k) then 1 else 0 := by
  unfold nearTo
  rw [List.take_succ_eq_append_getElem h, List.countP_append]
  simp [at_, h, List.countP_cons]
theorem nearTo_le (l : List Cl) (c : Cl) (k : Nat) : nearTo l c k ≤ k := by
  have h1 := List.countP_le_length (p := nearB c) (l := l.take k)
  have h2 := List.length_take_le k l
  unfold nearTo; omega
theorem nearTo_all (l : List Cl) (c : Cl) : nearTo l c l.length = near l c := by simp [nearTo, near]
theorem mem_about (c x : Cl) : x ∈ about c ↔ nearB c x = true := by
  obtain ⟨a, b⟩ := c
  obtain ⟨u, v⟩ := x
  simp [about, nearB]
  omega
theorem about_nodup (c : Cl) : (about c).Nodup := by
  obtain ⟨a, b⟩ := c
  simp [about]
  omega
theorem countP_or (A : List Cl) (x : Cl) (q : Cl → Bool) (h : q x = false) : A.countP (fun a => decide (a = x) || q a) = A.countP (fun a => decide (a = x)) + A.countP q := by
  induction A with
  | nil => rfl
  | cons a r ih =>
    rw [List.countP_cons, List.countP_cons, List.countP_cons, ih]
    by_cases e : a = x
    · subst e; simp [h]; omega
    · simp [e]; omega
theorem countP_is (A : List Cl) (x : Cl) (hA : A.Nodup) : A.countP (fun a => decide (a = x)) = if x ∈ A then 1 else 0 := by
  induction A with
  | nil => rfl
  | cons a r ih =>
    rw [List.nodup_cons] at hA
    rw [List.countP_cons, ih hA.2]
    by_cases e : a = x
    · subst e; simp [hA.1]
    · have e' : x ≠ a := fun h => e h.symm
      simp [e, e']
/-- Two lists without anything twice: as many of the one are in the other. -/
theorem countP_swap (l A : List Cl) (hl : l.Nodup) (hA : A.Nodup) : l.countP (fun x => decide (x ∈ A)) = A.countP (fun a => decide (a ∈ l)) := by
  induction l with
  | nil => simp
  | cons x r ih =>
    rw [List.nodup_cons] at hl
    have e : (fun a => decide (a ∈ x :: r)) = (fun a => decide (a = x) || decide (a ∈ r)) := by
      funext a; simp
    rw [List.countP_cons, ih hl.2, e, countP_or A x _ (by simp [hl.1]), countP_is A x hA]
    simp; omega
theorem ris_nodup {l : List Cl} (h : risTo l l.length = true) : l.Nodup := by
  rw [List.nodup_iff_pairwise_ne, List.pairwise_iff_getElem]
  intro i j hi hj hij e
  have := ris_lt h j hij hj
  simp only [at_, List.getD_eq_getElem?_getD, List.getElem?_eq_getElem hi, List.getElem?_eq_getElem hj, Option.getD_some] at this
  rw [e, ltC_irr] at this
  cases this
/-- The two ways of counting come to the same. -/
theorem near_about {l : List Cl} (h : risTo l l.length = true) (c : Cl) : near l c = (about c).countP (fun a => decide (a ∈ l)) := by
  rw [← countP_swap l (about c) (ris_nodup h) (about_nodup c)]
  unfold near
  congr 1
  funext x
  rw [Bool.eq_iff_iff]
  simp [mem_about]


set_option maxHeartbeats 400000 in
theorem c_l1Near (a : Option Addr) (l : List Cl) (ca : Nat) (c : Cl) (w : World) (ha : Seg w a l) (hl : l.length ≤ 1048576) (hin : ∀ i, i < l.length → inR (at_ l i) = true) (hc : -41 ≤ c.1 ∧ c.1 ≤ 41 ∧ -41 ≤ c.2 ∧ c.2 ≤ 41) :
    Calls Tryz.prog 66 #[.slice a l.length ca, .agg #[.int .i64 c.1, .int .i64 c.2]] w fun e w' => e = .returned (.int .i64 (near l c)) ∧ Below w.heap.size w w' := by
  obtain ⟨c1, c2, c3, c4⟩ := hc
  have HIN := hid hin
  clear hin
  go_enter Tryz.func66, Tryz.ntmps66
  go_wp2
  go_loopw [5, 10] (fun n i wr => ∃ k : Nat, k ≤ l.length ∧ i = .int .i64 k ∧ n = .int .i64 (nearTo l c k) ∧ BoxIn w wr c) (fun _ i _ => l.length - (intOf i).toNat)
  case atStart => exact ⟨0, Nat.zero_le _, rfl, rfl, BoxIn.new w c _⟩
  case round =>
    obtain ⟨k, hk, rfl, rfl, hX⟩ := hrel
    have hB := hX.below
    have g3 := hX.1
    have g4 := hX.2.1
    have hsz := hX.2.2.1
    have HX := hid hX
    clear hX
    by_cases hlt : k < l.length
    · obtain ⟨b1, o1, rfl, hb1, p1, p2⟩ := ha k hlt
      have g1 := (hB.cell (p := ⟨b1, o1 + k * 2, none⟩) hb1).trans p1
      have g2 := (hB.cell (p := ⟨b1, o1 + k * 2 + 1, none⟩) hb1).trans p2
      change _ = some (Value.int .i64 (at_ l k).1) at g1
      change _ = some (Value.int .i64 (at_ l k).2) at g2
      clear p1 p2
      have hbx : b1 < wr.heap.size := Nat.lt_of_lt_of_le hb1 hB.size
      have k0 : (0 : Int) ≤ (k : Int) := by omega
      have k1 : (k : Int) < (l.length : Int) := by omega
      have hr := HIN.out k hlt
      simp only [inR, Bool.and_eq_true, decide_eq_true_eq] at hr
      obtain ⟨⟨⟨x1, x2⟩, x3⟩, x4⟩ := hr
      have HS := hid (nearTo_succ (c := c) hlt)
      have hnl := nearTo_le l c k
      generalize at_ l k = x at *
      generalize nearTo l c k = n at *
      have hnb : nearB c x = (decide (x ≠ c) && (decide (-1 ≤ x.1 - c.1) && decide (x.1 - c.1 ≤ 1)) && (decide (-1 ≤ x.2 - c.2) && decide (x.2 - c.2 ≤ 1))) := rfl
      have HNB := hid hnb
      clear hnb
      by_cases h1 : x.1 = c.1
      · by_cases h2 : x.2 = c.2
        · have HN : Hid (nearTo l c (k + 1) = n) := by
            show _ = _
            rw [HS.out, HNB.out, Prod.ext h1 h2]; simp
          go_wp2
          go_roundw
          case rel => exact ⟨k + 1, by omega, by go_num, by rw [HN.out], HX.out.step ((Below.refl _ _).alloc (Nat.le_refl _) _)⟩
          case measure => simp [intOf]; omega
        · by_cases h3 : -1 ≤ x.2 - c.2 ∧ x.2 - c.2 ≤ 1
          · have hb : (decide (-1 ≤ x.2 - c.2) && decide (x.2 - c.2 ≤ 1)) = true := by simp; omega
            have hn : x ≠ c := fun e => h2 (by rw [e])
            have HN : Hid (nearTo l c (k + 1) = n + 1) := by
              show _ = _
              rw [HS.out, HNB.out, hb]; simp [hn, h1]
            clear hn
            go_wp2_with (go_at_call 23; refine (c_l1In _ _ _ _).mono ?_; rintro e w' ⟨rfl, rfl⟩)
            go_roundw
            case rel => exact ⟨k + 1, by omega, by go_num, by rw [HN.out]; go_num, HX.out.step ((Below.refl _ _).alloc (Nat.le_refl _) _)⟩
            case measure => simp [intOf]; omega
          · have hb : (decide (-1 ≤ x.2 - c.2) && decide (x.2 - c.2 ≤ 1)) = false := by simp; omega
            have HN : Hid (nearTo l c (k + 1) = n) := by
              show _ = _
              rw [HS.out, HNB.out, hb]; simp
            go_wp2_with (go_at_call 23; refine (c_l1In _ _ _ _).mono ?_; rintro e w' ⟨rfl, rfl⟩)
            go_roundw
            case rel => exact ⟨k + 1, by omega, by go_num, by rw [HN.out], HX.out.step ((Below.refl _ _).alloc (Nat.le_refl _) _)⟩
            case measure => simp [intOf]; omega
      · have hn : x ≠ c := fun e => h1 (by rw [e])
        by_cases h4 : -1 ≤ x.1 - c.1 ∧ x.1 - c.1 ≤ 1
        · have hb4 : (decide (-1 ≤ x.1 - c.1) && decide (x.1 - c.1 ≤ 1)) = true := by simp; omega
          by_cases h3 : -1 ≤ x.2 - c.2 ∧ x.2 - c.2 ≤ 1
          · have hb : (decide (-1 ≤ x.2 - c.2) && decide (x.2 - c.2 ≤ 1)) = true := by simp; omega
            have HN : Hid (nearTo l c (k + 1) = n + 1) := by
              show _ = _
              rw [HS.out, HNB.out, hb, hb4]; simp [hn]
            clear hn
            go_wp2_with (go_at_call 23; refine (c_l1In _ _ _ _).mono ?_; rintro e w' ⟨rfl, rfl⟩)
            go_roundw
            case rel => exact ⟨k + 1, by omega, by go_num, by rw [HN.out]; go_num, HX.out.step ((Below.refl _ _).alloc (Nat.le_refl _) _)⟩
            case measure => simp [intOf]; omega
          · have hb : (decide (-1 ≤ x.2 - c.2) && decide (x.2 - c.2 ≤ 1)) = false := by simp; omega
            have HN : Hid (nearTo l c (k + 1) = n) := by
              show _ = _
              rw [HS.out, HNB.out, hb]; simp
            clear hn
            go_wp2_with (go_at_call 23; refine (c_l1In _ _ _ _).mono ?_; rintro e w' ⟨rfl, rfl⟩)
            go_roundw
            case rel => exact ⟨k + 1, by omega, by go_num, by rw [HN.out], HX.out.step ((Below.refl _ _).alloc (Nat.le_refl _) _)⟩
            case measure => simp [intOf]; omega
        · have hb4 : (decide (-1 ≤ x.1 - c.1) && decide (x.1 - c.1 ≤ 1)) = false := by simp; omega
          have HN : Hid (nearTo l c (k + 1) = n) := by
            show _ = _
            rw [HS.out, HNB.out, hb4]; simp
          clear hn
          go_wp2_with (go_at_call 23; refine (c_l1In _ _ _ _).mono ?_; rintro e w' ⟨rfl, rfl⟩)
          go_roundw
          case rel => exact ⟨k + 1, by omega, by go_num, by rw [HN.out], HX.out.step ((Below.refl _ _).alloc (Nat.le_refl _) _)⟩
          case measure => simp [intOf]; omega
    · go_wp2
      go_ret
      have : k = l.length := by omega
      subst this
      exact ⟨ret_int (by rw [nearTo_all]), hB⟩

/-- The eight places, as a value. -/
def aboutV (c : Cl) : Value := .agg #[.int .i64 (c.1 - 1), .int .i64 (c.2 - 1), .int .i64 c.1, .int .i64 (c.2 - 1), .int .i64 (c.1 + 1), .int .i64 (c.2 - 1), .int .i64 (c.1 - 1), .int .i64 c.2, .int .i64 (c.1 + 1), .int .i64 c.2, .int .i64 (c.1 - 1), .int .i64 (c.2 + 1), .int .i64 c.1, .int .i64 (c.2 + 1), .int .i64 (c.1 + 1), .int .i64 (c.2 + 1)]

set_option maxHeartbeats 1000000 in
theorem c_around (c : Cl) (w : World) (hc : -41 ≤ c.1 ∧ c.1 ≤ 41 ∧ -41 ≤ c.2 ∧ c.2 ≤ 41) :
    Calls Tryz.prog 90 #[.agg #[.int .i64 c.1, .int .i64 c.2]] w fun e w' => e = .returned (aboutV c) ∧ Below w.heap.size w w' := by
  obtain ⟨c1, c2, c3, c4⟩ := hc
  go_enter Tryz.func90, Tryz.ntmps90
  go_wp2
  exact bodyPost_ret (v := aboutV c) (by simp [results, Tryz.results90, go_sem, aboutV]) rfl ⟨rfl, ((Below.refl _ _).alloc (Nat.le_refl _) _).alloc (by simp) _⟩

theorem about_index (c : Cl) (k : Nat) (hk : k < 8) (w : World) : (Instr.index 123 (aboutV c) (.int .i64 (k : Int))).run Tryz.prog w = .ok (.agg #[.int .i64 (at_ (about c) k).1, .int .i64 (at_ (about c) k).2]) w := by
  rcases (show k = 0 ∨ k = 1 ∨ k = 2 ∨ k = 3 ∨ k = 4 ∨ k = 5 ∨ k = 6 ∨ k = 7 by omega) with h | h | h | h | h | h | h | h
  all_goals
    subst h
    kernel_rfl

/-- How many of the first k of some places are among cells. -/
def hitsTo (m l : List Cl) (k : Nat) : Nat := (m.take k).countP (fun a => decide (a ∈ l))
theorem hitsTo_succ {m l : List Cl} {k : Nat} (h : k < m.length) : hitsTo m l (k + 1) = hitsTo m l k + if decide (at_ m k ∈ l) then 1 else 0 := by
  unfold hitsTo
  rw [List.take_succ_eq_append_getElem h, List.countP_append]
  simp [at_, h, List.countP_cons]
theorem hitsTo_le (m l : List Cl) (k : Nat) : hitsTo m l k ≤ k := by
  have h1 := List.countP_le_length (p := fun a => decide (a ∈ l)) (l := m.take k)
  have h2 := List.length_take_le k m
  unfold hitsTo; omega

theorem c_hasCell' (a : Option Addr) (l : List Cl) (ca : Nat) (c : Cl) (v : Bool) (h : decide (c ∈ l) = v) (w : World) (ha : Seg w a l) (hl : l.length ≤ 1048576) (hr : risTo l l.length = true) :
    Calls Tryz.prog 73 #[.slice a l.length ca, .agg #[.int .i64 c.1, .int .i64 c.2]] w fun e w' => e = .returned (.bool v) ∧ Below w.heap.size w w' := by
  rw [← h]; exact c_hasCell a l ca c w ha hl hr

/-- What NearOf answers. -/
def nearV (l : List Cl) (c : Cl) : Int × Bool := if good l && inR c then ((near l c : Int), true) else (0, false)

end Go.Proofs.YtnabgfbempkgnaaGreatDoor

namespace Go.Proofs.YtnabgfbempkgnaaGreatDoor
open Go.RowKit Go.Maps
set_option linter.unusedVariables false
set_option linter.unusedSimpArgs false
attribute [local go_sem ↓] Go.wp_at_zero Go.wp_at_succ

set_option maxHeartbeats 1000000 in
theorem c_told (q : Int) (w : World) {base p g cap mb : Nat} {G : List Qd} (h : Grv w base p g cap mb G) (hG : Grows G) (hlen : G.length ≤ 100000) :
    Calls Tryz.prog 48 #[.pointer (some ⟨p, 0, none⟩), .int .i64 q] w fun e w' => ∃ u, e = .returned (.tuple #[.agg #[u], .int .i64 (tellQ G q), .bool (tellB G)]) ∧ FOwn w' w.heap.size w'.heap.size u (tellF G) ∧ Below w.heap.size w w' := by
  have hb1 := (Below.refl w.heap.size w).alloc (Nat.le_refl _) (.cells #[.slice none 0 0] 56)
  have R1 := hid (one_row (heap_alloc_new w (.cells #[.slice none 0 0] 56)))
  have H1 := hid (h.below hb1)
  have HB1 := hid hb1
  have hsz : (w.alloc (.cells #[.slice none 0 0] 56)).heap.size = w.heap.size + 1 := by simp
  have c0 := H1.out.c0
  clear hb1 h
  by_cases h4 : G.length ≤ 400
  · have d4 : ¬ (400 : Int) < (G.length : Int) := by omega
    have HV : Hid (tellF G = G ∧ tellQ G q = q ∧ tellB G = true) := by simp [Hid, tellF, tellQ, tellB, h4]
    have HC := hid (c_forest _ H1.out hG hlen)
    rw [hsz] at HC
    have HSZ := hid hsz
    clear hsz
    go_enter Tryz.func48, Tryz.ntmps48
    go_wp2_with fail
    refine HC.out.mono ?_
    rintro e w1 ⟨rfl, hO, hB⟩
    have R2 := R1.out.of_block (hB.block _ (by omega))
    have r0 := R2.cell (i := 0) (by omega)
    have f0 := R2.frozen 0
    have E0 := hid ((R2.set 0 (.slice (some ⟨w.heap.size + 1 + 1, 0, none⟩) G.length G.length)).cell (i := 0) (by omega))
    simp only [if_true] at E0
    have hs2 : (w1.setCell ⟨w.heap.size, 0, none⟩ (.slice (some ⟨w.heap.size + 1 + 1, 0, none⟩) G.length G.length)).heap.size = w1.heap.size := by simp
    have hGW : Grew w1 (w1.setCell ⟨w.heap.size, 0, none⟩ (.slice (some ⟨w.heap.size + 1 + 1, 0, none⟩) G.length G.length)) w.heap.size (w.heap.size + 1) := (Grew.refl w1 _ _).set (Nat.le_refl _) (by omega) _
    have HO2 := hid (((hO.kept hGW (by omega)).wide (lo' := w.heap.size) (hi' := w1.heap.size) (by omega) (Nat.le_refl _) (by rw [hs2]; exact Nat.le_refl _)))
    have HB2 := hid ((HB1.out.trans (hB.mono (by omega))).setCell (p := ⟨w.heap.size, 0, none⟩) (Nat.le_refl _) (.slice (some ⟨w.heap.size + 1 + 1, 0, none⟩) G.length G.length))
    have HS2 := hid hs2
    clear HC hO hB R2 R1 H1 HB1 hs2 hGW
    go_wp2_with fail
    refine bodyPost_ret (v := .tuple #[.agg #[.slice (some ⟨w.heap.size + 1 + 1, 0, none⟩) G.length G.length], .int .i64 q, .bool true]) (by simp [results, Tryz.results48, go_sem, E0.out]) rfl ⟨.slice (some ⟨w.heap.size + 1 + 1, 0, none⟩) G.length G.length, ?_, ?_, HB2.out⟩
    · rw [HV.out.2.1, HV.out.2.2]
    · rw [HV.out.1, HS2.out]; exact HO2.out
  · have d4 : (400 : Int) < (G.length : Int) := by omega
    have HV : Hid (tellF G = [] ∧ tellQ G q = 0 ∧ tellB G = false) := by simp [Hid, tellF, tellQ, tellB, h4]
    go_enter Tryz.func48, Tryz.ntmps48
    go_wp2_with fail
    refine bodyPost_ret (v := .tuple #[.agg #[.slice none 0 0], .int .i64 0, .bool false]) (by simp [results, Tryz.results48, go_sem]) rfl ⟨.slice none 0 0, ?_, ?_, HB1.out⟩
    · rw [HV.out.2.1, HV.out.2.2]
    · rw [HV.out.1]; exact .inl ⟨rfl, rfl⟩

theorem numTo_find {G : List Qd} (h : Grows G) (l : List Int) : ∀ k, k ≤ G.length → numTo G k l = (findF G l k).map fun i : Nat => (i : Int)
  | 0, _ => rfl
  | k + 1, hk => by
    have ih := numTo_find h l k (by omega)
    simp only [numTo, findF]
    cases hf : findF G l k with
    | some i =>
      obtain ⟨h1, h2, h3⟩ := findF_some hf
      rw [hf] at ih
      rw [if_neg (by rintro ⟨h4, h5⟩; exact h.uniq i k h1 h2 (by omega) (h3.trans h5)), ih]
    | none =>
      rw [hf] at ih
      by_cases e : 2 ≤ k ∧ (qa G k).2 = l
      · rw [if_pos ⟨e.1, e.2.symm⟩]
        simp only
        rw [if_pos e]; rfl
      · rw [if_neg (by rintro ⟨h4, h5⟩; exact e ⟨h4, h5.symm⟩), ih]
        simp only
        rw [if_neg e]
theorem own_row_ne {w : World} {base g cap n n' : Nat} {t : TypeId} {f : Nat → Value} {xs : List Value} (ho : w.ownsRow base 87 5 (.slice (some ⟨g, 0, none⟩) n cap) n xs) (hr : w.rowIs g t n' f) (h2 : t ≠ 87) (_ : True = True) : False := by
  rcases ho.2 with ⟨e, _⟩ | ⟨g', cap', cur, e, _, hgg, _⟩
  · cases e
  · simp at e
    obtain ⟨rfl, _⟩ := e
    obtain ⟨c, hc, _⟩ := hr
    rw [hc] at hgg
    simp at hgg
    exact h2 hgg.2
/-- Rows of other things than groves and nodes, and of one node alone, are as they were. -/
theorem own_row_ne5 {w : World} {base g cap n : Nat} {f : Nat → Value} {xs : List Value} (ho : w.ownsRow base 87 5 (.slice (some ⟨g, 0, none⟩) n cap) n xs) (hr : w.rowIs g 87 5 f) (h2 : 2 ≤ n) : False := by
  rcases ho.2 with ⟨e, _⟩ | ⟨g', cap', cur, e, _, hgg, hc, _, hs, _⟩
  · cases e
  · simp at e
    obtain ⟨rfl, _⟩ := e
    obtain ⟨c, hc', hz, _⟩ := hr
    rw [hc'] at hgg
    simp at hgg
    subst hgg
    omega

def RowsKept (w w' : World) : Prop := ∀ (B : Nat) (t : TypeId) (n : Nat) (f : Nat → Value), t ≠ 91 → (t = 87 → n = 5) → w.rowIs B t n f → w'.rowIs B t n f
theorem RowsKept.trans {a b c : World} (h : RowsKept a b) (k : RowsKept b c) : RowsKept a c := fun B t n f h1 h2 h3 => k B t n f h1 h2 (h B t n f h1 h2 h3)
theorem RowsKept.of_below {w w' : World} (h : Below w.heap.size w w') : RowsKept w w' := fun B t n f _ _ h3 => h3.of_block (h.block _ h3.lt)
theorem rows_of_else {w w' : World} {base p g cap mb : Nat} {G : List Qd} (h : Grv w base p g cap mb G) (hG2 : 2 ≤ G.length) (he : ∀ k, k < w.heap.size → k ≠ p → k ≠ g → k ≠ mb → w'.heap[k]? = w.heap[k]?) : RowsKept w w' := by
  intro B t n f h1 h2 h3
  refine h3.of_block (he B h3.lt ?_ ?_ ?_)
  · intro e
    subst e
    obtain ⟨c, hc, _⟩ := h3
    obtain ⟨d, hd, _⟩ := h.box
    rw [hc] at hd
    simp at hd
    exact h1 hd.2
  · intro e
    subst e
    by_cases ht : t = 87
    · obtain rfl := h2 ht
      subst ht
      exact own_row_ne5 h.own h3 hG2
    · exact own_row_ne h.own h3 ht rfl
  · intro e
    subst e
    obtain ⟨c, hc, _⟩ := h3
    obtain ⟨D, ⟨es, clock, hd, _⟩, _⟩ := h.map
    rw [hc] at hd
    simp at hd

/-- A box of four is written: a grove is as it was. -/
theorem Grv.setFour {w : World} {base p g cap mb : Nat} {G : List Qd} (h : Grv w base p g cap mb G) {B : Nat} {f : Nat → Value} (hr : w.rowIs B 85 4 f) (k : Nat) (v : Int) : Grv (w.setCell ⟨B, k, none⟩ (.int .i64 v)) base p g cap mb G := by
  have np : p ≠ B := by
    intro e
    subst e
    obtain ⟨c, hc, _⟩ := hr
    obtain ⟨d, hd, _⟩ := h.box
    rw [hc] at hd
    simp at hd
  have ng : g ≠ B := by
    intro e
    subst e
    exact own_row_ne h.own hr (by decide) rfl
  have nm : mb ≠ B := by
    intro e
    subst e
    obtain ⟨c, hc, _⟩ := hr
    obtain ⟨D, ⟨es, clock, hd, _⟩, _⟩ := h.map
    rw [hc] at hd
    simp at hd
  refine ⟨h.lowp, h.lowm, h.box.setOther (by dsimp only; omega) _, ownsRow_setCell_other h.own (by simp [Value.ownBlock]; omega) _, ?_, h.pm, h.pg, h.mg⟩
  obtain ⟨D, ⟨es, clock, hb, r⟩, hd⟩ := h.map
  refine ⟨D, ⟨es, clock, ?_, r⟩, hd⟩
  rw [Below.heap_setCell _ _ _ _ (by dsimp only; omega)]
  exact hb
/-- A block that was not there is written: rows that were there are as they were. -/
theorem rows_set {w w' : World} (h : RowsKept w w') {B : Nat} (hB : w.heap.size ≤ B) (k : Nat) (v : Value) : RowsKept w (w'.setCell ⟨B, k, none⟩ v) := by
  intro B' t n f h1 h2 h3
  have := h3.lt
  exact (h B' t n f h1 h2 h3).setOther (by dsimp only; omega) _

/-- What a joining leaves of all but its grove's three blocks. -/
def GElse (w w' : World) (p g mb : Nat) : Prop := ∀ k, k < w.heap.size → k ≠ p → k ≠ g → k ≠ mb → w'.heap[k]? = w.heap[k]?
theorem c_ijoinE (l : List Int) (hl : l.length = 4) (w : World) {base p g cap mb : Nat} {G : List Qd} (h : Grv w base p g cap mb G) (hG : Grows G) (hlen : G.length ≤ 100000) (hk : ∀ j, j < 4 → 0 ≤ ia l j ∧ ia l j < (G.length : Int)) :
    Calls Tryz.prog 72 #[.pointer (some ⟨p, 0, none⟩), kv l] w fun e w' => ∃ g' cap', e = .returned (.int .i64 ((joinF G l).2 : Int)) ∧ Grv w' base p g' cap' mb (joinF G l).1 ∧ Below base w w' ∧ RowsKept w w' ∧ GElse w w' p g mb ∧ (g' = g ∨ w.heap.size ≤ g') := by
  have hf : fits4 l := ⟨hl, fun i hi => by have := hk i hi; unfold fit1; omega⟩
  have hbase : base ≤ w.heap.size := Nat.le_trans h.lowp (Nat.le_of_lt h.box.lt)
  have hnf := numTo_find hG l G.length (Nat.le_refl _)
  have h0 := hk 0 (by omega)
  have hlv := hG.lev (ia l 0).toNat (by omega)
  unfold joinF
  cases hfd : findF G l G.length with
  | some i =>
    rw [hfd] at hnf
    refine (c_join_old l (i : Int) w h hf (by rw [hnf]; rfl)).mono ?_
    rintro e w' ⟨rfl, hb⟩
    exact ⟨g, cap, rfl, h.below hb, hb.mono hbase, RowsKept.of_below hb, fun k hk _ _ _ => hb.block k hk, .inl rfl⟩
  | none =>
    rw [hfd] at hnf
    refine (c_join_new l w h hf (by rw [hnf]; rfl) hG.two (by omega) h0.1 h0.2 (by omega) (by omega)).mono ?_
    rintro e w' ⟨g', cap', rfl, h1, h2, h3, h4⟩
    exact ⟨g', cap', rfl, h1, h2, rows_of_else h hG.two h3, h3, h4⟩
theorem c_ijoin (l : List Int) (hl : l.length = 4) (w : World) {base p g cap mb : Nat} {G : List Qd} (h : Grv w base p g cap mb G) (hG : Grows G) (hlen : G.length ≤ 100000) (hk : ∀ j, j < 4 → 0 ≤ ia l j ∧ ia l j < (G.length : Int)) :
    Calls Tryz.prog 72 #[.pointer (some ⟨p, 0, none⟩), kv l] w fun e w' => ∃ g' cap', e = .returned (.int .i64 ((joinF G l).2 : Int)) ∧ Grv w' base p g' cap' mb (joinF G l).1 ∧ Below base w w' ∧ RowsKept w w' :=
  (c_ijoinE l hl w h hG hlen hk).mono fun e w' ⟨g', cap', h1, h2, h3, h4, _⟩ => ⟨g', cap', h1, h2, h3, h4⟩

/-- The forest behind the first k kids, and their numbers. -/
def pk (L : List Cl) (n : Nat) (x y : Int) (G : List Qd) : Nat → List Qd × List Int
  | 0 => (G, [])
  | k + 1 => ((treeL L n (kx n k x) (ky n k y) (pk L n x y G k).1).1, (pk L n x y G k).2 ++ [((treeL L n (kx n k x) (ky n k y) (pk L n x y G k).1).2 : Int)])
theorem pk_four (L : List Cl) (n : Nat) (x y : Int) (G : List Qd) : treeL L (n + 1) x y G = joinF (pk L n x y G 4).1 (pk L n x y G 4).2 := by
  simp [pk, treeL, kx, ky]
theorem pk_facts (L : List Cl) (n : Nat) (x y : Int) (G : List Qd) (hn : n < 5) (h : Grows G) : ∀ k, Grows (pk L n x y G k).1 ∧ (pk L n x y G k).1.length + k ≤ G.length + k * 4 ^ n ∧ (pk L n x y G k).2.length = k
  | 0 => ⟨h, by simp [pk], rfl⟩
  | k + 1 => by
    obtain ⟨h1, h2, h3⟩ := pk_facts L n x y G hn h k
    have t := treeL_tr L n (kx n k x) (ky n k y) _ (by omega) h1
    refine ⟨t.grows, ?_, by simp [pk, h3]⟩
    have := t.most
    have e : (k + 1) * 4 ^ n = k * 4 ^ n + 4 ^ n := Nat.succ_mul _ _
    simp only [pk]
    omega
theorem pk_join (L : List Cl) (n : Nat) (x y : Int) (G : List Qd) (hn : n < 5) (h : Grows G) : ∀ j, j < 4 → 0 ≤ ia (pk L n x y G 4).2 j ∧ ia (pk L n x y G 4).2 j < ((pk L n x y G 4).1.length : Int) := by
  have t0 := treeL_tr L n (kx n 0 x) (ky n 0 y) G (by omega) h
  have t1 := treeL_tr L n (kx n 1 x) (ky n 1 y) _ (by omega) t0.grows
  have t2 := treeL_tr L n (kx n 2 x) (ky n 2 y) _ (by omega) t1.grows
  have t3 := treeL_tr L n (kx n 3 x) (ky n 3 y) _ (by omega) t2.grows
  exact (tr_join hn t0 t1 t2 t3).2.1
theorem pk_at (L : List Cl) (n : Nat) (x y : Int) (G : List Qd) (hn : n < 5) (h : Grows G) (k j : Nat) : (if j = k then ((treeL L n (kx n k x) (ky n k y) (pk L n x y G k).1).2 : Int) else if j < k then ia (pk L n x y G k).2 j else 0) = (if j < k + 1 then ia (pk L n x y G (k + 1)).2 j else 0) := by
  have h3 := (pk_facts L n x y G hn h k).2.2
  by_cases e : j = k
  · subst e
    rw [if_pos rfl, if_pos (by omega)]
    simp only [pk, ia]
    rw [List.getD_eq_getElem?_getD, List.getElem?_append_right (by omega), h3]
    simp
  · rw [if_neg e]
    by_cases e2 : j < k
    · rw [if_pos e2, if_pos (by omega)]
      simp only [pk, ia]
      rw [List.getD_eq_getElem?_getD, List.getD_eq_getElem?_getD, List.getElem?_append_left (by omega)]
    · rw [if_neg e2, if_neg (by omega)]
/-- Four numbers in a box. -/
def FRow (w : World) (B : Nat) (f : Nat → Int) : Prop := w.rowIs B 85 4 (fun j => .int .i64 (f j))
theorem frow_new (w : World) : FRow (w.alloc (.cells #[.int .i64 0, .int .i64 0, .int .i64 0, .int .i64 0] 85)) w.heap.size (fun _ => 0) := by
  refine ⟨_, heap_alloc_new _ _, rfl, fun i hi => ?_⟩
  rcases (show i = 0 ∨ i = 1 ∨ i = 2 ∨ i = 3 by omega) with rfl | rfl | rfl | rfl <;> rfl
def CRow (w : World) (B : Nat) (x y : Int) : Prop := w.rowIs B 51 2 (fun j => if j = 0 then .int .i64 x else .int .i64 y)

set_option maxHeartbeats 4000000 in
set_option maxRecDepth 100000 in
theorem c_plant (L : List Cl) (la : Option Addr) (lca : Nat) (W0 : World) (hL : Seg W0 la L) (hLl : L.length ≤ 1048576) (hr : risTo L L.length = true) (base p mb : Nat) (hb0 : W0.heap.size ≤ base) : ∀ (n : Nat) (x y : Int) (G : List Qd) (g cap : Nat) (w : World),
    n ≤ 5 → Grows G → G.length + 4 ^ n ≤ 10000 → -100000 ≤ x → x + 2 ^ n ≤ 100000 → -100000 ≤ y → y + 2 ^ n ≤ 100000 → Grv w base p g cap mb G → Below W0.heap.size W0 w →
    Calls Tryz.prog 49 #[.pointer (some ⟨p, 0, none⟩), .int .i64 (n : Int), .agg #[.int .i64 x, .int .i64 y], .slice la L.length lca] w fun e w' => ∃ g' cap', e = .returned (.int .i64 ((treeL L n x y G).2 : Int)) ∧ Grv w' base p g' cap' mb (treeL L n x y G).1 ∧ Below base w w' ∧ RowsKept w w' := by
  intro n
  induction n with
  | zero =>
    intro x y G g cap w hn hGr hlen x0 x1 y0 y1 hG hB
    have HX := hid (BoxIn.new w (x, y) 51)
    have hb1 := HX.out.below
    have HG := hid (hG.below hb1)
    have HB1 := hid hb1
    have hbs : base ≤ w.heap.size := Nat.le_trans hG.lowp (Nat.le_of_lt hG.box.lt)
    have HC := hid (c_hasCell la L lca (x, y) _ ((hL.below hB).below hb1) hLl hr)
    dsimp only at HX HG HB1 HC
    by_cases e : (x, y) ∈ L
    · rw [show decide ((x, y) ∈ L) = true by simp [e]] at HC
      have HV : Hid (treeL L 0 x y G = (G, 1)) := by simp [Hid, treeL, e]
      clear hG hB e hb1 HX
      go_enter Tryz.func49, Tryz.ntmps49
      go_wp2_with fail
      refine HC.out.mono ?_
      rintro e w1 ⟨rfl, hb⟩
      go_wp2_with fail
      go_ret
      rw [HV.out]
      have hbb := HB1.out.trans (hb.mono HB1.out.size)
      exact ⟨g, cap, rfl, HG.out.below hb, hbb.mono hbs, RowsKept.of_below hbb⟩
    · rw [show decide ((x, y) ∈ L) = false by simp [e]] at HC
      have HV : Hid (treeL L 0 x y G = (G, 0)) := by simp [Hid, treeL, e]
      clear hG hB e hb1 HX
      go_enter Tryz.func49, Tryz.ntmps49
      go_wp2_with fail
      refine HC.out.mono ?_
      rintro e w1 ⟨rfl, hb⟩
      go_wp2_with fail
      go_ret
      rw [HV.out]
      have hbb := HB1.out.trans (hb.mono HB1.out.size)
      exact ⟨g, cap, rfl, HG.out.below hb, hbb.mono hbs, RowsKept.of_below hbb⟩
  | succ n ih =>
    intro x y G g cap w hn hGr hlen x0 x1 y0 y1 hG hB
    have HIH := hid ih
    have hpos := pow_pos' n
    have hle : (2 : Int) ^ n ≤ 16 := by
      rcases (show n = 0 ∨ n = 1 ∨ n = 2 ∨ n = 3 ∨ n = 4 by omega) with rfl | rfl | rfl | rfl | rfl <;> decide
    have h4 : (4 : Nat) ^ (n + 1) = 4 * 4 ^ n := by rw [Nat.pow_succ]; omega
    rw [h4] at hlen
    rw [two_pow] at x1 y1
    have HPF := hid (fun k => pk_facts L n x y G (by omega) hGr k)
    have HPJ := hid (pk_join L n x y G (by omega) hGr)
    have HPA := hid (fun k j => pk_at L n x y G (by omega) hGr k j)
    have HP4 := hid (pk_four L n x y G)
    have HLEN := hid hlen
    have hbs : base ≤ w.heap.size := Nat.le_trans hG.lowp (Nat.le_of_lt hG.box.lt)
    have hb1 := (Below.refl w.heap.size w).alloc (Nat.le_refl _) (.cells #[.int .i64 x, .int .i64 y] 51)
    have hb2 := hb1.alloc hb1.size (.cells #[.int .i64 0, .int .i64 0, .int .i64 0, .int .i64 0] 85)
    have C2 : CRow ((w.alloc (.cells #[.int .i64 x, .int .i64 y] 51)).alloc (.cells #[.int .i64 0, .int .i64 0, .int .i64 0, .int .i64 0] 85)) w.heap.size x y := World.rowIs.alloc (two_row (heap_alloc_new _ _)) _
    have F2 := frow_new (w.alloc (.cells #[.int .i64 x, .int .i64 y] 51))
    rw [show (w.alloc (.cells #[.int .i64 x, .int .i64 y] 51)).heap.size = w.heap.size + 1 by simp] at F2
    have HC2 := hid C2
    have HF2 := hid F2
    have HG2 := hid (hG.below hb2)
    have HB2 := hid hb2
    have HBO := hid hB
    clear hG hB ih hlen h4 hb1 hb2 C2 F2
    have dn : ((n : Int) + 1 == 0) = false := by simp; omega
    rw [show ((n + 1 : Nat) : Int) = (n : Int) + 1 by omega]
    go_enter Tryz.func49, Tryz.ntmps49
    go_wp2_with fail
    go_loopw [16] (fun i wr => ∃ (k g' cap' : Nat), k ≤ 4 ∧ i = .int .i64 k ∧ Hid (Grv wr base p g' cap' mb (pk L n x y G k).1) ∧ Hid (CRow wr w.heap.size x y) ∧ Hid (FRow wr (w.heap.size + 1) (fun j => if j < k then ia (pk L n x y G k).2 j else 0)) ∧ Hid (Below base w wr) ∧ Hid (RowsKept w wr)) (fun i _ => 4 - (intOf i).toNat)
    case atStart => exact ⟨0, g, cap, by omega, rfl, HG2.out, HC2.out, (HF2.out.congr fun j hj => by simp), HB2.out.mono hbs, RowsKept.of_below HB2.out⟩
    case round =>
      clear HG2 HC2 HF2 HB2
      obtain ⟨k, g1, cap1, hk, rfl, HG, HCR, HFR, HB, HRK⟩ := hrel
      by_cases hlt : k < 4
      · have k0 : (0 : Int) ≤ (k : Int) := by omega
        have k1 : (k : Int) < 4 := by omega
        have b0 := World.rowIs.cell HCR.out (i := 0) (by omega)
        have b1 := World.rowIs.cell HCR.out (i := 1) (by omega)
        simp only [if_true, if_false, Nat.one_ne_zero] at b0 b1
        have hx : -100000 ≤ kx n k x ∧ kx n k x + 2 ^ n ≤ 100000 := by
          unfold kx
          rcases (show k % 2 = 0 ∨ k % 2 = 1 by omega) with e | e <;> rw [e] <;> simp <;> omega
        have hy : -100000 ≤ ky n k y ∧ ky n k y + 2 ^ n ≤ 100000 := by
          unfold ky
          rcases (show k / 2 = 0 ∨ k / 2 = 1 by omega) with e | e <;> rw [e] <;> simp <;> omega
        have HKC := hid (c_kidCorner n k (by omega) hlt x y wr x0 (by omega) y0 (by omega))
        have HPK := hid (show (pk L n x y G (k + 1)).1 = (treeL L n (kx n k x) (ky n k y) (pk L n x y G k).1).1 from rfl)
        go_wp2_with fail
        refine HKC.out.mono ?_
        rintro e w2 ⟨rfl, hb⟩
        have hpf := HPF.out k
        have hl4 : k * 4 ^ n ≤ 3 * 4 ^ n := Nat.mul_le_mul_right _ (by omega)
        have HPL := hid (HIH.out (kx n k x) (ky n k y) (pk L n x y G k).1 g1 cap1 w2 (by omega) hpf.1 (by have := HLEN.out; have := hpf.2.1; omega) hx.1 hx.2 hy.1 hy.2 (HG.out.below hb) (HBO.out.trans ((HB.out.mono hb0).trans (hb.mono (Nat.le_trans hb0 (Nat.le_trans hbs HB.out.size))))))
        have HR2 := hid (HRK.out.trans (RowsKept.of_below hb))
        have HC2 := hid (World.rowIs.of_block HCR.out (hb.block _ (World.rowIs.lt HCR.out)))
        have HF2 := hid (World.rowIs.of_block HFR.out (hb.block _ (World.rowIs.lt HFR.out)))
        have HB2 := hid (HB.out.trans (hb.mono (Nat.le_trans hbs HB.out.size)))
        clear HKC hb hpf hl4 HG HCR HFR HB HRK
        go_wp2_with fail
        refine HPL.out.mono ?_
        rintro e w3 ⟨g3, cap3, rfl, hG3, hb3, hr3⟩
        have HC3 := hid (hr3 _ _ _ _ (by decide) (by decide) HC2.out)
        have hF3 := hr3 _ _ _ _ (by decide) (by decide) HF2.out
        have c9 := hF3.cell (i := k) (by omega)
        have f9 := hF3.frozen k
        have hF4 : FRow (w3.setCell ⟨w.heap.size + 1, k, none⟩ (.int .i64 ((treeL L n (kx n k x) (ky n k y) (pk L n x y G k).1).2 : Int))) (w.heap.size + 1) (fun j => if j < k + 1 then ia (pk L n x y G (k + 1)).2 j else 0) := by
          refine (World.rowIs.set hF3 k _).congr fun j hj => ?_
          dsimp only
          rw [← HPA.out k j]
          by_cases e : j = k
          · rw [if_pos e, if_pos e]
          · rw [if_neg e, if_neg e]
        have HF4 := hid hF4
        have HC4 := hid (World.rowIs.setOther HC3.out (a := ⟨w.heap.size + 1, k, none⟩) (by dsimp only; omega) (.int .i64 ((treeL L n (kx n k x) (ky n k y) (pk L n x y G k).1).2 : Int)))
        have HG4 := hid (hG3.setFour hF3 k ((treeL L n (kx n k x) (ky n k y) (pk L n x y G k).1).2 : Int))
        have HB4 := hid ((HB2.out.trans hb3).setCell (p := ⟨w.heap.size + 1, k, none⟩) (by dsimp only; omega) (.int .i64 ((treeL L n (kx n k x) (ky n k y) (pk L n x y G k).1).2 : Int)))
        have HR4 := hid (rows_set (HR2.out.trans hr3) (show w.heap.size ≤ w.heap.size + 1 by omega) k (.int .i64 ((treeL L n (kx n k x) (ky n k y) (pk L n x y G k).1).2 : Int)))
        rw [← HPK.out] at HG4
        clear HPL hG3 hb3 hr3 hF3 hF4 HC3 HC2 HF2 HB2 HR2 b0 b1
        generalize ((treeL L n (kx n k x) (ky n k y) (pk L n x y G k).1).2 : Int) = TQ at *
        go_wp2_with fail
        go_roundw
        case rel => exact ⟨k + 1, g3, cap3, by omega, by go_num, HG4.out, HC4.out, HF4.out, HB4.out, HR4.out⟩
        case measure => simp [intOf]; omega
      · obtain rfl : k = 4 := by omega
        have hpf := HPF.out 4
        have b0 := World.rowIs.cell HFR.out (i := 0) (by omega)
        have b1 := World.rowIs.cell HFR.out (i := 1) (by omega)
        have b2 := World.rowIs.cell HFR.out (i := 2) (by omega)
        have b3 := World.rowIs.cell HFR.out (i := 3) (by omega)
        simp only [show (0 : Nat) < 4 by omega, show (1 : Nat) < 4 by omega, show (2 : Nat) < 4 by omega, show (3 : Nat) < 4 by omega, if_true] at b0 b1 b2 b3
        have HJ := hid (c_ijoin (pk L n x y G 4).2 hpf.2.2 wr HG.out hpf.1 (by have := HLEN.out; have := hpf.2.1; omega) HPJ.out)
        unfold kv at HJ
        generalize pk L n x y G 4 = PP at *
        clear hpf
        go_wp2_with fail
        refine HJ.out.mono ?_
        rintro e w3 ⟨g3, cap3, rfl, hG3, hb3, hr3⟩
        have HG3 := hid hG3
        have HB3 := hid (HB.out.trans hb3)
        have HR3 := hid (HRK.out.trans hr3)
        clear hG3 hb3 hr3 HJ
        go_wp2_with fail
        go_ret
        rw [HP4.out]
        exact ⟨g3, cap3, rfl, HG3.out, HB3.out, HR3.out⟩

end Go.Proofs.YtnabgfbempkgnaaGreatDoor

namespace Go.Proofs.YtnabgfbempkgnaaGreatDoor
open Go.RowKit
set_option linter.unusedVariables false
set_option linter.unusedSimpArgs false
attribute [local go_sem ↓] Go.wp_at_zero Go.wp_at_succ

set_option maxHeartbeats 2000000 in
set_option maxRecDepth 100000 in
theorem c_iTreeOf (a : Option Addr) (F : List Qd) (ca : Nat) (lv : Int) (la : Option Addr) (L : List Cl) (lca : Nat) (w : World) (ha : QSeg w a F) (hl : F.length ≤ 1048576) (hk : KidsLe F) (hca : F.length ≤ ca) (hcm : ca ≤ 9223372036854775807) (hL : Seg w la L) (hLl : L.length ≤ 1048576) :
    Calls Tryz.prog 25 #[.agg #[.slice a F.length ca], .int .i64 lv, .slice la L.length lca] w fun e w' => ∃ u, e = .returned (.tuple #[.agg #[u], .int .i64 (tofQ F lv L), .bool (tofB F lv L)]) ∧ FOwn w' w.heap.size w'.heap.size u (tofF F lv L) ∧ Below w.heap.size w w' := by
  obtain ⟨W1, hW1⟩ : ∃ W1, W1 = w.alloc (.cells #[.slice a F.length ca] 56) := ⟨_, rfl⟩
  have X1 := Box1.new w (.slice a F.length ca) 56
  rw [← hW1] at X1
  have hb2 := (Below.refl W1.heap.size W1).alloc (Nat.le_refl _) (.cells #[.slice none 0 0] 56)
  have X2 := X1.step hb2
  have R2 := one_row (heap_alloc_new W1 (.cells #[.slice none 0 0] 56))
  have s1 : W1.heap.size = w.heap.size + 1 := by rw [hW1]; simp
  rw [s1] at R2
  have s2 : (W1.alloc (.cells #[.slice none 0 0] 56)).heap.size = w.heap.size + 1 + 1 := by simp [s1]
  rw [hW1] at X2 R2 s2
  have HX := hid X2
  have HR := hid R2
  have HSZ := hid s2
  clear X1 X2 R2 s1 s2 hb2 hW1
  clear W1
  have x0 := HX.out.1
  have HQ := hid (ha.below HX.out.2.2)
  have HL2 := hid (hL.below HX.out.2.2)
  clear ha hL
  have fin : ∀ W : World, Below w.heap.size w W → ∃ u, Ending.returned (.tuple #[.agg #[.slice none 0 0], .int .i64 0, .bool false]) = .returned (.tuple #[.agg #[u], .int .i64 0, .bool false]) ∧ FOwn W w.heap.size W.heap.size u [] ∧ Below w.heap.size w W := fun W h => ⟨_, rfl, .inl ⟨rfl, rfl⟩, h⟩
  have HC := hid (c_groveOf a F ca _ HQ.out hl hk hca hcm)
  cases hg : goodF F
  · rw [hg] at HC
    have HV : Hid (tofF F lv L = [] ∧ tofQ F lv L = 0 ∧ tofB F lv L = false) := by simp [Hid, tofF, tofQ, tofB, tofOK, hg]
    clear hg
    go_enter Tryz.func25, Tryz.ntmps25
    go_wp2_with fail
    refine HC.out.mono ?_
    rintro e w3 ⟨pv, rfl, ho, hb⟩
    have R3 := hid (HR.out.of_block (hb.block _ HR.out.lt))
    have X3 := hid (HX.out.step hb)
    have L3 := hid (HL2.out.below hb)
    clear ho HC hb
    have HBB := hid (Below.refl w3.heap.size w3)
    have R9 := R3.out.of_block (HBB.out.block _ R3.out.lt)
    have r0 := R9.cell (i := 0) (by omega)
    have f0 := R9.frozen 0
    have E0 := hid ((R9.set 0 (.slice none 0 0)).cell (i := 0) (by omega))
    simp only [if_true] at E0
    have HB := hid ((X3.out.step HBB.out).2.2.setCell (p := ⟨w.heap.size + 1, 0, none⟩) (by dsimp only; omega) (.slice none 0 0))
    clear R9 R3 X3 HBB
    go_wp2_with fail
    rw [HV.out.1, HV.out.2.1, HV.out.2.2]
    exact bodyPost_ret (v := .tuple #[.agg #[.slice none 0 0], .int .i64 0, .bool false]) (by simp [results, Tryz.results25, go_sem, E0.out]) rfl (fin _ HB.out)
  · rw [hg] at HC
    have HG := hid hg
    have hg2 := good_len2 hg
    by_cases hneg : lv < 0
    · have HV : Hid (tofF F lv L = [] ∧ tofQ F lv L = 0 ∧ tofB F lv L = false) := by
        have : inB 0 5 lv = false := by unfold inB; rw [decide_eq_false (show ¬ 0 ≤ lv by omega)]; rfl
        simp [Hid, tofF, tofQ, tofB, tofOK, this]
      have dl : decide (lv < 0) = true := decide_eq_true hneg
      go_enter Tryz.func25, Tryz.ntmps25
      go_wp2_with fail
      refine HC.out.mono ?_
      rintro e w3 ⟨pv, rfl, ho, hb⟩
      have R3 := hid (HR.out.of_block (hb.block _ HR.out.lt))
      have X3 := hid (HX.out.step hb)
      have L3 := hid (HL2.out.below hb)
      clear ho HC hb
      have HBB := hid (Below.refl w3.heap.size w3)
      have R9 := R3.out.of_block (HBB.out.block _ R3.out.lt)
      have r0 := R9.cell (i := 0) (by omega)
      have f0 := R9.frozen 0
      have E0 := hid ((R9.set 0 (.slice none 0 0)).cell (i := 0) (by omega))
      simp only [if_true] at E0
      have HB := hid ((X3.out.step HBB.out).2.2.setCell (p := ⟨w.heap.size + 1, 0, none⟩) (by dsimp only; omega) (.slice none 0 0))
      clear R9 R3 X3 HBB
      go_wp2_with fail
      rw [HV.out.1, HV.out.2.1, HV.out.2.2]
      exact bodyPost_ret (v := .tuple #[.agg #[.slice none 0 0], .int .i64 0, .bool false]) (by simp [results, Tryz.results25, go_sem, E0.out]) rfl (fin _ HB.out)
    · have dl : decide (lv < 0) = false := decide_eq_false hneg
      by_cases hbig : 5 < lv
      · have HV : Hid (tofF F lv L = [] ∧ tofQ F lv L = 0 ∧ tofB F lv L = false) := by
          have : inB 0 5 lv = false := by unfold inB; rw [decide_eq_false (show ¬ lv ≤ 5 by omega)]; simp
          simp [Hid, tofF, tofQ, tofB, tofOK, this]
        have dl2 : decide (5 < lv) = true := decide_eq_true hbig
        go_enter Tryz.func25, Tryz.ntmps25
        go_wp2_with fail
        refine HC.out.mono ?_
        rintro e w3 ⟨pv, rfl, ho, hb⟩
        have R3 := hid (HR.out.of_block (hb.block _ HR.out.lt))
        have X3 := hid (HX.out.step hb)
        have L3 := hid (HL2.out.below hb)
        clear ho HC hb
        have HBB := hid (Below.refl w3.heap.size w3)
        have R9 := R3.out.of_block (HBB.out.block _ R3.out.lt)
        have r0 := R9.cell (i := 0) (by omega)
        have f0 := R9.frozen 0
        have E0 := hid ((R9.set 0 (.slice none 0 0)).cell (i := 0) (by omega))
        simp only [if_true] at E0
        have HB := hid ((X3.out.step HBB.out).2.2.setCell (p := ⟨w.heap.size + 1, 0, none⟩) (by dsimp only; omega) (.slice none 0 0))
        clear R9 R3 X3 HBB
        go_wp2_with fail
        rw [HV.out.1, HV.out.2.1, HV.out.2.2]
        exact bodyPost_ret (v := .tuple #[.agg #[.slice none 0 0], .int .i64 0, .bool false]) (by simp [results, Tryz.results25, go_sem, E0.out]) rfl (fin _ HB.out)
      · have dl2 : decide (5 < lv) = false := decide_eq_false hbig
        have hin : inB 0 5 lv = true := by simp [inB]; omega
        cases hgl : good L
        · have HV : Hid (tofF F lv L = [] ∧ tofQ F lv L = 0 ∧ tofB F lv L = false) := by simp [Hid, tofF, tofQ, tofB, tofOK, hgl]
          have HE := hid (fun W h => c_iGood' la L lca false hgl W h hLl)
          clear hg hin hgl
          go_enter Tryz.func25, Tryz.ntmps25
          go_wp2_with fail
          refine HC.out.mono ?_
          rintro e w3 ⟨pv, rfl, ho, hb⟩
          have R3 := hid (HR.out.of_block (hb.block _ HR.out.lt))
          have X3 := hid (HX.out.step hb)
          have L3 := hid (HL2.out.below hb)
          clear ho HC hb
          go_wp2_with fail
          refine (HE.out _ L3.out).mono ?_
          rintro e w5 ⟨rfl, hb⟩
          have HBB := hid hb
          clear hb
          have R9 := R3.out.of_block (HBB.out.block _ R3.out.lt)
          have r0 := R9.cell (i := 0) (by omega)
          have f0 := R9.frozen 0
          have E0 := hid ((R9.set 0 (.slice none 0 0)).cell (i := 0) (by omega))
          simp only [if_true] at E0
          have HB := hid ((X3.out.step HBB.out).2.2.setCell (p := ⟨w.heap.size + 1, 0, none⟩) (by dsimp only; omega) (.slice none 0 0))
          clear R9 R3 X3 HBB
          go_wp2_with fail
          rw [HV.out.1, HV.out.2.1, HV.out.2.2]
          exact bodyPost_ret (v := .tuple #[.agg #[.slice none 0 0], .int .i64 0, .bool false]) (by simp [results, Tryz.results25, go_sem, E0.out]) rfl (fin _ HB.out)
        · have HOK : Hid (tofOK F lv L = true) := by simp [Hid, tofOK, hg, hin, hgl]
          have HV : Hid (tofF F lv L = tellF (tofR F lv L).1 ∧ tofQ F lv L = tellQ (tofR F lv L).1 ((tofR F lv L).2 : Int) ∧ tofB F lv L = tellB (tofR F lv L).1) := by simp [Hid, tofF, tofQ, tofB, HOK.out]
          have HE := hid (fun W h => c_iGood' la L lca true hgl W h hLl)
          have hGr := good_grows hg
          have n5 : lv.toNat ≤ 5 := by omega
          have HT := hid (treeL_tr L lv.toNat 0 0 F n5 hGr)
          have p4 : 4 ^ lv.toNat ≤ 1024 := by
            rcases (show lv.toNat = 0 ∨ lv.toNat = 1 ∨ lv.toNat = 2 ∨ lv.toNat = 3 ∨ lv.toNat = 4 ∨ lv.toNat = 5 by omega) with e | e | e | e | e | e <;> rw [e] <;> decide
          have p2 : (2 : Int) ^ lv.toNat ≤ 32 := by
            rcases (show lv.toNat = 0 ∨ lv.toNat = 1 ∨ lv.toNat = 2 ∨ lv.toNat = 3 ∨ lv.toNat = 4 ∨ lv.toNat = 5 by omega) with e | e | e | e | e | e <;> rw [e] <;> decide
          have hris : risTo L L.length = true := by simp only [good, Bool.and_eq_true] at hgl; exact hgl.2
          have HRI := hid hris
          have HGR := hid hGr
          have HP4 := hid p4
          have HP2 := hid p2
          clear hg hin hgl hGr p4 p2 hris
          go_enter Tryz.func25, Tryz.ntmps25
          go_wp2_with fail
          refine HC.out.mono ?_
          rintro e w3 ⟨pv, rfl, ho, hb⟩
          have R3 := hid (HR.out.of_block (hb.block _ HR.out.lt))
          have X3 := hid (HX.out.step hb)
          have L3 := hid (HL2.out.below hb)
          rcases ho with ⟨_, p, g, cap, mb, base, hbase, rfl, hGv⟩ | ⟨e, _⟩
          · have HGV := hid hGv
            have HBS := hid (show w.heap.size + 1 + 1 ≤ base by rw [HSZ.out] at hbase; exact hbase)
            have HB0 := hid hbase
            have HB3 := hid hb
            clear HC hb hGv hbase HR HQ x0
            go_wp2_with fail
            refine (HE.out _ L3.out).mono ?_
            rintro e w5 ⟨rfl, hb⟩
            have R5 := hid (R3.out.of_block (hb.block _ R3.out.lt))
            have X5 := hid (X3.out.step hb)
            have L5 := hid (L3.out.below hb)
            have G5 := hid (HGV.out.below hb)
            have B5 := hid (HB3.out.trans (hb.mono HB3.out.size))
            clear hb R3 X3 L3 HGV HB3
            have HCT := hid (c_plant L la lca _ HL2.out hLl HRI.out base p mb HB0.out lv.toNat 0 0 F g cap w5 n5 HGR.out (by have := HP4.out; omega) (by omega) (by have := HP2.out; omega) (by omega) (by have := HP2.out; omega) G5.out B5.out)
            rw [show ((lv.toNat : Nat) : Int) = lv by omega] at HCT
            go_wp2_with fail
            refine HCT.out.mono ?_
            rintro e w7 ⟨g7, cap7, rfl, hG7, hb7, _⟩
            have HG7 := hid hG7
            have R7 := hid (R5.out.of_block (hb7.block _ (show w.heap.size + 1 < base by have := HBS.out; omega)))
            have HB7 := hid (X5.out.2.2.trans (hb7.mono (show w.heap.size ≤ base by have := HBS.out; omega)))
            have hmost := HT.out.most
            clear HCT hG7 hb7
            have HTL := hid (c_told ((treeL L lv.toNat 0 0 F).2 : Int) w7 HG7.out HT.out.grows (by have := HP4.out; omega))
            clear hmost
            go_wp2_with fail
            refine HTL.out.mono ?_
            rintro e w8 ⟨u8, rfl, hO8, hb8⟩
            have HO8 := hid hO8
            obtain ⟨ua8, uc8, rfl, _⟩ := hO8.form
            have R9 := R7.out.of_block (hb8.block _ R7.out.lt)
            have hlt7 := R7.out.lt
            have r0 := R9.cell (i := 0) (by omega)
            have f0 := R9.frozen 0
            have E0 := hid ((R9.set 0 (.slice ua8 (tellF (treeL L lv.toNat 0 0 F).1).length uc8)).cell (i := 0) (by omega))
            simp only [if_true] at E0
            have hs9 : (w8.setCell ⟨w.heap.size + 1, 0, none⟩ (.slice ua8 (tellF (treeL L lv.toNat 0 0 F).1).length uc8)).heap.size = w8.heap.size := by simp
            have hGW : Grew w8 (w8.setCell ⟨w.heap.size + 1, 0, none⟩ (.slice ua8 (tellF (treeL L lv.toNat 0 0 F).1).length uc8)) (w.heap.size + 1) (w.heap.size + 1 + 1) := (Grew.refl w8 _ _).set (Nat.le_refl _) (by omega) _
            have HO9 := hid ((HO8.out.kept hGW (by omega)).wide (lo' := w.heap.size) (hi' := w8.heap.size) (by omega) (Nat.le_refl _) (by rw [hs9]; exact Nat.le_refl _))
            have HB9 := hid ((HB7.out.trans (hb8.mono HB7.out.size)).setCell (p := ⟨w.heap.size + 1, 0, none⟩) (by dsimp only; omega) (.slice ua8 (tellF (treeL L lv.toNat 0 0 F).1).length uc8))
            have HS9 := hid hs9
            clear HTL hO8 HO8 hb8 R9 hGW hs9 hlt7
            unfold tofR at HV
            generalize hT : tellF (treeL L lv.toNat 0 0 F).1 = TF at *
            generalize tellQ (treeL L lv.toNat 0 0 F).1 ((treeL L lv.toNat 0 0 F).2 : Int) = TQ at *
            generalize tellB (treeL L lv.toNat 0 0 F).1 = TB at *
            clear hT
            go_wp2_with fail
            rw [HV.out.1, HV.out.2.1, HV.out.2.2]
            exact bodyPost_ret (v := .tuple #[.agg #[.slice ua8 TF.length uc8], .int .i64 TQ, .bool TB]) (by simp [results, Tryz.results25, go_sem, E0.out]) rfl ⟨.slice ua8 TF.length uc8, rfl, by rw [HS9.out]; exact HO9.out, HB9.out⟩
          · rw [HG.out] at e; cases e

end Go.Proofs.YtnabgfbempkgnaaGreatDoor

namespace Go.Proofs.YtnabgfbempkgnaaGreatDoor
set_option linter.unusedVariables false

theorem joinF_kids (F : List Qd) (l : List Int) : (qa (joinF F l).1 (joinF F l).2).2 = l := by
  unfold joinF
  split
  · rename_i i hi
    exact (findF_some hi).2.2
  · simp [qa]
theorem joinF_two {F : List Qd} (h : Grows F) (l : List Int) : 2 ≤ (joinF F l).2 := by
  have := h.two
  unfold joinF
  split
  · rename_i i hi
    exact (findF_some hi).1
  · exact this
/-- Kids that are there are joined to the quad that is there. -/
theorem joinF_there {F : List Qd} (h : Grows F) {l : List Int} {i : Nat} (h2 : 2 ≤ i) (hi : i < F.length) (hk : (qa F i).2 = l) : joinF F l = (F, i) := by
  unfold joinF
  split
  · rename_i j hj
    obtain ⟨a, b, c⟩ := findF_some hj
    rcases Nat.lt_trichotomy i j with e | e | e
    · exact absurd (hk.trans c.symm) (h.uniq i j h2 e b)
    · rw [e]
    · exact absurd (c.trans hk.symm) (h.uniq j i a e hi)
  · rename_i hn
    exact absurd hk (findF_none hn i h2 hi)
/-- Joined once more, nothing is new. -/
theorem joinF_again {F : List Qd} (h : Grows F) {l : List Int} (hg : Grows (joinF F l).1) : joinF (joinF F l).1 l = joinF F l :=
  joinF_there hg (joinF_two h l) (joinF_lt F l) (joinF_kids F l)

/-- The quad q is the tree of level n of the cells l, from a corner on. -/
def IsT (L : List Cl) (F : List Qd) : Nat → Nat → Int → Int → Prop
  | 0, q, x, y => q = if (x, y) ∈ L then 1 else 0
  | n + 1, q, x, y => 2 ≤ q ∧ q < F.length ∧ ∃ k0 k1 k2 k3 : Nat, (qa F q).2 = [(k0 : Int), (k1 : Int), (k2 : Int), (k3 : Int)] ∧
      IsT L F n k0 x y ∧ IsT L F n k1 (x + 2 ^ n) y ∧ IsT L F n k2 x (y + 2 ^ n) ∧ IsT L F n k3 (x + 2 ^ n) (y + 2 ^ n)
theorem IsT.more {L : List Cl} {F G : List Qd} (hl : F.length ≤ G.length) (ho : ∀ i, i < F.length → qa G i = qa F i) : ∀ {n q : Nat} {x y : Int}, IsT L F n q x y → IsT L G n q x y
  | 0, q, x, y, h => h
  | n + 1, q, x, y, ⟨h2, hq, k0, k1, k2, k3, hk, a, b, c, d⟩ =>
    ⟨h2, by omega, k0, k1, k2, k3, by rw [ho q hq]; exact hk, IsT.more hl ho a, IsT.more hl ho b, IsT.more hl ho c, IsT.more hl ho d⟩
theorem treeL_is (L : List Cl) : ∀ (n : Nat) (x y : Int) (F : List Qd), n ≤ 5 → Grows F → IsT L (treeL L n x y F).1 n (treeL L n x y F).2 x y
  | 0, x, y, F, hn, h => rfl
  | n + 1, x, y, F, hn, h => by
    have t0 := treeL_tr L n x y F (by omega) h
    have t1 := treeL_tr L n (x + 2 ^ n) y _ (by omega) t0.grows
    have t2 := treeL_tr L n x (y + 2 ^ n) _ (by omega) t1.grows
    have t3 := treeL_tr L n (x + 2 ^ n) (y + 2 ^ n) _ (by omega) t2.grows
    have i0 := treeL_is L n x y F (by omega) h
    have i1 := treeL_is L n (x + 2 ^ n) y _ (by omega) t0.grows
    have i2 := treeL_is L n x (y + 2 ^ n) _ (by omega) t1.grows
    have i3 := treeL_is L n (x + 2 ^ n) (y + 2 ^ n) _ (by omega) t2.grows
    have j := fun (l : List Int) {k : Nat} {u v : Int} (z : IsT L _ n k u v) => IsT.more (G := (joinF (treeL L n (x + 2 ^ n) (y + 2 ^ n) (treeL L n x (y + 2 ^ n) (treeL L n (x + 2 ^ n) y (treeL L n x y F).1).1).1).1 l).1) (joinF_len _ l).1 (fun i hi => joinF_old _ l hi) z
    refine ⟨joinF_two t3.grows _, joinF_lt _ _, _, _, _, _, joinF_kids _ _, j _ ?_, j _ ?_, j _ ?_, j _ i3⟩
    · exact ((i0.more t1.more t1.old).more t2.more t2.old).more t3.more t3.old
    · exact (i1.more t2.more t2.old).more t3.more t3.old
    · exact i2.more t3.more t3.old
/-- A tree that is there is not made anew. -/
theorem treeL_there {L : List Cl} {F : List Qd} (h : Grows F) : ∀ {n q : Nat} {x y : Int}, IsT L F n q x y → treeL L n x y F = (F, q)
  | 0, q, x, y, e => by unfold IsT at e; simp only [treeL, e]
  | n + 1, q, x, y, ⟨h2, hq, k0, k1, k2, k3, hk, a, b, c, d⟩ => by
    have e0 := treeL_there h a
    have e1 := treeL_there h b
    have e2 := treeL_there h c
    have e3 := treeL_there h d
    simp only [treeL, e0, e1, e2, e3]
    exact joinF_there h h2 hq hk
/-- A tree made once more is the one that is there. -/
theorem treeL_again {L : List Cl} {n : Nat} {x y : Int} {F : List Qd} (hn : n ≤ 5) (h : Grows F) : treeL L n x y (treeL L n x y F).1 = treeL L n x y F :=
  treeL_there (treeL_tr L n x y F hn h).grows (treeL_is L n x y F hn h)

/-- A tree's cells are those of its square that are alive. -/
theorem IsT.mem {L : List Cl} {F : List Qd} : ∀ {n q : Nat} {x y : Int}, IsT L F n q x y → ∀ c : Cl, c ∈ cellsL F n q x y ↔ (x ≤ c.1 ∧ c.1 < x + 2 ^ n ∧ y ≤ c.2 ∧ c.2 < y + 2 ^ n) ∧ c ∈ L
  | 0, q, x, y, e, c => by
    unfold IsT at e
    obtain ⟨u, v⟩ := c
    by_cases hL : (x, y) ∈ L
    · rw [if_pos hL] at e
      subst e
      simp only [cellsL, if_true, List.mem_singleton, Prod.mk.injEq]
      constructor
      · rintro ⟨rfl, rfl⟩
        exact ⟨by simp; omega, hL⟩
      · rintro ⟨b, _⟩
        simp at b
        omega
    · rw [if_neg hL] at e
      subst e
      simp only [cellsL]
      constructor
      · intro z; simp at z
      · rintro ⟨b, z⟩
        simp at b
        have e1 : u = x := by omega
        have e2 : v = y := by omega
        subst e1 e2
        exact absurd z hL
  | n + 1, q, x, y, ⟨h2, hq, k0, k1, k2, k3, hk, a, b, d, e⟩, c => by
    have q0 : kidq F q 0 = k0 := by simp [kidq, hk, ia]
    have q1 : kidq F q 1 = k1 := by simp [kidq, hk, ia]
    have q2 : kidq F q 2 = k2 := by simp [kidq, hk, ia]
    have q3 : kidq F q 3 = k3 := by simp [kidq, hk, ia]
    have hp : (2 : Int) ^ (n + 1) = 2 ^ n + 2 ^ n := by rw [Int.pow_succ]; omega
    have hpos : (0 : Int) < 2 ^ n := Int.pow_pos (by omega)
    simp only [cellsL, List.mem_append, q0, q1, q2, q3, IsT.mem a c, IsT.mem b c, IsT.mem d c, IsT.mem e c, hp]
    generalize (2 : Int) ^ n = W at *
    by_cases hL : c ∈ L
    · simp only [hL, and_true]; omega
    · simp only [hL, and_false, or_false]

end Go.Proofs.YtnabgfbempkgnaaGreatDoor
