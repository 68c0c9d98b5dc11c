/- Whether four kids can be joined in a grove. -/
import Derived.Test.YtnabgfbempkgnaaGrove
namespace Go.Proofs.Ytnabgfbempkgnaa
open Go.RowKit Go.Maps
set_option linter.unusedVariables false
attribute [local go_sem ↓] Go.wp_at_zero Go.wp_at_succ

/-- Is kid i there, and of the first one's level? -/
def kidB (G : List Qd) (l : List Int) (i : Nat) : Bool := inB 0 ((G.length : Int) - 1) (ia l i) && decide ((qa G (ia l i).toNat).1 = (qa G (ia l 0).toNat).1)
def canJ (G : List Qd) (l : List Int) : Bool := allB (kidB G l) 4 && decide ((qa G (ia l 0).toNat).1 < 5)
theorem canJ_no {G : List Qd} {l : List Int} {k : Nat} (hk : k < 4) (h : kidB G l k = false) : canJ G l = false := by simp [canJ, allB_false hk h]

/-- The box of four numbers. -/
def Box4 (w W : World) (l : List Int) : Prop := (∀ j, j < 4 → W.cell? ⟨w.heap.size, j, none⟩ = some (.int .i64 (ia l j))) ∧ w.heap.size < W.heap.size ∧ Below w.heap.size w W
theorem Box4.step {w W W' : World} {l : List Int} (h : Box4 w W l) (hb : Below W.heap.size W W') : Box4 w W' l :=
  ⟨fun j hj => (hb.cell (p := ⟨w.heap.size, j, none⟩) h.2.1).trans (h.1 j hj), Nat.lt_of_lt_of_le h.2.1 hb.size, h.2.2.trans (hb.mono h.2.2.size)⟩
theorem Box4.new (w : World) (l : List Int) (t : TypeId) : Box4 w (w.alloc (.cells #[.int .i64 (ia l 0), .int .i64 (ia l 1), .int .i64 (ia l 2), .int .i64 (ia l 3)] t)) l := by
  refine ⟨fun j hj => ?_, by simp, (Below.refl _ _).alloc (Nat.le_refl _) _⟩
  unfold World.cell?
  rw [heap_alloc_new]
  rcases (show j = 0 ∨ j = 1 ∨ j = 2 ∨ j = 3 by omega) with rfl | rfl | rfl | rfl <;> rfl

set_option maxHeartbeats 4000000 in
set_option maxRecDepth 100000 in
theorem c_canJoin (l : List Int) (w : World) {base p g cap mb : Nat} {G : List Qd} (h : Grv w base p g cap mb G) (hG : G.length ≤ 1048576) :
    Calls Try.prog 94 #[.pointer (some ⟨p, 0, none⟩), kv l] w fun e w' => e = .returned (.bool (canJ G l)) ∧ Below w.heap.size w w' := by
  have HX0 := hid (Box4.new w l 99)
  have HG0 := hid h
  clear h
  unfold kv
  go_enter Try.func94, Try.ntmps94
  go_wp2
  go_loopw [8] (fun i wr => ∃ k : Nat, k ≤ 4 ∧ i = .int .i64 k ∧ Hid (allB (kidB G l) k = true) ∧ Hid (Box4 w wr l)) (fun i _ => 4 - (intOf i).toNat)
  case atStart => exact ⟨0, Nat.zero_le _, rfl, (rfl : _ = _), HX0.out⟩
  case round =>
    clear HX0
    obtain ⟨k, hk, rfl, hT, HX⟩ := hrel
    have HG := hid (HG0.out.below HX.out.2.2)
    have HGR := hid fun G' : Gr wr => HG.out.below G'.below
    by_cases hlt : k < 4
    · have hidx := four_index l k hlt
      unfold kv at hidx
      have k0 : (0 : Int) ≤ (k : Int) := by omega
      have k1 : (k : Int) < 4 := by omega
      have HS := hid (allB_succ (kidB G l) k)
      have HN := hid (fun h => canJ_no (G := G) (l := l) hlt h)
      have hlt' := HX.out.2.1
      have hne := Gr.ne wr
      have g0 := fun G' : Gr wr => G'.cell HG.out.c0 (HG.out.box.lt)
      have x0 := fun G' : Gr wr => G'.cell (HX.out.1 0 (by omega)) hlt'
      cases hin : inB 0 ((G.length : Int) - 1) (ia l k)
      · have HV := hid (HN.out (by simp [kidB, hin]))
        clear HN HS
        go_wp2
        refine wp_region_gr (by kernel_rfl) (by kernel_rfl) ?_
        repeat (go_big_quiet_step (first | (go_at_call 79; exact Calls.gr _ (c_has' (ia l k) false _ hin (HGR.out _)))))
        refine wpQuiet_nil ?_
        rintro _ ⟨G', rfl⟩
        clear g0 x0
        go_wp2
        go_ret
        exact ⟨ret_bool HV.out.symm, HX.out.2.2.trans (G'.below.mono HX.out.2.2.size)⟩
      · have hbd := inB_bd hin
        have h0in : inB 0 ((G.length : Int) - 1) (ia l 0) = true := by
          by_cases e : k = 0
          · subst e; exact hin
          · have := allB_iff.1 hT.out 0 (by omega)
            simp only [kidB, Bool.and_eq_true] at this
            exact this.1
        have hbd0 := inB_bd h0in
        have m0 : (ia l k).toNat < G.length := by omega
        have m1 : (ia l 0).toNat < G.length := by omega
        have g1 := fun G' : Gr wr => G'.cell (HG.out.lev m0) HG.out.lt.2
        have g2 := fun G' : Gr wr => G'.cell (HG.out.lev m1) HG.out.lt.2
        have i0 : 0 ≤ ia l k := hbd.1
        have i1 : ia l k < (G.length : Int) := by omega
        have i2 : 0 ≤ ia l 0 := hbd0.1
        have i3 : ia l 0 < (G.length : Int) := by omega
        by_cases hv : (qa G (ia l k).toNat).1 = (qa G (ia l 0).toNat).1
        · have d1 : ((qa G (ia l k).toNat).1 != (qa G (ia l 0).toNat).1) = false := by simp [hv]
          have HV := hid (show allB (kidB G l) (k + 1) = true by rw [HS.out, hT.out]; simp only [kidB, hin, hv]; simp)
          clear HN HS hv
          go_wp2
          refine wp_region_gr (by kernel_rfl) (by kernel_rfl) ?_
          repeat (go_big_quiet_step (first | (go_at_call 79; exact Calls.gr _ (c_has' (ia l k) true _ hin (HGR.out _)))))
          refine wpQuiet_nil ?_
          rintro _ ⟨G', rfl⟩
          clear g0 x0 g1 g2
          go_wp2
          go_roundw
          case rel => exact ⟨k + 1, by omega, by go_num, HV.out, HX.out.step G'.below⟩
          case measure => simp [intOf]; omega
        · have d1 : ((qa G (ia l k).toNat).1 != (qa G (ia l 0).toNat).1) = true := by simp [hv]
          have HV := hid (HN.out (by simp only [kidB]; rw [decide_eq_false hv, Bool.and_false]))
          clear HN HS hv
          go_wp2
          refine wp_region_gr (by kernel_rfl) (by kernel_rfl) ?_
          repeat (go_big_quiet_step (first | (go_at_call 79; exact Calls.gr _ (c_has' (ia l k) true _ hin (HGR.out _)))))
          refine wpQuiet_nil ?_
          rintro _ ⟨G', rfl⟩
          clear g0 x0 g1 g2
          go_wp2
          go_ret
          exact ⟨ret_bool HV.out.symm, HX.out.2.2.trans (G'.below.mono HX.out.2.2.size)⟩
    · obtain rfl : k = 4 := by omega
      have h0in : inB 0 ((G.length : Int) - 1) (ia l 0) = true := by
        have := allB_iff.1 hT.out 0 (by omega)
        simp only [kidB, Bool.and_eq_true] at this
        exact this.1
      have hbd0 := inB_bd h0in
      have m1 : (ia l 0).toNat < G.length := by omega
      have g0 := HG.out.c0
      have x0 := HX.out.1 0 (by omega)
      have g2 := HG.out.lev m1
      have i2 : 0 ≤ ia l 0 := hbd0.1
      have i3 : ia l 0 < (G.length : Int) := by omega
      have HV := hid (show canJ G l = decide ((qa G (ia l 0).toNat).1 < 5) by rw [canJ, hT.out]; rfl)
      go_wp2
      go_region
      go_wp2
      go_ret
      exact ⟨ret_bool HV.out.symm, by first | exact HX.out.2.2 | exact HX.out.2.2.drew⟩

end Go.Proofs.Ytnabgfbempkgnaa
