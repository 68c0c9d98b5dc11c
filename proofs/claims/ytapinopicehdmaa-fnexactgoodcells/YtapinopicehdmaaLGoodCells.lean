/- FnExactGoodCells answers true at every argument: GoodCells answers as the specification does, and writes into no argument. No condition. -/
import Derived.Test.YtapinopicehdmaaOpen
namespace Go.Proofs.Ytapinopicehdmaa.lGoodCells
open Go.RowKit Go.ChangeShapes Go.WideShapes Go.ChangeAt
set_option linter.unusedVariables false

set_option maxHeartbeats 400000 in
theorem walk (a : Option Addr) (l : List Cl) (ca : Nat) (w : World) (ha : Seg w a l) (hm : l.length ≤ maxLen) :
    Calls Try.prog 3 #[.slice a l.length ca] w fun e w' => e = .returned (.bool true) ∧ Below w.heap.size w w' := by
  unfold maxLen at hm
  by_cases hl : l.length ≤ 1048576
  · have hz : (0 : Int) ≤ 1048576 - (l.length : Int) := by omega
    go_enter Try.func3, Try.ntmps3
    go_wp2_with fail
    refine (c_szCellS a l.length ca 1048576 _ (by omega) (by omega)).mono ?_
    rintro e w0 ⟨rfl, rfl⟩
    go_wp2_with fail
    refine (c_toCellS a l ca _ ha hl).mono ?_
    rintro e w1 ⟨rfl, r1, b1⟩
    have s1 := r1.seg
    go_wp2_with fail
    refine (c_sGood _ l l.length w1 s1 hl).mono ?_
    rintro e w2 ⟨rfl, b2⟩
    have B2 := hid (b1.trans (b2.mono b1.size))
    clear r1 s1 b1 b2
    go_wp2_with fail
    refine (c_toCellS a l ca w2 (ha.below B2.out) hl).mono ?_
    rintro e w3 ⟨rfl, r3, b3⟩
    have B3 := hid (B2.out.trans (b3.mono B2.out.size))
    clear B2 b3
    have R3 := hid r3
    clear r3
    go_wp2_with fail
    refine (c_iGood _ l l.length w3 R3.out.seg hl).mono ?_
    rintro e w4 ⟨rfl, b4⟩
    have B4 := hid (B3.out.trans (b4.mono B3.out.size))
    have R4 := hid (R3.out.below b4)
    clear B3 R3 b4
    go_wp2_with fail
    refine (c_toCellS a l ca w4 (ha.below B4.out) hl).mono ?_
    rintro e w5 ⟨rfl, r5, b5⟩
    have B5 := hid (B4.out.trans (b5.mono B4.out.size))
    have R5 := hid (R4.out.below b5)
    clear B4 R4 b5
    have r5' := hid r5
    clear r5
    go_wp2_with fail
    refine (c_eqCellS _ _ l l l.length l.length w5 R5.out.seg r5'.out.seg hl hl).mono ?_
    rintro e w6 ⟨rfl, b6⟩
    have B6 := hid (B5.out.trans (b6.mono B5.out.size))
    clear B5 R5 r5' b6
    have hd : decide (l = l) = true := by simp
    go_wp2
    go_ret
    exact ⟨rfl, B6.out⟩
  · go_enter Try.func3, Try.ntmps3
    go_wp2_with fail
    refine (c_szCellS_no a l.length ca 1048576 _ (by omega) (by omega) (by omega) (by omega)).mono ?_
    rintro e w0 ⟨rfl, rfl⟩
    go_wp2
    go_ret
    exact ⟨rfl, Below.refl _ _⟩

set_option maxRecDepth 100000 in
theorem lifted (os : Os) (started : os.Started) (H : Type) (enc : TypeId × Value → H) :
    ReturnsInHanded {} Try.checked os 3 .any (Rows.fnExactGoodCellsSpec.pre6 enc Try.prog Try.f3 Rows.fnExactGoodCellsRow.domain false) (Rows.fnExactGoodCellsSpec.post enc Try.prog Try.f3 false true false false) := by
  refine returnsInHanded_of_change (C := Try.checked) own started (by kernel_rfl) Try.func3
    (ChangeSpec.witness6 (enc := enc) (C := Try.checked) false ⟨#[], #[.slice none 0 0], []⟩ 8 (by kernel_rfl) (by kernel_rfl) (by kernel_rfl) (by kernel_rfl)) ?_
  intro W base args ds gs before hval0 hW hcnd _
  have hval : ∀ (j : Nat) t v, Try.f3.params[j]? = some t → args[j]? = some v → Value.okWide Try.prog W .any base t v := hval0
  have hW' := hW
  obtain ⟨p, q, hA0, hV, rfl, hfz, hnd⟩ := hW
  have hA : DataW.TrodAll enc Try.prog W 0 (fun _ => true) true Try.f3.params.toList args.toList ds p := hA0
  rw [Try.params3] at hA hval
  obtain ⟨v0, vs0, d0, ds0, p0, q0, hargs, rfl, rfl, h0, r0⟩ := trodAll_cons hA
  obtain ⟨rfl, rfl, rfl⟩ := trodAll_nil r0
  obtain rfl : args = #[v0] := by cases args; simp_all
  obtain ⟨rfl, rfl⟩ := trodVars_none hV
  obtain ⟨a0, len0, cap0, rfl⟩ := okWide_slice Try.underlying22 (hval 0 22 v0 rfl rfl)
  have k0 := h0
  have lt0 : ∀ x ∈ p0, x.block < W.heap.size := by obtain ⟨m, hm⟩ := k0; exact DataW.trod_lt m _ _ _ hm
  obtain ⟨l0, rfl, m0, s0⟩ : ∃ l : List Cl, l.length = len0 ∧ l.length ≤ maxLen ∧ Seg W a0 l := by
    obtain ⟨fuel, hf⟩ := h0
    exact open_cells hf
  clear hA0 hval0
  refine (walk a0 l0 cap0 W s0 m0).mono fun e W' ⟨he, bel⟩ => ?_
  subst he
  exact ⟨_, rfl, _, _, _, [], _, [], hW', trodAll_mk1 (shut_bool Try.underlying4 _), (trodAll_cons_mk (Below.trod laidOut (by kernel_rfl) (of_decide_eq_true (by kernel_rfl)) k0 bel lt0) trodAll_mk0), rfl, bel.frame _, fun h => by cases h⟩

theorem over : Rows.fnExactGoodCellsRow.holds Try.pinned (OpenSpec.ofChange Rows.fnExactGoodCellsSpec) :=
  OpenClaim.holds_of_wide 3 Try.f3 rfl rfl rfl rfl rfl rfl rfl ⟨rfl, rfl, rfl, rfl, rfl⟩ rfl rfl rfl rfl rfl (by kernel_rfl) Try.func3 (by kernel_rfl)
    (of_decide_eq_true (by kernel_rfl)) (by unfold Func.isWrapper; first | (rw [if_pos (by decide +kernel)]; kernel_rfl) | (rw [if_neg (by decide +kernel)]; exact ⟨rfl, rfl⟩))
    (fun os started H enc _ => lifted os started H enc)

end Go.Proofs.Ytapinopicehdmaa.lGoodCells
namespace Go.Proofs.Ytapinopicehdmaa
/-- THE STATEMENT. -/
theorem goodCells_holds : Rows.FnExactGoodCellsSaid := lGoodCells.over
#print axioms goodCells_holds
end Go.Proofs.Ytapinopicehdmaa
