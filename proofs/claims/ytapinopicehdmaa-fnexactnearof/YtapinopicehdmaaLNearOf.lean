/- FnExactNearOf answers true at every argument: NearOf answers as the specification does, and writes into no argument. No condition. -/
import Derived.Test.YtapinopicehdmaaOpen
import Derived.Test.YtapinopicehdmaaNear
import Derived.Deep.RegionHeld3
import Derived.Deep.DrawnRows
namespace Go.Proofs.Ytapinopicehdmaa.lNearOf
open Go.RowKit Go.ChangeShapes Go.WideShapes Go.ChangeAt
set_option linter.unusedVariables false
attribute [local go_sem ↓] Go.wp_at_zero Go.wp_at_succ

set_option maxHeartbeats 400000 in
theorem walk (a : Option Addr) (l : List Cl) (ca : Nat) (c : Cl) (w : World) (ha : Seg w a l) (hm : l.length ≤ maxLen) :
    Calls Try.prog 4 #[.slice a l.length ca, .agg #[.int .i64 c.1, .int .i64 c.2]] w fun e w' => e = .returned (.bool true) ∧ Below w.heap.size w w' := by
  unfold maxLen at hm
  by_cases hl : l.length ≤ 1048576
  · have hz : (0 : Int) ≤ 1048576 - (l.length : Int) := by omega
    go_enter Try.func4, Try.ntmps4
    go_wp2_with fail
    refine (c_szCellS a l.length ca 1048576 _ (by omega) (by omega)).mono ?_
    rintro e w0 ⟨rfl, rfl⟩
    have X0 := BoxIn.new w c 30
    have q0 := X0.1
    have q1 := X0.2.1
    have X1 := X0.drew
    go_wp2
    go_region_held3 (fun w' => w'.cell? ⟨w.heap.size, 0, none⟩ = some (.int .i64 c.1) ∧ w'.cell? ⟨w.heap.size, 1, none⟩ = some (.int .i64 c.2) ∧ BoxIn w w' c) (first | go_keep | (exact ⟨BoxIn.1 (by assumption), (by assumption : BoxIn _ _ _).2.1, by assumption⟩))
      (first | (go_at_call 14; refine (c_toCellS a l ca _ (ha.below (BoxIn.below (by assumption))) hl).mono ?_; rintro e w1 ⟨rfl, r1, b1⟩; have hx1 := BoxIn.step (by assumption) b1; have qa := hx1.1; have qb := hx1.2.1; try (refine (fun rr => ?_) (show Row w1 (w.heap.size + 1) l from ?hs); case' hs => (simpa using r1))) | (go_at_call 18; refine (c_toCell c.1 c.2 _).mono ?_; rintro e w2 ⟨rfl, b2⟩; have hx2 := BoxIn.step (by assumption) b2; have qa := hx2.1; have qb := hx2.2.1; try (refine (fun rr => ?_) (Row.below (g := w.heap.size + 1) (l := l) ?hrow b2); case' hrow => assumption)) | (go_at_call 17; refine (c_sNearOf _ l l.length c _ (Row.seg (by assumption)) hl).mono ?_; rintro e w3 ⟨rfl, b3⟩; have hx3 := BoxIn.step (by assumption) b3; have qa := hx3.1; have qb := hx3.2.1))
    all_goals
      have B3 := hid hx3.below
      have X3 := hid hx3
      clear X0 X1 q0 q1
      go_wp2_with fail
      refine (c_toCellS a l ca w3 (ha.below B3.out) hl).mono ?_
      rintro e w4 ⟨rfl, r4, b4⟩
      have X4 := X3.out.step b4
      have y0 := X4.1
      have y1 := X4.2.1
      have HX4 := hid X4
      have R4 := hid r4
      clear X4 r4 b4 B3 X3
      go_wp2_with fail
      refine (c_toCell c.1 c.2 w4).mono ?_
      rintro e w5 ⟨rfl, b5⟩
      have HX5 := hid (HX4.out.step b5)
      have R5 := hid (R4.out.below b5)
      clear y0 y1 HX4 R4 b5
      go_wp2_with fail
      refine (c_iNearOf _ l l.length c w5 R5.out.seg hl).mono ?_
      rintro e w6 ⟨rfl, b6⟩
      have HX6 := hid (HX5.out.step b6)
      have R6 := hid (R5.out.below b6)
      clear HX5 R5 b6
      generalize nearV l c = v
      obtain ⟨v0, v1⟩ := v
      go_wp2_with fail
      refine (c_toCellS a l ca w6 (ha.below HX6.out.below) hl).mono ?_
      rintro e w7 ⟨rfl, r7, b7⟩
      have HX7 := hid (HX6.out.step b7)
      have R7 := hid (R6.out.below b7)
      have S7 := hid r7
      clear HX6 R6 b7 r7
      go_wp2_with fail
      refine (c_eqCellS _ _ l l l.length l.length w7 R7.out.seg S7.out.seg hl hl).mono ?_
      rintro e w8 ⟨rfl, b8⟩
      have HX8 := hid (HX7.out.step b8)
      clear HX7 R7 S7 b8
      have hd : decide (l = l) = true := by simp
      go_wp2
      go_ret
      exact ⟨rfl, HX8.out.below⟩
  · go_enter Try.func4, Try.ntmps4
    go_wp2_with fail
    refine (c_szCellS_no a l.length ca 1048576 _ (by omega) (by omega) (by omega) (by omega)).mono ?_
    rintro e w0 ⟨rfl, rfl⟩
    go_wp2
    go_ret
    exact ⟨rfl, (Below.refl _ _).alloc (Nat.le_refl _) _⟩

set_option maxRecDepth 100000 in
theorem lifted (os : Os) (started : os.Started) (H : Type) (enc : TypeId × Value → H) :
    ReturnsInHanded {} Try.checked os 4 .any (Rows.fnExactNearOfSpec.pre6 enc Try.prog Try.f4 Rows.fnExactNearOfRow.domain false) (Rows.fnExactNearOfSpec.post enc Try.prog Try.f4 false true false false) := by
  refine returnsInHanded_of_change (C := Try.checked) own started (by kernel_rfl) Try.func4
    (ChangeSpec.witness6 (enc := enc) (C := Try.checked) false ⟨#[], #[.slice none 0 0, .agg #[.int .i64 0, .int .i64 0]], []⟩ 8 (by kernel_rfl) (by kernel_rfl) (by kernel_rfl) (by kernel_rfl)) ?_
  intro W base args ds gs before hval0 hW hcnd _
  have hval : ∀ (j : Nat) t v, Try.f4.params[j]? = some t → args[j]? = some v → Value.okWide Try.prog W .any base t v := hval0
  have hW' := hW
  obtain ⟨p, q, hA0, hV, rfl, hfz, hnd⟩ := hW
  have hA : DataW.TrodAll enc Try.prog W 0 (fun _ => true) true Try.f4.params.toList args.toList ds p := hA0
  rw [Try.params4] at hA hval
  obtain ⟨v0, vs0, d0, ds0, p0, q0, hargs, rfl, rfl, h0, r0⟩ := trodAll_cons hA
  obtain ⟨v1, vs1, d1, ds1, p1, q1, rfl, rfl, rfl, h1, r1⟩ := trodAll_cons r0
  obtain ⟨rfl, rfl, rfl⟩ := trodAll_nil r1
  obtain rfl : args = #[v0, v1] := by cases args; simp_all
  obtain ⟨rfl, rfl⟩ := trodVars_none hV
  have k0 := h0
  have lt0 : ∀ x ∈ p0, x.block < W.heap.size := by obtain ⟨m, hm⟩ := k0; exact DataW.trod_lt m _ _ _ hm
  obtain ⟨a0, len0, cap0, rfl⟩ := okWide_slice Try.underlying22 (hval 0 22 v0 rfl rfl)
  obtain ⟨l0, rfl, m0, s0⟩ : ∃ l : List Cl, l.length = len0 ∧ l.length ≤ maxLen ∧ Seg W a0 l := by
    obtain ⟨fuel, hf⟩ := h0
    exact open_cells hf
  have k1 := h1
  have lt1 : ∀ x ∈ p1, x.block < W.heap.size := by obtain ⟨m, hm⟩ := k1; exact DataW.trod_lt m _ _ _ hm
  obtain ⟨c1, rfl⟩ : ∃ c : Cl, v1 = .agg #[.int .i64 c.1, .int .i64 c.2] := open_cell (hval 1 30 v1 rfl rfl) h1
  clear hA0 hval0
  refine (walk a0 l0 cap0 c1 W s0 m0).mono fun e W' ⟨he, bel⟩ => ?_
  subst he
  exact ⟨_, rfl, _, _, _, [], _, [], hW', trodAll_mk1 (shut_bool Try.underlying4 _), (trodAll_cons_mk (Below.trod laidOut (by kernel_rfl) (of_decide_eq_true (by kernel_rfl)) k0 bel lt0) (trodAll_cons_mk (Below.trod laidOut (by kernel_rfl) (of_decide_eq_true (by kernel_rfl)) k1 bel lt1) trodAll_mk0)), rfl, bel.frame _, fun h => by cases h⟩

theorem over : Rows.fnExactNearOfRow.holds Try.pinned (OpenSpec.ofChange Rows.fnExactNearOfSpec) :=
  OpenClaim.holds_of_wide 4 Try.f4 rfl rfl rfl rfl rfl rfl rfl ⟨rfl, rfl, rfl, rfl, rfl⟩ rfl rfl rfl rfl rfl (by kernel_rfl) Try.func4 (by kernel_rfl)
    (of_decide_eq_true (by kernel_rfl)) (by unfold Func.isWrapper; first | (rw [if_pos (by decide +kernel)]; kernel_rfl) | (rw [if_neg (by decide +kernel)]; exact ⟨rfl, rfl⟩))
    (fun os started H enc _ => lifted os started H enc)

end Go.Proofs.Ytapinopicehdmaa.lNearOf
namespace Go.Proofs.Ytapinopicehdmaa
/-- THE STATEMENT. -/
theorem nearOf_holds : Rows.FnExactNearOfSaid := lNearOf.over
#print axioms nearOf_holds
end Go.Proofs.Ytapinopicehdmaa
