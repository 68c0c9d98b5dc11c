/- FnExactRunTokens answers true at every argument: RunTokens answers as the specification does, and its answer owns its memory. The listed variables hold what their initialisers lay (the card ties them). -/
import Derived.Test.YtpldhbfblmffjaaDoorCards
import Derived.Test.YtpldhbfblmffjaaDoorTie
import Derived.Test.YtpldhbfblmffjaaDoorOpen
import Derived.Test.YtpldhbfblmffjaaDoorRunTok
import Derived.Test.YtpldhbfblmffjaaDoorErr
import Derived.Deep.DeepHandedRow
import Derived.Deep.DeepWitnessRowRef
import Derived.Lib.LaidTab
namespace Go.Proofs.YtpldhbfblmffjaaDoor.lRunTokens
open Go.RowKit Go.ChangeShapes Go.WideShapes Go.ChangeAt
set_option linter.unusedVariables false

set_option maxHeartbeats 2000000 in
theorem walk (s : Tx) (w : World) (hm : s.size ≤ maxLen) (hL : laidMetH Tryd.prog Rows.fnExactRunTokensRow.laid w) :
    Calls Tryd.prog 5 #[.string s] w fun e w' => e = .returned (.bool true) ∧ Below w.heap.size w w' := by
  obtain ⟨ev, hv, hev⟩ := errRange (W := w) hL
  have HV := hid hv
  have HE := hid hev
  have HV1 := hid (lt_cell hv)
  have HM := hid hm
  clear hL hv hev hm
  by_cases hl : (s.size : Int) ≤ 1048576
  · have CI := hid (fun (W : World) (B : Below w.heap.size w W) => c_iRunTokens s W ev HM.out ((B.cell (p := ⟨1, 0, none⟩) HV1.out).trans HV.out) HE.out)
    have CS := hid (c_sRunTokens s w HM.out)
    have hR := tokT_le s
    generalize tokT s = R at *
    generalize ofOk s = ok at *
    have hok : (ok != ok) = false := by cases ok <;> rfl
    have hd : decide (R = R) = true := by simp
    go_enter Tryd.func5, Tryd.ntmps5
    go_wp2_with fail
    refine CS.out.mono ?_
    rintro e w1 ⟨v1, rfl, o1, b1⟩
    obtain ⟨a1, c1, rfl, s1⟩ := o1.form
    have L1 := hid (fun k hk => (o1.lt k hk).2)
    have O1 := hid o1
    have B1 := hid b1
    clear o1 s1 b1 CS
    go_wp2_with fail
    refine (CI.out w1 B1.out).mono ?_
    rintro e w2 ⟨v2, rfl, o2, b2⟩
    obtain ⟨a2, c2, rfl, s2⟩ := o2.form
    have L2 := hid (fun k hk => (o2.lt k hk).1)
    have O2 := hid o2
    have O1b := hid (O1.out.below b2)
    have B2 := hid (B1.out.trans (b2.mono B1.out.size))
    have W1 := hid B1.out.size
    clear o2 s2 b2 O1 B1
    go_wp2_with fail
    refine (c_eqStringS a2 a1 R R c2 c1 w2 O2.out.seg O1b.out.seg (by omega) (by omega)).mono ?_
    rintro e w5 ⟨rfl, b5⟩
    have O1d := hid (O1b.out.below b5)
    have O2d := hid (O2.out.below b5)
    have B5 := hid (B2.out.trans (b5.mono B2.out.size))
    clear O1b O2 B2 b5
    go_wp2_with fail
    refine (c_markT a2 c2 w1.heap.size R 1 w5 O2d.out (by omega) (by omega) (by omega)).mono ?_
    rintro e w10 ⟨rfl, o10, g10⟩
    have O1i := hid (ownT_keep O1d.out g10 (fun k hk e => by have h1 := L1.out k hk; have h2 := L2.out k e; omega))
    have M10 := hid o10
    have B10 := hid (below_row B5.out g10 (fun k e => by have h2 := L2.out k e; have := W1.out; omega))
    clear o10 g10 O1d O2d B5
    have hq1 : ¬ 1 + (R.length : Int) < 0 := by omega
    have hq2 : ((1 + (R.length : Int)) != (1 + (R.length : Int))) = false := by simp
    go_wp2_with fail
    refine (c_heldT a2 c2 R.length 1 w10 M10.out.seg (by omega) (by omega) (by omega)).mono ?_
    rintro e w10' ⟨rfl, b10⟩
    have O1i' := hid (O1i.out.below b10)
    have M10' := hid (M10.out.below b10)
    have B10' := hid (B10.out.trans (b10.mono B10.out.size))
    clear b10 O1i M10 B10
    go_wp2_with fail
    refine (CI.out w10' B10'.out).mono ?_
    rintro e w12 ⟨v3, rfl, o3, b12⟩
    obtain ⟨a3, c3, rfl, s3⟩ := o3.form
    have O3 := hid o3
    have O1k := hid (O1i'.out.below b12)
    have M12 := hid (M10'.out.below b12)
    have B12 := hid (B10'.out.trans (b12.mono B10'.out.size))
    clear o3 s3 b12 O1i' M10' B10' CI
    go_wp2_with fail
    refine (c_eqStringS a3 a1 R R c3 c1 w12 O3.out.seg O1k.out.seg (by omega) (by omega)).mono ?_
    rintro e w13 ⟨rfl, b13⟩
    have M13 := hid (M12.out.below b13)
    have B13 := hid (B12.out.trans (b13.mono B12.out.size))
    clear M12 B12 O3 O1k b13
    go_wp2_with fail
    refine (c_heldT a2 c2 R.length 1 w13 M13.out.seg (by omega) (by omega) (by omega)).mono ?_
    rintro e w13' ⟨rfl, b14⟩
    go_wp2
    go_ret
    exact ⟨rfl, B13.out.trans (b14.mono B13.out.size)⟩
  · go_enter Tryd.func5, Tryd.ntmps5
    go_wp2
    go_ret
    exact ⟨rfl, Below.refl _ _⟩

set_option maxRecDepth 100000 in
theorem contract (H : Type) (enc : TypeId × Value → H) (W : World) (base : Nat) (args : Array Value) (ds gs : List (DataW H)) (before : List MemPlace)
    (hval0 : ∀ (j : Nat) t v, Tryd.f5.params[j]? = some t → args[j]? = some v → Value.okWide Tryd.prog W .any base t v)
    (hW : DataW.Whole enc Tryd.prog Tryd.f5.params.toList Rows.fnExactRunTokensSpec.vars false W args.toList ds gs before) (hL : laidMetH Tryd.prog Rows.fnExactRunTokensRow.laid W) :
    Calls Tryd.prog 5 args W fun e W' => ∃ v, e = .returned v ∧ Rows.fnExactRunTokensSpec.post enc Tryd.prog Tryd.f5 false true false false W args v W' := by
  have hcnd : True := trivial
  have hval : ∀ (j : Nat) t v, Tryd.f5.params[j]? = some t → args[j]? = some v → Value.okWide Tryd.prog W .any base t v := hval0
  have hW' := hW
  obtain ⟨p, q, hA0, hV, rfl, hfz, hnd⟩ := hW
  have hA : DataW.TrodAll enc Tryd.prog W 0 (fun _ => true) true Tryd.f5.params.toList args.toList ds p := hA0
  rw [Tryd.params5] at hA hval
  obtain ⟨v0, vs0, d0, ds0, p0, q0, hargs, rfl, rfl, h0, r0⟩ := trodAll_cons hA
  obtain ⟨rfl, rfl, rfl⟩ := trodAll_nil r0
  obtain rfl : args = #[v0] := by cases args; simp_all
  obtain ⟨rfl, rfl⟩ := trodVars_none hV
  have k0 := h0
  have lt0 : ∀ x ∈ p0, x.block < W.heap.size := by obtain ⟨m, hm⟩ := k0; exact DataW.trod_lt m _ _ _ hm
  obtain ⟨s0, rfl, _, _, m0⟩ := Go.ChangeMaps.open_string Tryd.underlying9 (hval 0 9 v0 rfl rfl) h0
  clear hA0 hval0
  refine (walk s0 W m0 hL).mono fun e W' ⟨he, bel⟩ => ?_
  subst he
  exact ⟨_, rfl, _, _, _, [], _, [], hW', trodAll_mk1 (shut_bool Tryd.underlying4 _), (trodAll_cons_mk (Below.trod laidOut (by kernel_rfl) (of_decide_eq_true (by kernel_rfl)) k0 bel lt0) trodAll_mk0), rfl, bel.frame _, fun h => by cases h⟩

/-- A world for the witness: the settled one, the listed variables holding what their initialisers lay. -/
noncomputable def laidWorld (os : Os) : World :=
  { (World.holding Tryd.prog os ⟨#[], #[], []⟩) with heap := ((((((((World.holding Tryd.prog os ⟨#[], #[], []⟩).heap.modify 3 fun
      | .cells _ t frozen => .cells #[.int .u8 0, .int .u8 1, .int .u8 28, .int .u8 2, .int .u8 29, .int .u8 14, .int .u8 24, .int .u8 3, .int .u8 30, .int .u8 22, .int .u8 20, .int .u8 15, .int .u8 25, .int .u8 17, .int .u8 4, .int .u8 8, .int .u8 31, .int .u8 27, .int .u8 13, .int .u8 23, .int .u8 21, .int .u8 19, .int .u8 16, .int .u8 7, .int .u8 26, .int .u8 12, .int .u8 18, .int .u8 6, .int .u8 11, .int .u8 5, .int .u8 10, .int .u8 9] t frozen
      | o => o).modify 4 fun
      | .cells _ t frozen => .cells #[.int .u8 0, .int .u8 1, .int .u8 56, .int .u8 2, .int .u8 57, .int .u8 49, .int .u8 28, .int .u8 3, .int .u8 61, .int .u8 58, .int .u8 42, .int .u8 50, .int .u8 38, .int .u8 29, .int .u8 17, .int .u8 4, .int .u8 62, .int .u8 47, .int .u8 59, .int .u8 36, .int .u8 45, .int .u8 43, .int .u8 51, .int .u8 22, .int .u8 53, .int .u8 39, .int .u8 33, .int .u8 30, .int .u8 24, .int .u8 18, .int .u8 12, .int .u8 5, .int .u8 63, .int .u8 55, .int .u8 48, .int .u8 27, .int .u8 60, .int .u8 41, .int .u8 37, .int .u8 16, .int .u8 46, .int .u8 35, .int .u8 44, .int .u8 21, .int .u8 52, .int .u8 32, .int .u8 23, .int .u8 11, .int .u8 54, .int .u8 26, .int .u8 40, .int .u8 15, .int .u8 34, .int .u8 20, .int .u8 31, .int .u8 10, .int .u8 25, .int .u8 14, .int .u8 19, .int .u8 9, .int .u8 13, .int .u8 8, .int .u8 7, .int .u8 6] t frozen
      | o => o).modify 2 fun
      | .cells _ t frozen => .cells #[.int .u64 1, .int .u64 10, .int .u64 100, .int .u64 1000, .int .u64 10000, .int .u64 100000, .int .u64 1000000, .int .u64 10000000, .int .u64 100000000, .int .u64 1000000000, .int .u64 10000000000, .int .u64 100000000000, .int .u64 1000000000000, .int .u64 10000000000000, .int .u64 100000000000000, .int .u64 1000000000000000, .int .u64 10000000000000000, .int .u64 100000000000000000, .int .u64 1000000000000000000, .int .u64 10000000000000000000] t frozen
      | o => o).modify 1 fun
      | .cells _ t frozen => .cells #[.iface 106 (.pointer (some ⟨(World.holding Tryd.prog os ⟨#[], #[], []⟩).heap.size + 0, 0, none⟩))] t frozen
      | o => o).modify 0 fun
      | .cells _ t frozen => .cells #[.iface 106 (.pointer (some ⟨(World.holding Tryd.prog os ⟨#[], #[], []⟩).heap.size + 1, 0, none⟩))] t frozen
      | o => o).push (.cells #[.string ⟨#[118, 97, 108, 117, 101, 32, 111, 117, 116, 32, 111, 102, 32, 114, 97, 110, 103, 101]⟩] 108)).push (.cells #[.string ⟨#[105, 110, 118, 97, 108, 105, 100, 32, 115, 121, 110, 116, 97, 120]⟩] 108)) }
theorem laid_met (os : Os) : laidMet Tryd.prog Rows.fnExactRunTokensRow.laid ((laidWorld os).forCall (fun _ _ => 0) ⟨#[], #[.string ⟨#[]⟩], []⟩).memory :=
  laidMet_of_run' 8 (by kernel_rfl) (by kernel_rfl)
theorem reads (os : Os) {H : Type} (enc : TypeId × Value → H) : ∃ places, DataW.whole enc Tryd.prog ((laidWorld os).forCall (fun _ _ => 0) ⟨#[], #[.string ⟨#[]⟩], []⟩).memory Tryd.f5.params.toList Rows.fnExactRunTokensSpec.vars false (#[.string ⟨#[]⟩] : Array Value).toList 8 = some ([.lit (.string [])], [], places) :=
  ⟨[], by kernel_rfl⟩
set_option maxRecDepth 100000 in
theorem lifted (os : Os) (started : os.Started) (H : Type) (enc : TypeId × Value → H) (F' : Stop.Interp) :
    ReturnsInHanded {} Tryd.checked os 5 .any ((OpenSpec.ofChange Rows.fnExactRunTokensSpec).preRow enc Tryd.prog Tryd.f5 Rows.fnExactRunTokensRow.domain false Rows.fnExactRunTokensRow.laid) (((OpenSpec.ofChange Rows.fnExactRunTokensSpec).at F').post enc Tryd.prog Tryd.f5 false true false false) := by
  obtain ⟨places, hx⟩ := reads os enc
  refine returnsInHanded_of_row (C := Tryd.checked) (s := OpenSpec.ofChange Rows.fnExactRunTokensSpec) own started (by kernel_rfl) Tryd.func5
    (witness_row_atRef (enc := enc) (C := Tryd.checked) false (laidWorld os) #[.string ⟨#[]⟩] rfl (by kernel_rfl) (by kernel_rfl) (by kernel_rfl)
      (OpenSpec.preRow_of_cond 8 hx (by kernel_rfl) (fun k hk => by cases hk) (by kernel_rfl) (laid_met os))) ?_
  intro W base args ds gs before hval hW _ _ _ hL _ _
  exact contract H enc W base args ds gs before hval hW hL
theorem said : Rows.FnExactRunTokensSaid :=
  OpenClaim.holds_of_cond 5 Tryd.f5 rfl rfl rfl rfl rfl rfl rfl ⟨rfl, rfl, rfl, rfl, rfl⟩ rfl rfl rfl rfl rfl (by kernel_rfl) Tryd.func5 (by kernel_rfl)
    (of_decide_eq_true (by kernel_rfl)) (by unfold Func.isWrapper; first | (rw [if_pos (by decide +kernel)]; kernel_rfl) | (rw [if_neg (by decide +kernel)]; exact ⟨rfl, rfl⟩))
    (fun os started H enc _ F' => by rw [OpenClaim.pre_eq_preRow]; exact lifted os started H enc F')
theorem plain (f : FuncId) (fn : Func) (hf : Tryd.pinned.checked.prog.funcNamed "loop.example/g00613/laws.FnExactRunTokens" = some f) (hfn : Tryd.pinned.checked.prog.funcs[f]? = some fn) :
    true = Tryd.pinned.checked.prog.looks [] ∧ ∀ (j : Nat) t, fn.params[j]? = some t → Tryd.pinned.checked.prog.wantsStandIn t = false := by
  obtain rfl : f = 5 := Option.some.inj ((show Tryd.prog.funcNamed "loop.example/g00613/laws.FnExactRunTokens" = some 5 by kernel_rfl).symm.trans hf) |>.symm
  obtain rfl : fn = Tryd.f5 := (Option.some.inj (Tryd.func5.symm.trans hfn)).symm
  refine ⟨by kernel_rfl, fun j t ht => ?_⟩
  rw [Tryd.params5] at ht
  obtain rfl : t = 9 := by simpa using Array.mem_of_getElem? ht
  exact (show Tryd.prog.wantsStandIn 9 = false by kernel_rfl)
theorem card : Rows.FnExactRunTokensCardSaid :=
  Claim7.holds_tied_plain_at .later [] _ _ _ _ said (fun _ h => by cases h) (by kernel_rfl) (fun _ h => by cases h) fnExactRunTokens_row_tie rfl ⟨rfl, rfl⟩ (by kernel_rfl) rfl plain (by kernel_rfl)
end Go.Proofs.YtpldhbfblmffjaaDoor.lRunTokens
namespace Go.Proofs.YtpldhbfblmffjaaDoor
/-- THE STATEMENT. -/
theorem runTokens_holds : Rows.FnExactRunTokensCardSaid := lRunTokens.card
#print axioms runTokens_holds
end Go.Proofs.YtpldhbfblmffjaaDoor
