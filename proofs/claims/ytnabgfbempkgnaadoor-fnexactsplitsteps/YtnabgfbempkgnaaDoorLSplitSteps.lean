/- FnExactSplitSteps answers true at every argument: SplitSteps answers as the specification does, and its answer owns its memory. The listed variable (the table of powers of two) holds what its initialiser lays (the card ties it). -/
import Derived.Test.YtnabgfbempkgnaaDoorCards
import Derived.Test.YtnabgfbempkgnaaDoorTie
import Derived.Test.YtnabgfbempkgnaaDoorOpen
import Derived.Test.YtnabgfbempkgnaaDoorSpS
import Derived.Test.YtnabgfbempkgnaaDoorLaw4
import Derived.Deep.DeepHandedRow
import Derived.Deep.DeepWitnessRowRef
import Derived.Lib.LaidTab
namespace Go.Proofs.YtnabgfbempkgnaaDoor.lSplitSteps
open Go.RowKit Go.ChangeShapes Go.WideShapes Go.ChangeAt
set_option linter.unusedVariables false
attribute [local go_sem ↓] Go.wp_at_zero Go.wp_at_succ

theorem own_i {w : World} {base : Nat} {v : Value} {l : List Int} (h : OwnI w base v l) : IOwn w base w.heap.size v l := by
  have h0 := h
  rcases h.2 with ⟨rfl, hn⟩ | ⟨g, cap, cur, rfl, hb, hg, hcap, hm, hs, ht⟩
  · exact .inl ⟨rfl, List.eq_nil_of_length_eq_zero hn⟩
  · have hlt := (Array.getElem?_eq_some_iff.1 hg).1
    refine .inr ⟨g, cap, rfl, hcap, hb, hlt, Nat.le_refl _, fun j hj => ⟨?_, World.ownsRow.frozenAt h0 j, hlt⟩⟩
    have := World.ownsRow.cellAt h0 j (by omega)
    rw [iv_at hj] at this
    exact this
/-- The table's cells. -/
theorem parts_tab {W : World} (h : laidMetH Tryd.prog Rows.fnExactSplitStepsRow.laid W) : ∀ k, k < 10 → W.cell? ⟨0, k, none⟩ = some (.int .i64 (2 ^ k)) := by
  have h0 : laidMet Tryd.prog (("loop.example/g00613/impl.parts", Lib.tabData .i64 [1, 2, 4, 8, 16, 32, 64, 128, 256, 512]) :: []) W := h
  have hg : Tryd.prog.globalNamed "loop.example/g00613/impl.parts" = some 0 := by kernel_rfl
  have T := Lib.tabIs_of_head hg (t := 65) (e := 3) (n := 10) (by kernel_rfl) Tryd.underlying65 Tryd.underlying3 (by kernel_rfl) (by kernel_rfl) h0
  intro k hk
  have := T.cell hg k (by simpa using hk)
  rcases (show k = 0 ∨ k = 1 ∨ k = 2 ∨ k = 3 ∨ k = 4 ∨ k = 5 ∨ k = 6 ∨ k = 7 ∨ k = 8 ∨ k = 9 by omega) with rfl | rfl | rfl | rfl | rfl | rfl | rfl | rfl | rfl | rfl <;> simpa using this

set_option maxHeartbeats 4000000 in
set_option maxRecDepth 100000 in
theorem walk (n : Int) (w : World) (wn : (Lit.int .i64 n).wf = true) (hL : laidMetH Tryd.prog Rows.fnExactSplitStepsRow.laid w) :
    Calls Tryd.prog 4 #[.int .i64 n] w fun e w' => e = .returned (.bool true) ∧ Below w.heap.size w w' := by
  have hT := parts_tab hL
  have HT := hid hT
  have HLT := hid (lt_of_cell (hT 0 (by omega)))
  have HLE := hid (splV_le n)
  have HSS := hid (c_sSplit n w)
  have HII := hid (fun (W : World) (h : ∀ k, k < 10 → W.cell? ⟨0, k, none⟩ = some (.int .i64 (2 ^ k))) => c_iSplit n W h)
  generalize splV n = RR at *
  generalize inB 0 1000 n = RB at *
  clear hT hL
  have d1 : (RB != RB) = false := by simp
  go_enter Tryd.func4, Tryd.ntmps4
  go_wp2_with fail
  refine HSS.out.mono ?_
  rintro e w1 ⟨wv, rfl, hW, b1⟩
  have HW := hid hW
  have B1 := hid b1
  clear hW b1 HSS
  go_wp2_with fail
  refine (HII.out w1 (fun k hk => (B1.out.cell (p := ⟨0, k, none⟩) HLT.out).trans (HT.out k hk))).mono ?_
  rintro e w2 ⟨gv, rfl, hG, b2⟩
  have N := hid (show L4 w w2 w.heap.size w.heap.size w.heap.size w1.heap.size w1.heap.size w1.heap.size w1.heap.size w2.heap.size (fun _ => True) (fun W => IOwn W w.heap.size w1.heap.size wv RR) (fun _ => True) (fun W => IOwn W w1.heap.size w2.heap.size gv RR) from
    ⟨trivial, (IOwn.kpt _ _ _ _).below (own_i HW.out) b2, trivial, own_i hG, Kpt.true _ _, IOwn.kpt _ _ _ _, Kpt.true _ _, IOwn.kpt _ _ _ _, B1.out.trans (b2.mono B1.out.size), by have := B1.out.size; have := b2.size; omega⟩)
  clear hG b2 HW B1
  go_wp2_with fail
  refine (c_eqInts' _ _ RR _ N.out.pg N.out.pw (by have := HLE.out; omega)).mono ?_
  rintro e w3 ⟨rfl, b⟩
  replace N := hid (N.out.below b)
  clear b
  go_wp2_with fail
  refine (c_markInts' gv RR 1 _ N.out.pg (by have := HLE.out; omega) (by omega) (by omega)).mono ?_
  rintro e w4 ⟨rfl, hM, hGr⟩
  replace N := hid (N.out.markG (PG' := fun W => IOwn W w1.heap.size w2.heap.size gv (marksI 1 RR.length)) hGr (Nat.le_refl _) (Nat.le_refl _) hM (IOwn.kpt _ _ _ _))
  clear hM hGr
  have HHE := hid (fun W h => c_heldInts' gv RR.length W (lo := w1.heap.size) (hi := w2.heap.size) h (by have := HLE.out; omega))
  have dm : ¬ 1 + (RR.length : Int) < 0 := by omega
  have dn : ((1 + (RR.length : Int)) != (1 + (RR.length : Int))) = false := by simp
  generalize hTOT : 1 + (RR.length : Int) = M at *
  clear hTOT
  go_wp2_with fail
  refine (HHE.out _ N.out.pg).mono ?_
  rintro e w5 ⟨rfl, b⟩
  replace N := hid (N.out.below b)
  clear b
  go_wp2_with fail
  refine (HII.out w5 (fun k hk => (N.out.bel.cell (p := ⟨0, k, none⟩) HLT.out).trans (HT.out k hk))).mono ?_
  rintro e w6 ⟨hv, rfl, hH, b⟩
  replace N := hid (N.out.below b)
  have PH := hid (own_i hH)
  clear b hH
  go_wp2_with fail
  refine (c_eqInts' _ _ RR _ PH.out N.out.pw (by have := HLE.out; omega)).mono ?_
  rintro e w7 ⟨rfl, b⟩
  replace N := hid (N.out.below b)
  clear b PH
  go_wp2_with fail
  refine (HHE.out _ N.out.pg).mono ?_
  rintro e w8 ⟨rfl, b⟩
  replace N := hid (N.out.below b)
  go_wp2_with fail
  go_ret
  exact ⟨rfl, N.out.bel⟩

theorem var_below {W W' : World} {n : String} {g : Nat} {cs : Array Value} (hB : Below W.heap.size W W') (hg : Tryd.prog.globalNamed n = some g) (h : g < W.heap.size) (hv : W.var? Tryd.prog n = some cs) : W'.var? Tryd.prog n = some cs := by
  simp only [World.var?, hg, Option.bind_some] at hv ⊢
  rw [hB.block g h]
  exact hv
set_option maxRecDepth 100000 in
theorem contract (H : Type) (enc : TypeId × Value → H) (W : World) (base : Nat) (args : Array Value) (ds gs : List (DataW H)) (before : List MemPlace)
    (hval0 : ∀ (j : Nat) t v, Tryd.f4.params[j]? = some t → args[j]? = some v → Value.okWide Tryd.prog W .any base t v)
    (hW : DataW.Whole enc Tryd.prog Tryd.f4.params.toList Rows.fnExactSplitStepsSpec.vars false W args.toList ds gs before) (hL : laidMetH Tryd.prog Rows.fnExactSplitStepsRow.laid W) :
    Calls Tryd.prog 4 args W fun e W' => ∃ v, e = .returned v ∧ Rows.fnExactSplitStepsSpec.post enc Tryd.prog Tryd.f4 false true false false W args v W' := by
  have hcnd : True := trivial
  have hval : ∀ (j : Nat) t v, Tryd.f4.params[j]? = some t → args[j]? = some v → Value.okWide Tryd.prog W .any base t v := hval0
  have hW' := hW
  obtain ⟨p, q, hA0, hV, rfl, hfz, hnd⟩ := hW
  have hA : DataW.TrodAll enc Tryd.prog W 0 (fun _ => true) true Tryd.f4.params.toList args.toList ds p := hA0
  rw [Tryd.params4] at hA hval
  obtain ⟨v0, vs0, d0, ds0, p0, q0, hargs, rfl, rfl, h0, r0⟩ := trodAll_cons hA
  obtain ⟨rfl, rfl, rfl⟩ := trodAll_nil r0
  obtain rfl : args = #[v0] := by cases args; simp_all
  have hV1 : DataW.TrodVars enc Tryd.prog W (fun _ => true) ["loop.example/g00613/impl.parts"] gs q := hV
  obtain ⟨gg, gt, gcs, gfuel, gd, gp, rfl, hg, hgt, hvar, hgd, rfl⟩ := trodVars_one hV1
  obtain rfl := Option.some.inj ((show Tryd.prog.globalNamed "loop.example/g00613/impl.parts" = some 0 by kernel_rfl).symm.trans hg)
  obtain rfl := Option.some.inj ((show (Tryd.prog.globals[0]?).map (·.type) = some 65 by kernel_rfl).symm.trans hgt)
  have glt : ∀ x ∈ gp, x.block < W.heap.size := fun x hx => hW'.lt x (List.mem_append_right _ (List.mem_append_right _ hx))
  have g0lt : 0 < W.heap.size := lt_of_cell (parts_tab hL 0 (by omega))
  have k0 := h0
  have lt0 : ∀ x ∈ p0, x.block < W.heap.size := by obtain ⟨m, hm⟩ := k0; exact DataW.trod_lt m _ _ _ hm
  obtain ⟨n0, rfl, w0⟩ : ∃ n : Int, v0 = .int .i64 n ∧ (Lit.int .i64 n).wf = true := open_num (hval 0 3 v0 rfl rfl) h0
  clear hA0 hval0
  refine (walk n0 W w0 hL).mono fun e W' ⟨he, bel⟩ => ?_
  subst he
  obtain ⟨gf, ghd⟩ := Below.trod laidOut (by kernel_rfl) (of_decide_eq_true (by kernel_rfl)) (v := .agg gcs) (⟨gfuel, by simpa [Value.cells] using hgd⟩ : DataW.Trod enc Tryd.prog W 0 (fun _ => true) true 65 (.agg gcs) gd gp) bel glt
  exact ⟨_, rfl, _, _, _, [], _, _, hW', trodAll_mk1 (shut_bool Tryd.underlying4 _), (trodAll_cons_mk (Below.trod laidOut (by kernel_rfl) (of_decide_eq_true (by kernel_rfl)) k0 bel lt0) trodAll_mk0), trodVars_mk1 (enc := enc) (spare := fun b => decide (b < W.heap.size)) hg hgt (var_below bel hg g0lt hvar) (by simpa [Value.cells] using ghd), bel.frame _, fun h => by cases h⟩

/-- A world for the witness: the settled one, the listed variables holding what their initialisers lay. -/
noncomputable def laidWorld (os : Os) : World :=
  { (World.holding Tryd.prog os ⟨#[], #[], []⟩) with heap := ((World.holding Tryd.prog os ⟨#[], #[], []⟩).heap.modify 0 fun
      | .cells _ t frozen => .cells #[.int .i64 1, .int .i64 2, .int .i64 4, .int .i64 8, .int .i64 16, .int .i64 32, .int .i64 64, .int .i64 128, .int .i64 256, .int .i64 512] t frozen
      | o => o) }
theorem laid_met (os : Os) : laidMet Tryd.prog Rows.fnExactSplitStepsRow.laid ((laidWorld os).forCall (fun _ _ => 0) ⟨#[], #[.int .i64 0], []⟩).memory :=
  laidMet_of_run' 8 (by kernel_rfl) (by kernel_rfl)
theorem reads (os : Os) {H : Type} (enc : TypeId × Value → H) : ∃ places, DataW.whole enc Tryd.prog ((laidWorld os).forCall (fun _ _ => 0) ⟨#[], #[.int .i64 0], []⟩).memory Tryd.f4.params.toList Rows.fnExactSplitStepsSpec.vars false (#[.int .i64 0] : Array Value).toList 8 = some ([.lit (.int .i64 0)], [.agg [.lit (.int .i64 1), .lit (.int .i64 2), .lit (.int .i64 4), .lit (.int .i64 8), .lit (.int .i64 16), .lit (.int .i64 32), .lit (.int .i64 64), .lit (.int .i64 128), .lit (.int .i64 256), .lit (.int .i64 512)]], places) :=
  ⟨MemPlace.row ⟨0, 0, none⟩ 10, by kernel_rfl⟩
set_option maxRecDepth 100000 in
theorem lifted (os : Os) (started : os.Started) (H : Type) (enc : TypeId × Value → H) (F' : Stop.Interp) :
    ReturnsInHanded {} Tryd.checked os 4 .any ((OpenSpec.ofChange Rows.fnExactSplitStepsSpec).preRow enc Tryd.prog Tryd.f4 Rows.fnExactSplitStepsRow.domain false Rows.fnExactSplitStepsRow.laid) (((OpenSpec.ofChange Rows.fnExactSplitStepsSpec).at F').post enc Tryd.prog Tryd.f4 false true false false) := by
  obtain ⟨places, hx⟩ := reads os enc
  refine returnsInHanded_of_row (C := Tryd.checked) (s := OpenSpec.ofChange Rows.fnExactSplitStepsSpec) own started (by kernel_rfl) Tryd.func4
    (witness_row_at (enc := enc) (C := Tryd.checked) false (laidWorld os) #[.int .i64 0] rfl (by kernel_rfl) (by kernel_rfl) (by kernel_rfl)
      (OpenSpec.preRow_of_cond 8 hx (by kernel_rfl) (fun k hk => by cases hk) (by kernel_rfl) (laid_met os))) ?_
  intro W base args ds gs before hval hW _ _ _ hL _ _
  exact contract H enc W base args ds gs before hval hW hL
theorem said : Rows.FnExactSplitStepsSaid :=
  OpenClaim.holds_of_cond 4 Tryd.f4 rfl rfl rfl rfl rfl rfl rfl ⟨rfl, rfl, rfl, rfl, rfl⟩ rfl rfl rfl rfl rfl (by kernel_rfl) Tryd.func4 (by kernel_rfl)
    (of_decide_eq_true (by kernel_rfl)) (by unfold Func.isWrapper; first | (rw [if_pos (by decide +kernel)]; kernel_rfl) | (rw [if_neg (by decide +kernel)]; exact ⟨rfl, rfl⟩))
    (fun os started H enc _ F' => by rw [OpenClaim.pre_eq_preRow]; exact lifted os started H enc F')
theorem plain (f : FuncId) (fn : Func) (hf : Tryd.pinned.checked.prog.funcNamed "loop.example/g00613/laws.FnExactSplitSteps" = some f) (hfn : Tryd.pinned.checked.prog.funcs[f]? = some fn) :
    false = Tryd.pinned.checked.prog.looks [] ∧ ∀ (j : Nat) t, fn.params[j]? = some t → Tryd.pinned.checked.prog.wantsStandIn t = false := by
  obtain rfl : f = 4 := Option.some.inj ((show Tryd.prog.funcNamed "loop.example/g00613/laws.FnExactSplitSteps" = some 4 by kernel_rfl).symm.trans hf) |>.symm
  obtain rfl : fn = Tryd.f4 := (Option.some.inj (Tryd.func4.symm.trans hfn)).symm
  refine ⟨by kernel_rfl, fun j t ht => ?_⟩
  rw [Tryd.params4] at ht
  obtain rfl : t = 3 := by simpa using Array.mem_of_getElem? ht
  exact (show Tryd.prog.wantsStandIn 3 = false by kernel_rfl)
theorem card : Rows.FnExactSplitStepsCardSaid :=
  Claim7.holds_tied_plain_at .later [] _ _ _ _ said (fun _ h => by cases h) (by kernel_rfl) (fun _ h => by cases h) fnExactSplitSteps_row_tie rfl ⟨rfl, rfl⟩ (by kernel_rfl) rfl plain (by kernel_rfl)
end Go.Proofs.YtnabgfbempkgnaaDoor.lSplitSteps
namespace Go.Proofs.YtnabgfbempkgnaaDoor
/-- THE STATEMENT. -/
theorem splitSteps_holds : Rows.FnExactSplitStepsCardSaid := lSplitSteps.card
#print axioms splitSteps_holds
end Go.Proofs.YtnabgfbempkgnaaDoor
