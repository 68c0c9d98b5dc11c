/- FnExactFateOf answers true at every argument: FateOf answers as the specification does, field by field, and writes into no argument. No condition. -/
import Derived.Test.YtgppcocfnbalfaaOpen
import Derived.Test.YtgppcocfnbalfaaSFat
import Derived.Test.YtgppcocfnbalfaaIFat
namespace Go.Proofs.Ytgppcocfnbalfaa.lFateOf
open Go.RowKit Go.ChangeShapes Go.WideShapes Go.ChangeAt
set_option linter.unusedVariables false

theorem c_eqFate (x y z u : Int) (w : World) :
    Calls Try.prog 41 #[.agg #[.int .i64 x, .int .i64 y, .int .i64 z, .int .i64 u], .agg #[.int .i64 x, .int .i64 y, .int .i64 z, .int .i64 u]] w fun e w' => e = .returned (.bool true) ∧ Below w.heap.size w w' := by
  have hx : (x != x) = false := by simp
  have hy : (y != y) = false := by simp
  have hz : (z != z) = false := by simp
  have hu : (u != u) = false := by simp
  go_enter Try.func41, Try.ntmps41
  go_wp2
  all_goals
    go_ret
    exact ⟨rfl, ((Below.refl _ _).alloc (Nat.le_refl _) _).alloc (by simp) _⟩

set_option maxHeartbeats 4000000 in
set_option maxRecDepth 100000 in
theorem walk (a : Option Addr) (l : List Cl) (ca : Nat) (t : Int) (w : World) (ha : Seg w a l) (hm : l.length ≤ maxLen) (wt : (Lit.int .i64 t).wf = true) :
    Calls Try.prog 6 #[.slice a l.length ca, .int .i64 t] w fun e w' => e = .returned (.bool true) ∧ Below w.heap.size w w' := by
  unfold maxLen at hm
  by_cases hl : l.length ≤ 1048576
  · have hz : (0 : Int) ≤ 1048576 - (l.length : Int) := by omega
    have hdl : decide (l = l) = true := by simp
    have CS := hid (fun (g : Nat) (c : Nat) (W : World) (h : Seg W (some ⟨g, 0, none⟩) l) => c_sFateOf (some ⟨g, 0, none⟩) l c t W h (fun e => by cases e) hl)
    have CI := hid (fun (g : Nat) (c : Nat) (W : World) (h : Seg W (some ⟨g, 0, none⟩) l) => c_iFateOf (some ⟨g, 0, none⟩) l c t W h (fun e => by cases e) hl)
    have hk : ((ftK (histG l t)) != (ftK (histG l t))) = false := by simp
    generalize ftV (histG l t) 0 = x at *
    generalize ftV (histG l t) 1 = y at *
    generalize ftV (histG l t) 2 = z at *
    generalize ftV (histG l t) 3 = u at *
    generalize ftK (histG l t) = ok at *
    have CE := hid (fun W => c_eqFate x y z u W)
    go_enter Try.func6, Try.ntmps6
    go_wp2_with fail
    refine (c_szCellS a l.length ca 1048576 _ (by omega) (by omega)).mono ?_
    rintro e w0 ⟨rfl, rfl⟩
    go_wp2_with fail
    refine (c_toCellS a l ca _ ha hl).mono ?_
    rintro e w1 ⟨rfl, r1, b1⟩
    have R1 := hid r1
    have B1 := hid b1
    clear r1 b1
    go_wp2_with fail
    refine (CS.out _ l.length w1 R1.out.seg).mono ?_
    rintro e w2 ⟨rfl, b2⟩
    have B2 := hid (B1.out.trans (b2.mono B1.out.size))
    have kx := (Below.refl w2.heap.size w2).alloc (Nat.le_refl _) (.cells #[.int .i64 x, .int .i64 y, .int .i64 z, .int .i64 u] 39)
    have X1 := hid (FRow.new w2 x y z u)
    have B2' := hid (B2.out.trans (kx.mono B2.out.size))
    clear b2 R1 B1 CS B2 kx
    go_wp2_with fail
    refine (c_toCellS a l ca _ (ha.below B2'.out) hl).mono ?_
    rintro e w3 ⟨rfl, r3, b3⟩
    simp only [World.size_alloc] at r3
    have R3 := hid r3
    have B3 := hid (B2'.out.trans (b3.mono B2'.out.size))
    have X3 := hid (X1.out.below b3)
    clear r3 b3 B2' X1
    go_wp2_with fail
    refine (CI.out _ l.length w3 R3.out.seg).mono ?_
    rintro e w4 ⟨rfl, b4⟩
    have kx := (Below.refl w4.heap.size w4).alloc (Nat.le_refl _) (.cells #[.int .i64 x, .int .i64 y, .int .i64 z, .int .i64 u] 39)
    have R4 := hid ((R3.out.below b4).below kx)
    have Y4 := hid (FRow.new w4 x y z u)
    have X4 := hid ((X3.out.below b4).below kx)
    have B4 := hid (B3.out.trans ((b4.trans (kx.mono b4.size)).mono B3.out.size))
    clear b4 R3 B3 CI X3 kx
    have p0 := X4.out.cell 0 (by omega)
    have p1 := X4.out.cell 1 (by omega)
    have p2 := X4.out.cell 2 (by omega)
    have p3 := X4.out.cell 3 (by omega)
    have q0 := Y4.out.cell 0 (by omega)
    have q1 := Y4.out.cell 1 (by omega)
    have q2 := Y4.out.cell 2 (by omega)
    have q3 := Y4.out.cell 3 (by omega)
    simp only [reduceIte, Nat.reduceEqDiff] at p0 p1 p2 p3 q0 q1 q2 q3
    go_wp2_with fail
    refine (CE.out _).mono ?_
    rintro e w5 ⟨rfl, b5⟩
    have R5 := hid (R4.out.below b5)
    have B5 := hid (B4.out.trans (b5.mono B4.out.size))
    clear R4 B4 X4 Y4 p0 p1 p2 p3 q0 q1 q2 q3 b5 CE
    go_wp2_with fail
    refine (c_toCellS a l ca w5 (ha.below B5.out) hl).mono ?_
    rintro e w6 ⟨rfl, r6, b6⟩
    have R6 := hid (R5.out.below b6)
    have T6 := hid r6
    have B6 := hid (B5.out.trans (b6.mono B5.out.size))
    clear R5 B5 r6 b6
    go_wp2_with fail
    refine (c_eqCellS _ _ l l l.length l.length w6 R6.out.seg T6.out.seg hl hl).mono ?_
    rintro e w7 ⟨rfl, b7⟩
    have B7 := hid (B6.out.trans (b7.mono B6.out.size))
    clear R6 B6 T6 b7
    go_wp2
    go_ret
    exact ⟨rfl, B7.out⟩
  · go_enter Try.func6, Try.ntmps6
    go_wp2_with fail
    refine (c_szCellS_no a l.length ca 1048576 _ (by omega) (by omega) (by omega) (by omega)).mono ?_
    rintro e w0 ⟨rfl, rfl⟩
    go_wp2
    go_ret
    exact ⟨rfl, Below.refl _ _⟩

set_option maxRecDepth 100000 in
theorem lifted (os : Os) (started : os.Started) (H : Type) (enc : TypeId × Value → H) :
    ReturnsInHanded {} Try.checked os 6 .any (Rows.fnExactFateOfSpec.pre6 enc Try.prog Try.f6 Rows.fnExactFateOfRow.domain false) (Rows.fnExactFateOfSpec.post enc Try.prog Try.f6 false true false false) := by
  refine returnsInHanded_of_change (C := Try.checked) own started (by kernel_rfl) Try.func6
    (ChangeSpec.witness6 (enc := enc) (C := Try.checked) false ⟨#[], #[.slice none 0 0, .int .i64 0], []⟩ 8 (by kernel_rfl) (by kernel_rfl) (by kernel_rfl) (by kernel_rfl)) ?_
  intro W base args ds gs before hval0 hW hcnd _
  have hval : ∀ (j : Nat) t v, Try.f6.params[j]? = some t → args[j]? = some v → Value.okWide Try.prog W .any base t v := hval0
  have hW' := hW
  obtain ⟨p, q, hA0, hV, rfl, hfz, hnd⟩ := hW
  have hA : DataW.TrodAll enc Try.prog W 0 (fun _ => true) true Try.f6.params.toList args.toList ds p := hA0
  rw [Try.params6] at hA hval
  obtain ⟨v0, vs0, d0, ds0, p0, q0, hargs, rfl, rfl, h0, r0⟩ := trodAll_cons hA
  obtain ⟨v1, vs1, d1, ds1, p1, q1, rfl, rfl, rfl, h1, r1⟩ := trodAll_cons r0
  obtain ⟨rfl, rfl, rfl⟩ := trodAll_nil r1
  obtain rfl : args = #[v0, v1] := by cases args; simp_all
  obtain ⟨rfl, rfl⟩ := trodVars_none hV
  have k0 := h0
  have lt0 : ∀ x ∈ p0, x.block < W.heap.size := by obtain ⟨m, hm⟩ := k0; exact DataW.trod_lt m _ _ _ hm
  obtain ⟨a0, len0, cap0, rfl⟩ := okWide_slice Try.underlying50 (hval 0 50 v0 rfl rfl)
  obtain ⟨l0, rfl, m0, s0⟩ : ∃ l : List Cl, l.length = len0 ∧ l.length ≤ maxLen ∧ Seg W a0 l := by
    obtain ⟨fuel, hf⟩ := h0
    exact open_cells hf
  have k1 := h1
  have lt1 : ∀ x ∈ p1, x.block < W.heap.size := by obtain ⟨m, hm⟩ := k1; exact DataW.trod_lt m _ _ _ hm
  obtain ⟨n1, rfl, w1⟩ : ∃ n : Int, v1 = .int .i64 n ∧ (Lit.int .i64 n).wf = true := open_num (hval 1 3 v1 rfl rfl) h1
  clear hA0 hval0
  refine (walk a0 l0 cap0 n1 W s0 m0 w1).mono fun e W' ⟨he, bel⟩ => ?_
  subst he
  exact ⟨_, rfl, _, _, _, [], _, [], hW', trodAll_mk1 (shut_bool Try.underlying4 _), (trodAll_cons_mk (Below.trod laidOut (by kernel_rfl) (of_decide_eq_true (by kernel_rfl)) k0 bel lt0) (trodAll_cons_mk (Below.trod laidOut (by kernel_rfl) (of_decide_eq_true (by kernel_rfl)) k1 bel lt1) trodAll_mk0)), rfl, bel.frame _, fun h => by cases h⟩

theorem over : Rows.fnExactFateOfRow.holds Try.pinned (OpenSpec.ofChange Rows.fnExactFateOfSpec) :=
  OpenClaim.holds_of_wide 6 Try.f6 rfl rfl rfl rfl rfl rfl rfl ⟨rfl, rfl, rfl, rfl, rfl⟩ rfl rfl rfl rfl rfl (by kernel_rfl) Try.func6 (by kernel_rfl)
    (of_decide_eq_true (by kernel_rfl)) (by unfold Func.isWrapper; first | (rw [if_pos (by decide +kernel)]; kernel_rfl) | (rw [if_neg (by decide +kernel)]; exact ⟨rfl, rfl⟩))
    (fun os started H enc _ => lifted os started H enc)

end Go.Proofs.Ytgppcocfnbalfaa.lFateOf
namespace Go.Proofs.Ytgppcocfnbalfaa
/-- THE STATEMENT. -/
theorem fateOf_holds : Rows.FnExactFateOfSaid := lFateOf.over
#print axioms fateOf_holds
end Go.Proofs.Ytgppcocfnbalfaa
