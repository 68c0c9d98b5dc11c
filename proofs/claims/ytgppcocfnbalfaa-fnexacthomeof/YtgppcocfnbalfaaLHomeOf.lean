/- FnExactHomeOf answers true at every argument: HomeOf answers as the specification does, writes into no argument, and its answer owns its memory. No condition. -/
import Derived.Test.YtgppcocfnbalfaaOpen
import Derived.Test.YtgppcocfnbalfaaIHom
namespace Go.Proofs.Ytgppcocfnbalfaa.lHomeOf
open Go.RowKit Go.ChangeShapes Go.WideShapes Go.ChangeAt
set_option linter.unusedVariables false

set_option maxHeartbeats 4000000 in
set_option maxRecDepth 100000 in
theorem walk (a : Option Addr) (l : List Cl) (ca : Nat) (w : World) (ha : Seg w a l) (hm : l.length ≤ maxLen) :
    Calls Try.prog 10 #[.slice a l.length ca] w fun e w' => e = .returned (.bool true) ∧ Below w.heap.size w w' := by
  unfold maxLen at hm
  by_cases hl : l.length ≤ 1048576
  · have hz : (0 : Int) ≤ 1048576 - (l.length : Int) := by omega
    have CS := hid (fun (g : Nat) (W : World) (h : Seg W (some ⟨g, 0, none⟩) l) => c_sHomeOf (some ⟨g, 0, none⟩) l l.length W h hl)
    have CI := hid (fun (g : Nat) (W : World) (h : Seg W (some ⟨g, 0, none⟩) l) => c_iHomeOf (some ⟨g, 0, none⟩) l l.length W h hl)
    have hRl := homeL_le l
    have hd : decide (homeL l = homeL l) = true := by simp
    have hdl : decide (l = l) = true := by simp
    have hc : eqC (homeC l) (homeC l) = true := by simp [eqC]
    have hk : ((homeOk l) != (homeOk l)) = false := by simp
    generalize homeL l = R at *
    generalize homeC l = c at *
    generalize homeOk l = ok at *
    have CE := hid (fun W => c_eqCell c c W)
    rw [hc] at CE
    go_enter Try.func10, Try.ntmps10
    go_wp2_with fail
    refine (c_szCellS a l.length ca 1048576 _ (by omega) (by omega)).mono ?_
    rintro e w0 ⟨rfl, rfl⟩
    go_wp2_with fail
    refine (c_toCellS a l ca _ ha hl).mono ?_
    rintro e w1 ⟨rfl, r, b1⟩
    have B := hid b1
    have RX := hid r
    clear r b1
    go_wp2_with fail
    refine (CS.out _ w1 RX.out.seg).mono ?_
    rintro e w2 ⟨v1, rfl, o1, b2⟩
    replace B := hid (B.out.trans (b2.mono B.out.size))
    obtain ⟨a1, c1, rfl, s1⟩ := o1.form
    have O1 := hid o1
    have L1 := hid (fun k hk => (o1.lt k hk).2)
    have S2 := hid (show w0.heap.size ≤ w2.heap.size from B.out.size)
    clear s1 o1 b2 RX
    have kx := (Below.refl w2.heap.size w2).alloc (Nat.le_refl _) (.cells #[.int .i64 c.1, .int .i64 c.2] 44)
    have X1 := hid (WRow.new w2 (.int .i64 c.1) c.2 44)
    replace O1 := hid (O1.out.below kx)
    replace B := hid (B.out.trans (kx.mono B.out.size))
    clear kx
    go_wp2_with fail
    refine (c_toCellS a l ca _ (ha.below B.out) hl).mono ?_
    rintro e w3 ⟨rfl, r, b3⟩
    replace O1 := hid (O1.out.below b3)
    replace X1 := hid (X1.out.below b3)
    replace B := hid (B.out.trans (b3.mono B.out.size))
    have r2 := r
    simp only [World.size_alloc] at r2
    have RX := hid r2
    have G3 := hid r2.lt
    clear r r2 b3
    go_wp2_with fail
    refine (CI.out _ w3 RX.out.seg).mono ?_
    rintro e w4 ⟨v2, rfl, o2, b4⟩
    replace O1 := hid (O1.out.below b4)
    replace X1 := hid (X1.out.below b4)
    replace RX := hid (RX.out.below b4)
    replace B := hid (B.out.trans (b4.mono B.out.size))
    obtain ⟨a2, c2, rfl, s2⟩ := o2.form
    have O2 := hid o2
    have L2 := hid (fun k hk => (o2.lt k hk).1)
    have Z4 := hid (show w3.heap.size ≤ w4.heap.size from b4.size)
    clear s2 o2 b4
    have kx := (Below.refl w4.heap.size w4).alloc (Nat.le_refl _) (.cells #[.int .i64 c.1, .int .i64 c.2] 44)
    have X2 := hid (WRow.new w4 (.int .i64 c.1) c.2 44)
    replace O1 := hid (O1.out.below kx)
    replace X1 := hid (X1.out.below kx)
    replace RX := hid (RX.out.below kx)
    replace O2 := hid (O2.out.below kx)
    replace B := hid (B.out.trans (kx.mono B.out.size))
    clear kx
    go_wp2_with fail
    refine (c_eqCellS a2 a1 R R c2 c1 _ O2.out.seg O1.out.seg (by omega) (by omega)).mono ?_
    rintro e w5 ⟨rfl, b5⟩
    replace O1 := hid (O1.out.below b5)
    replace X1 := hid (X1.out.below b5)
    replace RX := hid (RX.out.below b5)
    replace O2 := hid (O2.out.below b5)
    replace X2 := hid (X2.out.below b5)
    replace B := hid (B.out.trans (b5.mono B.out.size))
    clear b5
    have p0 := X1.out.c0
    have p1 := X1.out.c1
    have q0 := X2.out.c0
    have q1 := X2.out.c1
    go_wp2_with fail
    refine (CE.out _).mono ?_
    rintro e w6 ⟨rfl, b6⟩
    clear p0 p1 q0 q1
    replace O1 := hid (O1.out.below b6)
    replace X1 := hid (X1.out.below b6)
    replace RX := hid (RX.out.below b6)
    replace O2 := hid (O2.out.below b6)
    replace X2 := hid (X2.out.below b6)
    replace B := hid (B.out.trans (b6.mono B.out.size))
    clear b6
    go_wp2_with fail
    refine (c_toCellS a l ca _ (ha.below B.out) hl).mono ?_
    rintro e w7 ⟨rfl, r, b7⟩
    replace O1 := hid (O1.out.below b7)
    replace X1 := hid (X1.out.below b7)
    replace RX := hid (RX.out.below b7)
    replace O2 := hid (O2.out.below b7)
    replace X2 := hid (X2.out.below b7)
    replace B := hid (B.out.trans (b7.mono B.out.size))
    have T := hid r
    clear r b7
    go_wp2_with fail
    refine (c_eqCellS _ _ l l l.length l.length _ RX.out.seg T.out.seg hl hl).mono ?_
    rintro e w8 ⟨rfl, b8⟩
    replace O1 := hid (O1.out.below b8)
    replace X1 := hid (X1.out.below b8)
    replace RX := hid (RX.out.below b8)
    replace O2 := hid (O2.out.below b8)
    replace X2 := hid (X2.out.below b8)
    replace B := hid (B.out.trans (b8.mono B.out.size))
    clear b8 T
    go_wp2_with fail
    refine (c_mark _ l.length (w2.heap.size + 1) l 1 _ (RX.out.own hl) hl (by omega) (by omega)).mono ?_
    rintro e w9 ⟨rfl, om, g9⟩
    replace O1 := hid (own_keep O1.out g9 (fun k hk e => by have := L1.out k hk; simp [Value.ownBlock] at e; omega))
    replace O2 := hid (own_keep O2.out g9 (fun k hk e => by have := L2.out k hk; have := G3.out; simp [Value.ownBlock] at e; omega))
    replace X1 := hid (X1.out.of_block (g9.block _ (World.rowIs.lt X1.out) (by simp [Value.ownBlock])))
    replace X2 := hid (X2.out.of_block (g9.block _ (World.rowIs.lt X2.out) (by have := G3.out; have := Z4.out; simp [Value.ownBlock]; omega)))
    replace B := hid (below_row B.out g9 (fun k e => by have := S2.out; simp [Value.ownBlock] at e; omega))
    clear om g9 RX
    have hk1 : (0 : Int) ≤ 1 + 2 * (l.length : Int) := by omega
    have hk2 : ¬ 1 + 2 * (l.length : Int) < 0 := by omega
    go_wp2_with fail
    refine (c_eqCellS a2 a1 R R c2 c1 _ O2.out.seg O1.out.seg (by omega) (by omega)).mono ?_
    rintro e w10 ⟨rfl, b10⟩
    replace O1 := hid (O1.out.below b10)
    replace X1 := hid (X1.out.below b10)
    replace O2 := hid (O2.out.below b10)
    replace X2 := hid (X2.out.below b10)
    replace B := hid (B.out.trans (b10.mono B.out.size))
    clear b10
    have p0 := X1.out.c0
    have p1 := X1.out.c1
    have q0 := X2.out.c0
    have q1 := X2.out.c1
    go_wp2_with fail
    refine (CE.out _).mono ?_
    rintro e w11 ⟨rfl, b11⟩
    clear p0 p1 q0 q1
    replace O1 := hid (O1.out.below b11)
    replace X1 := hid (X1.out.below b11)
    replace O2 := hid (O2.out.below b11)
    replace X2 := hid (X2.out.below b11)
    replace B := hid (B.out.trans (b11.mono B.out.size))
    clear b11
    go_wp2_with fail
    refine (c_mark a2 c2 w3.heap.size R 1 _ O2.out (by omega) (by omega) (by omega)).mono ?_
    rintro e w12 ⟨rfl, om, g12⟩
    replace O1 := hid (own_keep O1.out g12 (fun k hk e => by have h1 := L1.out k hk; have h2 := L2.out k e; have := G3.out; omega))
    replace X1 := hid (X1.out.of_block (g12.block _ (World.rowIs.lt X1.out) (fun e => by have h2 := L2.out _ e.symm; have := G3.out; omega)))
    replace O2 := hid om
    replace B := hid (below_row B.out g12 (fun k e => by have h2 := L2.out k e; have := G3.out; have := S2.out; omega))
    clear om g12 X2
    have hq1 : ¬ 1 + 2 * (R.length : Int) < 0 := by omega
    have hq2 : ((1 + 2 * (R.length : Int)) != (1 + 2 * (R.length : Int))) = false := by simp
    go_wp2_with fail
    refine (c_held a2 c2 R.length 1 _ O2.out.seg (by omega) (by omega) (by omega)).mono ?_
    rintro e w13 ⟨rfl, hw13⟩
    subst hw13
    go_wp2_with fail
    refine (c_toCellS a l ca _ (ha.below B.out) hl).mono ?_
    rintro e w14 ⟨rfl, r, b14⟩
    replace O1 := hid (O1.out.below b14)
    replace X1 := hid (X1.out.below b14)
    replace O2 := hid (O2.out.below b14)
    replace B := hid (B.out.trans (b14.mono B.out.size))
    have RX := hid r
    clear r b14
    go_wp2_with fail
    refine (CI.out _ _ RX.out.seg).mono ?_
    rintro e w15 ⟨v3, rfl, o3, b15⟩
    replace O1 := hid (O1.out.below b15)
    replace X1 := hid (X1.out.below b15)
    replace O2 := hid (O2.out.below b15)
    replace B := hid (B.out.trans (b15.mono B.out.size))
    obtain ⟨a3, c3, rfl, s3⟩ := o3.form
    have O3 := hid o3
    clear s3 o3 b15 RX
    have kx := (Below.refl w15.heap.size w15).alloc (Nat.le_refl _) (.cells #[.int .i64 c.1, .int .i64 c.2] 44)
    have X3 := hid (WRow.new w15 (.int .i64 c.1) c.2 44)
    replace O1 := hid (O1.out.below kx)
    replace X1 := hid (X1.out.below kx)
    replace O2 := hid (O2.out.below kx)
    replace O3 := hid (O3.out.below kx)
    replace B := hid (B.out.trans (kx.mono B.out.size))
    clear kx
    go_wp2_with fail
    refine (c_eqCellS a3 a1 R R c3 c1 _ O3.out.seg O1.out.seg (by omega) (by omega)).mono ?_
    rintro e w16 ⟨rfl, b16⟩
    replace O1 := hid (O1.out.below b16)
    replace X1 := hid (X1.out.below b16)
    replace O2 := hid (O2.out.below b16)
    replace O3 := hid (O3.out.below b16)
    replace X3 := hid (X3.out.below b16)
    replace B := hid (B.out.trans (b16.mono B.out.size))
    clear b16
    have p0 := X1.out.c0
    have p1 := X1.out.c1
    have q0 := X3.out.c0
    have q1 := X3.out.c1
    go_wp2_with fail
    refine (CE.out _).mono ?_
    rintro e w17 ⟨rfl, b17⟩
    clear p0 p1 q0 q1
    replace O1 := hid (O1.out.below b17)
    replace X1 := hid (X1.out.below b17)
    replace O2 := hid (O2.out.below b17)
    replace O3 := hid (O3.out.below b17)
    replace X3 := hid (X3.out.below b17)
    replace B := hid (B.out.trans (b17.mono B.out.size))
    clear b17
    go_wp2_with fail
    refine (c_held a2 c2 R.length 1 _ O2.out.seg (by omega) (by omega) (by omega)).mono ?_
    rintro e w18 ⟨rfl, hw18⟩
    subst hw18
    go_wp2
    go_ret
    exact ⟨rfl, B.out⟩
  · go_enter Try.func10, Try.ntmps10
    go_wp2_with fail
    refine (c_szCellS_no a l.length ca 1048576 _ (by omega) (by omega) (by omega) (by omega)).mono ?_
    rintro e w0 ⟨rfl, rfl⟩
    go_wp2
    go_ret
    exact ⟨rfl, Below.refl _ _⟩

set_option maxRecDepth 100000 in
theorem lifted (os : Os) (started : os.Started) (H : Type) (enc : TypeId × Value → H) :
    ReturnsInHanded {} Try.checked os 10 .any (Rows.fnExactHomeOfSpec.pre6 enc Try.prog Try.f10 Rows.fnExactHomeOfRow.domain false) (Rows.fnExactHomeOfSpec.post enc Try.prog Try.f10 false true false false) := by
  refine returnsInHanded_of_change (C := Try.checked) own started (by kernel_rfl) Try.func10
    (ChangeSpec.witness6 (enc := enc) (C := Try.checked) false ⟨#[], #[.slice none 0 0], []⟩ 8 (by kernel_rfl) (by kernel_rfl) (by kernel_rfl) (by kernel_rfl)) ?_
  intro W base args ds gs before hval0 hW hcnd _
  have hval : ∀ (j : Nat) t v, Try.f10.params[j]? = some t → args[j]? = some v → Value.okWide Try.prog W .any base t v := hval0
  have hW' := hW
  obtain ⟨p, q, hA0, hV, rfl, hfz, hnd⟩ := hW
  have hA : DataW.TrodAll enc Try.prog W 0 (fun _ => true) true Try.f10.params.toList args.toList ds p := hA0
  rw [Try.params10] at hA hval
  obtain ⟨v0, vs0, d0, ds0, p0, q0, hargs, rfl, rfl, h0, r0⟩ := trodAll_cons hA
  obtain ⟨rfl, rfl, rfl⟩ := trodAll_nil r0
  obtain rfl : args = #[v0] := by cases args; simp_all
  obtain ⟨rfl, rfl⟩ := trodVars_none hV
  have k0 := h0
  have lt0 : ∀ x ∈ p0, x.block < W.heap.size := by obtain ⟨m, hm⟩ := k0; exact DataW.trod_lt m _ _ _ hm
  obtain ⟨a0, len0, cap0, rfl⟩ := okWide_slice Try.underlying50 (hval 0 50 v0 rfl rfl)
  obtain ⟨l0, rfl, m0, s0⟩ : ∃ l : List Cl, l.length = len0 ∧ l.length ≤ maxLen ∧ Seg W a0 l := by
    obtain ⟨fuel, hf⟩ := h0
    exact open_cells hf
  clear hA0 hval0
  refine (walk a0 l0 cap0 W s0 m0).mono fun e W' ⟨he, bel⟩ => ?_
  subst he
  exact ⟨_, rfl, _, _, _, [], _, [], hW', trodAll_mk1 (shut_bool Try.underlying4 _), (trodAll_cons_mk (Below.trod laidOut (by kernel_rfl) (of_decide_eq_true (by kernel_rfl)) k0 bel lt0) trodAll_mk0), rfl, bel.frame _, fun h => by cases h⟩

theorem over : Rows.fnExactHomeOfRow.holds Try.pinned (OpenSpec.ofChange Rows.fnExactHomeOfSpec) :=
  OpenClaim.holds_of_wide 10 Try.f10 rfl rfl rfl rfl rfl rfl rfl ⟨rfl, rfl, rfl, rfl, rfl⟩ rfl rfl rfl rfl rfl (by kernel_rfl) Try.func10 (by kernel_rfl)
    (of_decide_eq_true (by kernel_rfl)) (by unfold Func.isWrapper; first | (rw [if_pos (by decide +kernel)]; kernel_rfl) | (rw [if_neg (by decide +kernel)]; exact ⟨rfl, rfl⟩))
    (fun os started H enc _ => lifted os started H enc)

end Go.Proofs.Ytgppcocfnbalfaa.lHomeOf
namespace Go.Proofs.Ytgppcocfnbalfaa
/-- THE STATEMENT. -/
theorem homeOf_holds : Rows.FnExactHomeOfSaid := lHomeOf.over
#print axioms homeOf_holds
end Go.Proofs.Ytgppcocfnbalfaa
