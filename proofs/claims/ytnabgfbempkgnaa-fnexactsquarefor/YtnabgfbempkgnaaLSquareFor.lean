/- FnExactSquareFor answers true at every argument: SquareFor answers as the specification does and writes into no argument. No condition. -/
import Derived.Test.YtnabgfbempkgnaaSqI
import Derived.Test.YtnabgfbempkgnaaOpenW
import Derived.Deep.RegionHeld3
namespace Go.Proofs.Ytnabgfbempkgnaa.lSquareFor
open Go.RowKit Go.ChangeShapes Go.WideShapes Go.ChangeAt
set_option linter.unusedVariables false
attribute [local go_sem ↓] Go.wp_at_zero Go.wp_at_succ

theorem c_eqSame (c : Cl) (w : World) : Calls Try.prog 27 #[.agg #[.int .i64 c.1, .int .i64 c.2], .agg #[.int .i64 c.1, .int .i64 c.2]] w fun e w' => e = .returned (.bool true) ∧ Below w.heap.size w w' := by
  have h := c_eqCell c c w
  rw [show eqC c c = true by simp [eqC]] at h
  exact h

set_option maxHeartbeats 4000000 in
set_option maxRecDepth 100000 in
theorem walk (a : Option Addr) (l : List Cl) (ca : Nat) (t s : Int) (w : World) (ha : Seg w a l) (hm : l.length ≤ maxLen) (ws : (Lit.int .i64 s).wf = true) :
    Calls Try.prog 6 #[.agg #[.slice a l.length ca, .int .i64 t], .int .i64 s] w fun e w' => e = .returned (.bool true) ∧ Below w.heap.size w w' := by
  unfold maxLen at hm
  have B0 := hid ((Below.refl w.heap.size w).alloc (Nat.le_refl _) (.cells #[.slice a l.length ca, .int .i64 t] 36))
  have A0 := hid (WBox.new w (.slice a l.length ca) t 36)
  have Z0 := hid (show (w.alloc (.cells #[.slice a l.length ca, .int .i64 t] 36)).heap.size = w.heap.size + 1 by simp)
  by_cases hl : l.length ≤ 1048576
  · have hz : (0 : Int) ≤ 1048576 - (l.length : Int) := by omega
    have HA := hid ha
    have HSS := hid (fun (W : World) (g : Nat) (h : Seg W (some ⟨g, 0, none⟩) l) => c_sSquareFor (some ⟨g, 0, none⟩) l l.length t s W h hl)
    have HII := hid (fun (W : World) (g : Nat) (h : Seg W (some ⟨g, 0, none⟩) l) => c_iSquareFor (some ⟨g, 0, none⟩) l l.length t s W h hl)
    generalize sqC l t s = RC at *
    generalize sqV l t s = RV at *
    generalize sqOk l t s = RB at *
    clear ha hm
    go_enter Try.func6, Try.ntmps6
    have x0 := A0.out.1
    have x1 := A0.out.2.1
    go_wp2_with fail
    refine (c_szWorld a l.length ca t 1048576 _ (by omega) (by omega)).mono ?_
    rintro e w1 ⟨rfl, b⟩
    replace A0 := hid (A0.out.below b)
    replace B0 := hid (B0.out.trans (b.mono B0.out.size))
    clear b x0 x1
    have x0 := A0.out.1
    have x1 := A0.out.2.1
    go_wp2_with fail
    refine (c_toWorld a l ca t w1 (HA.out.below B0.out) hl).mono ?_
    rintro e w2 ⟨rfl, r, b⟩
    replace A0 := hid (A0.out.below b)
    replace B0 := hid (B0.out.trans (b.mono B0.out.size))
    have R2 := hid r.seg
    clear b r x0 x1
    go_wp2_with fail
    refine (HSS.out w2 _ R2.out).mono ?_
    rintro e w3' ⟨rfl, b⟩
    have ba := (Below.refl w3'.heap.size w3').alloc (Nat.le_refl _) (.cells #[.int .i64 RC.1, .int .i64 RC.2] 44)
    have PW := hid (WBox.new w3' (.int .i64 RC.1) RC.2 44)
    replace A0 := hid ((A0.out.below b).below ba)
    replace B0 := hid ((B0.out.trans (b.mono B0.out.size)).trans (ba.mono (by have := B0.out.size; have := b.size; omega)))
    clear b ba R2 HSS
    have x0 := A0.out.1
    have x1 := A0.out.2.1
    go_wp2_with fail
    generalize w3'.alloc (.cells #[.int .i64 RC.1, .int .i64 RC.2] 44) = w3 at *
    refine (c_toWorld a l ca t _ (HA.out.below B0.out) hl).mono ?_
    rintro e w4 ⟨rfl, r, b⟩
    have ba := (Below.refl w4.heap.size w4).alloc (Nat.le_refl _) (.cells #[.slice (some ⟨w3.heap.size + 3, 0, none⟩) l.length l.length, .int .i64 t] 26)
    have hlt := r.lt
    have PX := hid (PWd.new (t := t) (r.own hl) (by omega) 26)
    have R4 := hid (r.seg.below ba)
    replace PW := hid ((PW.out.below b).below ba)
    replace A0 := hid ((A0.out.below b).below ba)
    replace B0 := hid ((B0.out.trans (b.mono B0.out.size)).trans (ba.mono (by have := B0.out.size; have := b.size; omega)))
    clear b r ba hlt x0 x1
    have y0 := PX.out.2.1.1
    have y1 := PX.out.2.1.2.1
    go_wp2_with fail
    generalize w4.alloc (.cells #[.slice (some ⟨w3.heap.size + 3, 0, none⟩) l.length l.length, .int .i64 t] 26) = W4 at *
    refine (HII.out W4 _ R4.out).mono ?_
    rintro e w5 ⟨rfl, b⟩
    have ba := (Below.refl w5.heap.size w5).alloc (Nat.le_refl _) (.cells #[.int .i64 RC.1, .int .i64 RC.2] 44)
    have PG := hid (WBox.new w5 (.int .i64 RC.1) RC.2 44)
    replace A0 := hid ((A0.out.below b).below ba)
    replace B0 := hid ((B0.out.trans (b.mono B0.out.size)).trans (ba.mono (by have := B0.out.size; have := b.size; omega)))
    replace PX := hid ((PWd.kpt _ _ _ _ _).below ((PWd.kpt _ _ _ _ _).below PX.out b) ba)
    replace PW := hid ((PW.out.below b).below ba)
    clear b ba y0 y1 R4
    have d1 : (RB != RB) = false := by simp
    have d2 : (RV != RV) = false := by simp
    have x0 := PW.out.1
    have x1 := PW.out.2.1
    have y0 := PG.out.1
    have y1 := PG.out.2.1
    go_wp2_with fail
    generalize w5.alloc (.cells #[.int .i64 RC.1, .int .i64 RC.2] 44) = W5 at *
    refine (c_eqSame RC _).mono ?_
    rintro e w6 ⟨rfl, b⟩
    replace A0 := hid (A0.out.below b)
    replace B0 := hid (B0.out.trans (b.mono B0.out.size))
    replace PX := hid ((PWd.kpt _ _ _ _ _).below PX.out b)
    clear b x0 x1 y0 y1 PW PG
    have x0 := A0.out.1
    have x1 := A0.out.2.1
    have y0 := PX.out.2.1.1
    have y1 := PX.out.2.1.2.1
    have hx := A0.out.2.2
    have hy := PX.out.2.1.2.2
    go_wp2_with fail
    have hd := (Below.refl w6.heap.size w6).drew
    have AD := hid (A0.out.below hd)
    have BD := hid (B0.out.trans (hd.mono B0.out.size))
    have PD := hid ((PWd.kpt _ _ _ _ _).below PX.out hd)
    clear hd
    go_region_held3 (fun W => W.cell? ⟨w.heap.size, 0, none⟩ = some (.slice a l.length ca) ∧ W.cell? ⟨w.heap.size, 1, none⟩ = some (.int .i64 t) ∧ W.cell? ⟨w4.heap.size, 0, none⟩ = some (.slice (some ⟨w3.heap.size + 3, 0, none⟩) l.length l.length) ∧ W.cell? ⟨w4.heap.size, 1, none⟩ = some (.int .i64 t))
      (first | exact ⟨A0.out.1, A0.out.2.1, PX.out.2.1.1, PX.out.2.1.2.1⟩ | exact ⟨A7.out.1, A7.out.2.1, P7.out.2.1.1, P7.out.2.1.2.1⟩ | exact ⟨A8.out.1, A8.out.2.1, P8.out.2.1.1, P8.out.2.1.2.1⟩ | go_keep)
      (first
        | (go_at_call 21; refine (c_toWorld a l ca t _ (HA.out.below BD.out) hl).mono ?_; rintro e w7 ⟨rfl, r7, b7⟩; have A7 := hid (AD.out.below b7); have B7 := hid (BD.out.trans (b7.mono BD.out.size)); have P7 := hid ((PWd.kpt _ _ _ _ _).below PD.out b7))
        | (go_at_call 14; refine (c_eqWorld' _ _ l t _ P7.out.1 (OwnR.of (r7.own hl)) hl).mono ?_; rintro e w8 ⟨rfl, b8⟩; have A8 := hid (A7.out.below b8); have B8 := hid (B7.out.trans (b8.mono B7.out.size)); have P8 := hid ((PWd.kpt _ _ _ _ _).below P7.out b8)))
    go_wp2_with fail
    go_ret
    exact ⟨rfl, B8.out⟩
  · go_enter Try.func6, Try.ntmps6
    have x0 := A0.out.1
    have x1 := A0.out.2.1
    go_wp2_with fail
    refine (c_szWorld_no a l.length ca t 1048576 _ (by omega) (by omega) (by omega) (by omega)).mono ?_
    rintro e w1 ⟨rfl, b⟩
    go_wp2
    go_ret
    exact ⟨rfl, B0.out.trans (b.mono B0.out.size)⟩

set_option maxRecDepth 100000 in
theorem lifted (os : Os) (started : os.Started) (H : Type) (enc : TypeId × Value → H) :
    ReturnsInHanded {} Try.checked os 6 .any (Rows.fnExactSquareForSpec.pre6 enc Try.prog Try.f6 Rows.fnExactSquareForRow.domain false) (Rows.fnExactSquareForSpec.post enc Try.prog Try.f6 false true false false) := by
  refine returnsInHanded_of_change (C := Try.checked) own started (by kernel_rfl) Try.func6
    (ChangeSpec.witness6 (enc := enc) (C := Try.checked) false ⟨#[], #[.agg #[.slice none 0 0, .int .i64 0], .int .i64 0], []⟩ 8 (by kernel_rfl) (by kernel_rfl) (by kernel_rfl) (by kernel_rfl)) ?_
  intro W base args ds gs before hval0 hW hcnd _
  have hval : ∀ (j : Nat) t v, Try.f6.params[j]? = some t → args[j]? = some v → Value.okWide Try.prog W .any base t v := hval0
  have hW' := hW
  obtain ⟨p, q, hA0, hV, rfl, hfz, hnd⟩ := hW
  have hA : DataW.TrodAll enc Try.prog W 0 (fun _ => true) true Try.f6.params.toList args.toList ds p := hA0
  rw [Try.params6] at hA hval
  obtain ⟨v0, vs0, d0, ds0, p0, q0, hargs, rfl, rfl, h0, r0⟩ := trodAll_cons hA
  obtain ⟨v1, vs1, d1, ds1, p1, q1, rfl, rfl, rfl, h1, r1⟩ := trodAll_cons r0
  obtain ⟨rfl, rfl, rfl⟩ := trodAll_nil r1
  obtain rfl : args = #[v0, v1] := by cases args; simp_all
  obtain ⟨rfl, rfl⟩ := trodVars_none hV
  have k0 := h0
  have lt0 : ∀ x ∈ p0, x.block < W.heap.size := by obtain ⟨m, hm⟩ := k0; exact DataW.trod_lt m _ _ _ hm
  obtain ⟨a0, l0, cap0, n0, rfl, m0, s0⟩ := open_world (hval 0 36 v0 rfl rfl) h0
  have k1 := h1
  have lt1 : ∀ x ∈ p1, x.block < W.heap.size := by obtain ⟨m, hm⟩ := k1; exact DataW.trod_lt m _ _ _ hm
  obtain ⟨n1, rfl, w1⟩ : ∃ n : Int, v1 = .int .i64 n ∧ (Lit.int .i64 n).wf = true := open_num (hval 1 3 v1 rfl rfl) h1
  clear hA0 hval0
  refine (walk a0 l0 cap0 n0 n1 W s0 m0 w1).mono fun e W' ⟨he, bel⟩ => ?_
  subst he
  exact ⟨_, rfl, _, _, _, [], _, [], hW', trodAll_mk1 (shut_bool Try.underlying4 _), (trodAll_cons_mk (Below.trod laidOut (by kernel_rfl) (of_decide_eq_true (by kernel_rfl)) k0 bel lt0) (trodAll_cons_mk (Below.trod laidOut (by kernel_rfl) (of_decide_eq_true (by kernel_rfl)) k1 bel lt1) trodAll_mk0)), rfl, bel.frame _, fun h => by cases h⟩

theorem over : Rows.fnExactSquareForRow.holds Try.pinned (OpenSpec.ofChange Rows.fnExactSquareForSpec) :=
  OpenClaim.holds_of_wide 6 Try.f6 rfl rfl rfl rfl rfl rfl rfl ⟨rfl, rfl, rfl, rfl, rfl⟩ rfl rfl rfl rfl rfl (by kernel_rfl) Try.func6 (by kernel_rfl)
    (of_decide_eq_true (by kernel_rfl)) (by unfold Func.isWrapper; first | (rw [if_pos (by decide +kernel)]; kernel_rfl) | (rw [if_neg (by decide +kernel)]; exact ⟨rfl, rfl⟩))
    (fun os started H enc _ => lifted os started H enc)

end Go.Proofs.Ytnabgfbempkgnaa.lSquareFor
namespace Go.Proofs.Ytnabgfbempkgnaa
/-- THE STATEMENT. -/
theorem squareFor_holds : Rows.FnExactSquareForSaid := lSquareFor.over
#print axioms squareFor_holds
end Go.Proofs.Ytnabgfbempkgnaa
