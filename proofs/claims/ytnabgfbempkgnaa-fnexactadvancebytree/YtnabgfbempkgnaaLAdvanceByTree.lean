/- FnExactAdvanceByTree answers true at every argument: AdvanceByTree answers as the specification does, writes into no argument, and its answer owns its memory. No condition. -/
import Derived.Test.YtnabgfbempkgnaaKp
import Derived.Test.YtnabgfbempkgnaaKl
import Derived.Deep.RegionHeld3
namespace Go.Proofs.Ytnabgfbempkgnaa.lAdvanceByTree
open Go.RowKit Go.ChangeShapes Go.WideShapes Go.ChangeAt
set_option linter.unusedVariables false
attribute [local go_sem ↓] Go.wp_at_zero Go.wp_at_succ

set_option maxHeartbeats 4000000 in
set_option maxRecDepth 100000 in
theorem walk (a : Option Addr) (l : List Cl) (ca : Nat) (t : Int) (s : Int) (w : World) (ha : Seg w a l) (hm : l.length ≤ maxLen) (ws : (Lit.int .i64 s).wf = true) :
    Calls Try.prog 7 #[.agg #[.slice a l.length ca, .int .i64 t], .int .i64 s] w fun e w' => e = .returned (.bool true) ∧ Below w.heap.size w w' := by
  unfold maxLen at hm
  have B0 := hid ((Below.refl w.heap.size w).alloc (Nat.le_refl _) (.cells #[.slice a l.length ca, .int .i64 t] 36))
  have A0 := hid (WBox.new w (.slice a l.length ca) t 36)
  have Z0 := hid (show (w.alloc (.cells #[.slice a l.length ca, .int .i64 t] 36)).heap.size = w.heap.size + 1 by simp)
  by_cases hl : l.length ≤ 1048576
  · have hz : (0 : Int) ≤ 1048576 - (l.length : Int) := by omega
    have HLE := hid (abtL_le l t s)
    have HSS := hid (fun (W : World) (g : Nat) (h : Seg W (some ⟨g, 0, none⟩) l) => c_sAdvanceByTree (some ⟨g, 0, none⟩) l l.length t s W h hl)
    have HII := hid (fun (W : World) (g : Nat) (h : Seg W (some ⟨g, 0, none⟩) l) => c_iAdvanceByTree (some ⟨g, 0, none⟩) l l.length t s W h hl)
    generalize abtL l t s = RR at *
    generalize abtT l t s = RT at *
    generalize abtOk l t s = RB at *
    have HA := hid ha
    clear ha hm
    go_enter Try.func7, Try.ntmps7
    have x0 := A0.out.1
    have x1 := A0.out.2.1
    go_wp2_with fail
    refine (c_szWorld a l.length ca t 1048576 _ (by omega) (by omega)).mono ?_
    rintro e w1 ⟨rfl, b⟩
    replace A0 := hid (A0.out.below b)
    replace B0 := hid (B0.out.trans (b.mono B0.out.size))
    have Z1 := hid (show w.heap.size + 1 ≤ w1.heap.size by have := b.size; have := Z0.out; omega)
    clear b x0 x1
    have x0 := A0.out.1
    have x1 := A0.out.2.1
    go_wp2_with fail
    refine (c_toWorld a l ca t w1 (HA.out.below B0.out) hl).mono ?_
    rintro e w2 ⟨rfl, r, b⟩
    replace A0 := hid (A0.out.below b)
    replace B0 := hid (B0.out.trans (b.mono B0.out.size))
    have Z2 := hid b.size
    have R2 := hid r.seg
    clear b r x0 x1
    go_wp2_with fail
    refine (HSS.out w2 _ R2.out).mono ?_
    rintro e w3 ⟨wv, rfl, hW, b⟩
    obtain ⟨wa, wc, rfl, _⟩ := hW.form
    have PW := hid (PWd.new (t := RT) hW b.size 26)
    have ba := (Below.refl w3.heap.size w3).alloc (Nat.le_refl _) (.cells #[.slice wa RR.length wc, .int .i64 RT] 26)
    have Z3 := hid (⟨b.size, by simp⟩ : w2.heap.size ≤ w3.heap.size ∧ (w3.alloc (.cells #[.slice wa RR.length wc, .int .i64 RT] 26)).heap.size = w3.heap.size + 1)
    replace A0 := hid ((A0.out.below b).below ba)
    replace B0 := hid ((B0.out.trans (b.mono B0.out.size)).trans (ba.mono (by have := B0.out.size; have := b.size; omega)))
    clear b R2 hW ba HSS
    have x0 := A0.out.1
    have x1 := A0.out.2.1
    go_wp2_with fail
    generalize w3.alloc (.cells #[.slice wa RR.length wc, .int .i64 RT] 26) = W3 at *
    refine (c_toWorld a l ca t W3 (HA.out.below B0.out) hl).mono ?_
    rintro e w4 ⟨rfl, r, b⟩
    have ba := (Below.refl w4.heap.size w4).alloc (Nat.le_refl _) (.cells #[.slice (some ⟨W3.heap.size + 3, 0, none⟩) l.length l.length, .int .i64 t] 26)
    have hlt := r.lt
    have PX := hid (PWd.new (t := t) (r.own hl) (by omega) 26)
    have Z4 := hid (⟨by omega, by simp⟩ : W3.heap.size + 3 ≤ w4.heap.size ∧ (w4.alloc (.cells #[.slice (some ⟨W3.heap.size + 3, 0, none⟩) l.length l.length, .int .i64 t] 26)).heap.size = w4.heap.size + 1)
    have R4 := hid (r.seg.below ba)
    replace PW := hid ((PWd.kpt _ _ _ _ _).below PW.out (b.trans (ba.mono b.size)))
    replace A0 := hid ((A0.out.below b).below ba)
    replace B0 := hid ((B0.out.trans (b.mono B0.out.size)).trans (ba.mono (by have := B0.out.size; have := b.size; omega)))
    clear b r ba hlt x0 x1
    have y0 := PX.out.2.1.1
    have y1 := PX.out.2.1.2.1
    go_wp2_with fail
    generalize w4.alloc (.cells #[.slice (some ⟨W3.heap.size + 3, 0, none⟩) l.length l.length, .int .i64 t] 26) = W4 at *
    refine (HII.out W4 _ R4.out).mono ?_
    rintro e w5 ⟨gv, rfl, hG, b⟩
    obtain ⟨ga, gc, rfl, _⟩ := hG.form
    have PG := PWd.new (t := RT) hG b.size 26
    have ba := (Below.refl w5.heap.size w5).alloc (Nat.le_refl _) (.cells #[.slice ga RR.length gc, .int .i64 RT] 26)
    have bb := b.trans (ba.mono b.size)
    have N := hid (show L4 w (w5.alloc (.cells #[.slice ga RR.length gc, .int .i64 RT] 26)) w.heap.size (w.heap.size + 1) w2.heap.size (w3.heap.size + 1) (W3.heap.size + 3) (w4.heap.size + 1) W4.heap.size (w5.heap.size + 1) (fun W => WBox W w.heap.size (.slice a l.length ca) t) (fun W => PWd W w2.heap.size w3.heap.size (.slice wa RR.length wc) RR RT) (fun W => PWd W (W3.heap.size + 3) w4.heap.size (.slice (some ⟨W3.heap.size + 3, 0, none⟩) l.length l.length) l t) (fun W => PWd W W4.heap.size w5.heap.size (.slice ga RR.length gc) RR RT) from
      ⟨(A0.out.below b).below ba, (PWd.kpt _ _ _ _ _).below PW.out bb, (PWd.kpt _ _ _ _ _).below PX.out bb, PG, WBox.kpt _ _ _, PWd.kpt _ _ _ _ _, PWd.kpt _ _ _ _ _, PWd.kpt _ _ _ _ _, B0.out.trans (bb.mono B0.out.size), by have := Z0.out; have := Z1.out; have := Z2.out; have := Z3.out; have := Z4.out; have := b.size; omega⟩)
    have Z5 := hid (show W4.heap.size ≤ w5.heap.size from b.size)
    clear A0 B0 PW PX PG hG R4 b ba bb y0 y1
    have d1 : (RB != RB) = false := by simp
    have y0 := N.out.pg.2.1.1
    have y1 := N.out.pg.2.1.2.1
    have z0 := N.out.pw.2.1.1
    have z1 := N.out.pw.2.1.2.1
    go_wp2_with fail
    generalize w5.alloc (.cells #[.slice ga RR.length gc, .int .i64 RT] 26) = W5 at *
    refine (c_eqWorld' _ _ RR RT _ N.out.pg.1 N.out.pw.1 (by have := HLE.out; omega)).mono ?_
    rintro e w6 ⟨rfl, b⟩
    replace N := hid (N.out.below b)
    clear b y0 y1 z0 z1
    have x0 := N.out.pa.1
    have x1 := N.out.pa.2.1
    have y0 := N.out.px.2.1.1
    have y1 := N.out.px.2.1.2.1
    have hx := N.out.pa.2.2
    have hy := N.out.px.2.1.2.2
    go_wp2_with fail
    have ND := hid (N.out.below ((Below.refl w6.heap.size w6).drew))
    go_region_held3 (fun W => W.cell? ⟨w.heap.size, 0, none⟩ = some (.slice a l.length ca) ∧ W.cell? ⟨w.heap.size, 1, none⟩ = some (.int .i64 t) ∧ W.cell? ⟨w4.heap.size, 0, none⟩ = some (.slice (some ⟨W3.heap.size + 3, 0, none⟩) l.length l.length) ∧ W.cell? ⟨w4.heap.size, 1, none⟩ = some (.int .i64 t))
      (first | exact ⟨N.out.pa.1, N.out.pa.2.1, N.out.px.2.1.1, N.out.px.2.1.2.1⟩ | exact ⟨N7.out.pa.1, N7.out.pa.2.1, N7.out.px.2.1.1, N7.out.px.2.1.2.1⟩ | exact ⟨N8.out.pa.1, N8.out.pa.2.1, N8.out.px.2.1.1, N8.out.px.2.1.2.1⟩ | go_keep)
      (first
        | (go_at_call 21; refine (c_toWorld a l ca t _ (HA.out.below ND.out.bel) hl).mono ?_; rintro e w7 ⟨rfl, r7, b7⟩; have N7 := hid (ND.out.below b7))
        | (go_at_call 14; refine (c_eqWorld' _ _ l t _ N7.out.px.1 (OwnR.of (r7.own hl)) hl).mono ?_; rintro e w8 ⟨rfl, b8⟩; have N8 := hid (N7.out.below b8)))
    replace N := hid N8.out
    clear N7 N8 ND b7 b8 r7 x0 x1 y0 y1 hx hy
    have y0 := N.out.px.2.1.1
    have y1 := N.out.px.2.1.2.1
    go_wp2_with fail
    refine (c_markWorld _ t l _ N.out.px.1 hl).mono ?_
    rintro e w9 ⟨rfl, hM, hGr⟩
    replace N := hid (N.out.markX (PX' := fun W => PWd W (W3.heap.size + 3) w4.heap.size (.slice (some ⟨W3.heap.size + 3, 0, none⟩) l.length l.length) (marks 1 l.length) t) hGr (Nat.le_refl _) (by omega) (N.out.px.mark hGr hM) (PWd.kpt _ _ _ _ _))
    clear hM hGr y0 y1
    have dk : ¬ 1 + 2 * (l.length : Int) < 0 := by omega
    have y0 := N.out.pg.2.1.1
    have y1 := N.out.pg.2.1.2.1
    have z0 := N.out.pw.2.1.1
    have z1 := N.out.pw.2.1.2.1
    go_wp2_with fail
    refine (c_eqWorld' _ _ RR RT _ N.out.pg.1 N.out.pw.1 (by have := HLE.out; omega)).mono ?_
    rintro e w10 ⟨rfl, b⟩
    replace N := hid (N.out.below b)
    clear b y0 y1 z0 z1 dk
    have y0 := N.out.pg.2.1.1
    have y1 := N.out.pg.2.1.2.1
    go_wp2_with fail
    refine (c_markWorld _ RT RR _ N.out.pg.1 (by have := HLE.out; omega)).mono ?_
    rintro e w11 ⟨rfl, hM, hGr⟩
    replace N := hid (N.out.markG (PG' := fun W => PWd W W4.heap.size w5.heap.size (.slice ga RR.length gc) (marks 1 RR.length) RT) hGr (Nat.le_refl _) (by omega) (N.out.pg.mark hGr hM) (PWd.kpt _ _ _ _ _))
    clear hM hGr y0 y1
    have HHE := hid (fun W h => c_heldWorld (.slice ga RR.length gc) RT RR.length W (lo := W4.heap.size) (hi := w5.heap.size) h (by have := HLE.out; omega))
    have dm : ¬ 1 + 2 * (RR.length : Int) < 0 := by omega
    have dn : ((1 + 2 * (RR.length : Int)) != (1 + 2 * (RR.length : Int))) = false := by simp
    generalize hTOT : 1 + 2 * (RR.length : Int) = M at *
    clear hTOT
    have y0 := N.out.pg.2.1.1
    have y1 := N.out.pg.2.1.2.1
    go_wp2_with fail
    refine (HHE.out _ N.out.pg.1).mono ?_
    rintro e w12 ⟨rfl, b⟩
    replace N := hid (N.out.below b)
    clear b y0 y1
    have x0 := N.out.pa.1
    have x1 := N.out.pa.2.1
    go_wp2_with fail
    refine (c_toWorld a l ca t _ (HA.out.below N.out.bel) hl).mono ?_
    rintro e w13 ⟨rfl, r, b⟩
    replace N := hid (N.out.below b)
    have R13 := hid r.seg
    clear b r x0 x1
    go_wp2_with fail
    refine (HII.out _ _ R13.out).mono ?_
    rintro e w14 ⟨hv, rfl, hH, b⟩
    obtain ⟨hha, hc, rfl, _⟩ := hH.form
    have PH := hid (PWd.new (t := RT) hH b.size 26)
    have ba := (Below.refl w14.heap.size w14).alloc (Nat.le_refl _) (.cells #[.slice hha RR.length hc, .int .i64 RT] 26)
    replace N := hid ((N.out.below b).below ba)
    clear b ba R13 hH
    have y0 := PH.out.2.1.1
    have y1 := PH.out.2.1.2.1
    have z0 := N.out.pw.2.1.1
    have z1 := N.out.pw.2.1.2.1
    go_wp2_with fail
    generalize w14.alloc (.cells #[.slice hha RR.length hc, .int .i64 RT] 26) = W14 at *
    refine (c_eqWorld' _ _ RR RT _ PH.out.1 N.out.pw.1 (by have := HLE.out; omega)).mono ?_
    rintro e w15 ⟨rfl, b⟩
    replace N := hid (N.out.below b)
    clear b y0 y1 z0 z1 PH
    have y0 := N.out.pg.2.1.1
    have y1 := N.out.pg.2.1.2.1
    go_wp2_with fail
    refine (HHE.out _ N.out.pg.1).mono ?_
    rintro e w16 ⟨rfl, b⟩
    replace N := hid (N.out.below b)
    go_wp2_with fail
    go_ret
    exact ⟨rfl, N.out.bel⟩
  · go_enter Try.func7, Try.ntmps7
    have x0 := A0.out.1
    have x1 := A0.out.2.1
    go_wp2_with fail
    refine (c_szWorld_no a l.length ca t 1048576 _ (by omega) (by omega) (by omega) (by omega)).mono ?_
    rintro e w1 ⟨rfl, b⟩
    go_wp2
    go_ret
    exact ⟨rfl, B0.out.trans (b.mono B0.out.size)⟩

set_option maxRecDepth 100000 in
theorem lifted (os : Os) (started : os.Started) (H : Type) (enc : TypeId × Value → H) :
    ReturnsInHanded {} Try.checked os 7 .any (Rows.fnExactAdvanceByTreeSpec.pre6 enc Try.prog Try.f7 Rows.fnExactAdvanceByTreeRow.domain false) (Rows.fnExactAdvanceByTreeSpec.post enc Try.prog Try.f7 false true false false) := by
  refine returnsInHanded_of_change (C := Try.checked) own started (by kernel_rfl) Try.func7
    (ChangeSpec.witness6 (enc := enc) (C := Try.checked) false ⟨#[], #[.agg #[.slice none 0 0, .int .i64 0], .int .i64 0], []⟩ 8 (by kernel_rfl) (by kernel_rfl) (by kernel_rfl) (by kernel_rfl)) ?_
  intro W base args ds gs before hval0 hW hcnd _
  have hval : ∀ (j : Nat) t v, Try.f7.params[j]? = some t → args[j]? = some v → Value.okWide Try.prog W .any base t v := hval0
  have hW' := hW
  obtain ⟨p, q, hA0, hV, rfl, hfz, hnd⟩ := hW
  have hA : DataW.TrodAll enc Try.prog W 0 (fun _ => true) true Try.f7.params.toList args.toList ds p := hA0
  rw [Try.params7] at hA hval
  obtain ⟨v0, vs0, d0, ds0, p0, q0, hargs, rfl, rfl, h0, r0⟩ := trodAll_cons hA
  obtain ⟨v1, vs1, d1, ds1, p1, q1, rfl, rfl, rfl, h1, r1⟩ := trodAll_cons r0
  obtain ⟨rfl, rfl, rfl⟩ := trodAll_nil r1
  obtain rfl : args = #[v0, v1] := by cases args; simp_all
  obtain ⟨rfl, rfl⟩ := trodVars_none hV
  have k0 := h0
  have lt0 : ∀ x ∈ p0, x.block < W.heap.size := by obtain ⟨m, hm⟩ := k0; exact DataW.trod_lt m _ _ _ hm
  obtain ⟨a0, l0, cap0, n0, rfl, m0, s0⟩ := open_world (hval 0 36 v0 rfl rfl) h0
  have k1 := h1
  have lt1 : ∀ x ∈ p1, x.block < W.heap.size := by obtain ⟨m, hm⟩ := k1; exact DataW.trod_lt m _ _ _ hm
  obtain ⟨n1, rfl, w1⟩ : ∃ n : Int, v1 = .int .i64 n ∧ (Lit.int .i64 n).wf = true := open_num (hval 1 3 v1 rfl rfl) h1
  clear hA0 hval0
  refine (walk a0 l0 cap0 n0 n1 W s0 m0 w1).mono fun e W' ⟨he, bel⟩ => ?_
  subst he
  exact ⟨_, rfl, _, _, _, [], _, [], hW', trodAll_mk1 (shut_bool Try.underlying4 _), (trodAll_cons_mk (Below.trod laidOut (by kernel_rfl) (of_decide_eq_true (by kernel_rfl)) k0 bel lt0) (trodAll_cons_mk (Below.trod laidOut (by kernel_rfl) (of_decide_eq_true (by kernel_rfl)) k1 bel lt1) trodAll_mk0)), rfl, bel.frame _, fun h => by cases h⟩

theorem over : Rows.fnExactAdvanceByTreeRow.holds Try.pinned (OpenSpec.ofChange Rows.fnExactAdvanceByTreeSpec) :=
  OpenClaim.holds_of_wide 7 Try.f7 rfl rfl rfl rfl rfl rfl rfl ⟨rfl, rfl, rfl, rfl, rfl⟩ rfl rfl rfl rfl rfl (by kernel_rfl) Try.func7 (by kernel_rfl)
    (of_decide_eq_true (by kernel_rfl)) (by unfold Func.isWrapper; first | (rw [if_pos (by decide +kernel)]; kernel_rfl) | (rw [if_neg (by decide +kernel)]; exact ⟨rfl, rfl⟩))
    (fun os started H enc _ => lifted os started H enc)

end Go.Proofs.Ytnabgfbempkgnaa.lAdvanceByTree
namespace Go.Proofs.Ytnabgfbempkgnaa
/-- THE STATEMENT. -/
theorem advanceByTree_holds : Rows.FnExactAdvanceByTreeSaid := lAdvanceByTree.over
#print axioms advanceByTree_holds
end Go.Proofs.Ytnabgfbempkgnaa
