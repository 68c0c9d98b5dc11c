/- FnExactNewWorld answers true at every argument: NewWorld answers as the specification does, writes into no argument, and its answer owns its memory. No condition. -/
import Derived.Test.YtnabgfbempkgnaaWdF
import Derived.Test.YtnabgfbempkgnaaOpen
import Derived.Deep.RegionHeld3
namespace Go.Proofs.Ytnabgfbempkgnaa.lNewWorld
open Go.RowKit Go.ChangeShapes Go.WideShapes Go.ChangeAt
set_option linter.unusedVariables false
attribute [local go_sem ↓] Go.wp_at_zero Go.wp_at_succ

set_option maxHeartbeats 4000000 in
set_option maxRecDepth 100000 in
theorem walk (a : Option Addr) (l : List Cl) (ca : Nat) (w : World) (ha : Seg w a l) (hm : l.length ≤ maxLen) :
    Calls Try.prog 3 #[.slice a l.length ca] w fun e w' => e = .returned (.bool true) ∧ Below w.heap.size w w' := by
  unfold maxLen at hm
  have B0 := hid (Below.refl w.heap.size w)
  by_cases hl : l.length ≤ 1048576
  · have hz : (0 : Int) ≤ 1048576 - (l.length : Int) := by omega
    have HLE := hid (tellV_le l)
    have HSS := hid (fun (W : World) (g : Nat) (h : Seg W (some ⟨g, 0, none⟩) l) => c_sNewWorld (some ⟨g, 0, none⟩) l l.length W h hl (fun e => by cases e))
    have HII := hid (fun (W : World) (g : Nat) (h : Seg W (some ⟨g, 0, none⟩) l) => c_iNewWorld (some ⟨g, 0, none⟩) l l.length W h hl (fun e => by cases e))
    generalize tellV l = RR at *
    generalize (0 : Int) = RT at *
    generalize good l = RB at *
    have HA := hid ha
    clear ha hm
    go_enter Try.func3, Try.ntmps3
    go_wp2_with fail
    refine (c_szCellS a l.length ca 1048576 _ (by omega) (by omega)).mono ?_
    rintro e w1 ⟨rfl, e1⟩
    have e2 := e1.symm
    clear e1
    subst e2
    go_wp2_with fail
    refine (c_toCellS a l ca _ (HA.out.below B0.out) hl).mono ?_
    rintro e w2 ⟨rfl, r, b⟩
    replace B0 := hid (B0.out.trans (b.mono B0.out.size))
    have Z2 := hid b.size
    have Z1 := hid (show w.heap.size ≤ w2.heap.size from B0.out.size)
    have R2 := hid r.seg
    clear b r
    go_wp2_with fail
    refine (HSS.out w2 _ R2.out).mono ?_
    rintro e w3 ⟨wv, rfl, hW, b⟩
    obtain ⟨wa, wc, rfl, _⟩ := hW.form
    have PW := hid (PWd.new (t := RT) hW b.size 26)
    have ba := (Below.refl w3.heap.size w3).alloc (Nat.le_refl _) (.cells #[.slice wa RR.length wc, .int .i64 RT] 26)
    have Z3 := hid (⟨b.size, by simp⟩ : w2.heap.size ≤ w3.heap.size ∧ (w3.alloc (.cells #[.slice wa RR.length wc, .int .i64 RT] 26)).heap.size = w3.heap.size + 1)
    replace B0 := hid ((B0.out.trans (b.mono B0.out.size)).trans (ba.mono (by have := B0.out.size; have := b.size; omega)))
    clear b R2 hW ba HSS
    go_wp2_with fail
    generalize w3.alloc (.cells #[.slice wa RR.length wc, .int .i64 RT] 26) = W3 at *
    refine (c_toCellS a l ca W3 (HA.out.below B0.out) hl).mono ?_
    rintro e w4 ⟨rfl, r, b⟩
    have hlt := r.lt
    have PX := hid (OwnR.of (r.own hl))
    have Z4 := hid (show W3.heap.size < w4.heap.size from hlt)
    have R4 := hid r.seg
    replace PW := hid ((PWd.kpt _ _ _ _ _).below PW.out b)
    replace B0 := hid (B0.out.trans (b.mono B0.out.size))
    clear b r hlt
    go_wp2_with fail
    refine (HII.out w4 _ R4.out).mono ?_
    rintro e w5 ⟨gv, rfl, hG, b⟩
    obtain ⟨ga, gc, rfl, _⟩ := hG.form
    have PG := PWd.new (t := RT) hG b.size 26
    have ba := (Below.refl w5.heap.size w5).alloc (Nat.le_refl _) (.cells #[.slice ga RR.length gc, .int .i64 RT] 26)
    have bb := b.trans (ba.mono b.size)
    have N := hid (show L4 w (w5.alloc (.cells #[.slice ga RR.length gc, .int .i64 RT] 26)) w.heap.size w.heap.size w2.heap.size (w3.heap.size + 1) W3.heap.size w4.heap.size w4.heap.size (w5.heap.size + 1) (fun W => True) (fun W => PWd W w2.heap.size w3.heap.size (.slice wa RR.length wc) RR RT) (fun W => OwnR W W3.heap.size w4.heap.size (.slice (some ⟨W3.heap.size, 0, none⟩) l.length l.length) l) (fun W => PWd W w4.heap.size w5.heap.size (.slice ga RR.length gc) RR RT) from
      ⟨trivial, (PWd.kpt _ _ _ _ _).below PW.out bb, (OwnR.kpt _ _ _ _).below PX.out bb, PG, Kpt.true _ _, PWd.kpt _ _ _ _ _, OwnR.kpt _ _ _ _, PWd.kpt _ _ _ _ _, B0.out.trans (bb.mono B0.out.size), by have := Z1.out; have := Z2.out; have := Z3.out; have := Z4.out; have := b.size; omega⟩)
    have Z5 := hid (show w4.heap.size ≤ w5.heap.size from b.size)
    clear B0 PW PX PG hG R4 b ba bb
    have d1 : (RB != RB) = false := by simp
    have y0 := N.out.pg.2.1.1
    have y1 := N.out.pg.2.1.2.1
    have z0 := N.out.pw.2.1.1
    have z1 := N.out.pw.2.1.2.1
    go_wp2_with fail
    generalize w5.alloc (.cells #[.slice ga RR.length gc, .int .i64 RT] 26) = W5 at *
    refine (c_eqWorld' _ _ RR RT _ N.out.pg.1 N.out.pw.1 (by have := HLE.out; omega)).mono ?_
    rintro e w6 ⟨rfl, b⟩
    replace N := hid (N.out.below b)
    clear b y0 y1 z0 z1
    go_wp2_with fail
    refine (c_toCellS a l ca _ (HA.out.below N.out.bel) hl).mono ?_
    rintro e w7 ⟨rfl, r7, b7⟩
    have N7 := hid (N.out.below b7)
    go_wp2_with fail
    refine (c_eqCells' _ _ l _ N7.out.px (OwnR.of (r7.own hl)) hl).mono ?_
    rintro e w8 ⟨rfl, b8⟩
    replace N := hid (N7.out.below b8)
    clear N7 b7 b8 r7
    go_wp2_with fail
    refine (c_markCells' _ l _ N.out.px hl).mono ?_
    rintro e w9 ⟨rfl, hM, hGr⟩
    replace N := hid (N.out.markX (PX' := fun W => OwnR W W3.heap.size w4.heap.size (.slice (some ⟨W3.heap.size, 0, none⟩) l.length l.length) (marks 1 l.length)) hGr (Nat.le_refl _) (Nat.le_refl _) hM (OwnR.kpt _ _ _ _))
    clear hM hGr
    have dk : ¬ 1 + 2 * (l.length : Int) < 0 := by omega
    have y0 := N.out.pg.2.1.1
    have y1 := N.out.pg.2.1.2.1
    have z0 := N.out.pw.2.1.1
    have z1 := N.out.pw.2.1.2.1
    go_wp2_with fail
    refine (c_eqWorld' _ _ RR RT _ N.out.pg.1 N.out.pw.1 (by have := HLE.out; omega)).mono ?_
    rintro e w10 ⟨rfl, b⟩
    replace N := hid (N.out.below b)
    clear b y0 y1 z0 z1 dk
    have y0 := N.out.pg.2.1.1
    have y1 := N.out.pg.2.1.2.1
    go_wp2_with fail
    refine (c_markWorld _ RT RR _ N.out.pg.1 (by have := HLE.out; omega)).mono ?_
    rintro e w11 ⟨rfl, hM, hGr⟩
    replace N := hid (N.out.markG (PG' := fun W => PWd W w4.heap.size w5.heap.size (.slice ga RR.length gc) (marks 1 RR.length) RT) hGr (Nat.le_refl _) (by omega) (N.out.pg.mark hGr hM) (PWd.kpt _ _ _ _ _))
    clear hM hGr y0 y1
    have HHE := hid (fun W h => c_heldWorld (.slice ga RR.length gc) RT RR.length W (lo := w4.heap.size) (hi := w5.heap.size) h (by have := HLE.out; omega))
    have dm : ¬ 1 + 2 * (RR.length : Int) < 0 := by omega
    have dn : ((1 + 2 * (RR.length : Int)) != (1 + 2 * (RR.length : Int))) = false := by simp
    generalize hTOT : 1 + 2 * (RR.length : Int) = M at *
    clear hTOT
    have y0 := N.out.pg.2.1.1
    have y1 := N.out.pg.2.1.2.1
    go_wp2_with fail
    refine (HHE.out _ N.out.pg.1).mono ?_
    rintro e w12 ⟨rfl, b⟩
    replace N := hid (N.out.below b)
    clear b y0 y1
    go_wp2_with fail
    refine (c_toCellS a l ca _ (HA.out.below N.out.bel) hl).mono ?_
    rintro e w13 ⟨rfl, r, b⟩
    replace N := hid (N.out.below b)
    have R13 := hid r.seg
    clear b r
    go_wp2_with fail
    refine (HII.out _ _ R13.out).mono ?_
    rintro e w14 ⟨hv, rfl, hH, b⟩
    obtain ⟨hha, hc, rfl, _⟩ := hH.form
    have PH := hid (PWd.new (t := RT) hH b.size 26)
    have ba := (Below.refl w14.heap.size w14).alloc (Nat.le_refl _) (.cells #[.slice hha RR.length hc, .int .i64 RT] 26)
    replace N := hid ((N.out.below b).below ba)
    clear b ba R13 hH
    have y0 := PH.out.2.1.1
    have y1 := PH.out.2.1.2.1
    have z0 := N.out.pw.2.1.1
    have z1 := N.out.pw.2.1.2.1
    go_wp2_with fail
    generalize w14.alloc (.cells #[.slice hha RR.length hc, .int .i64 RT] 26) = W14 at *
    refine (c_eqWorld' _ _ RR RT _ PH.out.1 N.out.pw.1 (by have := HLE.out; omega)).mono ?_
    rintro e w15 ⟨rfl, b⟩
    replace N := hid (N.out.below b)
    clear b y0 y1 z0 z1 PH
    have y0 := N.out.pg.2.1.1
    have y1 := N.out.pg.2.1.2.1
    go_wp2_with fail
    refine (HHE.out _ N.out.pg.1).mono ?_
    rintro e w16 ⟨rfl, b⟩
    replace N := hid (N.out.below b)
    go_wp2_with fail
    go_ret
    exact ⟨rfl, N.out.bel⟩
  · go_enter Try.func3, Try.ntmps3
    go_wp2_with fail
    refine (c_szCellS_no a l.length ca 1048576 _ (by omega) (by omega) (by omega) (by omega)).mono ?_
    rintro e w1 ⟨rfl, rfl⟩
    go_wp2
    go_ret
    exact ⟨rfl, B0.out⟩

set_option maxRecDepth 100000 in
theorem lifted (os : Os) (started : os.Started) (H : Type) (enc : TypeId × Value → H) :
    ReturnsInHanded {} Try.checked os 3 .any (Rows.fnExactNewWorldSpec.pre6 enc Try.prog Try.f3 Rows.fnExactNewWorldRow.domain false) (Rows.fnExactNewWorldSpec.post enc Try.prog Try.f3 false true false false) := by
  refine returnsInHanded_of_change (C := Try.checked) own started (by kernel_rfl) Try.func3
    (ChangeSpec.witness6 (enc := enc) (C := Try.checked) false ⟨#[], #[.slice none 0 0], []⟩ 8 (by kernel_rfl) (by kernel_rfl) (by kernel_rfl) (by kernel_rfl)) ?_
  intro W base args ds gs before hval0 hW hcnd _
  have hval : ∀ (j : Nat) t v, Try.f3.params[j]? = some t → args[j]? = some v → Value.okWide Try.prog W .any base t v := hval0
  have hW' := hW
  obtain ⟨p, q, hA0, hV, rfl, hfz, hnd⟩ := hW
  have hA : DataW.TrodAll enc Try.prog W 0 (fun _ => true) true Try.f3.params.toList args.toList ds p := hA0
  rw [Try.params3] at hA hval
  obtain ⟨v0, vs0, d0, ds0, p0, q0, hargs, rfl, rfl, h0, r0⟩ := trodAll_cons hA
  obtain ⟨rfl, rfl, rfl⟩ := trodAll_nil r0
  obtain rfl : args = #[v0] := by cases args; simp_all
  obtain ⟨rfl, rfl⟩ := trodVars_none hV
  have k0 := h0
  have lt0 : ∀ x ∈ p0, x.block < W.heap.size := by obtain ⟨m, hm⟩ := k0; exact DataW.trod_lt m _ _ _ hm
  obtain ⟨a0, len0, cap0, rfl⟩ := okWide_slice Try.underlying22 (hval 0 22 v0 rfl rfl)
  obtain ⟨l0, rfl, m0, s0⟩ : ∃ l : List Cl, l.length = len0 ∧ l.length ≤ maxLen ∧ Seg W a0 l := by
    obtain ⟨fuel, hf⟩ := h0
    exact open_cells hf
  clear hA0 hval0
  refine (walk a0 l0 cap0 W s0 m0).mono fun e W' ⟨he, bel⟩ => ?_
  subst he
  exact ⟨_, rfl, _, _, _, [], _, [], hW', trodAll_mk1 (shut_bool Try.underlying4 _), (trodAll_cons_mk (Below.trod laidOut (by kernel_rfl) (of_decide_eq_true (by kernel_rfl)) k0 bel lt0) trodAll_mk0), rfl, bel.frame _, fun h => by cases h⟩

theorem over : Rows.fnExactNewWorldRow.holds Try.pinned (OpenSpec.ofChange Rows.fnExactNewWorldSpec) :=
  OpenClaim.holds_of_wide 3 Try.f3 rfl rfl rfl rfl rfl rfl rfl ⟨rfl, rfl, rfl, rfl, rfl⟩ rfl rfl rfl rfl rfl (by kernel_rfl) Try.func3 (by kernel_rfl)
    (of_decide_eq_true (by kernel_rfl)) (by unfold Func.isWrapper; first | (rw [if_pos (by decide +kernel)]; kernel_rfl) | (rw [if_neg (by decide +kernel)]; exact ⟨rfl, rfl⟩))
    (fun os started H enc _ => lifted os started H enc)

end Go.Proofs.Ytnabgfbempkgnaa.lNewWorld
namespace Go.Proofs.Ytnabgfbempkgnaa
/-- THE STATEMENT. -/
theorem newWorld_holds : Rows.FnExactNewWorldSaid := lNewWorld.over
#print axioms newWorld_holds
end Go.Proofs.Ytnabgfbempkgnaa
