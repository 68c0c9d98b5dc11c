/- FnExactFixedBy answers true at every argument: FixedBy answers as the specification does, writes into no argument, and its answer owns its memory. No condition. -/
import Derived.Test.YtgfdkolhldbehaaLa
import Derived.Test.YtgfdkolhldbehaaLp
import Derived.Test.YtgfdkolhldbehaaLg
namespace Go.Proofs.Ytgfdkolhldbehaa.lFixedBy
open Go.RowKit Go.ChangeShapes Go.WideShapes Go.ChangeAt
set_option linter.unusedVariables false

theorem own_i {w : World} {base : Nat} {v : Value} {l : List Int} (h : OwnI w base v l) : IOwn w base w.heap.size v l := by
  have h0 := h
  rcases h.2 with ⟨rfl, hn⟩ | ⟨g, cap, cur, rfl, hb, hg, hcap, hm, hs, ht⟩
  · exact .inl ⟨rfl, List.eq_nil_of_length_eq_zero hn⟩
  · have hlt := (Array.getElem?_eq_some_iff.1 hg).1
    refine .inr ⟨g, cap, rfl, hcap, hb, hlt, Nat.le_refl _, fun j hj => ⟨?_, World.ownsRow.frozenAt h0 j, hlt⟩⟩
    have := World.ownsRow.cellAt h0 j (by omega)
    rw [iv_at hj] at this
    exact this

set_option maxHeartbeats 4000000 in
set_option maxRecDepth 100000 in
theorem walk (a : Option Addr) (l : List Cl) (ca : Nat) (w : World) (ha : Seg w a l) (hm : l.length ≤ maxLen) :
    Calls Try.prog 10 #[.slice a l.length ca] w fun e w' => e = .returned (.bool true) ∧ Below w.heap.size w w' := by
  unfold maxLen at hm
  by_cases hl : l.length ≤ 1048576
  · have hz : (0 : Int) ≤ 1048576 - (l.length : Int) := by omega
    have hR := fixL_le l
    have hdl : decide (l = l) = true := by simp
    have CS := hid (fun (g c : Nat) (W : World) (h : Seg W (some ⟨g, 0, none⟩) l) => c_sFixedBy (some ⟨g, 0, none⟩) l c W h hl)
    have CI := hid (fun (g c : Nat) (W : World) (h : Seg W (some ⟨g, 0, none⟩) l) => c_iFixedBy (some ⟨g, 0, none⟩) l c W h hl)
    generalize fixL l = R at *
    generalize homeOk l = ok at *
    have d1 : (ok != ok) = false := by simp
    go_enter Try.func10, Try.ntmps10
    go_wp2_with fail
    refine (c_szCellS a l.length ca 1048576 _ (by omega) (by omega)).mono ?_
    rintro e w0 ⟨rfl, rfl⟩
    go_wp2_with fail
    refine (c_toCellS a l ca _ ha hl).mono ?_
    rintro e w1 ⟨rfl, r1, b1⟩
    have R1 := hid r1
    have B1 := hid b1
    clear r1 b1
    go_wp2_with fail
    refine (CS.out _ l.length w1 R1.out.seg).mono ?_
    rintro e w2 ⟨wv, rfl, o1, b2⟩
    have W2 := hid (own_i o1)
    have B2 := hid (B1.out.trans (b2.mono B1.out.size))
    have Z12 := hid b2.size
    clear o1 b2 R1
    go_wp2_with fail
    refine (c_toCellS a l ca w2 (ha.below B2.out) hl).mono ?_
    rintro e w3 ⟨rfl, r3, b3⟩
    have R3 := hid r3
    have X3 := hid (OwnR.of (r3.own hl))
    have W3 := hid ((IOwn.kpt _ _ _ _).below W2.out b3)
    have B3 := hid (B2.out.trans (b3.mono B2.out.size))
    have Z23 := hid b3.size
    clear r3 b3 W2 B2
    go_wp2_with fail
    refine (CI.out _ l.length w3 R3.out.seg).mono ?_
    rintro e w4 ⟨gv, rfl, o2, b4⟩
    have N := hid (show L4 w0 w4 w0.heap.size w0.heap.size w1.heap.size w2.heap.size w2.heap.size w3.heap.size w3.heap.size w4.heap.size (fun _ => True) (fun W => IOwn W w1.heap.size w2.heap.size wv R) (fun W => OwnR W w2.heap.size w3.heap.size (.slice (some ⟨w2.heap.size, 0, none⟩) l.length l.length) l) (fun W => IOwn W w3.heap.size w4.heap.size gv R) from
      ⟨trivial, (IOwn.kpt _ _ _ _).below W3.out b4, (OwnR.kpt _ _ _ _).below X3.out b4, own_i o2, Kpt.true _ _, IOwn.kpt _ _ _ _, OwnR.kpt _ _ _ _, IOwn.kpt _ _ _ _, B3.out.trans (b4.mono B3.out.size), by have := B1.out.size; have := Z12.out; have := Z23.out; have := b4.size; omega⟩)
    clear o2 b4 W3 X3 B3 R3 B1
    go_wp2_with fail
    refine (c_eqInts' _ _ R _ N.out.pg N.out.pw (by omega)).mono ?_
    rintro e w5 ⟨rfl, b⟩
    replace N := hid (N.out.below b)
    clear b
    go_wp2_with fail
    refine (c_toCellS a l ca w5 (ha.below N.out.bel) hl).mono ?_
    rintro e w6 ⟨rfl, r6, b⟩
    replace N := hid (N.out.below b)
    have T6 := hid (OwnR.of (r6.own hl))
    clear r6 b
    go_wp2_with fail
    refine (c_eqCells' _ _ l w6 N.out.px T6.out hl).mono ?_
    rintro e w7 ⟨rfl, b⟩
    replace N := hid (N.out.below b)
    clear b T6
    go_wp2_with fail
    refine (c_markCells' _ l w7 N.out.px hl).mono ?_
    rintro e w8 ⟨rfl, hM, hGr⟩
    replace N := hid (N.out.markX (PX' := fun W => OwnR W w2.heap.size w3.heap.size (.slice (some ⟨w2.heap.size, 0, none⟩) l.length l.length) (marks 1 l.length)) hGr (Nat.le_refl _) (Nat.le_refl _) hM (OwnR.kpt _ _ _ _))
    clear hM hGr
    have hk2 : ¬ 1 + 2 * (l.length : Int) < 0 := by omega
    have hk3 : (0 : Int) ≤ 1 + 2 * (l.length : Int) := by omega
    generalize 1 + 2 * (l.length : Int) = K at *
    go_wp2_with fail
    refine (c_eqInts' _ _ R _ N.out.pg N.out.pw (by omega)).mono ?_
    rintro e w9 ⟨rfl, b⟩
    replace N := hid (N.out.below b)
    clear b
    go_wp2_with fail
    refine (c_markInts' gv R 1 _ N.out.pg (by omega) (by omega) (by omega)).mono ?_
    rintro e w10 ⟨rfl, hM, hGr⟩
    replace N := hid (N.out.markG (PG' := fun W => IOwn W w3.heap.size w4.heap.size gv (marksI 1 R.length)) hGr (Nat.le_refl _) (Nat.le_refl _) hM (IOwn.kpt _ _ _ _))
    clear hM hGr
    have HHE := hid (fun W h => c_heldInts' gv R.length W (lo := w3.heap.size) (hi := w4.heap.size) h (by omega))
    have dm : ¬ 1 + (R.length : Int) < 0 := by omega
    have dn : ((1 + (R.length : Int)) != (1 + (R.length : Int))) = false := by simp
    have dk : (0 : Int) ≤ 1 + (R.length : Int) ∧ 1 + (R.length : Int) ≤ 1000 := by omega
    generalize hTOT : 1 + (R.length : Int) = M at *
    clear hTOT
    go_wp2_with fail
    refine (HHE.out _ N.out.pg).mono ?_
    rintro e w11 ⟨rfl, b⟩
    replace N := hid (N.out.below b)
    clear b
    go_wp2_with fail
    refine (c_toCellS a l ca w11 (ha.below N.out.bel) hl).mono ?_
    rintro e w12 ⟨rfl, r12, b⟩
    replace N := hid (N.out.below b)
    have R12 := hid r12
    clear r12 b
    go_wp2_with fail
    refine (CI.out _ l.length w12 R12.out.seg).mono ?_
    rintro e w13 ⟨hv, rfl, hH, b⟩
    replace N := hid (N.out.below b)
    have PH := hid (own_i hH)
    clear b hH R12
    go_wp2_with fail
    refine (c_eqInts' _ _ R _ PH.out N.out.pw (by omega)).mono ?_
    rintro e w14 ⟨rfl, b⟩
    replace N := hid (N.out.below b)
    clear b PH
    go_wp2_with fail
    refine (HHE.out _ N.out.pg).mono ?_
    rintro e w15 ⟨rfl, b⟩
    replace N := hid (N.out.below b)
    go_wp2_with fail
    go_ret
    exact ⟨rfl, N.out.bel⟩
  · go_enter Try.func10, Try.ntmps10
    go_wp2_with fail
    refine (c_szCellS_no a l.length ca 1048576 _ (by omega) (by omega) (by omega) (by omega)).mono ?_
    rintro e w0 ⟨rfl, rfl⟩
    go_wp2
    go_ret
    exact ⟨rfl, Below.refl _ _⟩

set_option maxRecDepth 100000 in
theorem lifted (os : Os) (started : os.Started) (H : Type) (enc : TypeId × Value → H) :
    ReturnsInHanded {} Try.checked os 10 .any (Rows.fnExactFixedBySpec.pre6 enc Try.prog Try.f10 Rows.fnExactFixedByRow.domain false) (Rows.fnExactFixedBySpec.post enc Try.prog Try.f10 false true false false) := by
  refine returnsInHanded_of_change (C := Try.checked) own started (by kernel_rfl) Try.func10
    (ChangeSpec.witness6 (enc := enc) (C := Try.checked) false ⟨#[], #[.slice none 0 0], []⟩ 8 (by kernel_rfl) (by kernel_rfl) (by kernel_rfl) (by kernel_rfl)) ?_
  intro W base args ds gs before hval0 hW hcnd _
  have hval : ∀ (j : Nat) t v, Try.f10.params[j]? = some t → args[j]? = some v → Value.okWide Try.prog W .any base t v := hval0
  have hW' := hW
  obtain ⟨p, q, hA0, hV, rfl, hfz, hnd⟩ := hW
  have hA : DataW.TrodAll enc Try.prog W 0 (fun _ => true) true Try.f10.params.toList args.toList ds p := hA0
  rw [Try.params10] at hA hval
  obtain ⟨v0, vs0, d0, ds0, p0, q0, hargs, rfl, rfl, h0, r0⟩ := trodAll_cons hA
  obtain ⟨rfl, rfl, rfl⟩ := trodAll_nil r0
  obtain rfl : args = #[v0] := by cases args; simp_all
  obtain ⟨rfl, rfl⟩ := trodVars_none hV
  have k0 := h0
  have lt0 : ∀ x ∈ p0, x.block < W.heap.size := by obtain ⟨m, hm⟩ := k0; exact DataW.trod_lt m _ _ _ hm
  obtain ⟨a0, len0, cap0, rfl⟩ := okWide_slice Try.underlying51 (hval 0 51 v0 rfl rfl)
  obtain ⟨l0, rfl, m0, s0⟩ : ∃ l : List Cl, l.length = len0 ∧ l.length ≤ maxLen ∧ Seg W a0 l := by
    obtain ⟨fuel, hf⟩ := h0
    exact open_cells hf
  clear hA0 hval0
  refine (walk a0 l0 cap0 W s0 m0).mono fun e W' ⟨he, bel⟩ => ?_
  subst he
  exact ⟨_, rfl, _, _, _, [], _, [], hW', trodAll_mk1 (shut_bool Try.underlying4 _), (trodAll_cons_mk (Below.trod laidOut (by kernel_rfl) (of_decide_eq_true (by kernel_rfl)) k0 bel lt0) trodAll_mk0), rfl, bel.frame _, fun h => by cases h⟩

theorem over : Rows.fnExactFixedByRow.holds Try.pinned (OpenSpec.ofChange Rows.fnExactFixedBySpec) :=
  OpenClaim.holds_of_wide 10 Try.f10 rfl rfl rfl rfl rfl rfl rfl ⟨rfl, rfl, rfl, rfl, rfl⟩ rfl rfl rfl rfl rfl (by kernel_rfl) Try.func10 (by kernel_rfl)
    (of_decide_eq_true (by kernel_rfl)) (by unfold Func.isWrapper; first | (rw [if_pos (by decide +kernel)]; kernel_rfl) | (rw [if_neg (by decide +kernel)]; exact ⟨rfl, rfl⟩))
    (fun os started H enc _ => lifted os started H enc)

end Go.Proofs.Ytgfdkolhldbehaa.lFixedBy
namespace Go.Proofs.Ytgfdkolhldbehaa
/-- THE STATEMENT. -/
theorem fixedBy_holds : Rows.FnExactFixedBySaid := lFixedBy.over
#print axioms fixedBy_holds
end Go.Proofs.Ytgfdkolhldbehaa
