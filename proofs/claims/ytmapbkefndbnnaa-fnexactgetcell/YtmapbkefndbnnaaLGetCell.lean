/- FnExactGetCell answers true at every argument: GetCell answers as the specification does, and writes into no argument. No condition. -/
import Derived.Test.YtmapbkefndbnnaaKb
import Derived.Test.YtmapbkefndbnnaaKi
import Derived.Deep.RegionHeld3
namespace Go.Proofs.Ytmapbkefndbnnaa.lGetCell
open Go.RowKit Go.ChangeShapes Go.WideShapes Go.ChangeAt
set_option linter.unusedVariables false
attribute [local go_sem ↓] Go.wp_at_zero Go.wp_at_succ

/-- The cell's box, right behind the forest's. -/
def CB (w W : World) (c : Cl) : Prop := w.heap.size + 1 < W.heap.size ∧ W.heap[w.heap.size + 1]? = some (.cells #[.int .i64 c.1, .int .i64 c.2] 74)
theorem CB.new (w : World) (o : Obj) (c : Cl) : CB w ((w.alloc o).alloc (.cells #[.int .i64 c.1, .int .i64 c.2] 74)) c := by
  have h := heap_alloc_new (w.alloc o) (.cells #[.int .i64 c.1, .int .i64 c.2] 74)
  have e : (w.alloc o).heap.size = w.heap.size + 1 := by simp
  rw [e] at h
  exact ⟨by simp, h⟩
theorem CB.below {w W W' : World} {c : Cl} (h : CB w W c) (hb : Below W.heap.size W W') : CB w W' c := ⟨Nat.lt_of_lt_of_le h.1 hb.size, (hb.block _ h.1).trans h.2⟩
theorem CB.cells {w W : World} {c : Cl} (h : CB w W c) : W.cell? ⟨w.heap.size + 1, 0, none⟩ = some (.int .i64 c.1) ∧ W.cell? ⟨w.heap.size + 1, 1, none⟩ = some (.int .i64 c.2) := by
  unfold World.cell?
  dsimp only
  rw [h.2]
  exact ⟨rfl, rfl⟩

set_option maxHeartbeats 8000000 in
set_option maxRecDepth 100000 in
theorem walk (a : Option Addr) (F : List Qd) (ca : Nat) (q : Int) (c : Cl) (w : World) (hm : F.length ≤ maxLen) (hs : ∀ i, i < F.length → (qa F i).2.length ≤ maxLen) (ha : QSeg w a F) (hq : (Lit.int .i64 q).wf = true) :
    Calls Try.prog 7 #[.agg #[.slice a F.length ca], .int .i64 q, .agg #[.int .i64 c.1, .int .i64 c.2]] w fun e w' => e = .returned (.bool true) ∧ Below w.heap.size w w' := by
  unfold maxLen at hm hs
  have X0 := hid ((Box1.new w (.slice a F.length ca) 73).step ((Below.refl _ (w.alloc (.cells #[.slice a F.length ca] 73))).alloc (Nat.le_refl _) (.cells #[.int .i64 c.1, .int .i64 c.2] 74)))
  have C0 := hid (CB.new w (.cells #[.slice a F.length ca] 73) c)
  have HC := hid (c_szForest a F ca _ (ha.below X0.out.2.2) hm hs)
  by_cases hT : totQ F ≤ 1048576
  · obtain ⟨hk, hl⟩ := totQ_kids hT
    have hz : (0 : Int) ≤ 1048576 - (totQ F : Int) := by omega
    have HII := hid (fun (W : World) (aa : Option Addr) (h : QSeg W aa F) => c_iGetCell aa F F.length q c W h hl hk (Nat.le_refl _) (by omega))
    have HSS := hid (fun (W : World) (aa : Option Addr) (h : QSeg W aa F) => c_sGetCell aa F F.length q c W h hl hk (Nat.le_refl _) (by omega))
    rw [show leftQ F = 1048576 - (totQ F : Int) by simp [leftQ, hT]] at HC
    generalize 1048576 - (totQ F : Int) = T at *
    generalize getV F q c = lv at *
    generalize setOK F q c = tb at *
    have HA := hid ha
    clear ha hs hm hT
    go_enter Try.func7, Try.ntmps7
    go_wp2_with fail
    refine HC.out.mono ?_
    rintro e w1 ⟨rfl, b⟩
    have X1 := hid (X0.out.step b)
    have C1 := hid (C0.out.below b)
    clear HC X0 C0 b
    have keep1 : Hid (∀ W : World, Below w1.heap.size w1 W → W.cell? ⟨w.heap.size, 0, none⟩ = some (.slice a F.length ca) ∧ W.cell? ⟨w.heap.size + 1, 0, none⟩ = some (.int .i64 c.1) ∧ W.cell? ⟨w.heap.size + 1, 1, none⟩ = some (.int .i64 c.2)) := fun W h => ⟨(X1.out.step h).1, (C1.out.below h).cells⟩
    have bd := (Below.refl w1.heap.size w1).drew
    have S1 := hid (keep1.out _ (Below.refl w1.heap.size w1))
    have S1d := hid (keep1.out _ bd)
    have HA1 := hid (HA.out.below (X1.out.step bd).2.2)
    go_wp2_with fail
    go_region_held3 (fun W => W.cell? ⟨w.heap.size, 0, none⟩ = some (.slice a F.length ca) ∧ W.cell? ⟨w.heap.size + 1, 0, none⟩ = some (.int .i64 c.1) ∧ W.cell? ⟨w.heap.size + 1, 1, none⟩ = some (.int .i64 c.2))
      (first | exact S1d.out | exact S1.out | exact S2.out | exact S2b.out | exact S3.out | go_keep)
      (first
        | (go_at_call 67; refine (c_toForest a F ca _ HA1.out hl hk).mono ?_; rintro e w2 ⟨rfl, ⟨ks, r⟩, b2⟩; have bb2 := bd.trans (b2.mono bd.size); have S2 := hid (keep1.out _ bb2); have R := hid r.seg)
        | (go_at_call 68; refine (c_toCell c.1 c.2 _).mono ?_; rintro e w2b ⟨rfl, b2b⟩; have bb2b := bb2.trans (b2b.mono bb2.size); have S2b := hid (keep1.out _ bb2b); have R2 := hid (R.out.below b2b))
        | (go_at_call 51; refine (HSS.out w2b _ R2.out).mono ?_; rintro e w3 ⟨rfl, b⟩; have bb3 := bb2b.trans (b.mono bb2b.size); have S3 := hid (keep1.out _ bb3)))
    have X3 := hid (X1.out.step bb3)
    have C3 := hid (C1.out.below bb3)
    clear X1 C1 S1 S1d S2 S2b S3 keep1 HA1 r R R2 bd bb2 bb2b bb3 b2 b2b b
    have x := X3.out.1
    go_wp2_with fail
    refine (c_toForest a F ca w3 (HA.out.below X3.out.2.2) hl hk).mono ?_
    rintro e w4 ⟨rfl, ⟨ks4, r⟩, b⟩
    have X4 := hid (X3.out.step b)
    have C4 := hid (C3.out.below b)
    have Y4 := hid (Box1.new w4 (.slice (some ⟨w3.heap.size + 3, 0, none⟩) F.length F.length) 25)
    have X5 := hid (X4.out.step Y4.out.2.2)
    have C5 := hid (C4.out.below Y4.out.2.2)
    have R5 := hid (r.seg.below Y4.out.2.2)
    have HW4 := hid (show (w4.alloc (.cells #[.slice (some ⟨w3.heap.size + 3, 0, none⟩) F.length F.length] 25)).heap.size = w4.heap.size + 1 by simp)
    clear X3 C3 X4 C4 b r x
    go_wp2_with fail
    generalize w4.alloc (.cells #[.slice (some ⟨w3.heap.size + 3, 0, none⟩) F.length F.length] 25) = W4 at *
    have keep4 : Hid (∀ W : World, Below W4.heap.size W4 W → W.cell? ⟨w4.heap.size, 0, none⟩ = some (.slice (some ⟨w3.heap.size + 3, 0, none⟩) F.length F.length) ∧ W.cell? ⟨w.heap.size + 1, 0, none⟩ = some (.int .i64 c.1) ∧ W.cell? ⟨w.heap.size + 1, 1, none⟩ = some (.int .i64 c.2)) := fun W h => ⟨(Y4.out.step h).1, (C5.out.below h).cells⟩
    have bd := (Below.refl W4.heap.size W4).drew
    have S4 := hid (keep4.out _ (Below.refl W4.heap.size W4))
    have S4d := hid (keep4.out _ bd)
    go_region_held3 (fun W => W.cell? ⟨w4.heap.size, 0, none⟩ = some (.slice (some ⟨w3.heap.size + 3, 0, none⟩) F.length F.length) ∧ W.cell? ⟨w.heap.size + 1, 0, none⟩ = some (.int .i64 c.1) ∧ W.cell? ⟨w.heap.size + 1, 1, none⟩ = some (.int .i64 c.2))
      (first | exact S4d.out | exact S4.out | exact S4b.out | exact S5.out | go_keep)
      (first
        | (go_at_call 68; refine (c_toCell c.1 c.2 _).mono ?_; rintro e w4b ⟨rfl, b4b⟩; have bb4 := bd.trans (b4b.mono bd.size); have S4b := hid (keep4.out _ bb4); have R5b := hid (R5.out.below bb4))
        | (go_at_call 46; refine (HII.out w4b _ R5b.out).mono ?_; rintro e w5 ⟨rfl, b0⟩; have b := bb4.trans (b0.mono bb4.size); have S5 := hid (keep4.out _ b)))
    have X6 := hid (X5.out.step b)
    have Y6 := hid (Y4.out.step b)
    have R6 := hid (R5.out.below b)
    clear X5 Y4 R5 b b0 b4b bb4 bd S4 S4d S4b S5 keep4 R5b C5
    have d1 : (tb != tb) = false := by simp
    have d0 : (lv != lv) = false := by simp
    have hd : decide (F = F) = true := by simp
    have x := X6.out.1
    have y := Y6.out.1
    have hx := X6.out.2.1
    have hy := Y6.out.2.1
    have HQ := hid ((HA.out.below X6.out.2.2).below ((Below.refl w5.heap.size w5).drew))
    have R7 := hid (R6.out.below ((Below.refl w5.heap.size w5).drew))
    clear R6
    go_wp2
    go_region_with (first
      | (go_at_call 67; refine (c_toForest a F ca _ HQ.out hl hk).mono ?_; rintro e w6 ⟨rfl, ⟨ks6, r6⟩, b6⟩; have R8 := hid (R7.out.below b6); have S6 := hid r6.seg; have b6' := ofDrew b6; have y6 := (b6'.cell (p := ⟨w4.heap.size, 0, none⟩) hy).trans y)
      | (go_at_call 69; refine (c_eqForest _ _ F F F.length F.length _ R8.out S6.out hl hl hk hk).mono ?_; rintro e w7 ⟨rfl, b7⟩))
    all_goals
      go_wp2
      go_ret
      exact ⟨rfl, (X6.out.step (b6'.trans (b7.mono b6'.size))).2.2⟩
  · rw [show leftQ F = -1 by simp [leftQ, hT]] at HC
    go_enter Try.func7, Try.ntmps7
    go_wp2_with fail
    refine HC.out.mono ?_
    rintro e w1 ⟨rfl, b⟩
    clear HC
    go_wp2
    go_ret
    exact ⟨rfl, (X0.out.step b).2.2⟩

set_option maxRecDepth 100000 in
theorem lifted (os : Os) (started : os.Started) (H : Type) (enc : TypeId × Value → H) :
    ReturnsInHanded {} Try.checked os 7 .any (Rows.fnExactGetCellSpec.pre6 enc Try.prog Try.f7 Rows.fnExactGetCellRow.domain false) (Rows.fnExactGetCellSpec.post enc Try.prog Try.f7 false true false false) := by
  refine returnsInHanded_of_change (C := Try.checked) own started (by kernel_rfl) Try.func7
    (ChangeSpec.witness6 (enc := enc) (C := Try.checked) false ⟨#[], #[.agg #[.slice none 0 0], .int .i64 0, .agg #[.int .i64 0, .int .i64 0]], []⟩ 8 (by kernel_rfl) (by kernel_rfl) (by kernel_rfl) (by kernel_rfl)) ?_
  intro W base args ds gs before hval0 hW hcnd _
  have hval : ∀ (j : Nat) t v, Try.f7.params[j]? = some t → args[j]? = some v → Value.okWide Try.prog W .any base t v := hval0
  have hW' := hW
  obtain ⟨p, q, hA0, hV, rfl, hfz, hnd⟩ := hW
  have hA : DataW.TrodAll enc Try.prog W 0 (fun _ => true) true Try.f7.params.toList args.toList ds p := hA0
  rw [Try.params7] at hA hval
  obtain ⟨v0, vs0, d0, ds0, p0, q0, hargs, rfl, rfl, h0, r0⟩ := trodAll_cons hA
  obtain ⟨v1, vs1, d1, ds1, p1, q1, rfl, rfl, rfl, h1, r1⟩ := trodAll_cons r0
  obtain ⟨v2, vs2, d2, ds2, p2, q2, rfl, rfl, rfl, h2, r2⟩ := trodAll_cons r1
  obtain ⟨rfl, rfl, rfl⟩ := trodAll_nil r2
  obtain rfl : args = #[v0, v1, v2] := by cases args; simp_all
  obtain ⟨rfl, rfl⟩ := trodVars_none hV
  have k0 := h0
  have lt0 : ∀ x ∈ p0, x.block < W.heap.size := by obtain ⟨m, hm⟩ := k0; exact DataW.trod_lt m _ _ _ hm
  obtain ⟨a0, F0, cap0, rfl, m0, f0, s0⟩ := open_forest (hval 0 73 v0 rfl rfl) h0
  have k1 := h1
  have lt1 : ∀ x ∈ p1, x.block < W.heap.size := by obtain ⟨m, hm⟩ := k1; exact DataW.trod_lt m _ _ _ hm
  obtain ⟨n1, rfl, w1⟩ : ∃ n : Int, v1 = .int .i64 n ∧ (Lit.int .i64 n).wf = true := open_num (hval 1 3 v1 rfl rfl) h1
  have k2 := h2
  have lt2 : ∀ x ∈ p2, x.block < W.heap.size := by obtain ⟨m, hm⟩ := k2; exact DataW.trod_lt m _ _ _ hm
  obtain ⟨c2, rfl⟩ : ∃ c : Cl, v2 = .agg #[.int .i64 c.1, .int .i64 c.2] := open_cell (hval 2 74 v2 rfl rfl) h2
  clear hA0 hval0
  refine (walk a0 F0 cap0 n1 c2 W m0 f0 s0 w1).mono fun e W' ⟨he, bel⟩ => ?_
  subst he
  exact ⟨_, rfl, _, _, _, [], _, [], hW', trodAll_mk1 (shut_bool Try.underlying4 _), (trodAll_cons_mk (Below.trod laidOut (by kernel_rfl) (of_decide_eq_true (by kernel_rfl)) k0 bel lt0) (trodAll_cons_mk (Below.trod laidOut (by kernel_rfl) (of_decide_eq_true (by kernel_rfl)) k1 bel lt1) (trodAll_cons_mk (Below.trod laidOut (by kernel_rfl) (of_decide_eq_true (by kernel_rfl)) k2 bel lt2) trodAll_mk0))), rfl, bel.frame _, fun h => by cases h⟩

theorem over : Rows.fnExactGetCellRow.holds Try.pinned (OpenSpec.ofChange Rows.fnExactGetCellSpec) :=
  OpenClaim.holds_of_wide 7 Try.f7 rfl rfl rfl rfl rfl rfl rfl ⟨rfl, rfl, rfl, rfl, rfl⟩ rfl rfl rfl rfl rfl (by kernel_rfl) Try.func7 (by kernel_rfl)
    (of_decide_eq_true (by kernel_rfl)) (by unfold Func.isWrapper; first | (rw [if_pos (by decide +kernel)]; kernel_rfl) | (rw [if_neg (by decide +kernel)]; exact ⟨rfl, rfl⟩))
    (fun os started H enc _ => lifted os started H enc)

end Go.Proofs.Ytmapbkefndbnnaa.lGetCell
namespace Go.Proofs.Ytmapbkefndbnnaa
/-- THE STATEMENT. -/
theorem getCell_holds : Rows.FnExactGetCellSaid := lGetCell.over
#print axioms getCell_holds
end Go.Proofs.Ytmapbkefndbnnaa
