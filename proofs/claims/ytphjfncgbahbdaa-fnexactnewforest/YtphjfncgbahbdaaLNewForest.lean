/- FnExactNewForest answers true: NewForest answers as the specification does, and its answer owns its memory. No condition. -/
import Derived.Test.YtphjfncgbahbdaaQuadZ
import Derived.Test.YtphjfncgbahbdaaNewF
namespace Go.Proofs.Ytphjfncgbahbdaa.lNewForest
open Go.RowKit Go.ChangeShapes Go.WideShapes Go.ChangeAt
set_option linter.unusedVariables false

/-- What stands while the law is walked: the specification's forest in block s (told in box b1), the program's in block g (told in box b2). -/
structure NW (w W : World) (s b1 g b2 : Nat) (f : Nat → Int) : Prop where
  srow : NRow W s (fun _ => 0)
  box1 : W.cell? ⟨b1, 0, none⟩ = some (.slice (some ⟨s, 0, none⟩) 2 2)
  lt1 : b1 < W.heap.size
  grow : NRow W g f
  box2 : W.cell? ⟨b2, 0, none⟩ = some (.slice (some ⟨g, 0, none⟩) 2 2)
  lt2 : b2 < W.heap.size
  ne : s ≠ g ∧ b1 ≠ g ∧ b2 ≠ g
  low : w.heap.size ≤ g
  bel : Below w.heap.size w W
theorem NW.below {w W W' : World} {s b1 g b2 : Nat} {f : Nat → Int} (h : NW w W s b1 g b2 f) (hb : Below W.heap.size W W') : NW w W' s b1 g b2 f :=
  ⟨h.srow.below hb, (hb.cell (p := ⟨b1, 0, none⟩) h.lt1).trans h.box1, Nat.lt_of_lt_of_le h.lt1 hb.size, h.grow.below hb, (hb.cell (p := ⟨b2, 0, none⟩) h.lt2).trans h.box2, Nat.lt_of_lt_of_le h.lt2 hb.size, h.ne, h.low, h.bel.trans (hb.mono h.bel.size)⟩
theorem NW.mark {w W W' : World} {s b1 g b2 : Nat} {f f' : Nat → Int} (h : NW w W s b1 g b2 f) (hg : W.grownBy W' (some g)) (hr : NRow W' g f') : NW w W' s b1 g b2 f' := by
  refine ⟨World.rowIs.of_block h.srow (hg.block _ (World.rowIs.lt h.srow) (by simp only [ne_eq, Option.some.injEq]; exact h.ne.1)), ?_, Nat.lt_of_lt_of_le h.lt1 hg.size, hr, ?_, Nat.lt_of_lt_of_le h.lt2 hg.size, h.ne, h.low, h.bel.grown hg h.bel.size (fun k e => by cases e; exact h.low)⟩
  · exact (World.cell?_of_block (a := ⟨b1, 0, none⟩) (hg.block _ h.lt1 (by simp only [ne_eq, Option.some.injEq]; exact h.ne.2.1))).trans h.box1
  · exact (World.cell?_of_block (a := ⟨b2, 0, none⟩) (hg.block _ h.lt2 (by simp only [ne_eq, Option.some.injEq]; exact h.ne.2.2))).trans h.box2
theorem kle (f : Nat → Int) : KidsLe (two' f) := by
  intro i hi
  have hi' : i < 2 := by simpa [two'] using hi
  rcases (show i = 0 ∨ i = 1 by omega) with rfl | rfl <;> simp [two', qa]

set_option maxHeartbeats 2000000 in
set_option maxRecDepth 100000 in
theorem walk (w : World) :
    Calls Try.prog 3 #[] w fun e w' => e = .returned (.bool true) ∧ Below w.heap.size w w' := by
  go_enter Try.func3, Try.ntmps3
  go_wp2_with fail
  refine (c_sNewForest w).mono ?_
  rintro e w1 ⟨rfl, r1, b1⟩
  have Y1 := hid (Box1.new w1 (.slice (some ⟨w.heap.size + 1, 0, none⟩) 2 2) 24)
  have S1 := hid (r1.below Y1.out.2.2)
  have B1 := hid (Below.then b1 Y1.out.2.2 b1.size)
  have hs := World.rowIs.lt r1
  have HC := hid (c_iNewForest (w1.alloc (.cells #[.slice (some ⟨w.heap.size + 1, 0, none⟩) 2 2] 24)))
  have hs1 : (w1.alloc (.cells #[.slice (some ⟨w.heap.size + 1, 0, none⟩) 2 2] 24)).heap.size = w1.heap.size + 1 := by simp
  have HS1 := hid hs1
  clear r1 b1 hs1
  go_wp2_with fail
  refine HC.out.mono ?_
  rintro e w2 ⟨g, rfl, r2, hg, b2⟩
  rw [HS1.out] at hg
  have Y2 := hid (Box1.new w2 (.slice (some ⟨g, 0, none⟩) 2 2) 24)
  have Z := Y1.out.step b2
  have hg2 := World.rowIs.lt r2
  have N := hid (show NW w (w2.alloc (.cells #[.slice (some ⟨g, 0, none⟩) 2 2] 24)) (w.heap.size + 1) w1.heap.size g w2.heap.size (fun _ => 0) from
    ⟨(S1.out.below b2).below Y2.out.2.2, (Z.step Y2.out.2.2).1, (Z.step Y2.out.2.2).2.1, r2.below Y2.out.2.2, Y2.out.1, Y2.out.2.1, ⟨by omega, by omega, by omega⟩, by have := B1.out.size; omega, Below.then (Below.then B1.out b2 B1.out.size) Y2.out.2.2 (by have := B1.out.size; have := b2.size; omega)⟩)
  clear HC Y1 S1 B1 r2 b2 Y2 Z
  have HE := hid (c_eqForest (some ⟨g, 0, none⟩) (some ⟨w.heap.size + 1, 0, none⟩) (two' fun _ => 0) (two' fun _ => 0) 2 2 _ N.out.grow.seg N.out.srow.seg (by simp [two']) (by simp [two']) (kle _) (kle _))
  rw [show decide ((two' fun _ => 0) = two' fun _ => 0) = true by simp, show (two' fun _ => 0).length = 2 from rfl] at HE
  have x1 := N.out.box1
  have x2 := N.out.box2
  go_wp2_with fail
  refine HE.out.mono ?_
  rintro e w3 ⟨rfl, b⟩
  replace N := hid (N.out.below b)
  clear b HE x1 x2
  have x2 := N.out.box2
  go_wp2_with fail
  refine (c_markForest2 g _ w3 N.out.grow).mono ?_
  rintro e w4 ⟨rfl, r, hgr⟩
  replace N := hid (N.out.mark hgr r)
  clear r hgr x2
  have x2 := N.out.box2
  go_wp2_with fail
  refine (c_heldForest2 g w4 N.out.grow).mono ?_
  rintro e w5 ⟨rfl, b⟩
  replace N := hid (N.out.below b)
  clear b x2
  go_wp2_with fail
  refine (c_iNewForest w5).mono ?_
  rintro e w6 ⟨h, rfl, r6, _, b⟩
  replace N := hid (N.out.below b)
  have Y6 := hid (Box1.new w6 (.slice (some ⟨h, 0, none⟩) 2 2) 24)
  replace N := hid (N.out.below Y6.out.2.2)
  have R6 := hid (r6.below Y6.out.2.2)
  clear b r6
  have HE := hid (c_eqForest (some ⟨h, 0, none⟩) (some ⟨w.heap.size + 1, 0, none⟩) (two' fun _ => 0) (two' fun _ => 0) 2 2 _ R6.out.seg N.out.srow.seg (by simp [two']) (by simp [two']) (kle _) (kle _))
  rw [show decide ((two' fun _ => 0) = two' fun _ => 0) = true by simp, show (two' fun _ => 0).length = 2 from rfl] at HE
  have x1 := N.out.box1
  have x6 := Y6.out.1
  have l1 := N.out.lt1
  go_wp2_with fail
  refine HE.out.mono ?_
  rintro e w7 ⟨rfl, b⟩
  replace N := hid (N.out.below b)
  clear b HE x1 x6 Y6 R6 l1
  have x2 := N.out.box2
  go_wp2_with fail
  refine (c_heldForest2 g w7 N.out.grow).mono ?_
  rintro e w8 ⟨rfl, b⟩
  replace N := hid (N.out.below b)
  go_wp2
  go_ret
  exact ⟨rfl, N.out.bel⟩

set_option maxRecDepth 100000 in
theorem lifted (os : Os) (started : os.Started) (H : Type) (enc : TypeId × Value → H) :
    ReturnsInHanded {} Try.checked os 3 .any (Rows.fnExactNewForestSpec.pre6 enc Try.prog Try.f3 Rows.fnExactNewForestRow.domain false) (Rows.fnExactNewForestSpec.post enc Try.prog Try.f3 false true false false) := by
  refine returnsInHanded_of_change (C := Try.checked) own started (by kernel_rfl) Try.func3
    (ChangeSpec.witness6 (enc := enc) (C := Try.checked) false ⟨#[], #[], []⟩ 8 (by kernel_rfl) (by kernel_rfl) (by kernel_rfl) (by kernel_rfl)) ?_
  intro W base args ds gs before hval0 hW hcnd _
  have hval : ∀ (j : Nat) t v, Try.f3.params[j]? = some t → args[j]? = some v → Value.okWide Try.prog W .any base t v := hval0
  have hW' := hW
  obtain ⟨p, q, hA0, hV, rfl, hfz, hnd⟩ := hW
  have hA : DataW.TrodAll enc Try.prog W 0 (fun _ => true) true Try.f3.params.toList args.toList ds p := hA0
  rw [Try.params3] at hA hval
  obtain ⟨hargs, rfl, rfl⟩ := trodAll_nil hA
  obtain rfl : args = #[] := by cases args; simp_all
  obtain ⟨rfl, rfl⟩ := trodVars_none hV
  clear hA0 hval0
  refine (walk  W ).mono fun e W' ⟨he, bel⟩ => ?_
  subst he
  exact ⟨_, rfl, _, _, _, [], _, [], hW', trodAll_mk1 (shut_bool Try.underlying4 _), trodAll_mk0, rfl, bel.frame _, fun h => by cases h⟩

theorem over : Rows.fnExactNewForestRow.holds Try.pinned (OpenSpec.ofChange Rows.fnExactNewForestSpec) :=
  OpenClaim.holds_of_wide 3 Try.f3 rfl rfl rfl rfl rfl rfl rfl ⟨rfl, rfl, rfl, rfl, rfl⟩ rfl rfl rfl rfl rfl (by kernel_rfl) Try.func3 (by kernel_rfl)
    (of_decide_eq_true (by kernel_rfl)) (by unfold Func.isWrapper; first | (rw [if_pos (by decide +kernel)]; kernel_rfl) | (rw [if_neg (by decide +kernel)]; exact ⟨rfl, rfl⟩))
    (fun os started H enc _ => lifted os started H enc)

end Go.Proofs.Ytphjfncgbahbdaa.lNewForest
namespace Go.Proofs.Ytphjfncgbahbdaa
/-- THE STATEMENT. -/
theorem newForest_holds : Rows.FnExactNewForestSaid := lNewForest.over
#print axioms newForest_holds
end Go.Proofs.Ytphjfncgbahbdaa
