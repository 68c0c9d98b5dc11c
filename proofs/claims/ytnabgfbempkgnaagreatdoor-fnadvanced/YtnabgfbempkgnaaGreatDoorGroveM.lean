/- Texts of this seat, one behind the other: GroveM. -/
import Derived.Test.YtnabgfbempkgnaaGreatDoorKb
namespace Go.Proofs.YtnabgfbempkgnaaGreatDoor
open Go.RowKit Go.Maps
set_option linter.unusedVariables false
set_option linter.unusedSimpArgs false
attribute [local go_sem ↓] Go.wp_at_zero Go.wp_at_succ

set_option maxHeartbeats 8000000 in
set_option maxRecDepth 100000 in
theorem c_join_new (l : List Int) (w : World) {base p g cap mb : Nat} {G : List Qd} (h : Grv w base p g cap mb G) (hf : fits4 l) (hn : numTo G G.length l = none) (h2 : 2 ≤ G.length) (hG : G.length ≤ 1048576) (hi0 : 0 ≤ ia l 0) (hi1 : ia l 0 < (G.length : Int)) (hl0 : -1000 ≤ (qa G (ia l 0).toNat).1) (hl1 : (qa G (ia l 0).toNat).1 ≤ 1000) :
    Calls Tryz.prog 72 #[.pointer (some ⟨p, 0, none⟩), kv l] w fun e w' => ∃ g' cap', e = .returned (.int .i64 (G.length : Int)) ∧ Grv w' base p g' cap' mb (G ++ [((qa G (ia l 0).toNat).1 + 1, l)]) ∧ Below base w w' ∧ (∀ k, k < w.heap.size → k ≠ p → k ≠ g → k ≠ mb → w'.heap[k]? = w.heap[k]?) ∧ (g' = g ∨ w.heap.size ≤ g') := by
  have hbase : base ≤ w.heap.size := Nat.le_trans h.lowp (Nat.le_of_lt h.box.lt)
  have HPL := hid h.box.lt
  have HGL := hid h.lt.2
  obtain ⟨W1, hW1⟩ : ∃ W1, W1 = w.alloc (.cells #[.int .i64 (ia l 0), .int .i64 (ia l 1), .int .i64 (ia l 2), .int .i64 (ia l 3)] 85) := ⟨_, rfl⟩
  have HX := Box4.new w l 85
  rw [← hW1] at HX
  have HG := hid (h.below HX.2.2)
  have HXX := hid HX
  have hne := Gr.ne W1
  have g1 := fun G' : Gr W1 => G'.cell HG.out.c1 HG.out.box.lt
  have x0 := fun G' : Gr W1 => G'.cell (HX.1 0 (by omega)) HX.2.1
  have x1 := fun G' : Gr W1 => G'.cell (HX.1 1 (by omega)) HX.2.1
  have x2 := fun G' : Gr W1 => G'.cell (HX.1 2 (by omega)) HX.2.1
  have x3 := fun G' : Gr W1 => G'.cell (HX.1 3 (by omega)) HX.2.1
  have hlk := fun G' : Gr W1 => ((HG.out.below G'.below).map).look hf
  rw [hn] at hlk
  unfold kv at hlk ⊢
  simp only [Option.getD_none, Option.isSome_none] at hlk
  rw [hW1] at g1 x0 x1 x2 x3 hlk hne HXX HG
  clear HX h hW1
  clear W1
  go_enter Tryz.func72, Tryz.ntmps72
  go_wp2
  refine wp_region_gr (by kernel_rfl) (by kernel_rfl) ?_
  repeat (go_big_quiet_step (fail))
  refine wpQuiet_nil ?_
  rintro _ ⟨G', rfl⟩
  have HG2 := hid (HG.out.below G'.below)
  have HX2 := hid (HXX.out.step G'.below)
  clear g1 x0 x1 x2 x3 hlk hne HXX HG
  generalize G'.val = W2 at *
  clear G'
  have c0 := HG2.out.c0
  go_wp2
  clear c0
  have c0 := HG2.out.c0
  have c2 := HG2.out.lev (i := (ia l 0).toNat) (by omega)
  have x0 := HX2.out.1 0 (by omega)
  have x1 := HX2.out.1 1 (by omega)
  have x2 := HX2.out.1 2 (by omega)
  have x3 := HX2.out.1 3 (by omega)
  have hpl := HG2.out.box.lt
  have hp0 := HG2.out.box.frozen 0
  have HWR := hid (show IntKind.i64.wrap ((qa G (ia l 0).toNat).1 + 1) = (qa G (ia l 0).toNat).1 + 1 by rw [IntKind.wrap_i64]; omega)
  go_cut [] (fun wx => ∃ (v' : Value) (w' : World), wx = w'.setCell ⟨p, 0, none⟩ v' ∧ w'.ownsRow base 87 5 v' (G.length + 1) (nflat (G ++ [(IntKind.i64.wrap ((qa G (ia l 0).toNat).1 + 1), l)])) ∧ (W2.alloc (.cells (nq (IntKind.i64.wrap ((qa G (ia l 0).toNat).1 + 1), l)).toArray 87)).drew.grownBy w' (some g) ∧ (v'.ownBlock = some g ∨ v'.ownBlock = some (W2.alloc (.cells (nq (IntKind.i64.wrap ((qa G (ia l 0).toNat).1 + 1), l)).toArray 87)).drew.heap.size))
  case first =>
    have HOA := hid (World.ownsRow.drew (World.ownsRow.alloc HG2.out.own (.cells (nq (IntKind.i64.wrap ((qa G (ia l 0).toNat).1 + 1), l)).toArray 87)))
    have HBX := hid ((HG2.out.box.alloc (.cells (nq (IntKind.i64.wrap ((qa G (ia l 0).toNat).1 + 1), l)).toArray 87)).drew)
    have HPG := hid HG2.out.pg
    have HBS := hid (show base ≤ (W2.alloc (.cells (nq (IntKind.i64.wrap ((qa G (ia l 0).toNat).1 + 1), l)).toArray 87)).drew.heap.size from Nat.le_trans HG2.out.lowp (Nat.le_of_lt HBX.out.lt))
    clear HG2 HX2 HWR
    go_region_law (refine step_appN rfl (.tmp 28) (.tmp 41) rfl base (.slice (some ⟨g, 0, none⟩) G.length cap) G (IntKind.i64.wrap ((qa G (ia l 0).toNat).1 + 1), l) W2.heap.size (by simp [Act.eval, Act.put]) HOA.out (by simp [Act.eval, Act.put]) (heap_alloc_new _ _) hG HBS.out ?_; intro v' w' hO hg' hv'; obtain ⟨g', cap', rfl, _, _⟩ := World.ownsRow.form hO (by omega); have hb' := HBX.out.of_block (hg'.block p HBX.out.lt (by simp only [ne_eq, Value.ownBlock, Option.some.injEq]; exact HPG.out)); have q1 := hb'.cell (i := 0) (by omega); have q2 := hb'.frozen 0)
    all_goals (go_wp2_with fail; go_meet; exact ⟨_, _, rfl, hO, hg', hv'⟩)
  case rest =>
    obtain ⟨v', w', rfl, hO, hg', hvb⟩ := hcut
    rw [HWR.out] at hO hg' hvb
    have HVB := hid hvb
    clear hvb
    have HG3 := hid (HG2.out.below (((Below.refl W2.heap.size W2).alloc (Nat.le_refl _) (.cells (nq ((qa G (ia l 0).toNat).1 + 1, l)).toArray 87)).drew))
    have HX3 := hid (HX2.out.step (((Below.refl W2.heap.size W2).alloc (Nat.le_refl _) (.cells (nq ((qa G (ia l 0).toNat).1 + 1, l)).toArray 87)).drew))
    generalize (W2.alloc (.cells (nq ((qa G (ia l 0).toNat).1 + 1, l)).toArray 87)).drew = W3 at *
    clear HG2 HX2 c0 c2 x0 x1 x2 x3 hpl hp0 HWR
    obtain ⟨g', cap', hv', _, _⟩ := World.ownsRow.form hO (by omega)
    have hbx' := HG3.out.box.of_block (hg'.block p HG3.out.box.lt (by simp only [ne_eq, Option.some.injEq]; exact HG3.out.pg))
    have hbx5 := hbx'.set 0 v'
    have hm' : Map4 w' mb G.length (numTo G G.length) := HG3.out.map.kept hg' (by simp only [ne_eq, Option.some.injEq]; exact HG3.out.mg)
    have hm5 : Map4 (w'.setCell ⟨p, 0, none⟩ v') mb G.length (numTo G G.length) := by
      obtain ⟨D, ⟨es, clock, hb, r⟩, hd⟩ := hm'
      refine ⟨D, ⟨es, clock, ?_, r⟩, hd⟩
      rw [Below.heap_setCell _ _ _ _ (by have := HG3.out.pm; dsimp only; omega)]
      exact hb
    obtain ⟨W6, hrun, hm6, hg6⟩ := Map4.put (w := (w'.setCell ⟨p, 0, none⟩ v').drew) hm5 hf (show G.length < maxLen by unfold maxLen; omega) (v := (G.length : Int)) (by unfold fit1; omega)
    have hbs : w.heap.size < W3.heap.size := HX3.out.2.1
    have HWZ := hid hbs
    have hlow : base ≤ g := HG3.out.lt.1
    have BB5 : Below base w (w'.setCell ⟨p, 0, none⟩ v') := by
      refine Below.setCell ?_ HG3.out.lowp _
      exact (HX3.out.2.2.mono hbase).grown hg' (by have := HX3.out.2.2.size; omega) (fun k e => by cases e; exact hlow)
    have HB6 := hid (BB5.drew.grown hg6 (by have := BB5.size; exact Nat.le_trans hbase this) (fun k e => by cases e; exact HG3.out.lowm))
    have HKB : Hid (∀ k, k < w.heap.size → k ≠ p → k ≠ g → k ≠ mb → W6.heap[k]? = w.heap[k]?) := by
      intro k h1 h2 h3 h4
      have e1 := HX3.out.2.2.block k h1
      have e2 := hg'.block k (by omega) (by simp only [ne_eq, Option.some.injEq]; exact h3)
      have e3 := Below.heap_setCell w' ⟨p, 0, none⟩ v' k h2
      have e4 := hg6.block k (by have := hg'.size; simp; omega) (by simp only [ne_eq, Option.some.injEq]; exact h4)
      exact e4.trans (e3.trans (e2.trans e1))
    have HJ := hid (grv_join HG3.out h2 hg' hO hm6 (show (w'.setCell ⟨p, 0, none⟩ v').grownBy W6 (some mb) from ⟨hg6.os, hg6.tape, hg6.output, hg6.size, hg6.block⟩))
    have y1 := hbx5.cell (i := 1) (by omega)
    simp only [Nat.one_ne_zero, if_false] at y1
    have hxb : w.heap.size ≠ p ∧ w.heap.size ≠ g := ⟨by have := HPL.out; omega, by have := HGL.out; omega⟩
    have hx' : ∀ j, j < 4 → (w'.setCell ⟨p, 0, none⟩ v').cell? ⟨w.heap.size, j, none⟩ = some (.int .i64 (ia l j)) := by
      intro j hj
      have e1 : (w'.setCell ⟨p, 0, none⟩ v').heap[w.heap.size]? = W3.heap[w.heap.size]? := by
        rw [Below.heap_setCell _ _ _ _ (by dsimp only; exact hxb.1)]
        exact hg'.block _ hbs (by simp only [ne_eq, Option.some.injEq]; exact hxb.2)
      have := HX3.out.1 j hj
      rw [← this]
      exact World.cell?_of_block e1
    have x0 := hx' 0 (by omega)
    have x1 := hx' 1 (by omega)
    have x2 := hx' 2 (by omega)
    have x3 := hx' 3 (by omega)
    unfold kv at hrun
    generalize w'.setCell ⟨p, 0, none⟩ v' = W5 at *
    clear hx' hxb hm5 hm' hbx5 hbx' hm6 hg6 BB5 hO hg' HG3 HX3
    go_wp2
    go_region
    all_goals (try go_wp2)
    go_ret
    obtain ⟨g2, cap2, hv2, hGr⟩ := HJ.out
    refine ⟨g2, cap2, rfl, hGr, HB6.out, HKB.out, ?_⟩
    have hvb := HVB.out
    rw [hv2] at hvb
    simp only [Value.ownBlock, Option.some.injEq] at hvb
    rcases hvb with h | h
    · exact .inl h
    · exact .inr (by rw [h]; exact Nat.le_of_lt HWZ.out)

end Go.Proofs.YtnabgfbempkgnaaGreatDoor
