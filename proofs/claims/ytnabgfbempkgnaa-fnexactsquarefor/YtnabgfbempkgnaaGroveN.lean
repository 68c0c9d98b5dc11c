/- What join does: the number of the quad with these kids, which is put behind all where there is none. -/
import Derived.Test.YtnabgfbempkgnaaGroveJ
import Derived.Deep.RegionLaw
import Derived.Deep.DeepCutAuto
import Derived.OneCell
import Derived.Laws.AppendOwnNone
namespace Go.Proofs.Ytnabgfbempkgnaa
open Go.RowKit Go.Maps
set_option linter.unusedVariables false
set_option linter.unusedSimpArgs false
attribute [local go_sem ↓] Go.wp_at_zero Go.wp_at_succ

theorem step_appN {w : World} {ops : Array Oper} {o : Oper} {a : Act} {K : Act → World → Prop} {Q : Exit → Act → World → Prop} {E : Prop} (hgd : o.guard = none) (s x : Operand)
    (ho : o.op = .call { callee := .builtin .append, args := #[s, x], argTypes := #[102, 102] })
    (base : Nat) (v : Value) (G : List Qd) (q : Qd) (B : Nat) (hs : a.eval s = v) (hown : w.ownsRow base 101 5 v G.length (nflat G)) (hx : a.eval x = .slice (some ⟨B, 0, none⟩) 1 1)
    (hblk : w.heap[B]? = some (.cells (nq q).toArray 101)) (hlen : G.length ≤ 1048576) (hbase : base ≤ w.heap.size)
    (h : ∀ v' w', w'.ownsRow base 101 5 v' (G.length + 1) (nflat (G ++ [q])) → w.grownBy w' v.ownBlock → (v'.ownBlock = v.ownBlock ∨ v'.ownBlock = some w.heap.size) → K (a.put o.dst v') w') : if Region.wanted o (yielded ops a.tmps) = true then Oper.wp Try.prog o a w K Q else E := by
  have hw : Region.wanted o (yielded ops a.tmps) = true := by simp [Region.wanted, hgd]
  rw [if_pos hw]
  obtain ⟨i, hi, hz, hsz, hb⟩ := info_parts info_node
  obtain ⟨v', w', hr, h1, h2, _, h4⟩ := run_append_own_at (P := Try.prog) w base 102 o.type 101 i _ 5 40 Try.underlying102 hi hz hsz hb rfl (by omega) v G.length (nflat G) hown ⟨B, 0, none⟩ 1 1 (nq q) rfl (by
      intro j u hu
      have hadd : (⟨B, 0, none⟩ : Addr).add j = ⟨B, j, none⟩ := by unfold Addr.add; split <;> simp_all
      rw [hadd]
      unfold World.cell?
      rw [hblk]
      simpa using hu) (nq_one q) (by unfold maxLen; omega) (by omega) hbase
  unfold Oper.wp execOp
  simp only [ho, resolve, invoke, builtin, Sem.run_bind, Sem.run_pure, Result.andThen_ok, List.map_toArray, List.map_cons, List.map_nil, hs, hx, hr]
  refine h v' w' ?_ h2 h4
  rw [nflat_append]
  have e : nflat [q] = nq q := by simp [nflat]
  rw [e]
  exact h1

theorem own_ne_box {w : World} {base p : Nat} {v : Value} {n : Nat} {xs : List Value} {f : Nat → Value} (ho : w.ownsRow base 101 5 v n xs) (hb : w.rowIs p 105 2 f) {g : Nat} (hg : v.ownBlock = some g) : p ≠ g := by
  intro e
  subst e
  rcases ho.2 with ⟨rfl, _⟩ | ⟨g', cap, cur, rfl, _, hgg, _⟩
  · simp [Value.ownBlock] at hg
  · simp [Value.ownBlock] at hg
    subst hg
    obtain ⟨c, hc, _⟩ := hb
    rw [hc] at hgg
    simp at hgg
theorem own_ne_map {w : World} {base mb m : Nat} {v : Value} {n : Nat} {xs : List Value} {f : List Int → Option Int} (ho : w.ownsRow base 101 5 v n xs) (hb : Map4 w mb m f) {g : Nat} (hg : v.ownBlock = some g) : mb ≠ g := by
  intro e
  subst e
  rcases ho.2 with ⟨rfl, _⟩ | ⟨g', cap, cur, rfl, _, hgg, _⟩
  · simp [Value.ownBlock] at hg
  · simp [Value.ownBlock] at hg
    subst hg
    obtain ⟨D, ⟨es, clock, hc, _⟩, _⟩ := hb
    rw [hc] at hgg
    simp at hgg
theorem numTo_new (G : List Qd) (q : Qd) (h : 2 ≤ G.length) : numTo (G ++ [q]) (G ++ [q]).length = fun m => if m = q.2 then some (G.length : Int) else numTo G G.length m := by
  funext m
  rw [List.length_append, List.length_singleton]
  simp only [numTo, qa_snoc_new, numTo_snoc G q G.length (Nat.le_refl _)]
  by_cases e : m = q.2
  · rw [if_pos ⟨h, e⟩, if_pos e]
  · rw [if_neg (fun h => e h.2), if_neg e]

set_option maxHeartbeats 4000000 in
set_option maxRecDepth 100000 in
theorem c_join_old (l : List Int) (i : Int) (w : World) {base p g cap mb : Nat} {G : List Qd} (h : Grv w base p g cap mb G) (hf : fits4 l) (hn : numTo G G.length l = some i) :
    Calls Try.prog 95 #[.pointer (some ⟨p, 0, none⟩), kv l] w fun e w' => e = .returned (.int .i64 i) ∧ Below w.heap.size w w' := by
  obtain ⟨W1, hW1⟩ : ∃ W1, W1 = w.alloc (.cells #[.int .i64 (ia l 0), .int .i64 (ia l 1), .int .i64 (ia l 2), .int .i64 (ia l 3)] 99) := ⟨_, rfl⟩
  have HX := Box4.new w l 99
  rw [← hW1] at HX
  have HG := hid (h.below HX.2.2)
  have HXX := hid HX
  have hne := Gr.ne W1
  have g1 := fun G' : Gr W1 => G'.cell HG.out.c1 HG.out.box.lt
  have x0 := fun G' : Gr W1 => G'.cell (HX.1 0 (by omega)) HX.2.1
  have x1 := fun G' : Gr W1 => G'.cell (HX.1 1 (by omega)) HX.2.1
  have x2 := fun G' : Gr W1 => G'.cell (HX.1 2 (by omega)) HX.2.1
  have x3 := fun G' : Gr W1 => G'.cell (HX.1 3 (by omega)) HX.2.1
  have hlk := fun G' : Gr W1 => ((HG.out.below G'.below).map).look hf
  rw [hn] at hlk
  unfold kv at hlk ⊢
  simp only [Option.getD_some, Option.isSome_some] at hlk
  rw [hW1] at g1 x0 x1 x2 x3 hlk hne HXX
  clear HG HX h hW1
  clear W1
  go_enter Try.func95, Try.ntmps95
  go_wp2
  refine wp_region_gr (by kernel_rfl) (by kernel_rfl) ?_
  repeat (go_big_quiet_step (fail))
  refine wpQuiet_nil ?_
  rintro _ ⟨G', rfl⟩
  clear g1 x0 x1 x2 x3 hlk
  go_wp2
  go_ret
  exact ⟨rfl, (HXX.out.step G'.below).2.2⟩

theorem grv_join {w3 w' w6 : World} {base p g cap mb : Nat} {G : List Qd} {q : Qd} {v' : Value} (h : Grv w3 base p g cap mb G) (h2 : 2 ≤ G.length) (hg : w3.grownBy w' (some g))
    (ho : w'.ownsRow base 101 5 v' (G.length + 1) (nflat (G ++ [q])))
    (hm : Map4 w6 mb (G.length + 1) (fun m => if m = q.2 then some (G.length : Int) else numTo G G.length m)) (hg6 : (w'.setCell ⟨p, 0, none⟩ v').grownBy w6 (some mb)) : ∃ g' cap', v' = .slice (some ⟨g', 0, none⟩) (G.length + 1) cap' ∧ Grv w6 base p g' cap' mb (G ++ [q]) := by
  obtain ⟨g', cap', rfl, hlow, _⟩ := World.ownsRow.form ho (by omega)
  have hb' : w'.rowIs p 105 2 (fun j => if j = 0 then .slice (some ⟨g, 0, none⟩) G.length cap else .map (some mb)) := h.box.of_block (hg.block p h.box.lt (by simp only [ne_eq, Option.some.injEq]; exact h.pg))
  have hm' : Map4 w' mb G.length (numTo G G.length) := h.map.kept hg (by simp only [ne_eq, Option.some.injEq]; exact h.mg)
  have n1 : p ≠ g' := own_ne_box ho hb' rfl
  have n2 : mb ≠ g' := own_ne_map ho hm' rfl
  have hb5 := hb'.set 0 (.slice (some ⟨g', 0, none⟩) (G.length + 1) cap')
  have hb6 := hb5.of_block (hg6.block p hb5.lt (by simp only [ne_eq, Option.some.injEq]; exact h.pm))
  have ho5 : (w'.setCell ⟨p, 0, none⟩ (.slice (some ⟨g', 0, none⟩) (G.length + 1) cap')).ownsRow base 101 5 (.slice (some ⟨g', 0, none⟩) (G.length + 1) cap') (G.length + 1) (nflat (G ++ [q])) :=
    ownsRow_setCell_other ho (by simp [Value.ownBlock]; omega) _
  have ho6 := World.ownsRow.kept ho5 hg6 (.inr (by simp [Value.ownBlock]; omega))
  refine ⟨g', cap', rfl, h.lowp, h.lowm, ?_, ?_, ?_, h.pm, n1, n2⟩
  · rw [List.length_append, List.length_singleton]
    refine hb6.congr fun j hj => ?_
    rcases (show j = 0 ∨ j = 1 by omega) with rfl | rfl <;> simp
  · rw [List.length_append, List.length_singleton]; exact ho6
  · rw [numTo_new G q h2, List.length_append, List.length_singleton]; exact hm

end Go.Proofs.Ytnabgfbempkgnaa
