/- Texts of this seat, one behind the other: GroveJ, GroveN. -/
import Derived.Test.YtokemdbgcegjiaaGreatB03
import Derived.Deep.RegionLaw
import Derived.Deep.DeepCutAuto
import Derived.OneCell
import Derived.Laws.AppendOwnNone
namespace Go.Proofs.YtokemdbgcegjiaaGreat
open Go.RowKit Go.Maps
set_option linter.unusedVariables false
attribute [local go_sem ↓] Go.wp_at_zero Go.wp_at_succ

/-- Is kid i there, and of the first one's level? -/
def kidB (G : List Qd) (l : List Int) (i : Nat) : Bool := inB 0 ((G.length : Int) - 1) (ia l i) && decide ((qa G (ia l i).toNat).1 = (qa G (ia l 0).toNat).1)
def canJ (G : List Qd) (l : List Int) : Bool := allB (kidB G l) 4 && decide ((qa G (ia l 0).toNat).1 < 5)
theorem canJ_no {G : List Qd} {l : List Int} {k : Nat} (hk : k < 4) (h : kidB G l k = false) : canJ G l = false := by simp [canJ, allB_false hk h]

/-- The box of four numbers. -/
def Box4 (w W : World) (l : List Int) : Prop := (∀ j, j < 4 → W.cell? ⟨w.heap.size, j, none⟩ = some (.int .i64 (ia l j))) ∧ w.heap.size < W.heap.size ∧ Below w.heap.size w W
theorem Box4.step {w W W' : World} {l : List Int} (h : Box4 w W l) (hb : Below W.heap.size W W') : Box4 w W' l :=
  ⟨fun j hj => (hb.cell (p := ⟨w.heap.size, j, none⟩) h.2.1).trans (h.1 j hj), Nat.lt_of_lt_of_le h.2.1 hb.size, h.2.2.trans (hb.mono h.2.2.size)⟩
theorem Box4.new (w : World) (l : List Int) (t : TypeId) : Box4 w (w.alloc (.cells #[.int .i64 (ia l 0), .int .i64 (ia l 1), .int .i64 (ia l 2), .int .i64 (ia l 3)] t)) l := by
  refine ⟨fun j hj => ?_, by simp, (Below.refl _ _).alloc (Nat.le_refl _) _⟩
  unfold World.cell?
  rw [heap_alloc_new]
  rcases (show j = 0 ∨ j = 1 ∨ j = 2 ∨ j = 3 by omega) with rfl | rfl | rfl | rfl <;> rfl

set_option maxHeartbeats 4000000 in
set_option maxRecDepth 100000 in
theorem c_canJoin (l : List Int) (w : World) {base p g cap mb : Nat} {G : List Qd} (h : Grv w base p g cap mb G) (hG : G.length ≤ 1048576) :
    Calls Tryz.prog 108 #[.pointer (some ⟨p, 0, none⟩), kv l] w fun e w' => e = .returned (.bool (canJ G l)) ∧ Below w.heap.size w w' := by
  have HX0 := hid (Box4.new w l 96)
  have HG0 := hid h
  clear h
  unfold kv
  go_enter Tryz.func108, Tryz.ntmps108
  go_wp2
  go_loopw [8] (fun i wr => ∃ k : Nat, k ≤ 4 ∧ i = .int .i64 k ∧ Hid (allB (kidB G l) k = true) ∧ Hid (Box4 w wr l)) (fun i _ => 4 - (intOf i).toNat)
  case atStart => exact ⟨0, Nat.zero_le _, rfl, (rfl : _ = _), HX0.out⟩
  case round =>
    clear HX0
    obtain ⟨k, hk, rfl, hT, HX⟩ := hrel
    have HG := hid (HG0.out.below HX.out.2.2)
    have HGR := hid fun G' : Gr wr => HG.out.below G'.below
    by_cases hlt : k < 4
    · have hidx := four_index l k hlt
      unfold kv at hidx
      have k0 : (0 : Int) ≤ (k : Int) := by omega
      have k1 : (k : Int) < 4 := by omega
      have HS := hid (allB_succ (kidB G l) k)
      have HN := hid (fun h => canJ_no (G := G) (l := l) hlt h)
      have hlt' := HX.out.2.1
      have hne := Gr.ne wr
      have g0 := fun G' : Gr wr => G'.cell HG.out.c0 (HG.out.box.lt)
      have x0 := fun G' : Gr wr => G'.cell (HX.out.1 0 (by omega)) hlt'
      cases hin : inB 0 ((G.length : Int) - 1) (ia l k)
      · have HV := hid (HN.out (by simp [kidB, hin]))
        clear HN HS
        go_wp2
        refine wp_region_gr (by kernel_rfl) (by kernel_rfl) ?_
        repeat (go_big_quiet_step (first | (go_at_call 64; exact Calls.gr _ (c_has' (ia l k) false _ hin (HGR.out _)))))
        refine wpQuiet_nil ?_
        rintro _ ⟨G', rfl⟩
        clear g0 x0
        go_wp2
        go_ret
        exact ⟨ret_bool HV.out.symm, HX.out.2.2.trans (G'.below.mono HX.out.2.2.size)⟩
      · have hbd := inB_bd hin
        have h0in : inB 0 ((G.length : Int) - 1) (ia l 0) = true := by
          by_cases e : k = 0
          · subst e; exact hin
          · have := allB_iff.1 hT.out 0 (by omega)
            simp only [kidB, Bool.and_eq_true] at this
            exact this.1
        have hbd0 := inB_bd h0in
        have m0 : (ia l k).toNat < G.length := by omega
        have m1 : (ia l 0).toNat < G.length := by omega
        have g1 := fun G' : Gr wr => G'.cell (HG.out.lev m0) HG.out.lt.2
        have g2 := fun G' : Gr wr => G'.cell (HG.out.lev m1) HG.out.lt.2
        have i0 : 0 ≤ ia l k := hbd.1
        have i1 : ia l k < (G.length : Int) := by omega
        have i2 : 0 ≤ ia l 0 := hbd0.1
        have i3 : ia l 0 < (G.length : Int) := by omega
        by_cases hv : (qa G (ia l k).toNat).1 = (qa G (ia l 0).toNat).1
        · have d1 : ((qa G (ia l k).toNat).1 != (qa G (ia l 0).toNat).1) = false := by simp [hv]
          have HV := hid (show allB (kidB G l) (k + 1) = true by rw [HS.out, hT.out]; simp only [kidB, hin, hv]; simp)
          clear HN HS hv
          go_wp2
          refine wp_region_gr (by kernel_rfl) (by kernel_rfl) ?_
          repeat (go_big_quiet_step (first | (go_at_call 64; exact Calls.gr _ (c_has' (ia l k) true _ hin (HGR.out _)))))
          refine wpQuiet_nil ?_
          rintro _ ⟨G', rfl⟩
          clear g0 x0 g1 g2
          go_wp2
          go_roundw
          case rel => exact ⟨k + 1, by omega, by go_num, HV.out, HX.out.step G'.below⟩
          case measure => simp [intOf]; omega
        · have d1 : ((qa G (ia l k).toNat).1 != (qa G (ia l 0).toNat).1) = true := by simp [hv]
          have HV := hid (HN.out (by simp only [kidB]; rw [decide_eq_false hv, Bool.and_false]))
          clear HN HS hv
          go_wp2
          refine wp_region_gr (by kernel_rfl) (by kernel_rfl) ?_
          repeat (go_big_quiet_step (first | (go_at_call 64; exact Calls.gr _ (c_has' (ia l k) true _ hin (HGR.out _)))))
          refine wpQuiet_nil ?_
          rintro _ ⟨G', rfl⟩
          clear g0 x0 g1 g2
          go_wp2
          go_ret
          exact ⟨ret_bool HV.out.symm, HX.out.2.2.trans (G'.below.mono HX.out.2.2.size)⟩
    · obtain rfl : k = 4 := by omega
      have h0in : inB 0 ((G.length : Int) - 1) (ia l 0) = true := by
        have := allB_iff.1 hT.out 0 (by omega)
        simp only [kidB, Bool.and_eq_true] at this
        exact this.1
      have hbd0 := inB_bd h0in
      have m1 : (ia l 0).toNat < G.length := by omega
      have g0 := HG.out.c0
      have x0 := HX.out.1 0 (by omega)
      have g2 := HG.out.lev m1
      have i2 : 0 ≤ ia l 0 := hbd0.1
      have i3 : ia l 0 < (G.length : Int) := by omega
      have HV := hid (show canJ G l = decide ((qa G (ia l 0).toNat).1 < 5) by rw [canJ, hT.out]; rfl)
      go_wp2
      go_region
      go_wp2
      go_ret
      exact ⟨ret_bool HV.out.symm, by first | exact HX.out.2.2 | exact HX.out.2.2.drew⟩

end Go.Proofs.YtokemdbgcegjiaaGreat

namespace Go.Proofs.YtokemdbgcegjiaaGreat
open Go.RowKit Go.Maps
set_option linter.unusedVariables false
set_option linter.unusedSimpArgs false
attribute [local go_sem ↓] Go.wp_at_zero Go.wp_at_succ

theorem step_appN {w : World} {ops : Array Oper} {o : Oper} {a : Act} {K : Act → World → Prop} {Q : Exit → Act → World → Prop} {E : Prop} (hgd : o.guard = none) (s x : Operand)
    (ho : o.op = .call { callee := .builtin .append, args := #[s, x], argTypes := #[99, 99] })
    (base : Nat) (v : Value) (G : List Qd) (q : Qd) (B : Nat) (hs : a.eval s = v) (hown : w.ownsRow base 98 5 v G.length (nflat G)) (hx : a.eval x = .slice (some ⟨B, 0, none⟩) 1 1)
    (hblk : w.heap[B]? = some (.cells (nq q).toArray 98)) (hlen : G.length ≤ 1048576) (hbase : base ≤ w.heap.size)
    (h : ∀ v' w', w'.ownsRow base 98 5 v' (G.length + 1) (nflat (G ++ [q])) → w.grownBy w' v.ownBlock → (v'.ownBlock = v.ownBlock ∨ v'.ownBlock = some w.heap.size) → K (a.put o.dst v') w') : if Region.wanted o (yielded ops a.tmps) = true then Oper.wp Tryz.prog o a w K Q else E := by
  have hw : Region.wanted o (yielded ops a.tmps) = true := by simp [Region.wanted, hgd]
  rw [if_pos hw]
  obtain ⟨i, hi, hz, hsz, hb⟩ := info_parts info_node
  obtain ⟨v', w', hr, h1, h2, _, h4⟩ := run_append_own_at (P := Tryz.prog) w base 99 o.type 98 i _ 5 40 Tryz.underlying99 hi hz hsz hb rfl (by omega) v G.length (nflat G) hown ⟨B, 0, none⟩ 1 1 (nq q) rfl (by
      intro j u hu
      have hadd : (⟨B, 0, none⟩ : Addr).add j = ⟨B, j, none⟩ := by unfold Addr.add; split <;> simp_all
      rw [hadd]
      unfold World.cell?
      rw [hblk]
      simpa using hu) (nq_one q) (by unfold maxLen; omega) (by omega) hbase
  unfold Oper.wp execOp
  simp only [ho, resolve, invoke, builtin, Sem.run_bind, Sem.run_pure, Result.andThen_ok, List.map_toArray, List.map_cons, List.map_nil, hs, hx, hr]
  refine h v' w' ?_ h2 h4
  rw [nflat_append]
  have e : nflat [q] = nq q := by simp [nflat]
  rw [e]
  exact h1

theorem own_ne_box {w : World} {base p : Nat} {v : Value} {n : Nat} {xs : List Value} {f : Nat → Value} (ho : w.ownsRow base 98 5 v n xs) (hb : w.rowIs p 102 2 f) {g : Nat} (hg : v.ownBlock = some g) : p ≠ g := by
  intro e
  subst e
  rcases ho.2 with ⟨rfl, _⟩ | ⟨g', cap, cur, rfl, _, hgg, _⟩
  · simp [Value.ownBlock] at hg
  · simp [Value.ownBlock] at hg
    subst hg
    obtain ⟨c, hc, _⟩ := hb
    rw [hc] at hgg
    simp at hgg
theorem own_ne_map {w : World} {base mb m : Nat} {v : Value} {n : Nat} {xs : List Value} {f : List Int → Option Int} (ho : w.ownsRow base 98 5 v n xs) (hb : Map4 w mb m f) {g : Nat} (hg : v.ownBlock = some g) : mb ≠ g := by
  intro e
  subst e
  rcases ho.2 with ⟨rfl, _⟩ | ⟨g', cap, cur, rfl, _, hgg, _⟩
  · simp [Value.ownBlock] at hg
  · simp [Value.ownBlock] at hg
    subst hg
    obtain ⟨D, ⟨es, clock, hc, _⟩, _⟩ := hb
    rw [hc] at hgg
    simp at hgg
theorem numTo_new (G : List Qd) (q : Qd) (h : 2 ≤ G.length) : numTo (G ++ [q]) (G ++ [q]).length = fun m => if m = q.2 then some (G.length : Int) else numTo G G.length m := by
  funext m
  rw [List.length_append, List.length_singleton]
  simp only [numTo, qa_snoc_new, numTo_snoc G q G.length (Nat.le_refl _)]
  by_cases e : m = q.2
  · rw [if_pos ⟨h, e⟩, if_pos e]
  · rw [if_neg (fun h => e h.2), if_neg e]

set_option maxHeartbeats 4000000 in
set_option maxRecDepth 100000 in
theorem c_join_old (l : List Int) (i : Int) (w : World) {base p g cap mb : Nat} {G : List Qd} (h : Grv w base p g cap mb G) (hf : fits4 l) (hn : numTo G G.length l = some i) :
    Calls Tryz.prog 99 #[.pointer (some ⟨p, 0, none⟩), kv l] w fun e w' => e = .returned (.int .i64 i) ∧ Below w.heap.size w w' := by
  obtain ⟨W1, hW1⟩ : ∃ W1, W1 = w.alloc (.cells #[.int .i64 (ia l 0), .int .i64 (ia l 1), .int .i64 (ia l 2), .int .i64 (ia l 3)] 96) := ⟨_, rfl⟩
  have HX := Box4.new w l 96
  rw [← hW1] at HX
  have HG := hid (h.below HX.2.2)
  have HXX := hid HX
  have hne := Gr.ne W1
  have g1 := fun G' : Gr W1 => G'.cell HG.out.c1 HG.out.box.lt
  have x0 := fun G' : Gr W1 => G'.cell (HX.1 0 (by omega)) HX.2.1
  have x1 := fun G' : Gr W1 => G'.cell (HX.1 1 (by omega)) HX.2.1
  have x2 := fun G' : Gr W1 => G'.cell (HX.1 2 (by omega)) HX.2.1
  have x3 := fun G' : Gr W1 => G'.cell (HX.1 3 (by omega)) HX.2.1
  have hlk := fun G' : Gr W1 => ((HG.out.below G'.below).map).look hf
  rw [hn] at hlk
  unfold kv at hlk ⊢
  simp only [Option.getD_some, Option.isSome_some] at hlk
  rw [hW1] at g1 x0 x1 x2 x3 hlk hne HXX
  clear HG HX h hW1
  clear W1
  go_enter Tryz.func99, Tryz.ntmps99
  go_wp2
  refine wp_region_gr (by kernel_rfl) (by kernel_rfl) ?_
  repeat (go_big_quiet_step (fail))
  refine wpQuiet_nil ?_
  rintro _ ⟨G', rfl⟩
  clear g1 x0 x1 x2 x3 hlk
  go_wp2
  go_ret
  exact ⟨rfl, (HXX.out.step G'.below).2.2⟩

theorem grv_join {w3 w' w6 : World} {base p g cap mb : Nat} {G : List Qd} {q : Qd} {v' : Value} (h : Grv w3 base p g cap mb G) (h2 : 2 ≤ G.length) (hg : w3.grownBy w' (some g))
    (ho : w'.ownsRow base 98 5 v' (G.length + 1) (nflat (G ++ [q])))
    (hm : Map4 w6 mb (G.length + 1) (fun m => if m = q.2 then some (G.length : Int) else numTo G G.length m)) (hg6 : (w'.setCell ⟨p, 0, none⟩ v').grownBy w6 (some mb)) : ∃ g' cap', v' = .slice (some ⟨g', 0, none⟩) (G.length + 1) cap' ∧ Grv w6 base p g' cap' mb (G ++ [q]) := by
  obtain ⟨g', cap', rfl, hlow, _⟩ := World.ownsRow.form ho (by omega)
  have hb' : w'.rowIs p 102 2 (fun j => if j = 0 then .slice (some ⟨g, 0, none⟩) G.length cap else .map (some mb)) := h.box.of_block (hg.block p h.box.lt (by simp only [ne_eq, Option.some.injEq]; exact h.pg))
  have hm' : Map4 w' mb G.length (numTo G G.length) := h.map.kept hg (by simp only [ne_eq, Option.some.injEq]; exact h.mg)
  have n1 : p ≠ g' := own_ne_box ho hb' rfl
  have n2 : mb ≠ g' := own_ne_map ho hm' rfl
  have hb5 := hb'.set 0 (.slice (some ⟨g', 0, none⟩) (G.length + 1) cap')
  have hb6 := hb5.of_block (hg6.block p hb5.lt (by simp only [ne_eq, Option.some.injEq]; exact h.pm))
  have ho5 : (w'.setCell ⟨p, 0, none⟩ (.slice (some ⟨g', 0, none⟩) (G.length + 1) cap')).ownsRow base 98 5 (.slice (some ⟨g', 0, none⟩) (G.length + 1) cap') (G.length + 1) (nflat (G ++ [q])) :=
    ownsRow_setCell_other ho (by simp [Value.ownBlock]; omega) _
  have ho6 := World.ownsRow.kept ho5 hg6 (.inr (by simp [Value.ownBlock]; omega))
  refine ⟨g', cap', rfl, h.lowp, h.lowm, ?_, ?_, ?_, h.pm, n1, n2⟩
  · rw [List.length_append, List.length_singleton]
    refine hb6.congr fun j hj => ?_
    rcases (show j = 0 ∨ j = 1 by omega) with rfl | rfl <;> simp
  · rw [List.length_append, List.length_singleton]; exact ho6
  · rw [numTo_new G q h2, List.length_append, List.length_singleton]; exact hm

end Go.Proofs.YtokemdbgcegjiaaGreat
