/- The program's grove: nodes in a row that is owned, and a map of the numbers of the kids; what only reads it. -/
import Derived.Test.YtnabgfbempkgnaaFour
import Derived.Test.YtnabgfbempkgnaaQuadG
import Derived.Test.YtnabgfbempkgnaaOwn
import Derived.BigRegion
namespace Go.Proofs.Ytnabgfbempkgnaa
open Go.RowKit Go.Maps
set_option linter.unusedVariables false
attribute [local go_sem ↓] Go.wp_at_zero Go.wp_at_succ

/-- A node's cells. -/
def nq (q : Qd) : List Value := [.int .i64 q.1, .int .i64 (ia q.2 0), .int .i64 (ia q.2 1), .int .i64 (ia q.2 2), .int .i64 (ia q.2 3)]
def nflat (G : List Qd) : List Value := G.flatMap nq
theorem nflat_length (G : List Qd) : (nflat G).length = G.length * 5 := by
  induction G with
  | nil => rfl
  | cons c r ih => simp only [nflat, List.flatMap_cons, List.length_append, List.length_cons] at *; simp [nq] at *; omega
theorem nflat_append (G H : List Qd) : nflat (G ++ H) = nflat G ++ nflat H := by simp [nflat]
theorem nflat_at {G : List Qd} {i j : Nat} (h : i < G.length) (hj : j < 5) : (nflat G)[i * 5 + j]? = (nq (qa G i))[j]? := by
  induction G generalizing i with
  | nil => simp at h
  | cons c r ih =>
    have hc : (nq c).length = 5 := rfl
    cases i with
    | zero =>
      simp only [nflat, List.flatMap_cons, Nat.zero_mul, Nat.zero_add]
      rw [List.getElem?_append_left (by omega)]
      simp [qa]
    | succ i =>
      simp only [nflat, List.flatMap_cons]
      rw [List.getElem?_append_right (by omega), hc, show (i + 1) * 5 + j - 5 = i * 5 + j by omega]
      have := ih (i := i) (by simpa using h)
      rw [nflat] at this
      rw [this]
      simp [qa]
theorem nq_one (q : Qd) : ∀ u ∈ nq q, u.oneCell' = true := by
  intro u hu
  simp only [nq, List.mem_cons, List.not_mem_nil, or_false] at hu
  rcases hu with rfl | rfl | rfl | rfl | rfl <;> rfl

/-- The number of the quad with these kids, among the first k. -/
def numTo (G : List Qd) : Nat → List Int → Option Int
  | 0, _ => none
  | k + 1, l => if 2 ≤ k ∧ l = (qa G k).2 then some (k : Int) else numTo G k l
theorem qa_snoc_old {G : List Qd} {q : Qd} {i : Nat} (h : i < G.length) : qa (G ++ [q]) i = qa G i := by simp [qa, List.getElem?_append_left h]
theorem qa_snoc_new (G : List Qd) (q : Qd) : qa (G ++ [q]) G.length = q := by simp [qa]
theorem numTo_snoc (G : List Qd) (q : Qd) : ∀ k, k ≤ G.length → numTo (G ++ [q]) k = numTo G k
  | 0, _ => rfl
  | k + 1, h => by
    funext l
    simp only [numTo, qa_snoc_old (q := q) (show k < G.length by omega), numTo_snoc G q k (by omega)]
theorem numTo_some {G : List Qd} {l : List Int} : ∀ {k : Nat} {i : Int}, numTo G k l = some i → ∃ n : Nat, i = n ∧ 2 ≤ n ∧ n < k ∧ (qa G n).2 = l
  | 0, i, h => by simp [numTo] at h
  | k + 1, i, h => by
    simp only [numTo] at h
    split at h
    · rename_i hc
      simp at h
      exact ⟨k, h.symm, hc.1, by omega, hc.2.symm⟩
    · obtain ⟨n, h1, h2, h3, h4⟩ := numTo_some h
      exact ⟨n, h1, h2, by omega, h4⟩
theorem numTo_none {G : List Qd} {l : List Int} : ∀ {k : Nat}, numTo G k l = none → ∀ n, 2 ≤ n → n < k → (qa G n).2 ≠ l
  | 0, h, n, h2, hk => by omega
  | k + 1, h, n, h2, hk => by
    simp only [numTo] at h
    split at h
    · cases h
    · rename_i hc
      by_cases e : n = k
      · subst e; intro e2; exact hc ⟨h2, e2.symm⟩
      · exact numTo_none h n h2 (by omega)

/-- A grove: its box is block p, its nodes are block g, its map is block mb. -/
structure Grv (w : World) (base p g cap mb : Nat) (G : List Qd) : Prop where
  lowp : base ≤ p
  lowm : base ≤ mb
  box : w.rowIs p 105 2 (fun j => if j = 0 then .slice (some ⟨g, 0, none⟩) G.length cap else .map (some mb))
  own : w.ownsRow base 101 5 (.slice (some ⟨g, 0, none⟩) G.length cap) G.length (nflat G)
  map : Map4 w mb G.length (numTo G G.length)
  pm : p ≠ mb
  pg : p ≠ g
  mg : mb ≠ g
theorem Grv.below {w w' : World} {base p g cap mb : Nat} {G : List Qd} (h : Grv w base p g cap mb G) (hb : Below w.heap.size w w') : Grv w' base p g cap mb G :=
  ⟨h.lowp, h.lowm, h.box.of_block (hb.block _ h.box.lt), World.ownsRow.kept h.own (grown_of_below hb none) (.inr (by simp [Value.ownBlock])), h.map.kept (grown_of_below hb none) (by simp), h.pm, h.pg, h.mg⟩
theorem Grv.lev {w : World} {base p g cap mb : Nat} {G : List Qd} (h : Grv w base p g cap mb G) {i : Nat} (hi : i < G.length) : w.cell? ⟨g, i * 5, none⟩ = some (.int .i64 (qa G i).1) := by
  have := World.ownsRow.cellAt h.own (i * 5) (by omega)
  have e := nflat_at (G := G) (i := i) (j := 0) hi (by omega)
  rw [Nat.add_zero] at e
  rw [this, e]; rfl
theorem Grv.lt {w : World} {base p g cap mb : Nat} {G : List Qd} (h : Grv w base p g cap mb G) : base ≤ g ∧ g < w.heap.size := World.ownsRow.lt h.own g rfl
theorem Grv.c0 {w : World} {base p g cap mb : Nat} {G : List Qd} (h : Grv w base p g cap mb G) : w.cell? ⟨p, 0, none⟩ = some (.slice (some ⟨g, 0, none⟩) G.length cap) := by
  have := h.box.cell (i := 0) (by omega)
  simpa using this
theorem Grv.c1 {w : World} {base p g cap mb : Nat} {G : List Qd} (h : Grv w base p g cap mb G) : w.cell? ⟨p, 1, none⟩ = some (.map (some mb)) := by
  have := h.box.cell (i := 1) (by omega)
  simpa using this

/-- What make lays at once for a grove. -/
theorem info_node : (Try.prog.info? 101).map (fun i => (i.zero, i.size, i.bytes)) = some (some (.agg #[.int .i64 0, .int .i64 0, .int .i64 0, .int .i64 0, .int .i64 0]), 5, 40) := by kernel_rfl
theorem make_Nodes (w : World) :
    (Instr.makeSlice 102 (.int .i64 2) (.int .i64 2)).run Try.prog w = .ok (.slice (some ⟨w.heap.size, 0, none⟩) 2 2) (w.alloc (.cells (madeCells #[.int .i64 0, .int .i64 0, .int .i64 0, .int .i64 0, .int .i64 0] 10) 101)) := by
  obtain ⟨i, hi, hz, hs, hb⟩ := info_parts info_node
  have := run_make (P := Try.prog) w 102 101 i _ Try.underlying102 hi hz .i64 .i64 2 2 (by omega) (Int.le_refl _) (by rw [hb]; omega) (by omega)
  simpa [hs, Value.cells] using this
/-- The two quads of a cell. -/
def two : List Qd := [(0, []), (0, [])]
theorem grv_new (w : World) :
    Grv (((w.alloc (.cells (madeCells #[.int .i64 0, .int .i64 0, .int .i64 0, .int .i64 0, .int .i64 0] 10) 101)).alloc (.map #[] 0)).alloc (.cells #[.slice (some ⟨w.heap.size, 0, none⟩) 2 2, .map (some (w.heap.size + 1))] 105)) w.heap.size (w.heap.size + 2) w.heap.size 2 (w.heap.size + 1) two := by
  obtain ⟨W1, hW1⟩ : ∃ W1, W1 = w.alloc (.cells (madeCells #[.int .i64 0, .int .i64 0, .int .i64 0, .int .i64 0, .int .i64 0] 10) 101) := ⟨_, rfl⟩
  obtain ⟨W2, hW2⟩ : ∃ W2, W2 = W1.alloc (.map #[] 0) := ⟨_, rfl⟩
  have s1 : W1.heap.size = w.heap.size + 1 := by rw [hW1]; simp
  have s2 : W2.heap.size = w.heap.size + 2 := by rw [hW2]; simp [s1]
  rw [← hW1, ← hW2]
  refine ⟨by omega, by omega, ?_, ?_, ?_, by omega, by omega, by omega⟩
  · rw [← s2]; exact two_row (heap_alloc_new _ _)
  · refine World.ownsRow.alloc ?_ _
    rw [hW2]
    refine World.ownsRow.alloc ?_ _
    rw [hW1]
    have h := World.ownsRow_lit (size := 5) (e := 101) w (madeCells #[.int .i64 0, .int .i64 0, .int .i64 0, .int .i64 0, .int .i64 0] 10) 2 (Nat.le_refl _) (by simp [maxLen]) (by simp [madeCells])
    have e : (madeCells #[.int .i64 0, .int .i64 0, .int .i64 0, .int .i64 0, .int .i64 0] 10).toList = nflat two := by kernel_rfl
    rw [e] at h
    exact h
  · have hm := Map4.made W1
    rw [← hW2, s1] at hm
    have hm2 := hm.kept (grown_of_below ((Below.refl W2.heap.size W2).alloc (Nat.le_refl _) (.cells #[.slice (some ⟨w.heap.size, 0, none⟩) 2 2, .map (some (w.heap.size + 1))] 105)) none) (by simp)
    obtain ⟨D, ho, hd⟩ := hm2
    refine ⟨D, ho.mono (Nat.zero_le _), fun l hl zd => ?_⟩
    rw [hd l hl]
    rfl

set_option maxHeartbeats 400000 in
theorem c_newGrove (w : World) :
    Calls Try.prog 77 #[] w fun e w' => e = .returned (.pointer (some ⟨w.heap.size + 2, 0, none⟩)) ∧ Grv w' w.heap.size (w.heap.size + 2) w.heap.size 2 (w.heap.size + 1) two ∧ Below w.heap.size w w' := by
  have hmm := @run_makeMap Try.prog
  have hmk := make_Nodes
  have HG := hid (grv_new w)
  go_enter Try.func77, Try.ntmps77
  go_wp2
  go_ret
  exact ⟨rfl, HG.out, (((Below.refl _ _).alloc (Nat.le_refl _) _).alloc (by simp) _).alloc (by simp; omega) _⟩

set_option maxHeartbeats 400000 in
theorem c_has (x : Int) (w : World) {base p g cap mb : Nat} {G : List Qd} (h : Grv w base p g cap mb G) :
    Calls Try.prog 79 #[.pointer (some ⟨p, 0, none⟩), .int .i64 x] w fun e w' => e = .returned (.bool (inB 0 ((G.length : Int) - 1) x)) ∧ w' = w := by
  have c0 := h.c0
  clear h
  by_cases h0 : 0 ≤ x
  · have d0 : decide (0 ≤ x) = true := decide_eq_true h0
    by_cases h1 : x < (G.length : Int)
    · have d1 : decide (x < (G.length : Int)) = true := decide_eq_true h1
      go_enter Try.func79, Try.ntmps79
      go_wp2
      go_ret
      exact ⟨ret_bool (by simp [inB] <;> omega), rfl⟩
    · have d1 : decide (x < (G.length : Int)) = false := decide_eq_false h1
      go_enter Try.func79, Try.ntmps79
      go_wp2
      go_ret
      exact ⟨ret_bool (by simp [inB] <;> omega), rfl⟩
  · have d0 : decide (0 ≤ x) = false := decide_eq_false h0
    go_enter Try.func79, Try.ntmps79
    go_wp2
    go_ret
    exact ⟨ret_bool (by simp [inB] <;> omega), rfl⟩
theorem c_has' (x : Int) (v : Bool) (w : World) {base p g cap mb : Nat} {G : List Qd} (hv : inB 0 ((G.length : Int) - 1) x = v) (h : Grv w base p g cap mb G) :
    Calls Try.prog 79 #[.pointer (some ⟨p, 0, none⟩), .int .i64 x] w fun e w' => e = .returned (.bool v) ∧ Below w.heap.size w w' := by
  rw [← hv]
  exact (c_has x w h).mono fun e w' ⟨h1, h2⟩ => ⟨h1, by rw [h2]; exact Below.refl _ _⟩

theorem four_index (l : List Int) (k : Nat) (hk : k < 4) (w : World) : (Instr.index 99 (kv l) (.int .i64 (k : Int))).run Try.prog w = .ok (.int .i64 (ia l k)) w := by
  rcases (show k = 0 ∨ k = 1 ∨ k = 2 ∨ k = 3 by omega) with h | h | h | h
  all_goals
    subst h
    kernel_rfl

end Go.Proofs.Ytnabgfbempkgnaa
