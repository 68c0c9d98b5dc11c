/- Numbers and quads taken over into new memory; how much a forest holds. -/
import Derived.Test.YtnabgfbempkgnaaQuad
namespace Go.Proofs.Ytnabgfbempkgnaa
open Go.RowKit
set_option linter.unusedVariables false
attribute [local go_sem ↓] Go.wp_at_zero Go.wp_at_succ

theorem info_int : (Try.prog.info? 3).map (fun i => (i.zero, i.size, i.bytes)) = some (some (.int .i64 0), 1, 8) := by kernel_rfl
theorem info_Quad : (Try.prog.info? 85).map (fun i => (i.zero, i.size, i.bytes)) = some (some (.agg #[.int .i64 0, .slice none 0 0]), 2, 32) := by kernel_rfl
theorem make_Ints (n : Nat) (hn : n ≤ 1048576) (w : World) :
    (Instr.makeSlice 83 (.int .i64 (n : Int)) (.int .i64 (n : Int))).run Try.prog w = .ok (.slice (some ⟨w.heap.size, 0, none⟩) n n) (w.alloc (.cells (madeCells #[.int .i64 0] n) 3)) := by
  obtain ⟨i, hi, hz, hs, hb⟩ := info_parts info_int
  have := run_make (P := Try.prog) w 83 3 i _ Try.underlying83 hi hz .i64 .i64 n n (by omega) (Int.le_refl _) (by rw [hb]; omega) (by omega)
  simpa [hs, Value.cells] using this
theorem make_Quads (n : Nat) (hn : n ≤ 1048576) (w : World) :
    (Instr.makeSlice 67 (.int .i64 (n : Int)) (.int .i64 (n : Int))).run Try.prog w = .ok (.slice (some ⟨w.heap.size, 0, none⟩) n n) (w.alloc (.cells (madeCells #[.int .i64 0, .slice none 0 0] (n * 2)) 85)) := by
  obtain ⟨i, hi, hz, hs, hb⟩ := info_parts info_Quad
  have := run_make (P := Try.prog) w 67 85 i _ Try.underlying67 hi hz .i64 .i64 n n (by omega) (Int.le_refl _) (by rw [hb]; omega) (by omega)
  simpa [hs, Value.cells] using this

/-- The numbers l are all of block g. -/
def IRow (w : World) (g : Nat) (l : List Int) : Prop := w.rowIs g 3 l.length (fun j => .int .i64 (ia l j))
theorem IRow.seg {w : World} {g : Nat} {l : List Int} (h : IRow w g l) : ISeg w (some ⟨g, 0, none⟩) l := by
  intro i hi
  refine ⟨g, 0, rfl, h.lt, ?_⟩
  have := World.rowIs.cell h (i := i) hi
  simpa using this
theorem IRow.below {w w' : World} {g : Nat} {l : List Int} (h : IRow w g l) (hb : Below w.heap.size w w') : IRow w' g l := h.of_block (hb.block _ h.lt)
def intTo (l : List Int) (k j : Nat) : Value := .int .i64 (if j < k then ia l j else 0)

theorem two_row {w : World} {g : Nat} {t : TypeId} {u v : Value} (h : w.heap[g]? = some (.cells #[u, v] t)) : w.rowIs g t 2 (fun j => if j = 0 then u else v) := by
  refine ⟨_, h, rfl, fun i hi => ?_⟩
  rcases (show i = 0 ∨ i = 1 by omega) with rfl | rfl <;> rfl
theorem one_row {w : World} {g : Nat} {t : TypeId} {u : Value} (h : w.heap[g]? = some (.cells #[u] t)) : w.rowIs g t 1 (fun _ => u) := by
  refine ⟨_, h, rfl, fun i hi => ?_⟩
  have e : i = 0 := by omega
  subst e; rfl
theorem alloc_lt_of {w : World} {o : Obj} {g : Nat} (h : g < w.heap.size) : g < (w.alloc o).heap.size := by simp; omega

/-- What stands in a row of quads of which the first k are laid, kid i's in block ks i. -/
def quadTo (F : List Qd) (ks : Nat → Nat) (k j : Nat) : Value :=
  if j % 2 = 0 then .int .i64 (if j / 2 < k then (qa F (j / 2)).1 else 0) else (if j / 2 < k then .slice (some ⟨ks (j / 2), 0, none⟩) (qa F (j / 2)).2.length (qa F (j / 2)).2.length else .slice none 0 0)
theorem quadTo_even (F : List Qd) (ks : Nat → Nat) (k i : Nat) : quadTo F ks k (i * 2) = .int .i64 (if i < k then (qa F i).1 else 0) := by
  simp [quadTo]
theorem quadTo_odd (F : List Qd) (ks : Nat → Nat) (k i : Nat) : quadTo F ks k (i * 2 + 1) = (if i < k then .slice (some ⟨ks i, 0, none⟩) (qa F i).2.length (qa F i).2.length else .slice none 0 0) := by
  have e1 : (i * 2 + 1) % 2 = 1 := by omega
  have e2 : (i * 2 + 1) / 2 = i := by omega
  simp [quadTo, e1, e2]
theorem quad_made (w : World) (F : List Qd) (ks : Nat → Nat) : (w.alloc (.cells (madeCells #[.int .i64 0, .slice none 0 0] (F.length * 2)) 85)).rowIs w.heap.size 85 (F.length * 2) (quadTo F ks 0) := by
  refine ⟨_, heap_alloc_new _ _, size_madeCells _ _, fun i hi => ?_⟩
  have h2 : i % 2 = 0 ∨ i % 2 = 1 := by omega
  rcases h2 with h2 | h2 <;> simp [madeCells, hi, h2, quadTo]
theorem quad_step {w : World} {g : Nat} {F : List Qd} {ks : Nat → Nat} {k : Nat} (b : Nat) (h : w.rowIs g 85 (F.length * 2) (quadTo F ks k)) :
    ((w.setCell ⟨g, k * 2, none⟩ (.int .i64 (qa F k).1)).setCell ⟨g, k * 2 + 1, none⟩ (.slice (some ⟨b, 0, none⟩) (qa F k).2.length (qa F k).2.length)).rowIs g 85 (F.length * 2) (quadTo F (fun i => if i = k then b else ks i) (k + 1)) := by
  refine ((h.set (k * 2) _).set (k * 2 + 1) _).congr fun j hj => ?_
  rcases (show j = j / 2 * 2 ∨ j = j / 2 * 2 + 1 by omega) with e | e
  · rw [e, quadTo_even, quadTo_even]
    generalize j / 2 = i
    by_cases h1 : i = k
    · subst h1
      rw [if_neg (by omega), if_pos rfl, if_pos (by omega)]
    · rw [if_neg (by omega), if_neg (by omega)]
      by_cases h2 : i < k
      · rw [if_pos h2, if_pos (by omega)]
      · rw [if_neg h2, if_neg (by omega)]
  · rw [e, quadTo_odd, quadTo_odd]
    generalize j / 2 = i
    by_cases h1 : i = k
    · subst h1
      rw [if_pos rfl, if_pos (by omega)]
      simp
    · rw [if_neg (by omega), if_neg (by omega)]
      by_cases h2 : i < k
      · rw [if_pos h2, if_pos (by omega), if_neg h1]
      · rw [if_neg h2, if_neg (by omega)]

/-- A forest that lies in memory of its own: the quads are all of block g, the kids of quad i all of block ks i, each behind the last. -/
structure QRow (w : World) (base g : Nat) (ks : Nat → Nat) (F : List Qd) (k : Nat) : Prop where
  low : base ≤ g
  row : w.rowIs g 85 (F.length * 2) (quadTo F ks k)
  kid : ∀ i, i < k → IRow w (ks i) (qa F i).2 ∧ g < ks i ∧ ∀ j, j < i → ks j < ks i
theorem QRow.below {w w' : World} {base g : Nat} {ks : Nat → Nat} {F : List Qd} {k : Nat} (h : QRow w base g ks F k) (hb : Below w.heap.size w w') : QRow w' base g ks F k :=
  ⟨h.low, h.row.of_block (hb.block _ h.row.lt), fun i hi => ⟨(h.kid i hi).1.below hb, (h.kid i hi).2⟩⟩
theorem QRow.seg {w : World} {base g : Nat} {ks : Nat → Nat} {F : List Qd} (h : QRow w base g ks F F.length) : QSeg w (some ⟨g, 0, none⟩) F := by
  intro i hi
  have c0 := h.row.cell (i := i * 2) (by omega)
  have c1 := h.row.cell (i := i * 2 + 1) (by omega)
  rw [quadTo_even, if_pos hi] at c0
  rw [quadTo_odd, if_pos hi] at c1
  exact ⟨g, 0, some ⟨ks i, 0, none⟩, (qa F i).2.length, rfl, h.row.lt, by simpa using c0, by simpa using c1, (h.kid i hi).1.seg, Nat.le_refl _⟩
theorem QRow.step {w : World} {base g : Nat} {ks : Nat → Nat} {F : List Qd} {k b : Nat} (h : QRow w base g ks F k) (hk : k < F.length) (hI : IRow w b (qa F k).2) (hg : g < b) (hlast : ∀ j, j < k → ks j < b) :
    QRow ((w.setCell ⟨g, k * 2, none⟩ (.int .i64 (qa F k).1)).setCell ⟨g, k * 2 + 1, none⟩ (.slice (some ⟨b, 0, none⟩) (qa F k).2.length (qa F k).2.length)) base g (fun i => if i = k then b else ks i) F (k + 1) := by
  refine ⟨h.low, quad_step b h.row, fun i hi => ?_⟩
  by_cases e : i = k
  · subst e
    rw [if_pos rfl]
    refine ⟨(hI.setOther (by dsimp only; omega) _).setOther (by dsimp only; omega) _, hg, fun j hj => ?_⟩
    rw [if_neg (by omega)]
    exact hlast j hj
  · have hi' : i < k := by omega
    obtain ⟨h1, h2, h3⟩ := h.kid i hi'
    rw [if_neg e]
    refine ⟨(h1.setOther (by dsimp only; omega) _).setOther (by dsimp only; omega) _, h2, fun j hj => ?_⟩
    rw [if_neg (by omega)]
    exact h3 j hj

end Go.Proofs.Ytnabgfbempkgnaa
