/- Numbers and quads taken over into new memory; how much a forest holds. -/
import Derived.Test.YtgfdkolhldbehaaQuad
namespace Go.Proofs.Ytgfdkolhldbehaa
open Go.RowKit
set_option linter.unusedVariables false
attribute [local go_sem ↓] Go.wp_at_zero Go.wp_at_succ

theorem info_int : (Try.prog.info? 3).map (fun i => (i.zero, i.size, i.bytes)) = some (some (.int .i64 0), 1, 8) := by kernel_rfl
theorem make_Ints (n : Nat) (hn : n ≤ 1048576) (w : World) :
    (Instr.makeSlice 61 (.int .i64 (n : Int)) (.int .i64 (n : Int))).run Try.prog w = .ok (.slice (some ⟨w.heap.size, 0, none⟩) n n) (w.alloc (.cells (madeCells #[.int .i64 0] n) 3)) := by
  obtain ⟨i, hi, hz, hs, hb⟩ := info_parts info_int
  have := run_make (P := Try.prog) w 61 3 i _ Try.underlying61 hi hz .i64 .i64 n n (by omega) (Int.le_refl _) (by rw [hb]; omega) (by omega)
  simpa [hs, Value.cells] using this
/-- The numbers l are all of block g. -/
def IRow (w : World) (g : Nat) (l : List Int) : Prop := w.rowIs g 3 l.length (fun j => .int .i64 (ia l j))
theorem IRow.seg {w : World} {g : Nat} {l : List Int} (h : IRow w g l) : ISeg w (some ⟨g, 0, none⟩) l := by
  intro i hi
  refine ⟨g, 0, rfl, h.lt, ?_⟩
  have := World.rowIs.cell h (i := i) hi
  simpa using this
theorem IRow.below {w w' : World} {g : Nat} {l : List Int} (h : IRow w g l) (hb : Below w.heap.size w w') : IRow w' g l := h.of_block (hb.block _ h.lt)
def intTo (l : List Int) (k j : Nat) : Value := .int .i64 (if j < k then ia l j else 0)

theorem two_row {w : World} {g : Nat} {t : TypeId} {u v : Value} (h : w.heap[g]? = some (.cells #[u, v] t)) : w.rowIs g t 2 (fun j => if j = 0 then u else v) := by
  refine ⟨_, h, rfl, fun i hi => ?_⟩
  rcases (show i = 0 ∨ i = 1 by omega) with rfl | rfl <;> rfl
theorem one_row {w : World} {g : Nat} {t : TypeId} {u : Value} (h : w.heap[g]? = some (.cells #[u] t)) : w.rowIs g t 1 (fun _ => u) := by
  refine ⟨_, h, rfl, fun i hi => ?_⟩
  have e : i = 0 := by omega
  subst e; rfl
theorem alloc_lt_of {w : World} {o : Obj} {g : Nat} (h : g < w.heap.size) : g < (w.alloc o).heap.size := by simp; omega

/-- What stands in a row of quads of which the first k are laid, kid i's in block ks i. -/
def quadTo (F : List Qd) (ks : Nat → Nat) (k j : Nat) : Value :=
  if j % 2 = 0 then .int .i64 (if j / 2 < k then (qa F (j / 2)).1 else 0) else (if j / 2 < k then .slice (some ⟨ks (j / 2), 0, none⟩) (qa F (j / 2)).2.length (qa F (j / 2)).2.length else .slice none 0 0)
theorem quadTo_even (F : List Qd) (ks : Nat → Nat) (k i : Nat) : quadTo F ks k (i * 2) = .int .i64 (if i < k then (qa F i).1 else 0) := by
  simp [quadTo]
theorem quadTo_odd (F : List Qd) (ks : Nat → Nat) (k i : Nat) : quadTo F ks k (i * 2 + 1) = (if i < k then .slice (some ⟨ks i, 0, none⟩) (qa F i).2.length (qa F i).2.length else .slice none 0 0) := by
  have e1 : (i * 2 + 1) % 2 = 1 := by omega
  have e2 : (i * 2 + 1) / 2 = i := by omega
  simp [quadTo, e1, e2]
end Go.Proofs.Ytgfdkolhldbehaa
