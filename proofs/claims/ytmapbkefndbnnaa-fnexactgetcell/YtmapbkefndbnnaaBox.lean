/- BoxOf of both sides. -/
import Derived.Test.YtmapbkefndbnnaaHas
import Derived.Test.YtmapbkefndbnnaaApp
import Derived.Laws.NewDeep
namespace Go.Proofs.Ytmapbkefndbnnaa
open Go.RowKit
set_option linter.unusedVariables false

theorem c_l1Least (a b : Int) (w : World) : Calls Try.prog 75 #[.int .i64 a, .int .i64 b] w fun e w' => e = .returned (.int .i64 (if b < a then b else a)) ∧ w' = w := by
  by_cases h : a < b
  all_goals
    have e : (if b < a then b else a) = if a < b then a else b := by (repeat' split) <;> omega
    go_enter Try.func75, Try.ntmps75
    go_wp2
    go_ret
    first | (rw [e]; simp [h]) | simp
theorem c_l1Most (a b : Int) (w : World) : Calls Try.prog 76 #[.int .i64 a, .int .i64 b] w fun e w' => e = .returned (.int .i64 (if a < b then b else a)) ∧ w' = w := by
  by_cases h : b < a
  all_goals
    have e : (if a < b then b else a) = if b < a then a else b := by (repeat' split) <;> omega
    go_enter Try.func76, Try.ntmps76
    go_wp2
    go_ret
    first | (rw [e]; simp [h]) | simp

/-- The least of two corners, and the greatest. -/
def loC (a b : Cl) : Cl := (if b.1 < a.1 then b.1 else a.1, if b.2 < a.2 then b.2 else a.2)
def hiC (a b : Cl) : Cl := (if a.1 < b.1 then b.1 else a.1, if a.2 < b.2 then b.2 else a.2)
/-- The corners of the first k. -/
def loTo (l : List Cl) (k : Nat) : Cl := (l.take k).foldl loC (at_ l 0)
def hiTo (l : List Cl) (k : Nat) : Cl := (l.take k).foldl hiC (at_ l 0)
theorem loTo_succ {l : List Cl} {k : Nat} (h : k < l.length) : loTo l (k + 1) = loC (loTo l k) (at_ l k) := by
  unfold loTo
  rw [List.take_succ_eq_append_getElem h, List.foldl_append]
  simp [at_, h]
theorem hiTo_succ {l : List Cl} {k : Nat} (h : k < l.length) : hiTo l (k + 1) = hiC (hiTo l k) (at_ l k) := by
  unfold hiTo
  rw [List.take_succ_eq_append_getElem h, List.foldl_append]
  simp [at_, h]
/-- What BoxOf answers. -/
def boxOk (l : List Cl) : Bool := good l && decide (l.length ≠ 0)
def boxLo (l : List Cl) : Cl := if boxOk l then loTo l l.length else (0, 0)
def boxHi (l : List Cl) : Cl := if boxOk l then hiTo l l.length else (0, 0)

/-- A box of a cell that may be written, in block b. -/
def BoxAt (w : World) (b : Nat) (c : Cl) : Prop :=
  w.cell? ⟨b, 0, none⟩ = some (.int .i64 c.1) ∧ w.cell? ⟨b, 1, none⟩ = some (.int .i64 c.2) ∧ w.frozen? ⟨b, 0, none⟩ = false ∧ w.frozen? ⟨b, 1, none⟩ = false ∧ b < w.heap.size
theorem BoxAt.below {w w' : World} {b n : Nat} {c : Cl} (h : BoxAt w b c) (hb : Below n w w') (hn : b < n) : BoxAt w' b c :=
  ⟨(hb.cell (p := ⟨b, 0, none⟩) hn).trans h.1, (hb.cell (p := ⟨b, 1, none⟩) hn).trans h.2.1, (hb.frozen (p := ⟨b, 0, none⟩) hn).trans h.2.2.1, (hb.frozen (p := ⟨b, 1, none⟩) hn).trans h.2.2.2.1, Nat.lt_of_lt_of_le h.2.2.2.2 hb.size⟩
theorem BoxAt.new (w : World) (c : Cl) : BoxAt (w.alloc (.cells #[.int .i64 c.1, .int .i64 c.2] 39)) w.heap.size c := by
  refine ⟨cell_new0 _ _ _ _, cell_new1 _ _ _ _, ?_, ?_, by simp⟩
  · simp [go_sem]
  · simp [go_sem]
theorem BoxAt.alloc {w : World} {b : Nat} {c : Cl} (h : BoxAt w b c) (o : Obj) : BoxAt (w.alloc o) b c := h.below ((Below.refl w.heap.size w).alloc (Nat.le_refl _) o) h.2.2.2.2
theorem BoxAt.drew {w : World} {b : Nat} {c : Cl} (h : BoxAt w b c) : BoxAt w.drew b c := h.below ((Below.refl w.heap.size w).drew) h.2.2.2.2
theorem BoxAt.other {w : World} {b p o : Nat} {c : Cl} {v : Value} (h : BoxAt w b c) (hne : b ≠ p) : BoxAt (w.setCell ⟨p, o, none⟩ v) b c := by
  obtain ⟨h1, h2, h3, h4, h5⟩ := h
  have e : (w.setCell ⟨p, o, none⟩ v).heap[b]? = w.heap[b]? := Below.heap_setCell _ _ _ _ hne
  refine ⟨?_, ?_, ?_, ?_, by simpa using h5⟩
  · unfold World.cell? at *; rw [e]; exact h1
  · unfold World.cell? at *; rw [e]; exact h2
  · unfold World.frozen? at *; rw [e]; exact h3
  · unfold World.frozen? at *; rw [e]; exact h4

theorem BoxAt.set2 {w : World} {b : Nat} {c : Cl} (h : BoxAt w b c) (x y : Int) : BoxAt ((w.setCell ⟨b, 0, none⟩ (.int .i64 x)).setCell ⟨b, 1, none⟩ (.int .i64 y)) b (x, y) := by
  obtain ⟨h1, h2, h3, h4, h5⟩ := h
  refine ⟨?_, ?_, by simpa using h3, by simpa using h4, by simpa using h5⟩
  · rw [World.cell?_setCell_other _ _ _ _ (by simp)]; exact World.cell?_setCell_same _ _ _ h1
  · have h2' := (World.cell?_setCell_other w ⟨b, 0, none⟩ ⟨b, 1, none⟩ (.int .i64 x) (by simp)).trans h2
    exact World.cell?_setCell_same _ _ _ h2'

end Go.Proofs.Ytmapbkefndbnnaa
