/- Quads in memory: a slice of numbers, a slice of quads with their kids, and whether two are the same. -/
import Derived.Test.YtgppcocfnbalfaaGood
namespace Go.Proofs.Ytgppcocfnbalfaa
open Go.RowKit
set_option linter.unusedVariables false
attribute [local go_sem ↓] Go.wp_at_zero Go.wp_at_succ

/-- A quad: its level and its kids. -/
abbrev Qd := Int × List Int
def qa (F : List Qd) (i : Nat) : Qd := F.getD i (0, [])
def ia (l : List Int) (i : Nat) : Int := l.getD i 0
/-- The numbers of a slice. -/
def ISeg (w : World) (a : Option Addr) (l : List Int) : Prop :=
  ∀ i, i < l.length → ∃ b o, a = some ⟨b, o, none⟩ ∧ b < w.heap.size ∧ w.cell? ⟨b, o + i, none⟩ = some (.int .i64 (ia l i))
theorem ISeg.below {w w' : World} {a : Option Addr} {l : List Int} (h : ISeg w a l) (hb : Below w.heap.size w w') : ISeg w' a l := by
  intro i hi
  obtain ⟨b, o, rfl, hlt, h1⟩ := h i hi
  exact ⟨b, o, rfl, Nat.lt_of_lt_of_le hlt hb.size, (hb.cell (p := ⟨b, _, none⟩) hlt).trans h1⟩
/-- The quads of a slice. -/
def QSeg (w : World) (a : Option Addr) (F : List Qd) : Prop :=
  ∀ i, i < F.length → ∃ b o ak ck, a = some ⟨b, o, none⟩ ∧ b < w.heap.size ∧ w.cell? ⟨b, o + i * 2, none⟩ = some (.int .i64 (qa F i).1) ∧ w.cell? ⟨b, o + i * 2 + 1, none⟩ = some (.slice ak (qa F i).2.length ck) ∧ ISeg w ak (qa F i).2 ∧ (qa F i).2.length ≤ ck
theorem QSeg.below {w w' : World} {a : Option Addr} {F : List Qd} (h : QSeg w a F) (hb : Below w.heap.size w w') : QSeg w' a F := by
  intro i hi
  obtain ⟨b, o, ak, ck, rfl, hlt, h1, h2, h3, h4⟩ := h i hi
  exact ⟨b, o, ak, ck, rfl, Nat.lt_of_lt_of_le hlt hb.size, (hb.cell (p := ⟨b, _, none⟩) hlt).trans h1, (hb.cell (p := ⟨b, _, none⟩) hlt).trans h2, h3.below hb, h4⟩
/-- The kids of each quad are at most so many. -/
def KidsLe (F : List Qd) : Prop := ∀ i, i < F.length → (qa F i).2.length ≤ 1048576

theorem ia_take {l m : List Int} {k : Nat} (h1 : k < l.length) (h2 : k < m.length) (ht : l.take k = m.take k) (h : ia l k = ia m k) : l.take (k + 1) = m.take (k + 1) := by
  rw [List.take_succ_eq_append_getElem h1, List.take_succ_eq_append_getElem h2, ht]
  simp [ia, h1, h2] at h
  rw [h]
theorem qa_take {l m : List Qd} {k : Nat} (h1 : k < l.length) (h2 : k < m.length) (ht : l.take k = m.take k) (h : qa l k = qa m k) : l.take (k + 1) = m.take (k + 1) := by
  rw [List.take_succ_eq_append_getElem h1, List.take_succ_eq_append_getElem h2, ht]
  simp [qa, h1, h2] at h
  rw [h]

end Go.Proofs.Ytgppcocfnbalfaa
