/- FateOf: what it answers; a row of four numbers. -/
import Derived.Test.YtgppcocfnbalfaaHist
import Derived.Test.YtgppcocfnbalfaaHom
namespace Go.Proofs.Ytgppcocfnbalfaa
open Go.RowKit
set_option linter.unusedVariables false
set_option linter.unusedSimpArgs false

/-- The first step ahead of b behind which the cells, moved home, are those behind b. -/
def ftA (H : List (List Cl)) (b : Nat) : Option Nat := fstAt (fun a => decide (home (ht H a) = home (ht H b))) b
/-- The first b for which there is such. -/
def ftB (H : List (List Cl)) : Option Nat := fstAt (fun b => (ftA H b).isSome) H.length
/-- The four numbers of the answer. -/
def ftV (H : List (List Cl)) (j : Nat) : Int :=
  match ftB H with
  | none => 0
  | some b => match ftA H b with
    | none => 0
    | some a => if j = 0 then (a : Int) else if j = 1 then (b : Int) - (a : Int) else if j = 2 then (boxLo (ht H b)).1 - (boxLo (ht H a)).1 else (boxLo (ht H b)).2 - (boxLo (ht H a)).2
def ftK (H : List (List Cl)) : Bool := (ftB H).isSome
theorem ft_none {H : List (List Cl)} (h : ∀ b, b < H.length → ∀ a, a < b → ¬ home (ht H a) = home (ht H b)) : ftK H = false ∧ ∀ j, ftV H j = 0 := by
  have e : ftB H = none := fstAt_none (fun b hb => by
    have : ftA H b = none := fstAt_none (fun a ha => by simpa using h b hb a ha)
    rw [this]; rfl)
  simp [ftK, ftV, e]
theorem ft_some {H : List (List Cl)} {a b : Nat} (hb : b < H.length) (ha : a < b) (he : home (ht H a) = home (ht H b)) (h1 : ∀ b', b' < b → ∀ a', a' < b' → ¬ home (ht H a') = home (ht H b')) (h2 : ∀ a', a' < a → ¬ home (ht H a') = home (ht H b)) :
    ftK H = true ∧ ftV H 0 = (a : Int) ∧ ftV H 1 = (b : Int) - (a : Int) ∧ ftV H 2 = (boxLo (ht H b)).1 - (boxLo (ht H a)).1 ∧ ftV H 3 = (boxLo (ht H b)).2 - (boxLo (ht H a)).2 := by
  have ea : ftA H b = some a := fstAt_some ha (by simpa using he) (fun a' h => by simpa using h2 a' h)
  have e : ftB H = some b := fstAt_some hb (by simp [ea]) (fun b' h => by
    have : ftA H b' = none := fstAt_none (fun a' h' => by simpa using h1 b' h a' h')
    simp [this])
  simp [ftK, ftV, e, ea]

/-- Four numbers that lie in block b. -/
def FRow (w : World) (b : Nat) (f : Nat → Int) : Prop := w.rowIs b 39 4 (fun j => .int .i64 (f j))
theorem FRow.below {w w' : World} {b : Nat} {f : Nat → Int} (h : FRow w b f) (hb : Below w.heap.size w w') : FRow w' b f := World.rowIs.of_block h (hb.block _ (World.rowIs.lt h))
theorem FRow.cell {w : World} {b : Nat} {f : Nat → Int} (h : FRow w b f) (i : Nat) (hi : i < 4) : w.cell? ⟨b, i, none⟩ = some (.int .i64 (f i)) := World.rowIs.cell h (i := i) hi
theorem FRow.fr {w : World} {b : Nat} {f : Nat → Int} (h : FRow w b f) (i : Nat) : w.frozen? ⟨b, i, none⟩ = false := World.rowIs.frozen h i
theorem FRow.new (w : World) (x y z u : Int) : FRow (w.alloc (.cells #[.int .i64 x, .int .i64 y, .int .i64 z, .int .i64 u] 39)) w.heap.size (fun j => if j = 0 then x else if j = 1 then y else if j = 2 then z else u) := by
  refine ⟨_, heap_alloc_new w _, rfl, fun i hi => ?_⟩
  rcases (show i = 0 ∨ i = 1 ∨ i = 2 ∨ i = 3 by omega) with rfl | rfl | rfl | rfl <;> rfl
theorem FRow.lt {w : World} {b : Nat} {f : Nat → Int} (h : FRow w b f) : b < w.heap.size := World.rowIs.lt h
/-- All four are written. -/
theorem FRow.put {w : World} {b : Nat} {f : Nat → Int} (h : FRow w b f) (g : Nat → Int) :
    FRow ((((w.setCell ⟨b, 0, none⟩ (.int .i64 (g 0))).setCell ⟨b, 1, none⟩ (.int .i64 (g 1))).setCell ⟨b, 2, none⟩ (.int .i64 (g 2))).setCell ⟨b, 3, none⟩ (.int .i64 (g 3))) b g := by
  refine (World.rowIs.set (World.rowIs.set (World.rowIs.set (World.rowIs.set h 0 _) 1 _) 2 _) 3 _).congr fun i hi => ?_
  rcases (show i = 0 ∨ i = 1 ∨ i = 2 ∨ i = 3 by omega) with rfl | rfl | rfl | rfl <;> simp
theorem below_set4 {n b : Nat} {w0 w : World} (h : Below n w0 w) (hb : n ≤ b) (g : Nat → Int) :
    Below n w0 ((((w.setCell ⟨b, 0, none⟩ (.int .i64 (g 0))).setCell ⟨b, 1, none⟩ (.int .i64 (g 1))).setCell ⟨b, 2, none⟩ (.int .i64 (g 2))).setCell ⟨b, 3, none⟩ (.int .i64 (g 3))) :=
  (((h.setCell (p := ⟨b, 0, none⟩) hb _).setCell (p := ⟨b, 1, none⟩) hb _).setCell (p := ⟨b, 2, none⟩) hb _).setCell (p := ⟨b, 3, none⟩) hb _
theorem home_lo (l : List Cl) : -40 ≤ (boxLo l).1 ∧ (boxLo l).1 ≤ 40 ∧ -40 ≤ (boxLo l).2 ∧ (boxLo l).2 ≤ 40 := by
  have := boxLo_in l
  simp only [inR, Bool.and_eq_true, decide_eq_true_eq] at this
  omega
end Go.Proofs.Ytgppcocfnbalfaa
