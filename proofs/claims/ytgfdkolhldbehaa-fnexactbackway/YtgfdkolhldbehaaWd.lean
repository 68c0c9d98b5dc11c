/- Worlds: whether they are good; what the laws' own small functions do with them. -/
import Derived.Test.YtgfdkolhldbehaaLaw4
import Derived.Test.YtgfdkolhldbehaaWdP
namespace Go.Proofs.Ytgfdkolhldbehaa
open Go.RowKit
set_option linter.unusedVariables false
set_option linter.unusedSimpArgs false
attribute [local go_sem ↓] Go.wp_at_zero Go.wp_at_succ

/-- A world's value. -/
def wv (s : Value) (t : Int) : Value := .agg #[s, .int .i64 t]

theorem grown_setW (w : World) (b o : Nat) (u : Value) : w.grownBy (w.setCell ⟨b, o, none⟩ u) (some b) :=
  ⟨rfl, rfl, rfl, by simp, fun k hk hn => Below.heap_setCell w ⟨b, o, none⟩ u k (by dsimp only; simpa using hn)⟩
theorem OwnS.other {w : World} {base b o : Nat} {v : Value} {l : List Cl} (h : OwnS w base v l) (hb : ∀ k, v.ownBlock = some k → k ≠ b) (u : Value) : OwnS (w.setCell ⟨b, o, none⟩ u) base v l :=
  own_keep h (grown_setW w b o u) fun k hk e => hb k hk (by simpa using e.symm)
theorem Row.other {w : World} {g b o : Nat} {l : List Cl} (h : Row w g l) (hb : g ≠ b) (u : Value) : Row (w.setCell ⟨b, o, none⟩ u) g l := World.rowIs.setOther h (a := ⟨b, o, none⟩) hb u
/-- A world's box that may be written. -/
def WRow (w : World) (b : Nat) (s : Value) (t : Int) (T : TypeId) : Prop := w.rowIs b T 2 (fun j => if j = 0 then s else .int .i64 t)
theorem WRow.new (w : World) (s : Value) (t : Int) (T : TypeId) : WRow (w.alloc (.cells #[s, .int .i64 t] T)) w.heap.size s t T := two_row (heap_alloc_new _ _)
theorem WRow.of_block {w w' : World} {b : Nat} {s : Value} {t : Int} {T : TypeId} (h : WRow w b s t T) (e : w'.heap[b]? = w.heap[b]?) : WRow w' b s t T := World.rowIs.of_block h e
theorem WRow.below {w w' : World} {b : Nat} {s : Value} {t : Int} {T : TypeId} (h : WRow w b s t T) (hb : Below w.heap.size w w') : WRow w' b s t T := World.rowIs.of_block h (hb.block _ (World.rowIs.lt h))
theorem WRow.c0 {w : World} {b : Nat} {s : Value} {t : Int} {T : TypeId} (h : WRow w b s t T) : w.cell? ⟨b, 0, none⟩ = some s := by simpa using World.rowIs.cell h (i := 0) (by omega)
theorem WRow.c1 {w : World} {b : Nat} {s : Value} {t : Int} {T : TypeId} (h : WRow w b s t T) : w.cell? ⟨b, 1, none⟩ = some (.int .i64 t) := by simpa using World.rowIs.cell h (i := 1) (by omega)
theorem WRow.fr {w : World} {b : Nat} {s : Value} {t : Int} {T : TypeId} (h : WRow w b s t T) (i : Nat) : w.frozen? ⟨b, i, none⟩ = false := World.rowIs.frozen h i
theorem WRow.put {w : World} {b : Nat} {s : Value} {t : Int} {T : TypeId} (h : WRow w b s t T) (s' : Value) (t' : Int) : WRow ((w.setCell ⟨b, 0, none⟩ s').setCell ⟨b, 1, none⟩ (.int .i64 t')) b s' t' T := by
  refine ((World.rowIs.set (World.rowIs.set h 0 s') 1 (.int .i64 t'))).congr fun i hi => ?_
  rcases (show i = 0 ∨ i = 1 by omega) with rfl | rfl <;> simp
theorem WRow.put0 {w : World} {b : Nat} {s : Value} {t : Int} {T : TypeId} (h : WRow w b s t T) (s' : Value) : WRow (w.setCell ⟨b, 0, none⟩ s') b s' t T := by
  refine (World.rowIs.set h 0 s').congr fun i hi => ?_
  rcases (show i = 0 ∨ i = 1 by omega) with rfl | rfl <;> simp
theorem WRow.put1 {w : World} {b : Nat} {s : Value} {t : Int} {T : TypeId} (h : WRow w b s t T) (t' : Int) : WRow (w.setCell ⟨b, 1, none⟩ (.int .i64 t')) b s t' T := by
  refine (World.rowIs.set h 1 (.int .i64 t')).congr fun i hi => ?_
  rcases (show i = 0 ∨ i = 1 by omega) with rfl | rfl <;> simp
theorem WRow.other {w : World} {b b' o : Nat} {s : Value} {t : Int} {T : TypeId} (h : WRow w b s t T) (hne : b ≠ b') (u : Value) : WRow (w.setCell ⟨b', o, none⟩ u) b s t T := World.rowIs.setOther h (a := ⟨b', o, none⟩) hne u

end Go.Proofs.Ytgfdkolhldbehaa
