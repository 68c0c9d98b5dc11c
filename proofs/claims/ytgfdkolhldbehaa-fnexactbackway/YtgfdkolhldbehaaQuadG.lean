/- What the specification's GoodForest answers. -/
import Derived.Test.YtgfdkolhldbehaaQuadT
namespace Go.Proofs.Ytgfdkolhldbehaa
open Go.RowKit
set_option linter.unusedVariables false
attribute [local go_sem ↓] Go.wp_at_zero Go.wp_at_succ

/-- A thing holds at all numbers below k. -/
def allB (p : Nat → Bool) (k : Nat) : Bool := (List.range k).all p
theorem allB_succ (p : Nat → Bool) (k : Nat) : allB p (k + 1) = (allB p k && p k) := by simp [allB, List.range_succ]
theorem allB_iff {p : Nat → Bool} {k : Nat} : allB p k = true ↔ ∀ i, i < k → p i = true := by simp [allB]
theorem allB_false {p : Nat → Bool} {k n : Nat} (hk : k < n) (h : p k = false) : allB p n = false := by
  cases e : allB p n
  · rfl
  · have := allB_iff.1 e k hk
    rw [h] at this; cases this
def inB (lo hi x : Int) : Bool := decide (lo ≤ x) && decide (x ≤ hi)
def allIn (l : List Int) (lo hi : Int) : Bool := allB (fun i => inB lo hi (ia l i)) l.length
def levB (F : List Qd) (l : List Int) (v : Int) : Bool := allB (fun i => decide ((qa F (ia l i).toNat).1 = v)) l.length
def newB (F : List Qd) (i : Nat) : Bool := allB (fun j => !decide ((qa F j).2 = (qa F i).2)) i
/-- Is quad i as the quads ahead of it ask? -/
def fineQ (F : List Qd) (i : Nat) : Bool :=
  if i < 2 then decide ((qa F i).1 = 0) && decide ((qa F i).2.length = 0)
  else decide ((qa F i).2.length = 4) && allIn (qa F i).2 0 ((i : Int) - 1) && inB 1 5 (qa F i).1 && levB F (qa F i).2 ((qa F i).1 - 1) && newB F i
/-- Is the forest good? -/
def goodF (F : List Qd) : Bool := inB 2 400 (F.length : Int) && allB (fineQ F) F.length
theorem goodF_no {F : List Qd} {k : Nat} (hk : k < F.length) (h : fineQ F k = false) : goodF F = false := by
  simp [goodF, allB_false hk h]

theorem c_l1In' (n lo hi : Int) (v : Bool) (h : inB lo hi n = v) (w : World) :
    Calls Try.prog 102 #[.int .i64 n, .int .i64 lo, .int .i64 hi] w fun e w' => e = .returned (.bool v) ∧ w' = w := by
  rw [← h]; exact c_l1In n lo hi w

/-- A value's box of one cell at the heap's end of w, kept in all that has grown out of w. -/
def Box1 (w W : World) (v : Value) : Prop := W.cell? ⟨w.heap.size, 0, none⟩ = some v ∧ w.heap.size < W.heap.size ∧ Below w.heap.size w W
theorem Box1.step {w W W' : World} {v : Value} (h : Box1 w W v) (hb : Below W.heap.size W W') : Box1 w W' v :=
  ⟨(hb.cell (p := ⟨w.heap.size, 0, none⟩) h.2.1).trans h.1, Nat.lt_of_lt_of_le h.2.1 hb.size, h.2.2.trans (hb.mono h.2.2.size)⟩
theorem Box1.new (w : World) (v : Value) (t : TypeId) : Box1 w (w.alloc (.cells #[v] t)) v := by
  refine ⟨?_, by simp, (Below.refl _ _).alloc (Nat.le_refl _) _⟩
  unfold World.cell?; rw [heap_alloc_new]; rfl
/-- A quad's box at the heap's end of w. -/
def Box2 (w W : World) (u v : Value) : Prop := W.cell? ⟨w.heap.size, 0, none⟩ = some u ∧ W.cell? ⟨w.heap.size, 1, none⟩ = some v ∧ w.heap.size < W.heap.size ∧ Below w.heap.size w W
theorem Box2.step {w W W' : World} {u v : Value} (h : Box2 w W u v) (hb : Below W.heap.size W W') : Box2 w W' u v :=
  ⟨(hb.cell (p := ⟨w.heap.size, 0, none⟩) h.2.2.1).trans h.1, (hb.cell (p := ⟨w.heap.size, 1, none⟩) h.2.2.1).trans h.2.1, Nat.lt_of_lt_of_le h.2.2.1 hb.size, h.2.2.2.trans (hb.mono h.2.2.2.size)⟩
theorem Box2.new (w : World) (u v : Value) (t : TypeId) : Box2 w (w.alloc (.cells #[u, v] t)) u v := by
  refine ⟨cell_new0 _ _ _ _, cell_new1 _ _ _ _, by simp, (Below.refl _ _).alloc (Nat.le_refl _) _⟩

theorem fine_low {F : List Qd} {k : Nat} (h : k < 2) (h1 : (qa F k).1 = 0) (h2 : (qa F k).2.length = 0) : fineQ F k = true := by
  simp [fineQ, h, h1, h2]
theorem fine_low_lev {F : List Qd} {k : Nat} (h : k < 2) (h1 : ¬ (qa F k).1 = 0) : fineQ F k = false := by simp [fineQ, h, h1]
theorem fine_low_kids {F : List Qd} {k : Nat} (h : k < 2) (h1 : ¬ (qa F k).2.length = 0) : fineQ F k = false := by
  unfold fineQ
  rw [if_pos h, decide_eq_false h1, Bool.and_false]
theorem fine_len {F : List Qd} {k : Nat} (h : ¬ k < 2) (h1 : ¬ (qa F k).2.length = 4) : fineQ F k = false := by
  unfold fineQ
  rw [if_neg h, decide_eq_false h1]; simp
theorem fine_in {F : List Qd} {k : Nat} (h : ¬ k < 2) (h1 : allIn (qa F k).2 0 ((k : Int) - 1) = false) : fineQ F k = false := by
  unfold fineQ
  rw [if_neg h, h1]; simp
theorem fine_lev {F : List Qd} {k : Nat} (h : ¬ k < 2) (h1 : inB 1 5 (qa F k).1 = false) : fineQ F k = false := by
  unfold fineQ
  rw [if_neg h, h1]; simp
theorem fine_levs {F : List Qd} {k : Nat} (h : ¬ k < 2) (h1 : levB F (qa F k).2 ((qa F k).1 - 1) = false) : fineQ F k = false := by
  unfold fineQ
  rw [if_neg h, h1]; simp
theorem fine_new {F : List Qd} {k : Nat} (h : ¬ k < 2) (h1 : newB F k = false) : fineQ F k = false := by
  unfold fineQ
  rw [if_neg h, h1]; simp
theorem fine_yes {F : List Qd} {k : Nat} (h : ¬ k < 2) (h1 : (qa F k).2.length = 4) (h2 : allIn (qa F k).2 0 ((k : Int) - 1) = true) (h3 : inB 1 5 (qa F k).1 = true) (h4 : levB F (qa F k).2 ((qa F k).1 - 1) = true) (h5 : newB F k = true) : fineQ F k = true := by
  unfold fineQ
  rw [if_neg h, h2, h3, h4, h5, decide_eq_true h1]; rfl
theorem inB_bd {lo hi x : Int} (h : inB lo hi x = true) : lo ≤ x ∧ x ≤ hi := by simpa [inB] using h

end Go.Proofs.Ytgfdkolhldbehaa
