/- Rows of cells that a call itself has made: owned, marked, and found marked. -/
import Derived.Test.YtnabgfbempkgnaaDoorGood
import Derived.Deep.AppendLies
import Derived.Deep.Onto
namespace Go.Proofs.YtnabgfbempkgnaaDoor
open Go.RowKit
set_option linter.unusedVariables false

/-- Cells, one value behind the other. -/
def flat (l : List Cl) : List Value := l.flatMap fun c => [.int .i64 c.1, .int .i64 c.2]
theorem flat_length (l : List Cl) : (flat l).length = l.length * 2 := by
  induction l with
  | nil => rfl
  | cons c r ih => simp only [flat, List.flatMap_cons, List.length_append, List.length_cons, List.length_nil] at *; omega
theorem flat_append (l m : List Cl) : flat (l ++ m) = flat l ++ flat m := by simp [flat]
theorem flat_cons (c : Cl) (l : List Cl) : flat (c :: l) = .int .i64 c.1 :: .int .i64 c.2 :: flat l := by simp [flat]
theorem flat_even {l : List Cl} {i : Nat} (h : i < l.length) : (flat l)[i * 2]? = some (.int .i64 (at_ l i).1) := by
  induction l generalizing i with
  | nil => simp at h
  | cons c r ih =>
    rw [flat_cons]
    cases i with
    | zero => simp [at_]
    | succ i =>
      rw [show (i + 1) * 2 = i * 2 + 1 + 1 by omega, List.getElem?_cons_succ, List.getElem?_cons_succ, ih (by simpa using h)]
      simp [at_]
theorem flat_odd {l : List Cl} {i : Nat} (h : i < l.length) : (flat l)[i * 2 + 1]? = some (.int .i64 (at_ l i).2) := by
  induction l generalizing i with
  | nil => simp at h
  | cons c r ih =>
    rw [flat_cons]
    cases i with
    | zero => simp [at_]
    | succ i =>
      rw [show (i + 1) * 2 + 1 = i * 2 + 1 + 1 + 1 by omega, List.getElem?_cons_succ, List.getElem?_cons_succ, ih (by simpa using h)]
      simp [at_]
theorem flat_one (l : List Cl) : ∀ u ∈ flat l, u.oneCell' = true := by
  intro u hu
  simp only [flat, List.mem_flatMap, List.mem_cons, List.not_mem_nil, or_false] at hu
  obtain ⟨c, _, rfl | rfl⟩ := hu <;> rfl
/-- Setting two values sets one cell. -/
theorem flat_set (l : List Cl) (i : Nat) (c : Cl) (h : i < l.length) : ((flat l).set (i * 2) (.int .i64 c.1)).set (i * 2 + 1) (.int .i64 c.2) = flat (l.set i c) := by
  induction l generalizing i with
  | nil => simp at h
  | cons d r ih =>
    cases i with
    | zero => simp [flat_cons]
    | succ i =>
      rw [flat_cons, show (i + 1) * 2 = i * 2 + 1 + 1 by omega, List.set_cons_succ, List.set_cons_succ, List.set_cons_succ, List.set_cons_succ, ih i (by simpa using h), List.set_cons_succ, flat_cons]

/-- The slice v owns the cells l, among the blocks from base on. -/
def OwnS (w : World) (base : Nat) (v : Value) (l : List Cl) : Prop := w.ownsRow base 29 2 v l.length (flat l)

theorem OwnS.nil (w : World) (base : Nat) : OwnS w base (.slice none 0 0) [] := World.ownsRow_nil w base 29 2
theorem OwnS.form {w : World} {base : Nat} {v : Value} {l : List Cl} (h : OwnS w base v l) : ∃ a cap, v = .slice a l.length cap ∧ Seg w a l := by
  have h0 := h
  rcases h.2 with ⟨rfl, hn⟩ | ⟨g, cap, cur, rfl, hb, hg, hcap, hm, hs, ht⟩
  · exact ⟨none, 0, by rw [hn], fun i hi => by omega⟩
  · refine ⟨some ⟨g, 0, none⟩, cap, rfl, fun i hi => ⟨g, 0, rfl, (Array.getElem?_eq_some_iff.1 hg).1, ?_, ?_⟩⟩
    · have := World.ownsRow.cellAt h0 (i * 2) (by omega)
      rw [flat_even hi] at this
      rw [show 0 + i * 2 = i * 2 by omega]
      exact this
    · have := World.ownsRow.cellAt h0 (i * 2 + 1) (by omega)
      rw [flat_odd hi] at this
      rw [show 0 + i * 2 + 1 = i * 2 + 1 by omega]
      exact this
theorem grown_of_below {w w' : World} (h : Below w.heap.size w w') (row : Option Nat) : w.grownBy w' row := ⟨h.os, h.tape, h.output, h.size, fun k hk _ => h.block k hk⟩
theorem OwnS.below {w w' : World} {base : Nat} {v : Value} {l : List Cl} (h : OwnS w base v l) (hb : Below w.heap.size w w') : OwnS w' base v l :=
  World.ownsRow.kept h (grown_of_below hb none) (by cases v.ownBlock <;> simp)
theorem OwnS.lt {w : World} {base : Nat} {v : Value} {l : List Cl} (h : OwnS w base v l) : ∀ k, v.ownBlock = some k → base ≤ k ∧ k < w.heap.size := World.ownsRow.lt h
theorem OwnS.mono {w : World} {base base' : Nat} {v : Value} {l : List Cl} (h : OwnS w base v l) (hb : base' ≤ base) : OwnS w base' v l := World.ownsRow.mono h hb

theorem flat_ext {l : List Cl} {xs : List Value} (hx : xs.length = l.length * 2) (h : ∀ i, i < l.length → xs[i * 2]? = some (.int .i64 (at_ l i).1) ∧ xs[i * 2 + 1]? = some (.int .i64 (at_ l i).2)) : xs = flat l := by
  apply List.ext_getElem?
  intro j
  by_cases hj : j < l.length * 2
  · have hi : j / 2 < l.length := by omega
    rcases (show j = j / 2 * 2 ∨ j = j / 2 * 2 + 1 by omega) with e | e
    · rw [e, (h _ hi).1, flat_even hi]
    · rw [e, (h _ hi).2, flat_odd hi]
  · rw [List.getElem?_eq_none (by omega), List.getElem?_eq_none (by rw [flat_length]; omega)]

/-- A row that was made whole is owned. -/
theorem Row.own {w : World} {g : Nat} {l : List Cl} (h : Row w g l) (hl : l.length ≤ 1048576) : OwnS w g (.slice (some ⟨g, 0, none⟩) l.length l.length) l := by
  obtain ⟨c, hb, hn, hc⟩ := h
  refine ⟨flat_length l, .inr ⟨g, l.length, c, rfl, Nat.le_refl _, hb, Nat.le_refl _, by unfold maxLen; omega, hn, ?_⟩⟩
  have hcl : c.toList.length = l.length * 2 := by simpa using hn
  refine flat_ext (by rw [List.length_take, hcl]; omega) fun i hi => ?_
  have e0 := hc (i * 2) (by omega)
  have e1 := hc (i * 2 + 1) (by omega)
  rw [List.getElem?_take_of_lt (by omega), List.getElem?_take_of_lt (by omega), Array.getElem?_toList, Array.getElem?_toList, e0, e1]
  have m0 : (i * 2) % 2 = 0 := by omega
  have m1 : (i * 2 + 1) % 2 = 1 := by omega
  have d0 : (i * 2) / 2 = i := by omega
  have d1 : (i * 2 + 1) / 2 = i := by omega
  simp [m0, m1, d0, d1, at_]

/-- Marks. -/
def marks (k : Int) (n : Nat) : List Cl := (List.range n).map fun i : Nat => (k + 2 * (i : Int), k + 2 * (i : Int) + 1)
theorem marks_length (k : Int) (n : Nat) : (marks k n).length = n := by simp [marks]
theorem marks_at {k : Int} {n i : Nat} (h : i < n) : at_ (marks k n) i = (k + 2 * (i : Int), k + 2 * (i : Int) + 1) := by simp [at_, marks, h]
/-- Cells of which the first i are marked. -/
def markTo (l : List Cl) (k : Int) (i : Nat) : List Cl := marks k i ++ l.drop i
theorem markTo_length {l : List Cl} {k : Int} {i : Nat} (h : i ≤ l.length) : (markTo l k i).length = l.length := by simp [markTo, marks_length]; omega
theorem markTo_succ {l : List Cl} {k : Int} {i : Nat} (h : i < l.length) : (markTo l k i).set i (k + 2 * (i : Int), k + 2 * (i : Int) + 1) = markTo l k (i + 1) := by
  unfold markTo
  rw [List.set_append_right _ _ (by rw [marks_length]; exact Nat.le_refl _), marks_length, Nat.sub_self]
  obtain ⟨x, r, e⟩ : ∃ x r, l.drop i = x :: r := by
    cases hd : l.drop i with
    | nil => have := congrArg List.length hd; simp at this; omega
    | cons x r => exact ⟨x, r, rfl⟩
  have e2 : l.drop (i + 1) = r := by rw [← List.drop_drop, e]; rfl
  rw [e, e2]
  simp [marks, List.range_succ]
theorem markTo_all (l : List Cl) (k : Int) : markTo l k l.length = marks k l.length := by simp [markTo]


theorem grown_trans {a b c : World} {row : Option Nat} (h : a.grownBy b row) (k : b.grownBy c row) : a.grownBy c row :=
  ⟨k.os.trans h.os, k.tape.trans h.tape, k.output.trans h.output, Nat.le_trans h.size k.size, fun i hi hn => (k.block i (Nat.lt_of_lt_of_le hi h.size) hn).trans (h.block i hi hn)⟩
theorem grown_refl (a : World) (row : Option Nat) : a.grownBy a row := ⟨rfl, rfl, rfl, Nat.le_refl _, fun _ _ _ => rfl⟩

theorem mark_step {W : World} {base g ca : Nat} {l : List Cl} {k : Int} {i : Nat} (h : OwnS W base (.slice (some ⟨g, 0, none⟩) l.length ca) (markTo l k i)) (hi : i < l.length) :
    OwnS ((W.setCell ⟨g, i * 2, none⟩ (.int .i64 (k + 2 * (i : Int)))).setCell ⟨g, i * 2 + 1, none⟩ (.int .i64 (k + 2 * (i : Int) + 1))) base (.slice (some ⟨g, 0, none⟩) l.length ca) (markTo l k (i + 1)) ∧
    W.grownBy ((W.setCell ⟨g, i * 2, none⟩ (.int .i64 (k + 2 * (i : Int)))).setCell ⟨g, i * 2 + 1, none⟩ (.int .i64 (k + 2 * (i : Int) + 1))) (some g) := by
  unfold OwnS at h ⊢
  rw [markTo_length (by omega)] at h ⊢
  obtain ⟨h1, g1⟩ := World.ownsRow.stored h (i * 2) (.int .i64 (k + 2 * (i : Int)))
  obtain ⟨h2, g2⟩ := World.ownsRow.stored h1 (i * 2 + 1) (.int .i64 (k + 2 * (i : Int) + 1))
  refine ⟨?_, grown_trans g1 g2⟩
  rw [← markTo_succ hi, ← flat_set _ _ _ (by rw [markTo_length (by omega)]; exact hi)]
  exact h2

end Go.Proofs.YtnabgfbempkgnaaDoor
