/- Plain facts on the text of runs. -/
import Derived.Test.YthmjcjcamcdpkaaDoorHas
import Derived.Lib.ItoaNum
namespace Go.Proofs.YthmjcjcamcdpkaaDoor
set_option linter.unusedVariables false

/-- A run of n signs b. -/
def runB (n : Nat) (b : UInt8) : List UInt8 := if n = 0 then [] else if n = 1 then [b] else Lib.decDigits n ++ [b]
theorem dec_small {n : Nat} (h : n < 10) : Lib.decDigits n = [UInt8.ofNat (48 + n)] := by rw [Lib.decDigits, dif_pos h]
theorem dec_big {n : Nat} (h : ¬ n < 10) : Lib.decDigits n = Lib.decDigits (n / 10) ++ [UInt8.ofNat (48 + n % 10)] := by rw [Lib.decDigits, dif_neg h]
theorem dec_len {n : Nat} (h : n < 100) : (Lib.decDigits n).length ≤ 2 := by
  by_cases h1 : n < 10
  · rw [dec_small h1]; simp
  · rw [dec_big h1, dec_small (by omega)]; simp
theorem runB_len {n : Nat} (b : UInt8) (h : n < 100) : (runB n b).length ≤ 3 := by
  unfold runB
  split
  · simp
  · split
    · simp
    · have := dec_len h
      simp; omega
/-- How long the run of cells is that begins at place i. -/
def sbGo (l : List Cl) (i : Nat) : Nat → Nat → Nat
  | 0, n => n
  | f + 1, n => if i + n < l.length ∧ at_ l (i + n) = ((at_ l i).1 + (n : Int), (at_ l i).2) then sbGo l i f (n + 1) else n
def sb (l : List Cl) (i : Nat) : Nat := sbGo l i l.length 1
theorem sbGo_ge (l : List Cl) (i : Nat) : ∀ f n, n ≤ sbGo l i f n
  | 0, n => Nat.le_refl _
  | f + 1, n => by
    unfold sbGo
    split
    · exact Nat.le_trans (Nat.le_succ n) (sbGo_ge l i f (n + 1))
    · exact Nat.le_refl _
theorem sbGo_run (l : List Cl) (i : Nat) : ∀ f n, (∀ t, t < n → at_ l (i + t) = ((at_ l i).1 + (t : Int), (at_ l i).2)) → ∀ t, t < sbGo l i f n → at_ l (i + t) = ((at_ l i).1 + (t : Int), (at_ l i).2)
  | 0, n, h => h
  | f + 1, n, h => by
    unfold sbGo
    split
    · rename_i hc
      refine sbGo_run l i f (n + 1) (fun t ht => ?_)
      by_cases e : t = n
      · rw [e]; exact hc.2
      · exact h t (by omega)
    · exact h
theorem sbGo_le (l : List Cl) (i : Nat) : ∀ f n, i + n ≤ l.length → i + sbGo l i f n ≤ l.length
  | 0, n, h => h
  | f + 1, n, h => by
    unfold sbGo
    split
    · rename_i hc
      exact sbGo_le l i f (n + 1) (by omega)
    · exact h
theorem sbGo_stop (l : List Cl) (i : Nat) : ∀ f n, ¬ (i + n < l.length ∧ at_ l (i + n) = ((at_ l i).1 + (n : Int), (at_ l i).2)) → sbGo l i f n = n
  | 0, n, _ => rfl
  | f + 1, n, h => by unfold sbGo; rw [if_neg h]
theorem sb_ge (l : List Cl) (i : Nat) : 1 ≤ sb l i := sbGo_ge l i _ 1
theorem sb_le {l : List Cl} {i : Nat} (h : i < l.length) : i + sb l i ≤ l.length := sbGo_le l i _ 1 (by omega)
theorem sb_run (l : List Cl) (i : Nat) : ∀ t, t < sb l i → at_ l (i + t) = ((at_ l i).1 + (t : Int), (at_ l i).2) :=
  sbGo_run l i _ 1 (fun t ht => by obtain rfl : t = 0 := by omega
                                   simp)
/-- What a run's row and the rows ahead of it make of the place that was reached. -/
def xOf (c : Cl) (x y : Int) : Int := if y < c.2 then 0 else x
def yOf (c : Cl) (y : Int) : Int := if y < c.2 then c.2 else y
def rowB (c : Cl) (y : Int) : List UInt8 := if y < c.2 then runB (c.2 - y).toNat 36 else []
/-- The text from place i on, x and y having been reached. -/
def runsGo (l : List Cl) : Nat → Nat → Int → Int → List UInt8
  | 0, _, _, _ => [33]
  | f + 1, i, x, y => if i < l.length then rowB (at_ l i) y ++ runB ((at_ l i).1 - xOf (at_ l i) x y).toNat 98 ++ runB (sb l i) 111 ++ runsGo l f (i + sb l i) ((at_ l i).1 + (sb l i : Int)) (yOf (at_ l i) y) else [33]
/-- The text of cells. -/
def runs (l : List Cl) : List UInt8 := runsGo l l.length 0 0 0
theorem runsGo_end {l : List Cl} {f i : Nat} {x y : Int} (h : ¬ i < l.length) : runsGo l f i x y = [33] := by
  cases f with
  | zero => rfl
  | succ f => simp [runsGo, h]
/-- Are the cells such as have a text? -/
def inT (c : Cl) : Bool := decide (0 ≤ c.1) && decide (c.1 ≤ 30) && decide (0 ≤ c.2) && decide (c.2 ≤ 30)
def inTTo (l : List Cl) (k : Nat) : Bool := (List.range k).all fun i => inT (at_ l i)
theorem inTTo_succ (l : List Cl) (k : Nat) : inTTo l (k + 1) = (inTTo l k && inT (at_ l k)) := by simp [inTTo, List.range_succ]
theorem inTTo_false {l : List Cl} {k n : Nat} (h : k < n) (hk : inT (at_ l k) = false) : inTTo l n = false := by
  simp only [inTTo, List.all_eq_false]
  exact ⟨k, List.mem_range.2 h, by simp [hk]⟩
theorem inTTo_at {l : List Cl} {n : Nat} (h : inTTo l n = true) {i : Nat} (hi : i < n) : 0 ≤ (at_ l i).1 ∧ (at_ l i).1 ≤ 30 ∧ 0 ≤ (at_ l i).2 ∧ (at_ l i).2 ≤ 30 := by
  simp only [inTTo, List.all_eq_true] at h
  have := h i (List.mem_range.2 hi)
  simp [inT] at this
  omega
/-- Cells that have a text: in order, within its bounds, not too many. -/
structure TextL (l : List Cl) : Prop where
  len : l.length ≤ 120
  ris : risTo l l.length = true
  inn : inTTo l l.length = true
/-- x and y have been reached ahead of place i. -/
def Rch (l : List Cl) (i : Nat) (x y : Int) : Prop := 0 ≤ x ∧ 0 ≤ y ∧ (i < l.length → y < (at_ l i).2 ∨ (y = (at_ l i).2 ∧ x ≤ (at_ l i).1))
theorem ris_succ {l : List Cl} (h : risTo l l.length = true) {i : Nat} (hi : i + 1 < l.length) : ltC (at_ l i) (at_ l (i + 1)) = true := by
  simp only [risTo, List.all_eq_true] at h
  have := h (i + 1) (List.mem_range.2 hi)
  simpa using this
theorem sb_bd {l : List Cl} (h : TextL l) {i : Nat} (hi : i < l.length) : (at_ l i).1 + (sb l i : Int) ≤ 31 := by
  have h1 := sb_ge l i
  have h2 := sb_le hi
  have h3 := sb_run l i (sb l i - 1) (by omega)
  have h4 := (inTTo_at h.inn (i := i + (sb l i - 1)) (by omega)).2.1
  rw [h3] at h4
  simp only at h4
  omega
theorem rch_step {l : List Cl} (h : TextL l) {i : Nat} (hi : i < l.length) {x y : Int} (hr : Rch l i x y) :
    Rch l (i + sb l i) ((at_ l i).1 + (sb l i : Int)) (yOf (at_ l i) y) ∧ yOf (at_ l i) y = (at_ l i).2 ∧ 0 ≤ (at_ l i).1 - xOf (at_ l i) x y ∧ (at_ l i).1 - xOf (at_ l i) x y ≤ 30 := by
  obtain ⟨hx, hy, hj⟩ := hr
  have hb := inTTo_at h.inn hi
  have hyc : yOf (at_ l i) y = (at_ l i).2 := by
    unfold yOf
    split
    · rfl
    · have := hj hi; omega
  refine ⟨⟨by omega, by omega, fun hn => ?_⟩, hyc, ?_⟩
  · rw [hyc]
    have h1 := sb_ge l i
    have h3 := sb_run l i (sb l i - 1) (by omega)
    have h4 := ris_succ h.ris (i := i + (sb l i - 1)) (by omega)
    rw [h3, show i + (sb l i - 1) + 1 = i + sb l i by omega] at h4
    simp [ltC] at h4
    omega
  · unfold xOf
    split
    · omega
    · have := hj hi; omega
end Go.Proofs.YthmjcjcamcdpkaaDoor
