/- Plain facts on lists of cells: good ones, by their first k places. -/
import Derived.Test.YtgfdkolhldbehaaLeaf
namespace Go.Proofs.Ytgfdkolhldbehaa

abbrev Cl := Int × Int
/-- The cell at a place. -/
def at_ (l : List Cl) (i : Nat) : Cl := l.getD i (0, 0)
/-- Are the first k cells within reach? -/
def allTo (l : List Cl) (k : Nat) : Bool := (List.range k).all fun i => inR (at_ l i)
/-- Does each of the first k cells (but the first) stand behind the one ahead of it? -/
def risTo (l : List Cl) (k : Nat) : Bool := (List.range k).all fun i => decide (i = 0) || ltC (at_ l (i - 1)) (at_ l i)
/-- Good cells. -/
def good (l : List Cl) : Bool := decide (l.length ≤ 120) && allTo l l.length && risTo l l.length

theorem allTo_succ (l : List Cl) (k : Nat) : allTo l (k + 1) = (allTo l k && inR (at_ l k)) := by simp [allTo, List.range_succ]
theorem risTo_succ (l : List Cl) (k : Nat) : risTo l (k + 1) = (risTo l k && (decide (k = 0) || ltC (at_ l (k - 1)) (at_ l k))) := by simp [risTo, List.range_succ]
theorem allTo_false {l : List Cl} {k n : Nat} (h : k < n) (hk : inR (at_ l k) = false) : allTo l n = false := by
  simp only [allTo, List.all_eq_false]
  exact ⟨k, List.mem_range.2 h, by simp [hk]⟩
theorem risTo_false {l : List Cl} {k n : Nat} (h : k < n) (h0 : 0 < k) (hk : ltC (at_ l (k - 1)) (at_ l k) = false) : risTo l n = false := by
  simp only [risTo, List.all_eq_false]
  exact ⟨k, List.mem_range.2 h, by simp [hk]; omega⟩
theorem cmpC_lt (a b : Cl) : decide (0 ≤ cmpC a b) = !ltC a b := by
  obtain ⟨x, y⟩ := a
  obtain ⟨u, v⟩ := b
  by_cases h : y = v
  · by_cases h1 : x < u
    · simp [cmpC, cmpI, ltC, h, h1]
    · by_cases h2 : u < x <;> simp [cmpC, cmpI, ltC, h, h1, h2] <;> omega
  · by_cases h1 : y < v
    · simp [cmpC, cmpI, ltC, h, h1]
    · by_cases h2 : v < y <;> simp [cmpC, cmpI, ltC, h, h1, h2] <;> omega
theorem good_len {l : List Cl} (h : good l = true) : l.length ≤ 120 := by simp [good] at h; exact h.1.1
end Go.Proofs.Ytgfdkolhldbehaa
