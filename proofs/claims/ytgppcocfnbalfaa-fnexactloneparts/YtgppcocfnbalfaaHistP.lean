/- What comes after 0, 1 and more steps, as lists alone; the first place where something is so. -/
import Derived.Test.YtgppcocfnbalfaaTimes
import Derived.Test.YtgppcocfnbalfaaWdP
namespace Go.Proofs.Ytgppcocfnbalfaa
open Go.RowKit
set_option linter.unusedVariables false

/-- The list at a place of a list of lists. -/
def ht (H : List (List Cl)) (i : Nat) : List Cl := H.getD i []
theorem ht_get {H : List (List Cl)} {i : Nat} (h : i < H.length) : H[i]? = some (ht H i) := by simp [ht, h]
theorem ht_mem {H : List (List Cl)} {m : List Cl} (h : m ∈ H) : ∃ i, i < H.length ∧ ht H i = m := by
  obtain ⟨i, hi, e⟩ := List.mem_iff_getElem.1 h
  exact ⟨i, hi, by simp [ht, hi, e]⟩
theorem ht_in {H : List (List Cl)} {i : Nat} (h : i < H.length) : ht H i ∈ H := by simp [ht, h]

/-- Cells after 0, 1 and more steps, as long as they are good. -/
noncomputable def hist : Nat → List Cl → List (List Cl)
  | 0, l => [l]
  | n + 1, l => l :: (match nxtO l with | none => [] | some m => hist n m)

theorem hist_none {n : Nat} {l : List Cl} (h : nxtO l = none) : hist n l = [l] := by
  cases n with
  | zero => rfl
  | succ n => simp [hist, h]
theorem hist_some {n : Nat} {l m : List Cl} (h : nxtO l = some m) : hist (n + 1) l = l :: hist n m := by simp [hist, h]
theorem hist_zero (l : List Cl) : hist 0 l = [l] := rfl
theorem hist_le : ∀ (n : Nat) (l : List Cl), (hist n l).length ≤ n + 1
  | 0, l => by simp [hist]
  | n + 1, l => by
    cases h : nxtO l with
    | none => rw [hist_none h]; simp
    | some m => rw [hist_some h]; have := hist_le n m; simp; omega
theorem hist_pos (n : Nat) (l : List Cl) : 0 < (hist n l).length := by
  cases n <;> simp [hist]
theorem hist_first (n : Nat) (l : List Cl) : ht (hist n l) 0 = l := by
  cases n <;> simp [hist, ht]
theorem hist_good : ∀ {n : Nat} {l : List Cl}, good l = true → ∀ m ∈ hist n l, good m = true
  | 0, l, hg, m, hm => by simp [hist] at hm; rw [hm]; exact hg
  | n + 1, l, hg, m, hm => by
    cases h : nxtO l with
    | none => rw [hist_none h] at hm; simp at hm; rw [hm]; exact hg
    | some k =>
      rw [hist_some h] at hm
      rcases List.mem_cons.1 hm with e | e
      · rw [e]; exact hg
      · exact hist_good (nxtO_good h) m e
theorem hist_times : ∀ {n : Nat} {l : List Cl} {k : Nat}, k < (hist n l).length → timesO k l = some (ht (hist n l) k)
  | n, l, 0, _ => by rw [hist_first]; rfl
  | 0, l, k + 1, h => by simp [hist] at h
  | n + 1, l, k + 1, h => by
    cases e : nxtO l with
    | none => rw [hist_none e] at h; simp at h
    | some m =>
      rw [hist_some e] at h ⊢
      have := hist_times (n := n) (l := m) (k := k) (by simp at h; omega)
      simp only [timesO, e]
      show timesO k m = _
      rw [this]
      simp [ht]
theorem hist_has : ∀ {n : Nat} {l m : List Cl} {k : Nat}, k ≤ n → timesO k l = some m → k < (hist n l).length
  | n, l, m, 0, _, _ => hist_pos n l
  | 0, l, m, k + 1, h, _ => by omega
  | n + 1, l, m, k + 1, h, ht => by
    cases e : nxtO l with
    | none => simp [timesO, e] at ht
    | some r =>
      rw [hist_some e]
      have := hist_has (n := n) (l := r) (m := m) (k := k) (by omega) (by simpa [timesO, e] using ht)
      simp; omega
theorem hist_full (n : Nat) (l : List Cl) : (hist n l).length = n + 1 ↔ (timesO n l).isSome = true := by
  constructor
  · intro h
    rw [hist_times (n := n) (k := n) (by omega)]; rfl
  · intro h
    obtain ⟨m, hm⟩ := Option.isSome_iff_exists.1 h
    have := hist_has (n := n) (Nat.le_refl n) hm
    have := hist_le n l
    omega

/-! ### The first place where something is so -/
def fstAt (p : Nat → Bool) (n : Nat) : Option Nat := (List.range n).find? p
theorem fstAt_none {p : Nat → Bool} {n : Nat} (h : ∀ k, k < n → p k = false) : fstAt p n = none := by
  unfold fstAt
  rw [List.find?_eq_none]
  intro k hk
  rw [h k (List.mem_range.1 hk)]
  simp
theorem fstAt_some {p : Nat → Bool} {n k : Nat} (hk : k < n) (hp : p k = true) (h : ∀ j, j < k → p j = false) : fstAt p n = some k := by
  unfold fstAt
  rw [List.find?_range_eq_some]
  exact ⟨hp, List.mem_range.2 hk, fun j hj => by simp [h j hj]⟩
theorem fstAt_is {p : Nat → Bool} {n k : Nat} (h : fstAt p n = some k) : k < n ∧ p k = true ∧ ∀ j, j < k → p j = false := by
  unfold fstAt at h
  rw [List.find?_range_eq_some] at h
  exact ⟨List.mem_range.1 h.2.1, h.1, fun j hj => by have := h.2.2 j hj; simpa using this⟩
theorem fstAt_no {p : Nat → Bool} {n : Nat} (h : fstAt p n = none) : ∀ k, k < n → p k = false := by
  intro k hk
  unfold fstAt at h
  rw [List.find?_eq_none] at h
  have := h k (List.mem_range.2 hk)
  simpa using this
/-- A number or nought, and whether there is one. -/
def oN (o : Option Nat) : Int := ((o.getD 0 : Nat) : Int)

/-! ### What chapter 7 answers -/
/-- A number of steps in 1 to 20. -/
def inMo (t : Int) : Bool := decide (1 ≤ t) && decide (t ≤ 20)
theorem inMo_bd {t : Int} (h : inMo t = true) : 1 ≤ t ∧ t ≤ 20 := by simp [inMo] at h; exact h
/-- What comes of good cells, where they and the number of steps are as they are to be; nothing else. -/
noncomputable def histG (l : List Cl) (t : Int) : List (List Cl) := if good l && inMo t then hist t.toNat l else []
theorem histG_len (l : List Cl) (t : Int) : (histG l t).length ≤ 21 := by
  unfold histG; split
  · rename_i h
    rw [Bool.and_eq_true] at h
    have := inMo_bd h.2
    have := hist_le t.toNat l
    omega
  · simp
noncomputable def perO (l : List Cl) (t : Int) : Option Nat := fstAt (fun k => decide (0 < k) && decide (ht (histG l t) k = l)) (histG l t).length
noncomputable def dieO (l : List Cl) (t : Int) : Option Nat := fstAt (fun k => decide ((ht (histG l t) k).length = 0)) (histG l t).length

end Go.Proofs.Ytgppcocfnbalfaa
