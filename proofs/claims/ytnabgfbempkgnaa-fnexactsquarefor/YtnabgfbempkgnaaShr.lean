/- What quads a quad is made of: plain facts, and what both SharedIn answer. -/
import Derived.Test.YtnabgfbempkgnaaPut
import Derived.Test.YtnabgfbempkgnaaCellQ
import Derived.Test.YtnabgfbempkgnaaLev
import Derived.Test.YtnabgfbempkgnaaCellI
namespace Go.Proofs.Ytnabgfbempkgnaa
open Go.RowKit Go.Maps
set_option linter.unusedVariables false
set_option linter.unusedSimpArgs false
attribute [local go_sem ↓] Go.wp_at_zero Go.wp_at_succ

/-- The quads that q is made of. -/
inductive Reach (F : List Qd) (q : Nat) : Nat → Prop
  | self : Reach F q q
  | kid {x i : Nat} : Reach F q x → 2 ≤ x → i < 4 → Reach F q (kidq F x i)
theorem Reach.trans {F : List Qd} {a b c : Nat} (h : Reach F a b) (k : Reach F b c) : Reach F a c := by
  induction k with
  | self => exact h
  | kid _ h2 hi ih => exact .kid ih h2 hi
theorem Reach.le {F : List Qd} (hg : goodF F = true) {q x : Nat} (h : Reach F q x) (hq : q < F.length) : x ≤ q := by
  induction h with
  | self => exact Nat.le_refl _
  | kid _ h2 hi ih => have := kid_lt hg (Nat.lt_of_le_of_lt ih hq) h2 hi; omega
theorem Reach.low {F : List Qd} (hg : goodF F = true) {q x : Nat} (hq : q < 2) (h : Reach F q x) : x = q := by
  induction h with
  | self => rfl
  | kid _ h2 hi ih => omega
/-- From q on: q itself, or what comes of a kid. -/
theorem reach_cases {F : List Qd} {q x : Nat} (h : Reach F q x) : x = q ∨ (2 ≤ q ∧ ∃ i, i < 4 ∧ Reach F (kidq F q i) x) := by
  induction h with
  | self => exact .inl rfl
  | kid hr h2 hi ih =>
    rename_i y j
    rcases ih with rfl | ⟨hq, i, hi', hr'⟩
    · exact .inr ⟨h2, j, hi, .self⟩
    · exact .inr ⟨hq, i, hi', .kid hr' h2 hi⟩
theorem reach_kid {F : List Qd} {q i x : Nat} (h2 : 2 ≤ q) (hi : i < 4) (h : Reach F (kidq F q i) x) : Reach F q x := (Reach.kid .self h2 hi).trans h

/-- The numbers of the quads that q is made of, rising. -/
noncomputable def shrL (F : List Qd) (q : Nat) : List Int := open Classical in if h : ∃ l, Asc l ∧ ∀ x, x ∈ l ↔ ∃ n : Nat, x = n ∧ Reach F q n then Classical.choose h else []
theorem shrL_eq {F : List Qd} {q : Nat} {l : List Int} (h1 : Asc l) (h2 : ∀ x, x ∈ l ↔ ∃ n : Nat, x = n ∧ Reach F q n) : shrL F q = l := by
  unfold shrL
  have h : ∃ l, Asc l ∧ ∀ x, x ∈ l ↔ ∃ n : Nat, x = n ∧ Reach F q n := ⟨l, h1, h2⟩
  rw [dif_pos h]
  exact asc_unique (Classical.choose_spec h).1 h1 (fun c => ((Classical.choose_spec h).2 c).trans (h2 c).symm)
/-- The numbers that SharedIn tells. -/
noncomputable def shrV (F : List Qd) (q : Int) : List Int := if thereB F q then shrL F q.toNat else []

/-- Marks while the program goes down: all that is marked is reached, q is marked, and of what lies behind n each marked quad's kids are marked. -/
structure Down (F : List Qd) (q n : Nat) (u : Nat → Bool) : Prop where
  reach : ∀ x, x ≤ q → u x = true → Reach F q x
  self : u q = true
  kids : ∀ y, n < y → y ≤ q → 2 ≤ y → u y = true → ∀ i, i < 4 → u (kidq F y i) = true
theorem Down.done {F : List Qd} (hg : goodF F = true) {q : Nat} (hq : q < F.length) {u : Nat → Bool} (h : Down F q 1 u) : ∀ x, x ≤ q → (u x = true ↔ Reach F q x) := by
  intro x hx
  refine ⟨h.reach x hx, fun hr => ?_⟩
  induction hr with
  | self => exact h.self
  | kid hr h2 hi ih =>
    have hle := hr.le hg hq
    exact h.kids _ (by omega) hle h2 (ih hle) _ hi
/-- Those of the first k numbers that are marked. -/
def gotTo (u : Nat → Bool) : Nat → List Int
  | 0 => []
  | k + 1 => if u k then gotTo u k ++ [(k : Int)] else gotTo u k
theorem gotTo_mem (u : Nat → Bool) : ∀ (k : Nat) (x : Int), x ∈ gotTo u k ↔ ∃ n : Nat, x = n ∧ n < k ∧ u n = true
  | 0, x => by simp [gotTo]
  | k + 1, x => by
    have ih := gotTo_mem u k x
    simp only [gotTo]
    by_cases h : u k = true
    · rw [if_pos h, List.mem_append, ih]
      constructor
      · rintro (⟨n, h1, h2, h3⟩ | h1)
        · exact ⟨n, h1, by omega, h3⟩
        · simp at h1; exact ⟨k, h1, by omega, h⟩
      · rintro ⟨n, h1, h2, h3⟩
        by_cases e : n = k
        · subst e; right; simp [h1]
        · exact .inl ⟨n, h1, by omega, h3⟩
    · rw [if_neg h, ih]
      constructor
      · rintro ⟨n, h1, h2, h3⟩; exact ⟨n, h1, by omega, h3⟩
      · rintro ⟨n, h1, h2, h3⟩
        by_cases e : n = k
        · subst e; exact absurd h3 h
        · exact ⟨n, h1, by omega, h3⟩
theorem gotTo_asc (u : Nat → Bool) : ∀ k, Asc (gotTo u k)
  | 0 => List.Pairwise.nil
  | k + 1 => by
    simp only [gotTo]
    split
    · show List.Pairwise _ _
      rw [List.pairwise_append]
      refine ⟨gotTo_asc u k, List.pairwise_singleton _ _, fun x hx y hy => ?_⟩
      obtain ⟨n, rfl, hn, _⟩ := (gotTo_mem u k x).1 hx
      simp at hy; omega
    · exact gotTo_asc u k
theorem gotTo_len (u : Nat → Bool) : ∀ k, (gotTo u k).length ≤ k
  | 0 => by simp [gotTo]
  | k + 1 => by
    have := gotTo_len u k
    simp only [gotTo]
    split
    · simp; omega
    · omega

theorem info_bool : (Try.prog.info? 4).map (fun i => (i.zero, i.size, i.bytes)) = some (some (.bool false), 1, 1) := by kernel_rfl
/-- Marks, all of block g. -/
def BRow (w : World) (g n : Nat) (u : Nat → Bool) : Prop := w.rowIs g 4 n (fun j => .bool (u j))
theorem BRow.put {w : World} {g n : Nat} {u : Nat → Bool} (h : BRow w g n u) (i : Nat) : BRow (w.setCell ⟨g, i, none⟩ (.bool true)) g n (fun j => if j = i then true else u j) := by
  refine (World.rowIs.set h i (.bool true)).congr fun j hj => ?_
  by_cases e : j = i <;> simp [e]

end Go.Proofs.Ytnabgfbempkgnaa
