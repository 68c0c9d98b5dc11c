/- LoneParts: what it answers. A list grows while it is gone through; what it grows by is taken out of the rest. -/
import Derived.Test.YtgppcocfnbalfaaApp
namespace Go.Proofs.Ytgppcocfnbalfaa
open Go.RowKit
set_option linter.unusedVariables false
set_option linter.unusedSimpArgs false

/-- Each of the two differences is 2 at most. -/
def joined (a b : Cl) : Bool := decide (-2 ≤ a.1 - b.1) && decide (a.1 - b.1 ≤ 2) && (decide (-2 ≤ a.2 - b.2) && decide (a.2 - b.2 ≤ 2))
theorem joined_comm (a b : Cl) : joined a b = joined b a := by
  rw [Bool.eq_iff_iff]; simp only [joined, Bool.and_eq_true, decide_eq_true_eq]; omega

/-- The part from its place i on, and the rest. -/
def grow : Nat → Nat → List Cl → List Cl → List Cl × List Cl
  | 0, _, p, r => (p, r)
  | n + 1, i, p, r => if i < p.length then grow n (i + 1) (p ++ r.filter (joined (at_ p i))) (r.filter fun x => !joined (at_ p i) x) else (p, r)
def grown (i : Nat) (p r : List Cl) : List Cl × List Cl := grow (p.length + r.length - i) i p r

theorem filter_two (f : Cl → Bool) : ∀ r : List Cl, (r.filter f).length + (r.filter fun x => !f x).length = r.length
  | [] => rfl
  | x :: r => by
    have ih := filter_two f r
    cases h : f x <;> simp [List.filter_cons, h] <;> omega
theorem grown_step {i : Nat} {p r : List Cl} (h : i < p.length) :
    grown i p r = grown (i + 1) (p ++ r.filter (joined (at_ p i))) (r.filter fun x => !joined (at_ p i) x) := by
  have h2 := filter_two (joined (at_ p i)) r
  unfold grown
  rw [show p.length + r.length - i = (p.length + r.length - i - 1) + 1 by omega, grow, if_pos h]
  congr 1
  rw [List.length_append]; omega
theorem grown_end (p r : List Cl) : grown p.length p r = (p, r) := by
  unfold grown
  cases h : p.length + r.length - p.length with
  | zero => rfl
  | succ n => rw [grow, if_neg (Nat.lt_irrefl _)]
/-- Induction along the growing. -/
theorem grown_ind (P : Nat → List Cl → List Cl → Prop) (hs : ∀ i p r, i < p.length → P i p r → P (i + 1) (p ++ r.filter (joined (at_ p i))) (r.filter fun x => !joined (at_ p i) x)) :
    ∀ (n i : Nat) (p r : List Cl), p.length + r.length - i = n → i ≤ p.length → P i p r → P (grown i p r).1.length (grown i p r).1 (grown i p r).2
  | 0, i, p, r, hn, hi, h => by
    have e : i = p.length := by omega
    subst e; rw [grown_end]; exact h
  | n + 1, i, p, r, hn, hi, h => by
    by_cases e : i = p.length
    · subst e; rw [grown_end]; exact h
    · have hlt : i < p.length := by omega
      have h2 := filter_two (joined (at_ p i)) r
      rw [grown_step hlt]
      exact grown_ind P hs n _ _ _ (by rw [List.length_append]; omega) (by rw [List.length_append]; omega) (hs i p r hlt h)
theorem grown_to (P : Nat → List Cl → List Cl → Prop) (hs : ∀ i p r, i < p.length → P i p r → P (i + 1) (p ++ r.filter (joined (at_ p i))) (r.filter fun x => !joined (at_ p i) x))
    {i : Nat} {p r : List Cl} (hi : i ≤ p.length) (h : P i p r) : P (grown i p r).1.length (grown i p r).1 (grown i p r).2 := grown_ind P hs _ i p r rfl hi h

theorem grown_len {i : Nat} {p r : List Cl} (hi : i ≤ p.length) : (grown i p r).1.length + (grown i p r).2.length = p.length + r.length := by
  refine grown_to (fun _ q s => q.length + s.length = p.length + r.length) (fun j q s _ h => ?_) hi rfl
  have h2 := filter_two (joined (at_ q j)) s
  rw [List.length_append]; omega
/-- The part grows behind. -/
theorem grown_pre {i : Nat} {p r : List Cl} (hi : i ≤ p.length) : p <+: (grown i p r).1 := by
  refine grown_to (fun _ q s => p <+: q) (fun j q s _ h => h.trans (List.prefix_append _ _)) hi (List.prefix_refl _)
/-- What is left is joined to no cell of the part. -/
theorem grown_apart {p r : List Cl} : ∀ y ∈ (grown 0 p r).1, ∀ x ∈ (grown 0 p r).2, joined y x = false := by
  have h := grown_to (fun i q s => ∀ j, j < i → ∀ x ∈ s, joined (at_ q j) x = false) (fun i q s hi h j hj x hx => by
    rw [List.mem_filter] at hx
    have e : at_ (q ++ s.filter (joined (at_ q i))) j = at_ q j := by
      have : j < q.length := by omega
      simp [at_, List.getElem?_append_left this]
    rw [e]
    by_cases hji : j = i
    · subst hji; simpa using hx.2
    · exact h j (by omega) x hx.1) (i := 0) (p := p) (r := r) (Nat.zero_le _) (fun j hj => absurd hj (Nat.not_lt_zero _))
  intro y hy x hx
  obtain ⟨j, hj, e⟩ := List.getElem_of_mem hy
  have := h j hj x hx
  simpa [at_, hj, e] using this
/-- What is left are those of the rest that the part has not, in their order. -/
theorem grown_rest {p r : List Cl} (hn : (p ++ r).Nodup) : (grown 0 p r).2 = r.filter (fun x => decide (x ∉ (grown 0 p r).1)) ∧ ((grown 0 p r).1 ++ (grown 0 p r).2).Nodup ∧ ∀ x, x ∈ (grown 0 p r).1 ++ (grown 0 p r).2 ↔ x ∈ p ++ r := by
  refine grown_to (fun _ q s => s = r.filter (fun x => decide (x ∉ q)) ∧ (q ++ s).Nodup ∧ ∀ x, x ∈ q ++ s ↔ x ∈ p ++ r) (fun i q s hi ⟨h1, h2, h3⟩ => ?_) (Nat.zero_le _) ⟨?_, hn, fun x => Iff.rfl⟩
  · have hperm : (q ++ s.filter (joined (at_ q i)) ++ s.filter (fun x => !joined (at_ q i) x)).Perm (q ++ s) := by
      rw [List.append_assoc]
      exact List.Perm.append_left q (List.filter_append_perm _ _)
    refine ⟨?_, hperm.nodup_iff.2 h2, fun x => (hperm.mem_iff).trans (h3 x)⟩
    rw [h1, List.filter_filter]
    apply List.filter_congr
    intro x hx
    by_cases hq : x ∈ q
    · simp [hq]
    · cases hj : joined (at_ q i) x
      · simp [hq, hj]
      · simp [hq, hj, hx]
  · rw [List.filter_eq_self.2]
    intro x hx
    simp only [decide_eq_true_eq]
    intro hp
    exact (List.nodup_append.1 hn).2.2 x hp x hx rfl

/-- The parts of what is left, each in the order of l. -/
def partsGo (l : List Cl) : Nat → List Cl → List (List Cl)
  | n + 1, c :: r => l.filter (fun x => decide (x ∈ (grown 0 [c] r).1)) :: partsGo l n (grown 0 [c] r).2
  | _, _ => []
def partsOf (l r : List Cl) : List (List Cl) := partsGo l r.length r
theorem grown_left (c : Cl) (r : List Cl) : (grown 0 [c] r).2.length ≤ r.length := by
  have h := grown_len (i := 0) (p := [c]) (r := r) (Nat.zero_le _)
  have h2 := (grown_pre (i := 0) (p := [c]) (r := r) (Nat.zero_le _)).length_le
  simp only [List.length_cons, List.length_nil] at h h2
  omega
theorem partsGo_more (l : List Cl) : ∀ (n : Nat) (r : List Cl), r.length ≤ n → partsGo l n r = partsGo l r.length r
  | n, [], _ => by cases n <;> rfl
  | 0, c :: r, h => by simp at h
  | n + 1, c :: r, h => by
    have h1 := grown_left c r
    simp only [List.length_cons] at h ⊢
    rw [partsGo, partsGo, partsGo_more l n _ (by omega), ← partsGo_more l r.length _ h1]
theorem parts_nil (l : List Cl) : partsOf l [] = [] := rfl
theorem parts_cons (l : List Cl) (c : Cl) (r : List Cl) : partsOf l (c :: r) = l.filter (fun x => decide (x ∈ (grown 0 [c] r).1)) :: partsOf l (grown 0 [c] r).2 := by
  have h1 := grown_left c r
  rw [partsOf, List.length_cons, partsGo, partsGo_more l r.length _ h1, partsOf]
theorem parts_len (l : List Cl) : ∀ (n : Nat) (r : List Cl), (partsGo l n r).length ≤ n
  | 0, r => by cases r <;> simp [partsGo]
  | n + 1, [] => by simp [partsGo]
  | n + 1, c :: r => by
    rw [partsGo, List.length_cons]
    have := parts_len l n (grown 0 [c] r).2
    omega
theorem parts_each (l : List Cl) : ∀ (n : Nat) (r : List Cl), ∀ x ∈ partsGo l n r, x.length ≤ l.length
  | 0, r, x, h => by cases r <;> simp [partsGo] at h
  | n + 1, [], x, h => by simp [partsGo] at h
  | n + 1, c :: r, x, h => by
    rw [partsGo, List.mem_cons] at h
    rcases h with rfl | h
    · exact List.length_filter_le _ _
    · exact parts_each l n _ x h
/-- What LoneParts answers. -/
def lpL (l : List Cl) : List (List Cl) := if good l then partsOf l l else []
theorem lpL_len (l : List Cl) : (lpL l).length ≤ 120 := by
  unfold lpL; split
  · rename_i h
    have h1 := parts_len l l.length l
    have h2 := good_le h
    unfold partsOf; omega
  · simp
theorem lpL_mem {l : List Cl} {x : List Cl} (h : x ∈ lpL l) : x.length ≤ 120 := by
  unfold lpL at h; split at h
  · rename_i hg
    have h1 := parts_each l _ _ x h
    have h2 := good_le hg
    omega
  · simp at h

/-! The specification's growing: over all of l, passing over what the part has. -/
/-- What a cell brings in. -/
def brings (l p : List Cl) (c : Cl) : List Cl := l.filter fun x => joined x c && decide (x ∉ p)
theorem brings_take {l p : List Cl} {c : Cl} {k : Nat} (hk : k < l.length) (hn : l.Nodup) :
    decide (at_ l k ∈ p ++ brings (l.take k) p c) = decide (at_ l k ∈ p) := by
  have e : at_ l k = l[k] := by simp [at_, hk]
  have hx : at_ l k ∉ l.take k := by
    rw [e]
    intro h
    obtain ⟨j, hj, ej⟩ := List.getElem_of_mem h
    rw [List.length_take] at hj
    rw [List.getElem_take] at ej
    rw [List.nodup_iff_pairwise_ne, List.pairwise_iff_getElem] at hn
    exact hn j k (by omega) hk (by omega) ej
  have : at_ l k ∉ brings (l.take k) p c := fun h => hx (List.mem_filter.1 h).1
  simp [this]
theorem brings_succ {l p : List Cl} {c : Cl} {k : Nat} (hk : k < l.length) :
    brings (l.take (k + 1)) p c = brings (l.take k) p c ++ (if joined (at_ l k) c && decide (at_ l k ∉ p) then [at_ l k] else []) := by
  have e : at_ l k = l[k] := by simp [at_, hk]
  rw [brings, List.take_succ_eq_append_getElem hk, List.filter_append, ← e]
  congr 1
  cases h : (joined (at_ l k) c && decide (at_ l k ∉ p)) <;> (simp [List.filter_cons]; simpa using h)
/-- It brings in what the rest has, where the cells that are done lie apart. -/
theorem brings_rest {l d p s : List Cl} {c : Cl} (hc : c ∈ p) (hs : s = l.filter fun x => decide (x ∉ d) && decide (x ∉ p)) (hd : ∀ y ∈ d, ∀ x ∈ p, joined y x = false) :
    brings l p c = s.filter (joined c) := by
  rw [hs, List.filter_filter, brings]
  apply List.filter_congr
  intro x hx
  rw [joined_comm x c]
  by_cases hj : joined c x = true
  · have : x ∉ d := fun h => by
      have := hd x h c hc
      rw [joined_comm, hj] at this; cases this
    simp [hj, this]
  · simp [hj]
end Go.Proofs.Ytgppcocfnbalfaa
