/- What a tree holds, and a tree made once more: plain facts. -/
import Derived.Test.YtnabgfbempkgnaaJnP
namespace Go.Proofs.Ytnabgfbempkgnaa
set_option linter.unusedVariables false

theorem joinF_kids (F : List Qd) (l : List Int) : (qa (joinF F l).1 (joinF F l).2).2 = l := by
  unfold joinF
  split
  · rename_i i hi
    exact (findF_some hi).2.2
  · simp [qa]
theorem joinF_two {F : List Qd} (h : Grows F) (l : List Int) : 2 ≤ (joinF F l).2 := by
  have := h.two
  unfold joinF
  split
  · rename_i i hi
    exact (findF_some hi).1
  · exact this
/-- Kids that are there are joined to the quad that is there. -/
theorem joinF_there {F : List Qd} (h : Grows F) {l : List Int} {i : Nat} (h2 : 2 ≤ i) (hi : i < F.length) (hk : (qa F i).2 = l) : joinF F l = (F, i) := by
  unfold joinF
  split
  · rename_i j hj
    obtain ⟨a, b, c⟩ := findF_some hj
    rcases Nat.lt_trichotomy i j with e | e | e
    · exact absurd (hk.trans c.symm) (h.uniq i j h2 e b)
    · rw [e]
    · exact absurd (c.trans hk.symm) (h.uniq j i a e hi)
  · rename_i hn
    exact absurd hk (findF_none hn i h2 hi)
/-- Joined once more, nothing is new. -/
theorem joinF_again {F : List Qd} (h : Grows F) {l : List Int} (hg : Grows (joinF F l).1) : joinF (joinF F l).1 l = joinF F l :=
  joinF_there hg (joinF_two h l) (joinF_lt F l) (joinF_kids F l)

/-- The quad q is the tree of level n of the cells l, from a corner on. -/
def IsT (L : List Cl) (F : List Qd) : Nat → Nat → Int → Int → Prop
  | 0, q, x, y => q = if (x, y) ∈ L then 1 else 0
  | n + 1, q, x, y => 2 ≤ q ∧ q < F.length ∧ ∃ k0 k1 k2 k3 : Nat, (qa F q).2 = [(k0 : Int), (k1 : Int), (k2 : Int), (k3 : Int)] ∧
      IsT L F n k0 x y ∧ IsT L F n k1 (x + 2 ^ n) y ∧ IsT L F n k2 x (y + 2 ^ n) ∧ IsT L F n k3 (x + 2 ^ n) (y + 2 ^ n)
theorem IsT.more {L : List Cl} {F G : List Qd} (hl : F.length ≤ G.length) (ho : ∀ i, i < F.length → qa G i = qa F i) : ∀ {n q : Nat} {x y : Int}, IsT L F n q x y → IsT L G n q x y
  | 0, q, x, y, h => h
  | n + 1, q, x, y, ⟨h2, hq, k0, k1, k2, k3, hk, a, b, c, d⟩ =>
    ⟨h2, by omega, k0, k1, k2, k3, by rw [ho q hq]; exact hk, IsT.more hl ho a, IsT.more hl ho b, IsT.more hl ho c, IsT.more hl ho d⟩
theorem treeL_is (L : List Cl) : ∀ (n : Nat) (x y : Int) (F : List Qd), n ≤ 5 → Grows F → IsT L (treeL L n x y F).1 n (treeL L n x y F).2 x y
  | 0, x, y, F, hn, h => rfl
  | n + 1, x, y, F, hn, h => by
    have t0 := treeL_tr L n x y F (by omega) h
    have t1 := treeL_tr L n (x + 2 ^ n) y _ (by omega) t0.grows
    have t2 := treeL_tr L n x (y + 2 ^ n) _ (by omega) t1.grows
    have t3 := treeL_tr L n (x + 2 ^ n) (y + 2 ^ n) _ (by omega) t2.grows
    have i0 := treeL_is L n x y F (by omega) h
    have i1 := treeL_is L n (x + 2 ^ n) y _ (by omega) t0.grows
    have i2 := treeL_is L n x (y + 2 ^ n) _ (by omega) t1.grows
    have i3 := treeL_is L n (x + 2 ^ n) (y + 2 ^ n) _ (by omega) t2.grows
    have j := fun (l : List Int) {k : Nat} {u v : Int} (z : IsT L _ n k u v) => IsT.more (G := (joinF (treeL L n (x + 2 ^ n) (y + 2 ^ n) (treeL L n x (y + 2 ^ n) (treeL L n (x + 2 ^ n) y (treeL L n x y F).1).1).1).1 l).1) (joinF_len _ l).1 (fun i hi => joinF_old _ l hi) z
    refine ⟨joinF_two t3.grows _, joinF_lt _ _, _, _, _, _, joinF_kids _ _, j _ ?_, j _ ?_, j _ ?_, j _ i3⟩
    · exact ((i0.more t1.more t1.old).more t2.more t2.old).more t3.more t3.old
    · exact (i1.more t2.more t2.old).more t3.more t3.old
    · exact i2.more t3.more t3.old
/-- A tree that is there is not made anew. -/
theorem treeL_there {L : List Cl} {F : List Qd} (h : Grows F) : ∀ {n q : Nat} {x y : Int}, IsT L F n q x y → treeL L n x y F = (F, q)
  | 0, q, x, y, e => by unfold IsT at e; simp only [treeL, e]
  | n + 1, q, x, y, ⟨h2, hq, k0, k1, k2, k3, hk, a, b, c, d⟩ => by
    have e0 := treeL_there h a
    have e1 := treeL_there h b
    have e2 := treeL_there h c
    have e3 := treeL_there h d
    simp only [treeL, e0, e1, e2, e3]
    exact joinF_there h h2 hq hk
/-- A tree made once more is the one that is there. -/
theorem treeL_again {L : List Cl} {n : Nat} {x y : Int} {F : List Qd} (hn : n ≤ 5) (h : Grows F) : treeL L n x y (treeL L n x y F).1 = treeL L n x y F :=
  treeL_there (treeL_tr L n x y F hn h).grows (treeL_is L n x y F hn h)

/-- A tree's cells are those of its square that are alive. -/
theorem IsT.mem {L : List Cl} {F : List Qd} : ∀ {n q : Nat} {x y : Int}, IsT L F n q x y → ∀ c : Cl, c ∈ cellsL F n q x y ↔ (x ≤ c.1 ∧ c.1 < x + 2 ^ n ∧ y ≤ c.2 ∧ c.2 < y + 2 ^ n) ∧ c ∈ L
  | 0, q, x, y, e, c => by
    unfold IsT at e
    obtain ⟨u, v⟩ := c
    by_cases hL : (x, y) ∈ L
    · rw [if_pos hL] at e
      subst e
      simp only [cellsL, if_true, List.mem_singleton, Prod.mk.injEq]
      constructor
      · rintro ⟨rfl, rfl⟩
        exact ⟨by simp; omega, hL⟩
      · rintro ⟨b, _⟩
        simp at b
        omega
    · rw [if_neg hL] at e
      subst e
      simp only [cellsL]
      constructor
      · intro z; simp at z
      · rintro ⟨b, z⟩
        simp at b
        have e1 : u = x := by omega
        have e2 : v = y := by omega
        subst e1 e2
        exact absurd z hL
  | n + 1, q, x, y, ⟨h2, hq, k0, k1, k2, k3, hk, a, b, d, e⟩, c => by
    have q0 : kidq F q 0 = k0 := by simp [kidq, hk, ia]
    have q1 : kidq F q 1 = k1 := by simp [kidq, hk, ia]
    have q2 : kidq F q 2 = k2 := by simp [kidq, hk, ia]
    have q3 : kidq F q 3 = k3 := by simp [kidq, hk, ia]
    have hp : (2 : Int) ^ (n + 1) = 2 ^ n + 2 ^ n := by rw [Int.pow_succ]; omega
    have hpos : (0 : Int) < 2 ^ n := Int.pow_pos (by omega)
    simp only [cellsL, List.mem_append, q0, q1, q2, q3, IsT.mem a c, IsT.mem b c, IsT.mem d c, IsT.mem e c, hp]
    generalize (2 : Int) ^ n = W at *
    by_cases hL : c ∈ L
    · simp only [hL, and_true]; omega
    · simp only [hL, and_false, or_false]

end Go.Proofs.Ytnabgfbempkgnaa
