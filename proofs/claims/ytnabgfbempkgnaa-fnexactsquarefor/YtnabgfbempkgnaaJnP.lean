/- Joining quads and making trees: plain facts. -/
import Derived.Test.YtnabgfbempkgnaaCellQ
namespace Go.Proofs.Ytnabgfbempkgnaa
set_option linter.unusedVariables false

/-- How many kids the first k quads have. -/
def kidsUp (F : List Qd) : Nat → Nat
  | 0 => 0
  | k + 1 => kidsUp F k + (qa F k).2.length
/-- The place of the quad with these kids, from k on (behind the first two). -/
def findF (F : List Qd) (l : List Int) : Nat → Option Nat
  | 0 => none
  | k + 1 => match findF F l k with
    | some i => some i
    | none => if 2 ≤ k ∧ (qa F k).2 = l then some k else none
theorem findF_some {F : List Qd} {l : List Int} : ∀ {k i : Nat}, findF F l k = some i → 2 ≤ i ∧ i < k ∧ (qa F i).2 = l
  | 0, i, h => by simp [findF] at h
  | k + 1, i, h => by
    simp only [findF] at h
    cases hf : findF F l k with
    | some j =>
      rw [hf] at h
      simp at h
      subst h
      have := findF_some hf
      exact ⟨this.1, by omega, this.2.2⟩
    | none =>
      rw [hf] at h
      simp only at h
      split at h
      · rename_i hc
        simp at h
        subst h
        exact ⟨hc.1, by omega, hc.2⟩
      · cases h
theorem findF_none {F : List Qd} {l : List Int} : ∀ {k : Nat}, findF F l k = none → ∀ n, 2 ≤ n → n < k → (qa F n).2 ≠ l
  | 0, h, n, h2, hk => by omega
  | k + 1, h, n, h2, hk => by
    simp only [findF] at h
    cases hf : findF F l k with
    | some j => rw [hf] at h; cases h
    | none =>
      rw [hf] at h
      simp only at h
      split at h
      · cases h
      · rename_i hc
        by_cases e : n = k
        · subst e; intro e2; exact hc ⟨h2, e2⟩
        · exact findF_none hf n h2 (by omega)
/-- The forest behind a joining, and the quad's number. -/
def joinF (F : List Qd) (l : List Int) : List Qd × Nat :=
  match findF F l F.length with
  | some i => (F, i)
  | none => (F ++ [((qa F (ia l 0).toNat).1 + 1, l)], F.length)

/-- A forest that grows: as a good one, but for its length. -/
structure Grows (F : List Qd) : Prop where
  two : 2 ≤ F.length
  low : ∀ i, i < 2 → qa F i = (0, [])
  len : ∀ i, 2 ≤ i → i < F.length → (qa F i).2.length = 4
  lev : ∀ i, i < F.length → 0 ≤ (qa F i).1 ∧ (qa F i).1 ≤ 5
  kid : ∀ i, 2 ≤ i → i < F.length → ∀ j, j < 4 → 0 ≤ ia (qa F i).2 j ∧ ia (qa F i).2 j < (F.length : Int)
  up : ∀ i, 2 ≤ i → i < F.length → (qa F i).1 = (qa F (ia (qa F i).2 0).toNat).1 + 1
  uniq : ∀ i j, 2 ≤ i → i < j → j < F.length → (qa F i).2 ≠ (qa F j).2
theorem good_new {F : List Qd} (h : goodF F = true) {q : Nat} (hq : q < F.length) (h2 : 2 ≤ q) : ∀ j, j < q → (qa F j).2 ≠ (qa F q).2 := by
  have := good_fine h hq
  simp only [fineQ, if_neg (show ¬ q < 2 by omega), Bool.and_eq_true] at this
  intro j hj
  have := allB_iff.1 this.2 j hj
  simpa using this
theorem good_grows {F : List Qd} (h : goodF F = true) : Grows F := by
  have h4 := good_len2 h
  refine ⟨h4.1, fun i hi => ?_, fun i h2 hi => (good_quad h hi h2).1, fun i hi => lev_nonneg h hi, fun i h2 hi j hj => ?_, fun i h2 hi => ?_, fun i j h2 hij hj => good_new h hj (by omega) i hij⟩
  · have := good_zero h (q := i) (by omega) hi
    exact Prod.ext this.1 (List.eq_nil_of_length_eq_zero this.2)
  · have := (good_quad h hi h2).2.2.2.1 j hj
    omega
  · have := (good_quad h hi h2).2.2.2.2 0 (by omega)
    unfold kidq at this
    omega
theorem Grows.add {F : List Qd} (h : Grows F) {q : Qd} (h1 : q.2.length = 4) (h2 : 0 ≤ q.1 ∧ q.1 ≤ 5) (h3 : ∀ j, j < 4 → 0 ≤ ia q.2 j ∧ ia q.2 j < (F.length : Int)) (h4 : q.1 = (qa F (ia q.2 0).toNat).1 + 1) (h5 : ∀ i, 2 ≤ i → i < F.length → (qa F i).2 ≠ q.2) : Grows (F ++ [q]) := by
  have old : ∀ i, i < F.length → qa (F ++ [q]) i = qa F i := fun i hi => by simp [qa, List.getElem?_append_left hi]
  have new : qa (F ++ [q]) F.length = q := by simp [qa]
  have hl : (F ++ [q]).length = F.length + 1 := by simp
  refine ⟨by have := h.two; omega, fun i hi => by rw [old i (by have := h.two; omega)]; exact h.low i hi, fun i h2' hi => ?_, fun i hi => ?_, fun i h2' hi j hj => ?_, fun i h2' hi => ?_, fun i j h2' hij hj => ?_⟩
  · by_cases e : i = F.length
    · subst e; rw [new]; exact h1
    · rw [old i (by omega)]; exact h.len i h2' (by omega)
  · by_cases e : i = F.length
    · subst e; rw [new]; exact h2
    · rw [old i (by omega)]; exact h.lev i (by omega)
  · by_cases e : i = F.length
    · subst e; rw [new]; have := h3 j hj; omega
    · rw [old i (by omega)]; have := h.kid i h2' (by omega) j hj; omega
  · by_cases e : i = F.length
    · subst e; rw [new, old _ (by have := h3 0 (by omega); omega)]; exact h4
    · rw [old i (by omega), old _ (by have := h.kid i h2' (by omega) 0 (by omega); omega)]; exact h.up i h2' (by omega)
  · rw [old i (by omega)]
    by_cases e : j = F.length
    · subst e; rw [new]; exact h5 i h2' (by omega)
    · rw [old j (by omega)]; exact h.uniq i j h2' hij (by omega)
theorem joinF_len (F : List Qd) (l : List Int) : F.length ≤ (joinF F l).1.length ∧ (joinF F l).1.length ≤ F.length + 1 := by
  unfold joinF
  split <;> simp
theorem joinF_lt (F : List Qd) (l : List Int) : (joinF F l).2 < (joinF F l).1.length := by
  unfold joinF
  split
  · rename_i h; have := findF_some h; simp; omega
  · simp
theorem joinF_old (F : List Qd) (l : List Int) {i : Nat} (hi : i < F.length) : qa (joinF F l).1 i = qa F i := by
  unfold joinF
  split
  · rfl
  · simp [qa, List.getElem?_append_left hi]
theorem joinF_grows {F : List Qd} (h : Grows F) {l : List Int} (hl : l.length = 4) (hk : ∀ j, j < 4 → 0 ≤ ia l j ∧ ia l j < (F.length : Int)) (hv : (qa F (ia l 0).toNat).1 < 5) : Grows (joinF F l).1 := by
  unfold joinF
  split
  · exact h
  · rename_i hn
    have h0 := hk 0 (by omega)
    have := h.lev (ia l 0).toNat (by omega)
    exact h.add hl (by dsimp only; omega) hk rfl (fun i h2 hi => findF_none hn i h2 hi)
theorem joinF_lev {F : List Qd} (h : Grows F) {l : List Int} : (qa (joinF F l).1 (joinF F l).2).1 = (qa F (ia l 0).toNat).1 + 1 := by
  unfold joinF
  split
  · rename_i i hi
    obtain ⟨h1, h2, h3⟩ := findF_some hi
    have := h.up i h1 h2
    rw [h3] at this
    exact this
  · simp [qa]

/-- The forest behind the making of a tree of level n of the cells l, from a corner on, and the tree's number. -/
def treeL (L : List Cl) : Nat → Int → Int → List Qd → List Qd × Nat
  | 0, x, y, F => (F, if (x, y) ∈ L then 1 else 0)
  | n + 1, x, y, F =>
    let r0 := treeL L n x y F
    let r1 := treeL L n (x + 2 ^ n) y r0.1
    let r2 := treeL L n x (y + 2 ^ n) r1.1
    let r3 := treeL L n (x + 2 ^ n) (y + 2 ^ n) r2.1
    joinF r3.1 [(r0.2 : Int), (r1.2 : Int), (r2.2 : Int), (r3.2 : Int)]
/-- What a tree's making leaves. -/
structure Tr (F : List Qd) (n : Nat) (r : List Qd × Nat) : Prop where
  grows : Grows r.1
  lt : r.2 < r.1.length
  lev : (qa r.1 r.2).1 = (n : Int)
  more : F.length ≤ r.1.length
  old : ∀ i, i < F.length → qa r.1 i = qa F i
  most : r.1.length + 1 ≤ F.length + 4 ^ n
theorem tr_join {F F0 F1 F2 F3 : List Qd} {n k0 k1 k2 k3 : Nat} (hn : n < 5) (t0 : Tr F n (F0, k0)) (t1 : Tr F0 n (F1, k1)) (t2 : Tr F1 n (F2, k2)) (t3 : Tr F2 n (F3, k3)) :
    Tr F (n + 1) (joinF F3 [(k0 : Int), (k1 : Int), (k2 : Int), (k3 : Int)]) ∧ (∀ j, j < 4 → 0 ≤ ia [(k0 : Int), (k1 : Int), (k2 : Int), (k3 : Int)] j ∧ ia [(k0 : Int), (k1 : Int), (k2 : Int), (k3 : Int)] j < (F3.length : Int)) ∧ (qa F3 (ia [(k0 : Int), (k1 : Int), (k2 : Int), (k3 : Int)] 0).toNat).1 = (n : Int) := by
  have a0 := t0.lt; have a1 := t1.lt; have a2 := t2.lt; have a3 := t3.lt
  have m1 := t1.more; have m2 := t2.more; have m3 := t3.more
  have b0 := t0.most; have b1 := t1.most; have b2 := t2.most; have b3 := t3.most
  have m0 := t0.more
  dsimp only at a0 a1 a2 a3 m0 m1 m2 m3 b0 b1 b2 b3
  have hk : ∀ j, j < 4 → 0 ≤ ia [(k0 : Int), (k1 : Int), (k2 : Int), (k3 : Int)] j ∧ ia [(k0 : Int), (k1 : Int), (k2 : Int), (k3 : Int)] j < (F3.length : Int) := by
    intro j hj
    rcases (show j = 0 ∨ j = 1 ∨ j = 2 ∨ j = 3 by omega) with rfl | rfl | rfl | rfl <;> simp [ia] <;> omega
  have hl : (qa F3 k0).1 = (n : Int) := by
    have e3 := t3.old k0 (by omega)
    have e2 := t2.old k0 (by omega)
    have e1 := t1.old k0 (by omega)
    have e0 := t0.lev
    dsimp only at e0 e1 e2 e3
    rw [e3, e2, e1, e0]
  have h0 : (ia [(k0 : Int), (k1 : Int), (k2 : Int), (k3 : Int)] 0).toNat = k0 := by simp [ia]
  have hlv : (qa F3 (ia [(k0 : Int), (k1 : Int), (k2 : Int), (k3 : Int)] 0).toNat).1 = (n : Int) := by rw [h0]; exact hl
  have hjl := joinF_len F3 [(k0 : Int), (k1 : Int), (k2 : Int), (k3 : Int)]
  refine ⟨⟨joinF_grows t3.grows rfl hk (by rw [hlv]; omega), joinF_lt _ _, ?_, by omega, fun i hi => ?_, ?_⟩, hk, hlv⟩
  · rw [joinF_lev t3.grows, hlv]; omega
  · rw [joinF_old _ _ (by omega)]
    have e3 := t3.old i (by omega)
    have e2 := t2.old i (by omega)
    have e1 := t1.old i (by omega)
    have e0 := t0.old i hi
    dsimp only at e0 e1 e2 e3
    rw [e3, e2, e1, e0]
  · rw [Nat.pow_succ]; omega
theorem treeL_tr (L : List Cl) : ∀ (n : Nat) (x y : Int) (F : List Qd), n ≤ 5 → Grows F → Tr F n (treeL L n x y F)
  | 0, x, y, F, hn, h => by
    have h2 := h.two
    by_cases e : (x, y) ∈ L
    · refine ⟨h, ?_, ?_, Nat.le_refl _, fun _ _ => rfl, by simp [treeL]⟩
      · simp only [treeL, if_pos e]; omega
      · simp only [treeL, if_pos e]; rw [h.low 1 (by omega)]; rfl
    · refine ⟨h, ?_, ?_, Nat.le_refl _, fun _ _ => rfl, by simp [treeL]⟩
      · simp only [treeL, if_neg e]; omega
      · simp only [treeL, if_neg e]; rw [h.low 0 (by omega)]; rfl
  | n + 1, x, y, F, hn, h => by
    have t0 := treeL_tr L n x y F (by omega) h
    have t1 := treeL_tr L n (x + 2 ^ n) y _ (by omega) t0.grows
    have t2 := treeL_tr L n x (y + 2 ^ n) _ (by omega) t1.grows
    have t3 := treeL_tr L n (x + 2 ^ n) (y + 2 ^ n) _ (by omega) t2.grows
    exact (tr_join (by omega) t0 t1 t2 t3).1
theorem Grows.kidsLe {F : List Qd} (h : Grows F) : KidsLe F := by
  intro i hi
  by_cases h2 : i < 2
  · rw [h.low i h2]; simp
  · have := h.len i (by omega) hi; omega
theorem Grows.tot {F : List Qd} (h : Grows F) : ∀ k, k ≤ F.length → kidsUp F k ≤ 4 * k
  | 0, _ => by simp [kidsUp]
  | k + 1, hk => by
    have ih := Grows.tot h k (by omega)
    simp only [kidsUp]
    by_cases h2 : k < 2
    · rw [h.low k h2]; simp; omega
    · have := h.len k (by omega) (by omega); omega

end Go.Proofs.Ytnabgfbempkgnaa
