/- Forests stay good, counts add up, at most so many squares: plain facts. -/
import Derived.Test.YtnabgfbempkgnaaTrP
import Derived.Test.YtnabgfbempkgnaaShr
namespace Go.Proofs.Ytnabgfbempkgnaa
set_option linter.unusedVariables false

/-- A good forest, but for its greatest length. -/
def FineF (F : List Qd) : Prop := 2 ≤ F.length ∧ ∀ i, i < F.length → fineQ F i = true
theorem good_fineF {F : List Qd} (h : goodF F = true) : FineF F := ⟨(good_len2 h).1, fun i hi => good_fine h hi⟩
theorem FineF.good {F : List Qd} (h : FineF F) (hl : F.length ≤ 400) : goodF F = true := by
  have h2 := h.1
  simp only [goodF, Bool.and_eq_true, inB, decide_eq_true_eq]
  exact ⟨⟨by omega, by omega⟩, allB_iff.2 h.2⟩
theorem fineQ_old {F G : List Qd} {i : Nat} (ho : ∀ j, j ≤ i → qa G j = qa F j) (h : fineQ F i = true) : fineQ G i = true := by
  unfold fineQ at h ⊢
  rw [ho i (Nat.le_refl _)]
  split
  · rename_i h2
    rw [if_pos h2] at h
    exact h
  · rename_i h2
    rw [if_neg h2] at h
    simp only [Bool.and_eq_true] at h ⊢
    obtain ⟨⟨⟨⟨h1, h3⟩, h4⟩, h5⟩, h6⟩ := h
    refine ⟨⟨⟨⟨h1, h3⟩, h4⟩, allB_iff.2 fun j hj => ?_⟩, allB_iff.2 fun j hj => ?_⟩
    · have a := inB_bd (allB_iff.1 h3 j hj)
      rw [ho _ (by omega)]
      exact allB_iff.1 h5 j hj
    · rw [ho j (by omega), ho i (Nat.le_refl _)]
      exact allB_iff.1 h6 j hj
theorem joinF_fine {F : List Qd} (h : FineF F) {l : List Int} {v : Int} (hl : l.length = 4) (hk : ∀ j, j < 4 → 0 ≤ ia l j ∧ ia l j < (F.length : Int)) (hv : ∀ j, j < 4 → (qa F (ia l j).toNat).1 = v) (v0 : 0 ≤ v) (v5 : v < 5) : FineF (joinF F l).1 := by
  have h2 := h.1
  unfold joinF
  split
  · exact h
  · rename_i hn
    have new : ∀ q : Qd, qa (F ++ [q]) F.length = q := fun q => by simp [qa]
    have old : ∀ (q : Qd) i, i < F.length → qa (F ++ [q]) i = qa F i := fun q i hi => by simp [qa, List.getElem?_append_left hi]
    refine ⟨by simp; omega, fun i hi => ?_⟩
    simp only [List.length_append, List.length_singleton] at hi
    by_cases e : i < F.length
    · exact fineQ_old (fun j hj => old _ j (by omega)) (h.2 i e)
    · have e : i = F.length := by omega
      subst e
      unfold fineQ
      rw [if_neg (by omega), new]
      simp only [Bool.and_eq_true]
      have v1 := hv 0 (by omega)
      refine ⟨⟨⟨⟨by simpa using hl, allB_iff.2 fun j hj => ?_⟩, ?_⟩, allB_iff.2 fun j hj => ?_⟩, allB_iff.2 fun j hj => ?_⟩
      · have := hk j (by omega)
        simp only [inB, Bool.and_eq_true, decide_eq_true_eq]
        omega
      · simp only [inB, Bool.and_eq_true, decide_eq_true_eq]
        omega
      · have a := hk j (by omega)
        have b := hv j (by omega)
        rw [old _ _ (by omega)]
        simp only [decide_eq_true_eq]
        omega
      · rw [old _ j hj, new]
        simp only [Bool.not_eq_true', decide_eq_false_iff_not]
        by_cases h3 : j < 2
        · have a := h.2 j hj
          unfold fineQ at a
          rw [if_pos h3] at a
          simp only [Bool.and_eq_true, decide_eq_true_eq] at a
          intro z
          rw [z] at a
          omega
        · exact findF_none hn j (by omega) hj
theorem treeL_fine (L : List Cl) : ∀ (n : Nat) (x y : Int) (F : List Qd), n ≤ 5 → Grows F → FineF F → FineF (treeL L n x y F).1
  | 0, x, y, F, hn, h, hf => hf
  | n + 1, x, y, F, hn, h, hf => by
    have t0 := treeL_tr L n x y F (by omega) h
    have f0 := treeL_fine L n x y F (by omega) h hf
    have t1 := treeL_tr L n (x + 2 ^ n) y _ (by omega) t0.grows
    have f1 := treeL_fine L n (x + 2 ^ n) y _ (by omega) t0.grows f0
    have t2 := treeL_tr L n x (y + 2 ^ n) _ (by omega) t1.grows
    have f2 := treeL_fine L n x (y + 2 ^ n) _ (by omega) t1.grows f1
    have t3 := treeL_tr L n (x + 2 ^ n) (y + 2 ^ n) _ (by omega) t2.grows
    have f3 := treeL_fine L n (x + 2 ^ n) (y + 2 ^ n) _ (by omega) t2.grows f2
    have z := (tr_join (by omega) t0 t1 t2 t3).2.1
    refine joinF_fine f3 (v := (n : Int)) rfl z (fun j hj => ?_) (by omega) (by omega)
    have a0 := t0.lt
    have a1 := t1.lt
    have a2 := t2.lt
    have m1 := t1.more
    have m2 := t2.more
    rcases (show j = 0 ∨ j = 1 ∨ j = 2 ∨ j = 3 by omega) with rfl | rfl | rfl | rfl
    · simp only [ia, List.getD_cons_zero, Int.toNat_natCast]
      rw [t3.old _ (by omega), t2.old _ (by omega), t1.old _ (by omega)]
      exact t0.lev
    · simp only [ia, List.getD_cons_zero, List.getD_cons_succ, Int.toNat_natCast]
      rw [t3.old _ (by omega), t2.old _ (by omega)]
      exact t1.lev
    · simp only [ia, List.getD_cons_zero, List.getD_cons_succ, Int.toNat_natCast]
      rw [t3.old _ (by omega)]
      exact t2.lev
    · simp only [ia, List.getD_cons_zero, List.getD_cons_succ, Int.toNat_natCast]
      exact t3.lev

/-- How many cells there are does not hang on the corner. -/
theorem cellsL_len_at (F : List Qd) : ∀ (n q : Nat) (x y u v : Int), (cellsL F n q x y).length = (cellsL F n q u v).length
  | 0, q, x, y, u, v => by simp only [cellsL]; split <;> rfl
  | n + 1, q, x, y, u, v => by
    simp only [cellsL, List.length_append]
    rw [cellsL_len_at F n (kidq F q 0) x y u v, cellsL_len_at F n (kidq F q 1) _ _ (u + 2 ^ n) v, cellsL_len_at F n (kidq F q 2) _ _ u (v + 2 ^ n), cellsL_len_at F n (kidq F q 3) _ _ (u + 2 ^ n) (v + 2 ^ n)]
/-- A quad's count is its kids' counts together. -/
theorem count_kids {F : List Qd} {q n : Nat} (hq : levN F q = n + 1) (hk : ∀ j, j < 4 → levN F (kidq F q j) = n) :
    (cellsOfQ F q).length = (cellsOfQ F (kidq F q 0)).length + (cellsOfQ F (kidq F q 1)).length + (cellsOfQ F (kidq F q 2)).length + (cellsOfQ F (kidq F q 3)).length := by
  unfold cellsOfQ
  rw [hq, hk 0 (by omega), hk 1 (by omega), hk 2 (by omega), hk 3 (by omega)]
  simp only [cellsL, List.length_append]
  rw [cellsL_len_at F n (kidq F q 1) _ _ 0 0, cellsL_len_at F n (kidq F q 2) _ _ 0 0, cellsL_len_at F n (kidq F q 3) _ _ 0 0]

/-- How many squares a tree of a level has. -/
def sqs : Nat → Nat
  | 0 => 1
  | n + 1 => 1 + 4 * sqs n
theorem sqs_up : ∀ n, sqs (n + 1) = sqs n + 4 ^ (n + 1)
  | 0 => rfl
  | n + 1 => by
    have := sqs_up n
    show 1 + 4 * sqs (n + 1) = sqs (n + 1) + 4 ^ (n + 1 + 1)
    rw [Nat.pow_succ 4 (n + 1)]
    have e : sqs (n + 1) = 1 + 4 * sqs n := rfl
    omega
/-- The quads of all its squares. -/
def allQ (F : List Qd) : Nat → Nat → List Nat
  | 0, q => [q]
  | n + 1, q => q :: (allQ F n (kidq F q 0) ++ (allQ F n (kidq F q 1) ++ (allQ F n (kidq F q 2) ++ allQ F n (kidq F q 3))))
theorem allQ_len (F : List Qd) : ∀ n q, (allQ F n q).length = sqs n
  | 0, q => rfl
  | n + 1, q => by
    simp only [allQ, List.length_cons, List.length_append, allQ_len F n, sqs]
    omega
theorem reach_allQ {F : List Qd} (hg : goodF F = true) : ∀ (n q x : Nat), q < F.length → levN F q = n → Reach F q x → x ∈ allQ F n q
  | 0, q, x, hq, hn, h => by
    have b := lev_nonneg hg hq
    have := (lev_two hg hq).1 (by unfold levN at hn; omega)
    rw [h.low hg this]
    simp [allQ]
  | n + 1, q, x, hq, hn, h => by
    rcases reach_cases h with rfl | ⟨h2, i, hi, hr⟩
    · simp [allQ]
    · have k := kid_lt hg hq h2 hi
      have g := good_quad hg hq h2
      have z := reach_allQ hg n (kidq F q i) x (by omega) (by have := g.2.2.2.2 i hi; unfold levN at *; omega) hr
      simp only [allQ, List.mem_cons, List.mem_append]
      rcases (show i = 0 ∨ i = 1 ∨ i = 2 ∨ i = 3 by omega) with rfl | rfl | rfl | rfl <;> simp [z]
theorem len_le_of_sub : ∀ {l m : List Int}, l.Nodup → (∀ x ∈ l, x ∈ m) → l.length ≤ m.length
  | [], m, _, _ => by simp
  | a :: t, m, hd, hs => by
    rw [List.nodup_cons] at hd
    have hm := hs a (by simp)
    have := len_le_of_sub (m := m.erase a) hd.2 (fun x hx => by
      have hne : x ≠ a := fun e => hd.1 (by rw [← e]; exact hx)
      exact (List.mem_erase_of_ne hne).2 (hs x (by simp [hx])))
    rw [List.length_erase_of_mem hm] at this
    have := List.length_pos_of_mem hm
    simp only [List.length_cons]
    omega
theorem shrL_spec {F : List Qd} (hg : goodF F = true) {q : Nat} (hq : q < F.length) : Asc (shrL F q) ∧ ∀ x, x ∈ shrL F q ↔ ∃ n : Nat, x = n ∧ Reach F q n := by
  classical
  have h1 := gotTo_asc (fun x => decide (Reach F q x)) (q + 1)
  have h2 : ∀ x, x ∈ gotTo (fun x => decide (Reach F q x)) (q + 1) ↔ ∃ n : Nat, x = n ∧ Reach F q n := by
    intro x
    rw [gotTo_mem]
    constructor
    · rintro ⟨n, e, _, h⟩
      exact ⟨n, e, by simpa using h⟩
    · rintro ⟨n, e, h⟩
      have := h.le hg hq
      exact ⟨n, e, by omega, by simpa using h⟩
  rw [shrL_eq h1 h2]
  exact ⟨h1, h2⟩
/-- A tree is made of no more quads than it has squares. -/
theorem shrL_len {F : List Qd} (hg : goodF F = true) {q : Nat} (hq : q < F.length) : (shrL F q).length ≤ sqs (levN F q) := by
  obtain ⟨h1, h2⟩ := shrL_spec hg hq
  have := len_le_of_sub (m := (allQ F (levN F q) q).map (fun n : Nat => (n : Int))) (asc_nodup h1) (fun x hx => by
    obtain ⟨n, rfl, hr⟩ := (h2 x).1 hx
    exact List.mem_map.2 ⟨n, reach_allQ hg _ q n hq rfl hr, rfl⟩)
  rw [List.length_map, allQ_len] at this
  exact this
theorem shrL_self {F : List Qd} (hg : goodF F = true) {q : Nat} (hq : q < F.length) : (q : Int) ∈ shrL F q := ((shrL_spec hg hq).2 _).2 ⟨q, rfl, .self⟩
/-- .. and of their kids. -/
theorem shrL_kid {F : List Qd} (hg : goodF F = true) {q x j : Nat} (hq : q < F.length) (hx : (x : Int) ∈ shrL F q) (hj : j < (qa F x).2.length) : x < F.length ∧ ia (qa F x).2 j ∈ shrL F q := by
  obtain ⟨n, e, hr⟩ := ((shrL_spec hg hq).2 _).1 hx
  obtain rfl : x = n := by omega
  have hl := hr.le hg hq
  refine ⟨by omega, ?_⟩
  by_cases h2 : x < 2
  · have := (good_zero hg (show x < F.length by omega) h2).2
    omega
  · have g := good_quad hg (show x < F.length by omega) (by omega)
    have a := g.2.2.2.1 j (by omega)
    exact ((shrL_spec hg hq).2 _).2 ⟨kidq F x j, by unfold kidq; omega, .kid hr (by omega) (by omega)⟩

end Go.Proofs.Ytnabgfbempkgnaa
