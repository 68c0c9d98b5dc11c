/- Texts of this seat, one behind the other: Put, Shr, TrG. -/
import Derived.Test.YtokemdbgcegjiaaGreatB01
import Derived.Test.YtokemdbgcegjiaaGreatB02
import Derived.Test.YtokemdbgcegjiaaGreatB07
import Derived.Test.YtokemdbgcegjiaaGreatB03
import Derived.Test.YtokemdbgcegjiaaGreatB09
namespace Go.Proofs.YtokemdbgcegjiaaGreat
open Go.RowKit
set_option linter.unusedVariables false
set_option linter.unusedSimpArgs false
attribute [local go_sem ↓] Go.wp_at_zero Go.wp_at_succ

theorem mem_take_ia {l : List Int} {k : Nat} {n : Int} (h : ¬ n ∈ l.take k) (hk : k < l.length) (h2 : ¬ ia l k = n) : ¬ n ∈ l.take (k + 1) := by
  rw [List.take_succ_eq_append_getElem hk, List.mem_append]
  rintro (h1 | h1)
  · exact h h1
  · simp at h1
    exact h2 (by simp [ia, hk, h1])

end Go.Proofs.YtokemdbgcegjiaaGreat

namespace Go.Proofs.YtokemdbgcegjiaaGreat
open Go.RowKit Go.Maps
set_option linter.unusedVariables false
set_option linter.unusedSimpArgs false
attribute [local go_sem ↓] Go.wp_at_zero Go.wp_at_succ

/-- The quads that q is made of. -/
inductive Reach (F : List Qd) (q : Nat) : Nat → Prop
  | self : Reach F q q
  | kid {x i : Nat} : Reach F q x → 2 ≤ x → i < 4 → Reach F q (kidq F x i)
theorem Reach.trans {F : List Qd} {a b c : Nat} (h : Reach F a b) (k : Reach F b c) : Reach F a c := by
  induction k with
  | self => exact h
  | kid _ h2 hi ih => exact .kid ih h2 hi
theorem Reach.le {F : List Qd} (hg : goodF F = true) {q x : Nat} (h : Reach F q x) (hq : q < F.length) : x ≤ q := by
  induction h with
  | self => exact Nat.le_refl _
  | kid _ h2 hi ih => have := kid_lt hg (Nat.lt_of_le_of_lt ih hq) h2 hi; omega
theorem Reach.low {F : List Qd} (hg : goodF F = true) {q x : Nat} (hq : q < 2) (h : Reach F q x) : x = q := by
  induction h with
  | self => rfl
  | kid _ h2 hi ih => omega
/-- From q on: q itself, or what comes of a kid. -/
theorem reach_cases {F : List Qd} {q x : Nat} (h : Reach F q x) : x = q ∨ (2 ≤ q ∧ ∃ i, i < 4 ∧ Reach F (kidq F q i) x) := by
  induction h with
  | self => exact .inl rfl
  | kid hr h2 hi ih =>
    rename_i y j
    rcases ih with rfl | ⟨hq, i, hi', hr'⟩
    · exact .inr ⟨h2, j, hi, .self⟩
    · exact .inr ⟨hq, i, hi', .kid hr' h2 hi⟩
theorem reach_kid {F : List Qd} {q i x : Nat} (h2 : 2 ≤ q) (hi : i < 4) (h : Reach F (kidq F q i) x) : Reach F q x := (Reach.kid .self h2 hi).trans h

/-- The numbers of the quads that q is made of, rising. -/
noncomputable def shrL (F : List Qd) (q : Nat) : List Int := open Classical in if h : ∃ l, Asc l ∧ ∀ x, x ∈ l ↔ ∃ n : Nat, x = n ∧ Reach F q n then Classical.choose h else []
theorem shrL_eq {F : List Qd} {q : Nat} {l : List Int} (h1 : Asc l) (h2 : ∀ x, x ∈ l ↔ ∃ n : Nat, x = n ∧ Reach F q n) : shrL F q = l := by
  unfold shrL
  have h : ∃ l, Asc l ∧ ∀ x, x ∈ l ↔ ∃ n : Nat, x = n ∧ Reach F q n := ⟨l, h1, h2⟩
  rw [dif_pos h]
  exact asc_unique (Classical.choose_spec h).1 h1 (fun c => ((Classical.choose_spec h).2 c).trans (h2 c).symm)
/-- The numbers that SharedIn tells. -/
noncomputable def shrV (F : List Qd) (q : Int) : List Int := if thereB F q then shrL F q.toNat else []

/-- Marks while the program goes down: all that is marked is reached, q is marked, and of what lies behind n each marked quad's kids are marked. -/
structure Down (F : List Qd) (q n : Nat) (u : Nat → Bool) : Prop where
  reach : ∀ x, x ≤ q → u x = true → Reach F q x
  self : u q = true
  kids : ∀ y, n < y → y ≤ q → 2 ≤ y → u y = true → ∀ i, i < 4 → u (kidq F y i) = true
theorem Down.done {F : List Qd} (hg : goodF F = true) {q : Nat} (hq : q < F.length) {u : Nat → Bool} (h : Down F q 1 u) : ∀ x, x ≤ q → (u x = true ↔ Reach F q x) := by
  intro x hx
  refine ⟨h.reach x hx, fun hr => ?_⟩
  induction hr with
  | self => exact h.self
  | kid hr h2 hi ih =>
    have hle := hr.le hg hq
    exact h.kids _ (by omega) hle h2 (ih hle) _ hi
/-- Those of the first k numbers that are marked. -/
def gotTo (u : Nat → Bool) : Nat → List Int
  | 0 => []
  | k + 1 => if u k then gotTo u k ++ [(k : Int)] else gotTo u k
theorem gotTo_mem (u : Nat → Bool) : ∀ (k : Nat) (x : Int), x ∈ gotTo u k ↔ ∃ n : Nat, x = n ∧ n < k ∧ u n = true
  | 0, x => by simp [gotTo]
  | k + 1, x => by
    have ih := gotTo_mem u k x
    simp only [gotTo]
    by_cases h : u k = true
    · rw [if_pos h, List.mem_append, ih]
      constructor
      · rintro (⟨n, h1, h2, h3⟩ | h1)
        · exact ⟨n, h1, by omega, h3⟩
        · simp at h1; exact ⟨k, h1, by omega, h⟩
      · rintro ⟨n, h1, h2, h3⟩
        by_cases e : n = k
        · subst e; right; simp [h1]
        · exact .inl ⟨n, h1, by omega, h3⟩
    · rw [if_neg h, ih]
      constructor
      · rintro ⟨n, h1, h2, h3⟩; exact ⟨n, h1, by omega, h3⟩
      · rintro ⟨n, h1, h2, h3⟩
        by_cases e : n = k
        · subst e; exact absurd h3 h
        · exact ⟨n, h1, by omega, h3⟩
theorem gotTo_asc (u : Nat → Bool) : ∀ k, Asc (gotTo u k)
  | 0 => List.Pairwise.nil
  | k + 1 => by
    simp only [gotTo]
    split
    · show List.Pairwise _ _
      rw [List.pairwise_append]
      refine ⟨gotTo_asc u k, List.pairwise_singleton _ _, fun x hx y hy => ?_⟩
      obtain ⟨n, rfl, hn, _⟩ := (gotTo_mem u k x).1 hx
      simp at hy; omega
    · exact gotTo_asc u k
theorem gotTo_len (u : Nat → Bool) : ∀ k, (gotTo u k).length ≤ k
  | 0 => by simp [gotTo]
  | k + 1 => by
    have := gotTo_len u k
    simp only [gotTo]
    split
    · simp; omega
    · omega

theorem info_bool : (Tryz.prog.info? 4).map (fun i => (i.zero, i.size, i.bytes)) = some (some (.bool false), 1, 1) := by kernel_rfl
/-- Marks, all of block g. -/
def BRow (w : World) (g n : Nat) (u : Nat → Bool) : Prop := w.rowIs g 4 n (fun j => .bool (u j))
theorem BRow.put {w : World} {g n : Nat} {u : Nat → Bool} (h : BRow w g n u) (i : Nat) : BRow (w.setCell ⟨g, i, none⟩ (.bool true)) g n (fun j => if j = i then true else u j) := by
  refine (World.rowIs.set h i (.bool true)).congr fun j hj => ?_
  by_cases e : j = i <;> simp [e]

end Go.Proofs.YtokemdbgcegjiaaGreat

namespace Go.Proofs.YtokemdbgcegjiaaGreat
set_option linter.unusedVariables false

/-- A good forest, but for its greatest length. -/
def FineF (F : List Qd) : Prop := 2 ≤ F.length ∧ ∀ i, i < F.length → fineQ F i = true
theorem good_fineF {F : List Qd} (h : goodF F = true) : FineF F := ⟨(good_len2 h).1, fun i hi => good_fine h hi⟩
theorem FineF.good {F : List Qd} (h : FineF F) (hl : F.length ≤ 400) : goodF F = true := by
  have h2 := h.1
  simp only [goodF, Bool.and_eq_true, inB, decide_eq_true_eq]
  exact ⟨⟨by omega, by omega⟩, allB_iff.2 h.2⟩
theorem fineQ_old {F G : List Qd} {i : Nat} (ho : ∀ j, j ≤ i → qa G j = qa F j) (h : fineQ F i = true) : fineQ G i = true := by
  unfold fineQ at h ⊢
  rw [ho i (Nat.le_refl _)]
  split
  · rename_i h2
    rw [if_pos h2] at h
    exact h
  · rename_i h2
    rw [if_neg h2] at h
    simp only [Bool.and_eq_true] at h ⊢
    obtain ⟨⟨⟨⟨h1, h3⟩, h4⟩, h5⟩, h6⟩ := h
    refine ⟨⟨⟨⟨h1, h3⟩, h4⟩, allB_iff.2 fun j hj => ?_⟩, allB_iff.2 fun j hj => ?_⟩
    · have a := inB_bd (allB_iff.1 h3 j hj)
      rw [ho _ (by omega)]
      exact allB_iff.1 h5 j hj
    · rw [ho j (by omega), ho i (Nat.le_refl _)]
      exact allB_iff.1 h6 j hj
theorem joinF_fine {F : List Qd} (h : FineF F) {l : List Int} {v : Int} (hl : l.length = 4) (hk : ∀ j, j < 4 → 0 ≤ ia l j ∧ ia l j < (F.length : Int)) (hv : ∀ j, j < 4 → (qa F (ia l j).toNat).1 = v) (v0 : 0 ≤ v) (v5 : v < 5) : FineF (joinF F l).1 := by
  have h2 := h.1
  unfold joinF
  split
  · exact h
  · rename_i hn
    have new : ∀ q : Qd, qa (F ++ [q]) F.length = q := fun q => by simp [qa]
    have old : ∀ (q : Qd) i, i < F.length → qa (F ++ [q]) i = qa F i := fun q i hi => by simp [qa, List.getElem?_append_left hi]
    refine ⟨by simp; omega, fun i hi => ?_⟩
    simp only [List.length_append, List.length_singleton] at hi
    by_cases e : i < F.length
    · exact fineQ_old (fun j hj => old _ j (by omega)) (h.2 i e)
    · have e : i = F.length := by omega
      subst e
      unfold fineQ
      rw [if_neg (by omega), new]
      simp only [Bool.and_eq_true]
      have v1 := hv 0 (by omega)
      refine ⟨⟨⟨⟨by simpa using hl, allB_iff.2 fun j hj => ?_⟩, ?_⟩, allB_iff.2 fun j hj => ?_⟩, allB_iff.2 fun j hj => ?_⟩
      · have := hk j (by omega)
        simp only [inB, Bool.and_eq_true, decide_eq_true_eq]
        omega
      · simp only [inB, Bool.and_eq_true, decide_eq_true_eq]
        omega
      · have a := hk j (by omega)
        have b := hv j (by omega)
        rw [old _ _ (by omega)]
        simp only [decide_eq_true_eq]
        omega
      · rw [old _ j hj, new]
        simp only [Bool.not_eq_true', decide_eq_false_iff_not]
        by_cases h3 : j < 2
        · have a := h.2 j hj
          unfold fineQ at a
          rw [if_pos h3] at a
          simp only [Bool.and_eq_true, decide_eq_true_eq] at a
          intro z
          rw [z] at a
          omega
        · exact findF_none hn j (by omega) hj
theorem treeL_fine (L : List Cl) : ∀ (n : Nat) (x y : Int) (F : List Qd), n ≤ 5 → Grows F → FineF F → FineF (treeL L n x y F).1
  | 0, x, y, F, hn, h, hf => hf
  | n + 1, x, y, F, hn, h, hf => by
    have t0 := treeL_tr L n x y F (by omega) h
    have f0 := treeL_fine L n x y F (by omega) h hf
    have t1 := treeL_tr L n (x + 2 ^ n) y _ (by omega) t0.grows
    have f1 := treeL_fine L n (x + 2 ^ n) y _ (by omega) t0.grows f0
    have t2 := treeL_tr L n x (y + 2 ^ n) _ (by omega) t1.grows
    have f2 := treeL_fine L n x (y + 2 ^ n) _ (by omega) t1.grows f1
    have t3 := treeL_tr L n (x + 2 ^ n) (y + 2 ^ n) _ (by omega) t2.grows
    have f3 := treeL_fine L n (x + 2 ^ n) (y + 2 ^ n) _ (by omega) t2.grows f2
    have z := (tr_join (by omega) t0 t1 t2 t3).2.1
    refine joinF_fine f3 (v := (n : Int)) rfl z (fun j hj => ?_) (by omega) (by omega)
    have a0 := t0.lt
    have a1 := t1.lt
    have a2 := t2.lt
    have m1 := t1.more
    have m2 := t2.more
    rcases (show j = 0 ∨ j = 1 ∨ j = 2 ∨ j = 3 by omega) with rfl | rfl | rfl | rfl
    · simp only [ia, List.getD_cons_zero, Int.toNat_natCast]
      rw [t3.old _ (by omega), t2.old _ (by omega), t1.old _ (by omega)]
      exact t0.lev
    · simp only [ia, List.getD_cons_zero, List.getD_cons_succ, Int.toNat_natCast]
      rw [t3.old _ (by omega), t2.old _ (by omega)]
      exact t1.lev
    · simp only [ia, List.getD_cons_zero, List.getD_cons_succ, Int.toNat_natCast]
      rw [t3.old _ (by omega)]
      exact t2.lev
    · simp only [ia, List.getD_cons_zero, List.getD_cons_succ, Int.toNat_natCast]
      exact t3.lev

/-- How many cells there are does not hang on the corner. -/
theorem cellsL_len_at (F : List Qd) : ∀ (n q : Nat) (x y u v : Int), (cellsL F n q x y).length = (cellsL F n q u v).length
  | 0, q, x, y, u, v => by simp only [cellsL]; split <;> rfl
  | n + 1, q, x, y, u, v => by
    simp only [cellsL, List.length_append]
    rw [cellsL_len_at F n (kidq F q 0) x y u v, cellsL_len_at F n (kidq F q 1) _ _ (u + 2 ^ n) v, cellsL_len_at F n (kidq F q 2) _ _ u (v + 2 ^ n), cellsL_len_at F n (kidq F q 3) _ _ (u + 2 ^ n) (v + 2 ^ n)]
/-- A quad's count is its kids' counts together. -/
theorem count_kids {F : List Qd} {q n : Nat} (hq : levN F q = n + 1) (hk : ∀ j, j < 4 → levN F (kidq F q j) = n) :
    (cellsOfQ F q).length = (cellsOfQ F (kidq F q 0)).length + (cellsOfQ F (kidq F q 1)).length + (cellsOfQ F (kidq F q 2)).length + (cellsOfQ F (kidq F q 3)).length := by
  unfold cellsOfQ
  rw [hq, hk 0 (by omega), hk 1 (by omega), hk 2 (by omega), hk 3 (by omega)]
  simp only [cellsL, List.length_append]
  rw [cellsL_len_at F n (kidq F q 1) _ _ 0 0, cellsL_len_at F n (kidq F q 2) _ _ 0 0, cellsL_len_at F n (kidq F q 3) _ _ 0 0]

/-- How many squares a tree of a level has. -/
def sqs : Nat → Nat
  | 0 => 1
  | n + 1 => 1 + 4 * sqs n
theorem sqs_up : ∀ n, sqs (n + 1) = sqs n + 4 ^ (n + 1)
  | 0 => rfl
  | n + 1 => by
    have := sqs_up n
    show 1 + 4 * sqs (n + 1) = sqs (n + 1) + 4 ^ (n + 1 + 1)
    rw [Nat.pow_succ 4 (n + 1)]
    have e : sqs (n + 1) = 1 + 4 * sqs n := rfl
    omega
/-- The quads of all its squares. -/
def allQ (F : List Qd) : Nat → Nat → List Nat
  | 0, q => [q]
  | n + 1, q => q :: (allQ F n (kidq F q 0) ++ (allQ F n (kidq F q 1) ++ (allQ F n (kidq F q 2) ++ allQ F n (kidq F q 3))))
theorem allQ_len (F : List Qd) : ∀ n q, (allQ F n q).length = sqs n
  | 0, q => rfl
  | n + 1, q => by
    simp only [allQ, List.length_cons, List.length_append, allQ_len F n, sqs]
    omega
theorem reach_allQ {F : List Qd} (hg : goodF F = true) : ∀ (n q x : Nat), q < F.length → levN F q = n → Reach F q x → x ∈ allQ F n q
  | 0, q, x, hq, hn, h => by
    have b := lev_nonneg hg hq
    have := (lev_two hg hq).1 (by unfold levN at hn; omega)
    rw [h.low hg this]
    simp [allQ]
  | n + 1, q, x, hq, hn, h => by
    rcases reach_cases h with rfl | ⟨h2, i, hi, hr⟩
    · simp [allQ]
    · have k := kid_lt hg hq h2 hi
      have g := good_quad hg hq h2
      have z := reach_allQ hg n (kidq F q i) x (by omega) (by have := g.2.2.2.2 i hi; unfold levN at *; omega) hr
      simp only [allQ, List.mem_cons, List.mem_append]
      rcases (show i = 0 ∨ i = 1 ∨ i = 2 ∨ i = 3 by omega) with rfl | rfl | rfl | rfl <;> simp [z]
theorem len_le_of_sub : ∀ {l m : List Int}, l.Nodup → (∀ x ∈ l, x ∈ m) → l.length ≤ m.length
  | [], m, _, _ => by simp
  | a :: t, m, hd, hs => by
    rw [List.nodup_cons] at hd
    have hm := hs a (by simp)
    have := len_le_of_sub (m := m.erase a) hd.2 (fun x hx => by
      have hne : x ≠ a := fun e => hd.1 (by rw [← e]; exact hx)
      exact (List.mem_erase_of_ne hne).2 (hs x (by simp [hx])))
    rw [List.length_erase_of_mem hm] at this
    have := List.length_pos_of_mem hm
    simp only [List.length_cons]
    omega
theorem shrL_spec {F : List Qd} (hg : goodF F = true) {q : Nat} (hq : q < F.length) : Asc (shrL F q) ∧ ∀ x, x ∈ shrL F q ↔ ∃ n : Nat, x = n ∧ Reach F q n := by
  classical
  have h1 := gotTo_asc (fun x => decide (Reach F q x)) (q + 1)
  have h2 : ∀ x, x ∈ gotTo (fun x => decide (Reach F q x)) (q + 1) ↔ ∃ n : Nat, x = n ∧ Reach F q n := by
    intro x
    rw [gotTo_mem]
    constructor
    · rintro ⟨n, e, _, h⟩
      exact ⟨n, e, by simpa using h⟩
    · rintro ⟨n, e, h⟩
      have := h.le hg hq
      exact ⟨n, e, by omega, by simpa using h⟩
  rw [shrL_eq h1 h2]
  exact ⟨h1, h2⟩
/-- A tree is made of no more quads than it has squares. -/
theorem shrL_len {F : List Qd} (hg : goodF F = true) {q : Nat} (hq : q < F.length) : (shrL F q).length ≤ sqs (levN F q) := by
  obtain ⟨h1, h2⟩ := shrL_spec hg hq
  have := len_le_of_sub (m := (allQ F (levN F q) q).map (fun n : Nat => (n : Int))) (asc_nodup h1) (fun x hx => by
    obtain ⟨n, rfl, hr⟩ := (h2 x).1 hx
    exact List.mem_map.2 ⟨n, reach_allQ hg _ q n hq rfl hr, rfl⟩)
  rw [List.length_map, allQ_len] at this
  exact this
theorem shrL_self {F : List Qd} (hg : goodF F = true) {q : Nat} (hq : q < F.length) : (q : Int) ∈ shrL F q := ((shrL_spec hg hq).2 _).2 ⟨q, rfl, .self⟩
/-- .. and of their kids. -/
theorem shrL_kid {F : List Qd} (hg : goodF F = true) {q x j : Nat} (hq : q < F.length) (hx : (x : Int) ∈ shrL F q) (hj : j < (qa F x).2.length) : x < F.length ∧ ia (qa F x).2 j ∈ shrL F q := by
  obtain ⟨n, e, hr⟩ := ((shrL_spec hg hq).2 _).1 hx
  obtain rfl : x = n := by omega
  have hl := hr.le hg hq
  refine ⟨by omega, ?_⟩
  by_cases h2 : x < 2
  · have := (good_zero hg (show x < F.length by omega) h2).2
    omega
  · have g := good_quad hg (show x < F.length by omega) (by omega)
    have a := g.2.2.2.1 j (by omega)
    exact ((shrL_spec hg hq).2 _).2 ⟨kidq F x j, by unfold kidq; omega, .kid hr (by omega) (by omega)⟩

end Go.Proofs.YtokemdbgcegjiaaGreat
