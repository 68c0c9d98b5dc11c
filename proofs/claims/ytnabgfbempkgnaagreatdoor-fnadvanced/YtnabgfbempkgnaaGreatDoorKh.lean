/- Texts of this seat, one behind the other: Put, Shr, TrG, CellF, SRes, SRof, SSafe, IStp. -/
import Derived.Test.YtnabgfbempkgnaaGreatDoorKd
import Derived.Test.YtnabgfbempkgnaaGreatDoorKc
import Derived.Test.YtnabgfbempkgnaaGreatDoorKe
import Derived.Test.YtnabgfbempkgnaaGreatDoorKg
namespace Go.Proofs.YtnabgfbempkgnaaGreatDoor
open Go.RowKit
set_option linter.unusedVariables false
set_option linter.unusedSimpArgs false
attribute [local go_sem ↓] Go.wp_at_zero Go.wp_at_succ

theorem mem_take_ia {l : List Int} {k : Nat} {n : Int} (h : ¬ n ∈ l.take k) (hk : k < l.length) (h2 : ¬ ia l k = n) : ¬ n ∈ l.take (k + 1) := by
  rw [List.take_succ_eq_append_getElem hk, List.mem_append]
  rintro (h1 | h1)
  · exact h h1
  · simp at h1
    exact h2 (by simp [ia, hk, h1])

end Go.Proofs.YtnabgfbempkgnaaGreatDoor

namespace Go.Proofs.YtnabgfbempkgnaaGreatDoor
open Go.RowKit Go.Maps
set_option linter.unusedVariables false
set_option linter.unusedSimpArgs false
attribute [local go_sem ↓] Go.wp_at_zero Go.wp_at_succ

/-- The quads that q is made of. -/
inductive Reach (F : List Qd) (q : Nat) : Nat → Prop
  | self : Reach F q q
  | kid {x i : Nat} : Reach F q x → 2 ≤ x → i < 4 → Reach F q (kidq F x i)
theorem Reach.trans {F : List Qd} {a b c : Nat} (h : Reach F a b) (k : Reach F b c) : Reach F a c := by
  induction k with
  | self => exact h
  | kid _ h2 hi ih => exact .kid ih h2 hi
theorem Reach.le {F : List Qd} (hg : goodF F = true) {q x : Nat} (h : Reach F q x) (hq : q < F.length) : x ≤ q := by
  induction h with
  | self => exact Nat.le_refl _
  | kid _ h2 hi ih => have := kid_lt hg (Nat.lt_of_le_of_lt ih hq) h2 hi; omega
theorem Reach.low {F : List Qd} (hg : goodF F = true) {q x : Nat} (hq : q < 2) (h : Reach F q x) : x = q := by
  induction h with
  | self => rfl
  | kid _ h2 hi ih => omega
/-- From q on: q itself, or what comes of a kid. -/
theorem reach_cases {F : List Qd} {q x : Nat} (h : Reach F q x) : x = q ∨ (2 ≤ q ∧ ∃ i, i < 4 ∧ Reach F (kidq F q i) x) := by
  induction h with
  | self => exact .inl rfl
  | kid hr h2 hi ih =>
    rename_i y j
    rcases ih with rfl | ⟨hq, i, hi', hr'⟩
    · exact .inr ⟨h2, j, hi, .self⟩
    · exact .inr ⟨hq, i, hi', .kid hr' h2 hi⟩
theorem reach_kid {F : List Qd} {q i x : Nat} (h2 : 2 ≤ q) (hi : i < 4) (h : Reach F (kidq F q i) x) : Reach F q x := (Reach.kid .self h2 hi).trans h

/-- The numbers of the quads that q is made of, rising. -/
noncomputable def shrL (F : List Qd) (q : Nat) : List Int := open Classical in if h : ∃ l, Asc l ∧ ∀ x, x ∈ l ↔ ∃ n : Nat, x = n ∧ Reach F q n then Classical.choose h else []
theorem shrL_eq {F : List Qd} {q : Nat} {l : List Int} (h1 : Asc l) (h2 : ∀ x, x ∈ l ↔ ∃ n : Nat, x = n ∧ Reach F q n) : shrL F q = l := by
  unfold shrL
  have h : ∃ l, Asc l ∧ ∀ x, x ∈ l ↔ ∃ n : Nat, x = n ∧ Reach F q n := ⟨l, h1, h2⟩
  rw [dif_pos h]
  exact asc_unique (Classical.choose_spec h).1 h1 (fun c => ((Classical.choose_spec h).2 c).trans (h2 c).symm)
/-- The numbers that SharedIn tells. -/
noncomputable def shrV (F : List Qd) (q : Int) : List Int := if thereB F q then shrL F q.toNat else []

/-- Marks while the program goes down: all that is marked is reached, q is marked, and of what lies behind n each marked quad's kids are marked. -/
structure Down (F : List Qd) (q n : Nat) (u : Nat → Bool) : Prop where
  reach : ∀ x, x ≤ q → u x = true → Reach F q x
  self : u q = true
  kids : ∀ y, n < y → y ≤ q → 2 ≤ y → u y = true → ∀ i, i < 4 → u (kidq F y i) = true
theorem Down.done {F : List Qd} (hg : goodF F = true) {q : Nat} (hq : q < F.length) {u : Nat → Bool} (h : Down F q 1 u) : ∀ x, x ≤ q → (u x = true ↔ Reach F q x) := by
  intro x hx
  refine ⟨h.reach x hx, fun hr => ?_⟩
  induction hr with
  | self => exact h.self
  | kid hr h2 hi ih =>
    have hle := hr.le hg hq
    exact h.kids _ (by omega) hle h2 (ih hle) _ hi
/-- Those of the first k numbers that are marked. -/
def gotTo (u : Nat → Bool) : Nat → List Int
  | 0 => []
  | k + 1 => if u k then gotTo u k ++ [(k : Int)] else gotTo u k
theorem gotTo_mem (u : Nat → Bool) : ∀ (k : Nat) (x : Int), x ∈ gotTo u k ↔ ∃ n : Nat, x = n ∧ n < k ∧ u n = true
  | 0, x => by simp [gotTo]
  | k + 1, x => by
    have ih := gotTo_mem u k x
    simp only [gotTo]
    by_cases h : u k = true
    · rw [if_pos h, List.mem_append, ih]
      constructor
      · rintro (⟨n, h1, h2, h3⟩ | h1)
        · exact ⟨n, h1, by omega, h3⟩
        · simp at h1; exact ⟨k, h1, by omega, h⟩
      · rintro ⟨n, h1, h2, h3⟩
        by_cases e : n = k
        · subst e; right; simp [h1]
        · exact .inl ⟨n, h1, by omega, h3⟩
    · rw [if_neg h, ih]
      constructor
      · rintro ⟨n, h1, h2, h3⟩; exact ⟨n, h1, by omega, h3⟩
      · rintro ⟨n, h1, h2, h3⟩
        by_cases e : n = k
        · subst e; exact absurd h3 h
        · exact ⟨n, h1, by omega, h3⟩
theorem gotTo_asc (u : Nat → Bool) : ∀ k, Asc (gotTo u k)
  | 0 => List.Pairwise.nil
  | k + 1 => by
    simp only [gotTo]
    split
    · show List.Pairwise _ _
      rw [List.pairwise_append]
      refine ⟨gotTo_asc u k, List.pairwise_singleton _ _, fun x hx y hy => ?_⟩
      obtain ⟨n, rfl, hn, _⟩ := (gotTo_mem u k x).1 hx
      simp at hy; omega
    · exact gotTo_asc u k
theorem gotTo_len (u : Nat → Bool) : ∀ k, (gotTo u k).length ≤ k
  | 0 => by simp [gotTo]
  | k + 1 => by
    have := gotTo_len u k
    simp only [gotTo]
    split
    · simp; omega
    · omega

theorem info_bool : (Tryz.prog.info? 4).map (fun i => (i.zero, i.size, i.bytes)) = some (some (.bool false), 1, 1) := by kernel_rfl
/-- Marks, all of block g. -/
def BRow (w : World) (g n : Nat) (u : Nat → Bool) : Prop := w.rowIs g 4 n (fun j => .bool (u j))
theorem BRow.put {w : World} {g n : Nat} {u : Nat → Bool} (h : BRow w g n u) (i : Nat) : BRow (w.setCell ⟨g, i, none⟩ (.bool true)) g n (fun j => if j = i then true else u j) := by
  refine (World.rowIs.set h i (.bool true)).congr fun j hj => ?_
  by_cases e : j = i <;> simp [e]

end Go.Proofs.YtnabgfbempkgnaaGreatDoor

namespace Go.Proofs.YtnabgfbempkgnaaGreatDoor
set_option linter.unusedVariables false

/-- A good forest, but for its greatest length. -/
def FineF (F : List Qd) : Prop := 2 ≤ F.length ∧ ∀ i, i < F.length → fineQ F i = true
theorem good_fineF {F : List Qd} (h : goodF F = true) : FineF F := ⟨(good_len2 h).1, fun i hi => good_fine h hi⟩
theorem FineF.good {F : List Qd} (h : FineF F) (hl : F.length ≤ 400) : goodF F = true := by
  have h2 := h.1
  simp only [goodF, Bool.and_eq_true, inB, decide_eq_true_eq]
  exact ⟨⟨by omega, by omega⟩, allB_iff.2 h.2⟩
theorem fineQ_old {F G : List Qd} {i : Nat} (ho : ∀ j, j ≤ i → qa G j = qa F j) (h : fineQ F i = true) : fineQ G i = true := by
  unfold fineQ at h ⊢
  rw [ho i (Nat.le_refl _)]
  split
  · rename_i h2
    rw [if_pos h2] at h
    exact h
  · rename_i h2
    rw [if_neg h2] at h
    simp only [Bool.and_eq_true] at h ⊢
    obtain ⟨⟨⟨⟨h1, h3⟩, h4⟩, h5⟩, h6⟩ := h
    refine ⟨⟨⟨⟨h1, h3⟩, h4⟩, allB_iff.2 fun j hj => ?_⟩, allB_iff.2 fun j hj => ?_⟩
    · have a := inB_bd (allB_iff.1 h3 j hj)
      rw [ho _ (by omega)]
      exact allB_iff.1 h5 j hj
    · rw [ho j (by omega), ho i (Nat.le_refl _)]
      exact allB_iff.1 h6 j hj
theorem joinF_fine {F : List Qd} (h : FineF F) {l : List Int} {v : Int} (hl : l.length = 4) (hk : ∀ j, j < 4 → 0 ≤ ia l j ∧ ia l j < (F.length : Int)) (hv : ∀ j, j < 4 → (qa F (ia l j).toNat).1 = v) (v0 : 0 ≤ v) (v5 : v < 5) : FineF (joinF F l).1 := by
  have h2 := h.1
  unfold joinF
  split
  · exact h
  · rename_i hn
    have new : ∀ q : Qd, qa (F ++ [q]) F.length = q := fun q => by simp [qa]
    have old : ∀ (q : Qd) i, i < F.length → qa (F ++ [q]) i = qa F i := fun q i hi => by simp [qa, List.getElem?_append_left hi]
    refine ⟨by simp; omega, fun i hi => ?_⟩
    simp only [List.length_append, List.length_singleton] at hi
    by_cases e : i < F.length
    · exact fineQ_old (fun j hj => old _ j (by omega)) (h.2 i e)
    · have e : i = F.length := by omega
      subst e
      unfold fineQ
      rw [if_neg (by omega), new]
      simp only [Bool.and_eq_true]
      have v1 := hv 0 (by omega)
      refine ⟨⟨⟨⟨by simpa using hl, allB_iff.2 fun j hj => ?_⟩, ?_⟩, allB_iff.2 fun j hj => ?_⟩, allB_iff.2 fun j hj => ?_⟩
      · have := hk j (by omega)
        simp only [inB, Bool.and_eq_true, decide_eq_true_eq]
        omega
      · simp only [inB, Bool.and_eq_true, decide_eq_true_eq]
        omega
      · have a := hk j (by omega)
        have b := hv j (by omega)
        rw [old _ _ (by omega)]
        simp only [decide_eq_true_eq]
        omega
      · rw [old _ j hj, new]
        simp only [Bool.not_eq_true', decide_eq_false_iff_not]
        by_cases h3 : j < 2
        · have a := h.2 j hj
          unfold fineQ at a
          rw [if_pos h3] at a
          simp only [Bool.and_eq_true, decide_eq_true_eq] at a
          intro z
          rw [z] at a
          omega
        · exact findF_none hn j (by omega) hj
theorem treeL_fine (L : List Cl) : ∀ (n : Nat) (x y : Int) (F : List Qd), n ≤ 5 → Grows F → FineF F → FineF (treeL L n x y F).1
  | 0, x, y, F, hn, h, hf => hf
  | n + 1, x, y, F, hn, h, hf => by
    have t0 := treeL_tr L n x y F (by omega) h
    have f0 := treeL_fine L n x y F (by omega) h hf
    have t1 := treeL_tr L n (x + 2 ^ n) y _ (by omega) t0.grows
    have f1 := treeL_fine L n (x + 2 ^ n) y _ (by omega) t0.grows f0
    have t2 := treeL_tr L n x (y + 2 ^ n) _ (by omega) t1.grows
    have f2 := treeL_fine L n x (y + 2 ^ n) _ (by omega) t1.grows f1
    have t3 := treeL_tr L n (x + 2 ^ n) (y + 2 ^ n) _ (by omega) t2.grows
    have f3 := treeL_fine L n (x + 2 ^ n) (y + 2 ^ n) _ (by omega) t2.grows f2
    have z := (tr_join (by omega) t0 t1 t2 t3).2.1
    refine joinF_fine f3 (v := (n : Int)) rfl z (fun j hj => ?_) (by omega) (by omega)
    have a0 := t0.lt
    have a1 := t1.lt
    have a2 := t2.lt
    have m1 := t1.more
    have m2 := t2.more
    rcases (show j = 0 ∨ j = 1 ∨ j = 2 ∨ j = 3 by omega) with rfl | rfl | rfl | rfl
    · simp only [ia, List.getD_cons_zero, Int.toNat_natCast]
      rw [t3.old _ (by omega), t2.old _ (by omega), t1.old _ (by omega)]
      exact t0.lev
    · simp only [ia, List.getD_cons_zero, List.getD_cons_succ, Int.toNat_natCast]
      rw [t3.old _ (by omega), t2.old _ (by omega)]
      exact t1.lev
    · simp only [ia, List.getD_cons_zero, List.getD_cons_succ, Int.toNat_natCast]
      rw [t3.old _ (by omega)]
      exact t2.lev
    · simp only [ia, List.getD_cons_zero, List.getD_cons_succ, Int.toNat_natCast]
      exact t3.lev

/-- How many cells there are does not hang on the corner. -/
theorem cellsL_len_at (F : List Qd) : ∀ (n q : Nat) (x y u v : Int), (cellsL F n q x y).length = (cellsL F n q u v).length
  | 0, q, x, y, u, v => by simp only [cellsL]; split <;> rfl
  | n + 1, q, x, y, u, v => by
    simp only [cellsL, List.length_append]
    rw [cellsL_len_at F n (kidq F q 0) x y u v, cellsL_len_at F n (kidq F q 1) _ _ (u + 2 ^ n) v, cellsL_len_at F n (kidq F q 2) _ _ u (v + 2 ^ n), cellsL_len_at F n (kidq F q 3) _ _ (u + 2 ^ n) (v + 2 ^ n)]
/-- A quad's count is its kids' counts together. -/
theorem count_kids {F : List Qd} {q n : Nat} (hq : levN F q = n + 1) (hk : ∀ j, j < 4 → levN F (kidq F q j) = n) :
    (cellsOfQ F q).length = (cellsOfQ F (kidq F q 0)).length + (cellsOfQ F (kidq F q 1)).length + (cellsOfQ F (kidq F q 2)).length + (cellsOfQ F (kidq F q 3)).length := by
  unfold cellsOfQ
  rw [hq, hk 0 (by omega), hk 1 (by omega), hk 2 (by omega), hk 3 (by omega)]
  simp only [cellsL, List.length_append]
  rw [cellsL_len_at F n (kidq F q 1) _ _ 0 0, cellsL_len_at F n (kidq F q 2) _ _ 0 0, cellsL_len_at F n (kidq F q 3) _ _ 0 0]

/-- How many squares a tree of a level has. -/
def sqs : Nat → Nat
  | 0 => 1
  | n + 1 => 1 + 4 * sqs n
theorem sqs_up : ∀ n, sqs (n + 1) = sqs n + 4 ^ (n + 1)
  | 0 => rfl
  | n + 1 => by
    have := sqs_up n
    show 1 + 4 * sqs (n + 1) = sqs (n + 1) + 4 ^ (n + 1 + 1)
    rw [Nat.pow_succ 4 (n + 1)]
    have e : sqs (n + 1) = 1 + 4 * sqs n := rfl
    omega
/-- The quads of all its squares. -/
def allQ (F : List Qd) : Nat → Nat → List Nat
  | 0, q => [q]
  | n + 1, q => q :: (allQ F n (kidq F q 0) ++ (allQ F n (kidq F q 1) ++ (allQ F n (kidq F q 2) ++ allQ F n (kidq F q 3))))
theorem allQ_len (F : List Qd) : ∀ n q, (allQ F n q).length = sqs n
  | 0, q => rfl
  | n + 1, q => by
    simp only [allQ, List.length_cons, List.length_append, allQ_len F n, sqs]
    omega
theorem reach_allQ {F : List Qd} (hg : goodF F = true) : ∀ (n q x : Nat), q < F.length → levN F q = n → Reach F q x → x ∈ allQ F n q
  | 0, q, x, hq, hn, h => by
    have b := lev_nonneg hg hq
    have := (lev_two hg hq).1 (by unfold levN at hn; omega)
    rw [h.low hg this]
    simp [allQ]
  | n + 1, q, x, hq, hn, h => by
    rcases reach_cases h with rfl | ⟨h2, i, hi, hr⟩
    · simp [allQ]
    · have k := kid_lt hg hq h2 hi
      have g := good_quad hg hq h2
      have z := reach_allQ hg n (kidq F q i) x (by omega) (by have := g.2.2.2.2 i hi; unfold levN at *; omega) hr
      simp only [allQ, List.mem_cons, List.mem_append]
      rcases (show i = 0 ∨ i = 1 ∨ i = 2 ∨ i = 3 by omega) with rfl | rfl | rfl | rfl <;> simp [z]
theorem len_le_of_sub : ∀ {l m : List Int}, l.Nodup → (∀ x ∈ l, x ∈ m) → l.length ≤ m.length
  | [], m, _, _ => by simp
  | a :: t, m, hd, hs => by
    rw [List.nodup_cons] at hd
    have hm := hs a (by simp)
    have := len_le_of_sub (m := m.erase a) hd.2 (fun x hx => by
      have hne : x ≠ a := fun e => hd.1 (by rw [← e]; exact hx)
      exact (List.mem_erase_of_ne hne).2 (hs x (by simp [hx])))
    rw [List.length_erase_of_mem hm] at this
    have := List.length_pos_of_mem hm
    simp only [List.length_cons]
    omega
theorem shrL_spec {F : List Qd} (hg : goodF F = true) {q : Nat} (hq : q < F.length) : Asc (shrL F q) ∧ ∀ x, x ∈ shrL F q ↔ ∃ n : Nat, x = n ∧ Reach F q n := by
  classical
  have h1 := gotTo_asc (fun x => decide (Reach F q x)) (q + 1)
  have h2 : ∀ x, x ∈ gotTo (fun x => decide (Reach F q x)) (q + 1) ↔ ∃ n : Nat, x = n ∧ Reach F q n := by
    intro x
    rw [gotTo_mem]
    constructor
    · rintro ⟨n, e, _, h⟩
      exact ⟨n, e, by simpa using h⟩
    · rintro ⟨n, e, h⟩
      have := h.le hg hq
      exact ⟨n, e, by omega, by simpa using h⟩
  rw [shrL_eq h1 h2]
  exact ⟨h1, h2⟩
/-- A tree is made of no more quads than it has squares. -/
theorem shrL_len {F : List Qd} (hg : goodF F = true) {q : Nat} (hq : q < F.length) : (shrL F q).length ≤ sqs (levN F q) := by
  obtain ⟨h1, h2⟩ := shrL_spec hg hq
  have := len_le_of_sub (m := (allQ F (levN F q) q).map (fun n : Nat => (n : Int))) (asc_nodup h1) (fun x hx => by
    obtain ⟨n, rfl, hr⟩ := (h2 x).1 hx
    exact List.mem_map.2 ⟨n, reach_allQ hg _ q n hq rfl hr, rfl⟩)
  rw [List.length_map, allQ_len] at this
  exact this
theorem shrL_self {F : List Qd} (hg : goodF F = true) {q : Nat} (hq : q < F.length) : (q : Int) ∈ shrL F q := ((shrL_spec hg hq).2 _).2 ⟨q, rfl, .self⟩
/-- .. and of their kids. -/
theorem shrL_kid {F : List Qd} (hg : goodF F = true) {q x j : Nat} (hq : q < F.length) (hx : (x : Int) ∈ shrL F q) (hj : j < (qa F x).2.length) : x < F.length ∧ ia (qa F x).2 j ∈ shrL F q := by
  obtain ⟨n, e, hr⟩ := ((shrL_spec hg hq).2 _).1 hx
  obtain rfl : x = n := by omega
  have hl := hr.le hg hq
  refine ⟨by omega, ?_⟩
  by_cases h2 : x < 2
  · have := (good_zero hg (show x < F.length by omega) h2).2
    omega
  · have g := good_quad hg (show x < F.length by omega) (by omega)
    have a := g.2.2.2.1 j (by omega)
    exact ((shrL_spec hg hq).2 _).2 ⟨kidq F x j, by unfold kidq; omega, .kid hr (by omega) (by omega)⟩

end Go.Proofs.YtnabgfbempkgnaaGreatDoor

namespace Go.Proofs.YtnabgfbempkgnaaGreatDoor
open Go.RowKit
set_option linter.unusedVariables false
attribute [local go_sem ↓] Go.wp_at_zero Go.wp_at_succ

theorem pow2F {n : Nat} (h : n ≤ 5) : (2 : Int) ^ n ≤ 32 := by
  rcases (show n = 0 ∨ n = 1 ∨ n = 2 ∨ n = 3 ∨ n = 4 ∨ n = 5 by omega) with rfl | rfl | rfl | rfl | rfl | rfl <;> decide
theorem pow4F {n : Nat} (h : n ≤ 5) : 4 ^ n ≤ 1024 := by
  rcases (show n = 0 ∨ n = 1 ∨ n = 2 ∨ n = 3 ∨ n = 4 ∨ n = 5 by omega) with rfl | rfl | rfl | rfl | rfl | rfl <;> decide
theorem fine_zero {F : List Qd} (h : FineF F) {q : Nat} (hq : q < F.length) (h2 : q < 2) : (qa F q).1 = 0 ∧ (qa F q).2.length = 0 := by
  have := h.2 q hq
  simp only [fineQ, if_pos h2, Bool.and_eq_true, decide_eq_true_eq] at this
  exact this
theorem fine_quad {F : List Qd} (h : FineF F) {q : Nat} (hq : q < F.length) (h2 : 2 ≤ q) :
    (qa F q).2.length = 4 ∧ 1 ≤ (qa F q).1 ∧ (qa F q).1 ≤ 5 ∧ (∀ i, i < 4 → 0 ≤ ia (qa F q).2 i ∧ ia (qa F q).2 i < (q : Int)) ∧ (∀ i, i < 4 → (qa F (kidq F q i)).1 = (qa F q).1 - 1) := by
  have := h.2 q hq
  simp only [fineQ, if_neg (show ¬ q < 2 by omega), Bool.and_eq_true, decide_eq_true_eq] at this
  obtain ⟨⟨⟨⟨h1, h3⟩, h4⟩, h5⟩, h6⟩ := this
  have b4 := inB_bd h4
  refine ⟨h1, b4.1, b4.2, fun i hi => ?_, fun i hi => ?_⟩
  · have := inB_bd (allB_iff.1 h3 i (by omega))
    omega
  · have := allB_iff.1 h5 i (by omega)
    simpa [kidq] using this
theorem fine_levF {F : List Qd} (h : FineF F) {q : Nat} (hq : q < F.length) : 0 ≤ (qa F q).1 ∧ (qa F q).1 ≤ 5 ∧ levN F q ≤ 5 ∧ (qa F q).1 = (levN F q : Int) := by
  have : 0 ≤ (qa F q).1 ∧ (qa F q).1 ≤ 5 := by
    by_cases h2 : q < 2
    · have := (fine_zero h hq h2).1; omega
    · have := fine_quad h hq (by omega); omega
  unfold levN
  omega
theorem fine_two {F : List Qd} (h : FineF F) {q : Nat} (hq : q < F.length) : (qa F q).1 = 0 ↔ q < 2 := by
  constructor
  · intro e
    by_cases h2 : q < 2
    · exact h2
    · have := fine_quad h hq (by omega); omega
  · intro h2; exact (fine_zero h hq h2).1

set_option maxHeartbeats 2000000 in
set_option maxRecDepth 100000 in
theorem c_l3CellsF {F : List Qd} (hg : FineF F) (a : Option Addr) (ca : Nat) (W0 : World) (hQ : QSeg W0 a F) : ∀ (n : Nat) (q x y : Int) (v : Value) (out : List Cl) (w : World) (base : Nat),
    0 ≤ q → q < (F.length : Int) → (qa F q.toNat).1 = (n : Int) → -100000 ≤ x → x + 2 ^ n ≤ 100000 → -100000 ≤ y → y + 2 ^ n ≤ 100000 → Below W0.heap.size W0 w → W0.heap.size ≤ base → base ≤ w.heap.size → OwnS w base v out → out.length + 4 ^ n ≤ 4000000 →
    Calls Tryz.prog 61 #[.agg #[.slice a F.length ca], .int .i64 q, .int .i64 x, .int .i64 y, v] w fun e w' => ∃ v', e = .returned v' ∧ OwnS w' base v' (out ++ cellsL F n q.toNat x y) ∧ w.grownBy w' v.ownBlock ∧ Near' w v v' := by
  intro n
  induction n with
  | zero =>
    intro q x y v out w base h0 h1 hlev x0 x1 y0 y1 hB hb0 hb1 hO hlen
    have hq2 := (fine_two hg (q := q.toNat) (by omega)).1 (by simpa using hlev)
    rcases (show q = 0 ∨ q = 1 by omega) with rfl | rfl
    · have HO := hid hO
      have S1 := hid (Stg.new hO [.slice a F.length ca] 56)
      clear hO
      go_enter Tryz.func61, Tryz.ntmps61
      go_wp2
      go_ret
      exact ⟨v, rfl, by simpa [cellsL] using S1.out.own, S1.out.gr, S1.out.near⟩
    · have HO := hid hO
      have S1 := hid (Stg.new hO [.slice a F.length ca] 56)
      clear hO
      have HS2 := hid (S1.out.below ((Below.refl _ _).alloc (Nat.le_refl _) (.cells #[.int .i64 x, .int .i64 y] 51)))
      have hsg := (seg_block (heap_alloc_new (w.alloc (.cells #[.slice a F.length ca] 56)) (.cells #[.int .i64 x, .int .i64 y] 51)) : Seg _ _ [(x, y)])
      rw [show (w.alloc (.cells #[.slice a F.length ca] 56)).heap.size = w.heap.size + 1 by simp] at hsg
      have HSG := hid hsg
      clear hsg
      go_enter Tryz.func61, Tryz.ntmps61
      go_wp2_with (at_builtin; refine wpList_appAt rfl _ _ rfl base _ out [(x, y)] _ 1 rfl HS2.out.own rfl HSG.out (by simp at hlen ⊢; omega) (by simp; omega) ?_; intro v' w2 hO2 hG2 hN2)
      go_ret
      have S3 := HS2.out.step HO.out hO2 hG2 hN2
      exact ⟨v', rfl, by simpa [cellsL] using S3.own, S3.gr, S3.near⟩
  | succ n ih =>
    intro q x y v out w base h0 h1 hlev x0 x1 y0 y1 hB hb0 hb1 hO hlen
    have hq2 : 2 ≤ q := by
      have := (fine_two hg (q := q.toNat) (by omega))
      rw [hlev] at this
      have h3 : ¬ q.toNat < 2 := fun h => by have := this.2 h; omega
      omega
    obtain ⟨k4, l1, l5, kin, klev⟩ := fine_quad hg (q := q.toNat) (by omega) (by omega)
    obtain ⟨b1, o1, ak, ck, rfl, hb1', p1, p2, p3, p4⟩ := hQ q.toNat (by omega)
    obtain ⟨bk, ok, rfl, hbk, kc0⟩ := p3 0 (by omega)
    have d0 : (q == 0) = false := by simp; omega
    have d1 : (q == 1) = false := by simp; omega
    have S1 := hid (Stg.new hO [.slice (some ⟨b1, o1, none⟩) F.length ca] 56)
    have c1 := (((S1.out.old hO hB hb0).cell (p := ⟨b1, o1 + q.toNat * 2, none⟩) hb1').trans p1)
    have c2 := (((S1.out.old hO hB hb0).cell (p := ⟨b1, o1 + q.toNat * 2 + 1, none⟩) hb1').trans p2)
    rw [hlev] at c1
    obtain ⟨_, _, e1, _, kc1⟩ := p3 1 (by omega)
    obtain ⟨_, _, e2, _, kc2⟩ := p3 2 (by omega)
    obtain ⟨_, _, e3, _, kc3⟩ := p3 3 (by omega)
    simp only [Option.some.injEq, Addr.mk.injEq, and_true] at e1 e2 e3
    obtain ⟨rfl, rfl⟩ := e1
    obtain ⟨rfl, rfl⟩ := e2
    obtain ⟨rfl, rfl⟩ := e3
    rw [Nat.add_zero] at kc0
    have HIH := hid ih
    have HB := hid hB
    have HO := hid hO
    have hn5 : n < 5 := by omega
    have hpos := pow_pos' n
    have hle : (2 : Int) ^ n ≤ 16 := by
      rcases (show n = 0 ∨ n = 1 ∨ n = 2 ∨ n = 3 ∨ n = 4 by omega) with rfl | rfl | rfl | rfl | rfl <;> decide
    have HW := hid (show wrap64 ((2 : Int) ^ n) = 2 ^ n by unfold wrap64; omega)
    have h4 : (4 : Nat) ^ (n + 1) = 4 * 4 ^ n := by rw [Nat.pow_succ]; omega
    have hcl := hid (show cellsL F (n + 1) q.toNat x y = cellsL F n (kidq F q.toNat 0) x y ++ cellsL F n (kidq F q.toNat 1) (x + 2 ^ n) y ++ cellsL F n (kidq F q.toNat 2) x (y + 2 ^ n) ++ cellsL F n (kidq F q.toNat 3) (x + 2 ^ n) (y + 2 ^ n) from rfl)
    have L0 := cellsL_len F n (kidq F q.toNat 0) x y
    have L1 := cellsL_len F n (kidq F q.toNat 1) (x + 2 ^ n) y
    have L2 := cellsL_len F n (kidq F q.toNat 2) x (y + 2 ^ n)
    rw [two_pow] at x1 y1
    rw [hlev] at klev
    have i0 := kin 0 (by omega)
    have i1 := kin 1 (by omega)
    have i2 := kin 2 (by omega)
    have i3 := kin 3 (by omega)
    have j0 := klev 0 (by omega)
    have j1 := klev 1 (by omega)
    have j2 := klev 2 (by omega)
    have j3 := klev 3 (by omega)
    simp only [kidq] at j0 j1 j2 j3 L0 L1 L2
    have HJ0 := hid (show (qa F (ia (qa F q.toNat).2 0).toNat).1 = (n : Int) by omega)
    have HJ1 := hid (show (qa F (ia (qa F q.toNat).2 1).toNat).1 = (n : Int) by omega)
    have HJ2 := hid (show (qa F (ia (qa F q.toNat).2 2).toNat).1 = (n : Int) by omega)
    have HJ3 := hid (show (qa F (ia (qa F q.toNat).2 3).toNat).1 = (n : Int) by omega)
    have HL0 := hid L0
    have HL1 := hid L1
    have HL2 := hid L2
    have H4 := hid h4
    have HLEN := hid hlen
    have HK := hid (⟨kc0, kc1, kc2, kc3⟩ : _ ∧ _ ∧ _ ∧ _)
    rw [k4] at c2
    clear j0 j1 j2 j3 klev kin ih hB hO p1 p2 p3 p4 kc0 kc1 kc2 kc3 hQ L0 L1 L2 h4 hlen hlev l1 l5 k4
    have hcl' : Hid (cellsL F (n + 1) q.toNat x y = cellsL F n (ia (qa F q.toNat).2 0).toNat x y ++ cellsL F n (ia (qa F q.toNat).2 1).toNat (x + 2 ^ n) y ++ cellsL F n (ia (qa F q.toNat).2 2).toNat x (y + 2 ^ n) ++ cellsL F n (ia (qa F q.toNat).2 3).toNat (x + 2 ^ n) (y + 2 ^ n)) := hcl
    clear hcl
    generalize ia (qa F q.toNat).2 0 = q0 at *
    generalize ia (qa F q.toNat).2 1 = q1 at *
    generalize ia (qa F q.toNat).2 2 = q2 at *
    generalize ia (qa F q.toNat).2 3 = q3 at *
    go_enter Tryz.func61, Tryz.ntmps61
    go_wp2_with fail
    clear HW c1 c2 d0 d1
    generalize (2 : Int) ^ n = H at *
    generalize w.alloc (.cells #[.slice (some ⟨b1, o1, none⟩) F.length ca] 56) = W1 at *
    have HL := HLEN.out
    rw [H4.out] at HL
    have HLL := hid HL
    clear HL HLEN H4
    have x0 := S1.out.box 0 _ rfl
    have y0' := ((S1.out.old HO.out HB.out hb0).cell (p := ⟨bk, ok, none⟩) hbk).trans HK.out.1
    refine wp_region_still_tail 7 (by kernel_rfl) (by kernel_rfl) ?_
    simp only [List.take_succ_cons, List.take_zero, List.drop_succ_cons, List.drop_zero]
    iterate 7 still_step
    refine wpStill_nil ?_
    clear x0 y0'
    go_wp2_with fail
    refine (HIH.out q0 x y _ _ _ base (by omega) (by omega) HJ0.out (by omega) (by omega) (by omega) (by omega) (S1.out.drew.old HO.out HB.out hb0) hb0 (Nat.le_trans hb1 S1.out.drew.gr.size) S1.out.drew.own (by have := HLL.out; omega)).mono ?_
    rintro e W2 ⟨v2, rfl, hO2, hG2, hN2⟩
    replace S1 := hid (S1.out.drew.step HO.out hO2 hG2 hN2)
    clear hO2 hG2 hN2
    go_wp2_with fail
    have x0 := S1.out.box 0 _ rfl
    have y0' := ((S1.out.old HO.out HB.out hb0).cell (p := ⟨bk, ok + 1, none⟩) hbk).trans HK.out.2.1
    refine wp_region_still_tail 9 (by kernel_rfl) (by kernel_rfl) ?_
    simp only [List.take_succ_cons, List.take_zero, List.drop_succ_cons, List.drop_zero]
    iterate 9 still_step
    refine wpStill_nil ?_
    clear x0 y0'
    go_wp2_with fail
    refine (HIH.out q1 (x + H) y _ _ _ base (by omega) (by omega) HJ1.out (by omega) (by omega) (by omega) (by omega) (S1.out.drew.old HO.out HB.out hb0) hb0 (Nat.le_trans hb1 S1.out.drew.gr.size) S1.out.drew.own (by have := HLL.out; have := HL0.out; rw [List.length_append]; omega)).mono ?_
    rintro e W2 ⟨v2, rfl, hO2, hG2, hN2⟩
    replace S1 := hid (S1.out.drew.step HO.out hO2 hG2 hN2)
    clear hO2 hG2 hN2
    go_wp2_with fail
    have x0 := S1.out.box 0 _ rfl
    have y0' := ((S1.out.old HO.out HB.out hb0).cell (p := ⟨bk, ok + 2, none⟩) hbk).trans HK.out.2.2.1
    refine wp_region_still_tail 9 (by kernel_rfl) (by kernel_rfl) ?_
    simp only [List.take_succ_cons, List.take_zero, List.drop_succ_cons, List.drop_zero]
    iterate 9 still_step
    refine wpStill_nil ?_
    clear x0 y0'
    go_wp2_with fail
    refine (HIH.out q2 x (y + H) _ _ _ base (by omega) (by omega) HJ2.out (by omega) (by omega) (by omega) (by omega) (S1.out.drew.old HO.out HB.out hb0) hb0 (Nat.le_trans hb1 S1.out.drew.gr.size) S1.out.drew.own (by have := HLL.out; have := HL0.out; have := HL1.out; rw [List.length_append, List.length_append]; omega)).mono ?_
    rintro e W2 ⟨v2, rfl, hO2, hG2, hN2⟩
    replace S1 := hid (S1.out.drew.step HO.out hO2 hG2 hN2)
    clear hO2 hG2 hN2
    go_wp2_with fail
    have x0 := S1.out.box 0 _ rfl
    have y0' := ((S1.out.old HO.out HB.out hb0).cell (p := ⟨bk, ok + 3, none⟩) hbk).trans HK.out.2.2.2
    refine wp_region_still_tail 11 (by kernel_rfl) (by kernel_rfl) ?_
    simp only [List.take_succ_cons, List.take_zero, List.drop_succ_cons, List.drop_zero]
    iterate 11 still_step
    refine wpStill_nil ?_
    clear x0 y0'
    go_wp2_with fail
    refine (HIH.out q3 (x + H) (y + H) _ _ _ base (by omega) (by omega) HJ3.out (by omega) (by omega) (by omega) (by omega) (S1.out.drew.old HO.out HB.out hb0) hb0 (Nat.le_trans hb1 S1.out.drew.gr.size) S1.out.drew.own (by have := HLL.out; have := HL0.out; have := HL1.out; have := HL2.out; rw [List.length_append, List.length_append, List.length_append]; omega)).mono ?_
    rintro e W2 ⟨v2, rfl, hO2, hG2, hN2⟩
    replace S1 := hid (S1.out.drew.step HO.out hO2 hG2 hN2)
    clear hO2 hG2 hN2
    go_wp2_with fail
    go_ret
    refine ⟨_, rfl, ?_, S1.out.gr, S1.out.near⟩
    rw [hcl'.out]
    simpa [List.append_assoc] using S1.out.own

/-- All of a quad's cells, from the first corner on, put behind none. -/
theorem c_l3CellsAllF {F : List Qd} (hg : FineF F) (a : Option Addr) (ca : Nat) (q : Int) (w : World) (ha : QSeg w a F) (h0 : 0 ≤ q) (h1 : q < (F.length : Int)) :
    Calls Tryz.prog 61 #[.agg #[.slice a F.length ca], .int .i64 q, .int .i64 0, .int .i64 0, .slice none 0 0] w fun e w' => ∃ v', e = .returned v' ∧ OwnS w' w.heap.size v' (cellsOfQ F q.toNat) ∧ Below w.heap.size w w' := by
  obtain ⟨_, _, e2, e1⟩ := fine_levF hg (q := q.toNat) (by omega)
  have p1 := pow2F e2
  have p2 := pow4F e2
  refine (c_l3CellsF hg a ca w ha (levN F q.toNat) q 0 0 (.slice none 0 0) [] w w.heap.size h0 h1 e1 (by omega) (by omega) (by omega) (by omega) (Below.refl _ _) (Nat.le_refl _) (Nat.le_refl _) (OwnS.nil _ _) (by simp; omega)).mono ?_
  rintro e w' ⟨v', he, hO, hG, _⟩
  exact ⟨v', he, by simpa [cellsOfQ] using hO, ⟨hG.os, hG.tape, hG.output, hG.size, fun k hk => hG.block k hk (by simp [Value.ownBlock])⟩⟩

end Go.Proofs.YtnabgfbempkgnaaGreatDoor

namespace Go.Proofs.YtnabgfbempkgnaaGreatDoor
open Go.RowKit
set_option linter.unusedVariables false
set_option linter.unusedSimpArgs false
attribute [local go_sem ↓] Go.wp_at_zero Go.wp_at_succ

/-- What a quad's cells come to by a quarter of its side, and the tree of their middle. -/
noncomputable def resC (F : List Qd) (q : Nat) : List Cl := stepsL (2 ^ (levN F q - 2)) (ordL (cellsOfQ F q))
noncomputable def resT (F : List Qd) (q : Nat) : List Qd × Nat := treeL (mv (resC F q) (-(2 ^ (levN F q - 2))) (-(2 ^ (levN F q - 2)))) (levN F q - 1) 0 0 F

theorem cells_in (F : List Qd) (q : Nat) (h : levN F q ≤ 5) : InB 0 31 (cellsOfQ F q) := by
  intro c hc
  have h1 := cellsL_in F (levN F q) q 0 0 c hc
  have h2 := pow2F h
  omega
theorem cells_few (F : List Qd) (q : Nat) (h : levN F q ≤ 5) : (cellsOfQ F q).length ≤ 1024 := by
  have h1 := cellsL_len F (levN F q) q 0 0
  have h2 := pow4F h
  unfold cellsOfQ
  omega
/-- What a quad comes to is ordered, and near by. -/
theorem resC_facts (F : List Qd) (q : Nat) (h : levN F q ≤ 5) : risTo (resC F q) (resC F q).length = true ∧ InB (-8) 39 (resC F q) ∧ (resC F q).length ≤ 6561 := by
  obtain ⟨l', h1, h2⟩ := ord_ex (cellsOfQ F q)
  have e : ordL (cellsOfQ F q) = l' := ordL_eq h1 h2
  have hI : InB 0 31 l' := fun c hc => cells_in F q h c ((h2 c).1 hc)
  have hk : 2 ^ (levN F q - 2) ≤ 8 := by
    rcases (show levN F q - 2 = 0 ∨ levN F q - 2 = 1 ∨ levN F q - 2 = 2 ∨ levN F q - 2 = 3 by omega) with e | e | e | e <;> rw [e] <;> decide
  unfold resC
  rw [e]
  have hr := steps_ris (n := 2 ^ (levN F q - 2)) h1
  have hS : InB (-8) 39 (stepsL (2 ^ (levN F q - 2)) l') := (InB.steps (l := l') (n := 2 ^ (levN F q - 2)) hI).wide (by omega) (by omega)
  exact ⟨hr, hS, len_box hr (hS.wide (by omega) (by omega))⟩

end Go.Proofs.YtnabgfbempkgnaaGreatDoor

namespace Go.Proofs.YtnabgfbempkgnaaGreatDoor
open Go.RowKit
set_option linter.unusedVariables false
set_option linter.unusedSimpArgs false
attribute [local go_sem ↓] Go.wp_at_zero Go.wp_at_succ

set_option maxHeartbeats 1000000 in
set_option maxRecDepth 100000 in
theorem c_l5Quad (a : Option Addr) (F : List Qd) (ca : Nat) (q m : Int) (v : Bool) (hv : quadB F q m = v) (w : World) (ha : QSeg w a F) (hl : F.length ≤ 1048576) (hk : KidsLe F) (hca : F.length ≤ ca) (hcm : ca ≤ 9223372036854775807) :
    Calls Tryz.prog 59 #[.agg #[.slice a F.length ca], .int .i64 q, .int .i64 m] w fun e w' => e = .returned (.bool v) ∧ Below w.heap.size w w' := by
  have HX := hid (Box1.new w (.slice a F.length ca) 56)
  have HQ := hid (ha.below HX.out.2.2)
  have x0 := HX.out.1
  clear ha
  unfold quadB at hv
  cases hth : thereB F q
  · have HC := hid (c_l3There' a F ca q false hth _ HQ.out hl hk hca hcm)
    have HV := hid (show v = false by rw [← hv, hth]; rfl)
    clear hv hth
    go_enter Tryz.func59, Tryz.ntmps59
    go_wp2_with fail
    refine HC.out.mono ?_
    rintro e w3 ⟨rfl, hb⟩
    have HB := hid (HX.out.step hb).2.2
    clear HC hb
    go_wp2_with fail
    go_ret
    exact ⟨ret_bool HV.out.symm, HB.out⟩
  · have HC := hid (c_l3There' a F ca q true hth _ HQ.out hl hk hca hcm)
    obtain ⟨hg, h0, h1⟩ := there_bd hth
    obtain ⟨b1, o1, ak, ck, rfl, hb1, p1, _⟩ := HQ.out q.toNat (by omega)
    have HV := hid (show decide (m ≤ (qa F q.toNat).1) = v by rw [← hv, hth]; rfl)
    clear hv hth
    generalize (qa F q.toNat).1 = lv at *
    go_enter Tryz.func59, Tryz.ntmps59
    go_wp2_with fail
    refine HC.out.mono ?_
    rintro e w3 ⟨rfl, hb⟩
    have HB := hid (HX.out.step hb).2.2
    have x3 := (HX.out.step hb).1
    have y3 := (hb.cell (p := ⟨b1, o1 + q.toNat * 2, none⟩) hb1).trans p1
    clear HC hb p1 x0
    go_wp2_with fail
    go_ret
    exact ⟨ret_bool HV.out, HB.out⟩

end Go.Proofs.YtnabgfbempkgnaaGreatDoor

namespace Go.Proofs.YtnabgfbempkgnaaGreatDoor
open Go.RowKit
set_option linter.unusedVariables false
set_option linter.unusedSimpArgs false
attribute [local go_sem ↓] Go.wp_at_zero Go.wp_at_succ

/-- What StepsFor tells. -/
def stpV (n : Int) : Int := if inB 2 5 n then 2 ^ (n - 2).toNat else 0
/-- Is a cell safe from the edge? -/
def safB (side s : Int) (c : Cl) : Bool := inB s (side - 1 - s) c.1 && inB s (side - 1 - s) c.2
def safOK (F : List Qd) (q s : Int) : Bool := quadB F q 2 && inB 0 (2 ^ (levN F q.toNat - 2)) s
noncomputable def safL (F : List Qd) (q s : Int) : List Cl := (stepsL s.toNat (ordL (cellsOfQ F q.toNat))).filter (safB (2 ^ levN F q.toNat) s)
noncomputable def safV (F : List Qd) (q s : Int) : List Cl := if safOK F q s then safL F q s else []
theorem filt_succ {l : List Cl} {f : Cl → Bool} {k : Nat} (h : k < l.length) : (l.take (k + 1)).filter f = (l.take k).filter f ++ (if f (at_ l k) then [at_ l k] else []) := by
  rw [List.take_succ_eq_append_getElem h, List.filter_append]
  have : l[k] = at_ l k := by simp [at_, h]
  rw [this]
  split <;> rename_i hf <;> simp [hf]

set_option maxHeartbeats 8000000 in
set_option maxRecDepth 100000 in
theorem c_sSafeIn (a : Option Addr) (F : List Qd) (ca : Nat) (q s : Int) (w : World) (ha : QSeg w a F) (hl : F.length ≤ 1048576) (hk : KidsLe F) (hca : F.length ≤ ca) (hcm : ca ≤ 9223372036854775807) :
    Calls Tryz.prog 33 #[.agg #[.slice a F.length ca], .int .i64 q, .int .i64 s] w fun e w' => ∃ v, e = .returned (.tuple #[v, .bool (safOK F q s)]) ∧ OwnS w' w.heap.size v (safV F q s) ∧ Below w.heap.size w w' := by
  have HX := hid (Box1.new w (.slice a F.length ca) 56)
  have HQ := hid (ha.below HX.out.2.2)
  have x0 := HX.out.1
  clear ha
  cases hq : quadB F q 2
  · have HC := hid (c_l5Quad a F ca q 2 false hq _ HQ.out hl hk hca hcm)
    have HV := hid (show safOK F q s = false ∧ safV F q s = [] by simp [safV, safOK, hq])
    clear hq
    go_enter Tryz.func33, Tryz.ntmps33
    go_wp2_with fail
    refine HC.out.mono ?_
    rintro e w3 ⟨rfl, hb⟩
    have HB := hid (HX.out.step hb).2.2
    clear HC hb
    go_wp2_with fail
    rw [HV.out.1, HV.out.2]
    exact bodyPost_ret (v := .tuple #[.slice none 0 0, .bool false]) (by simp [results, Tryz.results33, go_sem]) rfl ⟨_, rfl, OwnS.nil _ _, HB.out⟩
  · have HC := hid (c_l5Quad a F ca q 2 true hq _ HQ.out hl hk hca hcm)
    have hq' := hq
    unfold quadB at hq'
    simp only [Bool.and_eq_true, decide_eq_true_eq] at hq'
    obtain ⟨hg, h0, h1⟩ := there_bd hq'.1
    obtain ⟨b1, o1, ak, ck, rfl, hb1, p1, _⟩ := HQ.out q.toNat (by omega)
    obtain ⟨_, _, hl5, hlev⟩ := fine_levF (good_fineF hg) (q := q.toNat) (by omega)
    have hlo : levN F q.toNat = 2 ∨ levN F q.toNat = 3 ∨ levN F q.toNat = 4 ∨ levN F q.toNat = 5 := by have := hq'.2; omega
    rw [hlev] at p1
    have HCE := hid (fun (W : World) (hQ : QSeg W (some ⟨b1, o1, none⟩) F) => c_l3CellsAllF (good_fineF hg) (some ⟨b1, o1, none⟩) ca q W hQ h0 h1)
    have HCI := hid (cells_in F q.toNat hl5)
    have HCF := hid (cells_few F q.toNat hl5)
    have HOK := hid (show ∀ b, inB 0 (2 ^ (levN F q.toNat - 2)) s = b → safOK F q s = b by intro b hb; unfold safOK; rw [hq, hb]; rfl)
    have HSL := hid (show ∀ b, inB 0 (2 ^ (levN F q.toNat - 2)) s = b → safV F q s = if b then safL F q s else [] by intro b hb; unfold safV; rw [HOK.out b hb])
    have HSD := hid (show safL F q s = (stepsL s.toNat (ordL (cellsOfQ F q.toNat))).filter (safB (2 ^ levN F q.toNat) s) from rfl)
    clear hq hq' hg hlev hl5
    generalize safOK F q s = OKV at *
    generalize safV F q s = SV at *
    generalize safL F q s = SL0 at *
    generalize cellsOfQ F q.toNat = CL at *
    generalize levN F q.toNat = nn at *
    rcases hlo with rfl | rfl | rfl | rfl
    · cases hin : inB 0 1 s
      · have HD := hid (c_l1In' s 0 1 false hin)
        have HV := hid (show OKV = false ∧ SV = [] from ⟨HOK.out false hin, HSL.out false hin⟩)
        clear hin
        go_enter Tryz.func33, Tryz.ntmps33
        go_wp2_with fail
        refine HC.out.mono ?_
        rintro e w3 ⟨rfl, hb⟩
        have X3 := hid (HX.out.step hb)
        have x3 := X3.out.1
        have y3 := (hb.cell (p := ⟨b1, o1 + q.toNat * 2, none⟩) hb1).trans p1
        clear HC hb p1 x0
        go_wp2_with fail
        refine (HD.out _).mono ?_
        rintro e w4 ⟨rfl, rfl⟩
        go_wp2_with fail
        rw [HV.out.1, HV.out.2]
        exact bodyPost_ret (v := .tuple #[.slice none 0 0, .bool false]) (by simp [results, Tryz.results33, go_sem]) rfl ⟨_, rfl, OwnS.nil _ _, X3.out.2.2⟩
      · have HD := hid (c_l1In' s 0 1 true hin)
        have hs := inB_bd hin
        have HV := hid (show OKV = true ∧ SV = (stepsL s.toNat (ordL CL)).filter (safB 4 s) from ⟨HOK.out true hin, (HSL.out true hin).trans HSD.out⟩)
        have HST := hid (fun (aa : Option Addr) (cc : Nat) (W : World) (hS : Seg W aa CL) => c_l5After aa CL cc s.toNat W hS (by have := HCF.out; omega) HCI.out (by omega))
        rw [show ((s.toNat : Nat) : Int) = s by omega] at HST
        obtain ⟨l', r1, r2⟩ := ord_ex CL
        have ro : ordL CL = l' := ordL_eq r1 r2
        have hI : InB 0 31 l' := fun c hc => HCI.out c ((r2 c).1 hc)
        have hlen : (stepsL s.toNat (ordL CL)).length ≤ 6561 := by
          rw [ro]
          exact len_box (steps_ris r1) ((InB.steps (l := l') (n := s.toNat) hI).wide (by omega) (by omega))
        clear hin ro hI r1 r2 HOK HSL HSD
        generalize stepsL s.toNat (ordL CL) = LL at *
        go_enter Tryz.func33, Tryz.ntmps33
        go_wp2_with fail
        refine HC.out.mono ?_
        rintro e w3 ⟨rfl, hb⟩
        have X3 := hid (HX.out.step hb)
        have Q3 := hid (HQ.out.below hb)
        have x3 := X3.out.1
        have y3 := (hb.cell (p := ⟨b1, o1 + q.toNat * 2, none⟩) hb1).trans p1
        clear HC hb p1 x0
        go_wp2_with fail
        refine (HD.out _).mono ?_
        rintro e w4 ⟨rfl, rfl⟩
        go_wp2_with fail
        refine (HCE.out _ Q3.out).mono ?_
        rintro e w5 ⟨v5, rfl, hO5, hb5⟩
        obtain ⟨a5, c5, rfl, hs5⟩ := hO5.form
        have X5 := hid (X3.out.step hb5)
        have HS5 := hid hs5
        clear hO5 hs5 hb5 x3 y3 X3
        go_wp2_with fail
        refine (HST.out a5 c5 w5 HS5.out).mono ?_
        rintro e w6 ⟨v6, rfl, hS6, hb6⟩
        obtain ⟨a6, c6, rfl, hs6, _⟩ := hS6.form
        have X6 := hid (X5.out.step hb6)
        have HS6 := hid hs6
        clear hS6 hs6 hb6 X5 HS5
        go_wp2_with fail
        go_loopw [9, 44] (fun ov iv wr => ∃ k : Nat, k ≤ LL.length ∧ iv = .int .i64 k ∧ Hid (OwnS wr w6.heap.size ov ((LL.take k).filter (safB 4 s))) ∧ Hid (Below w6.heap.size w6 wr) ∧ Hid (Below w.heap.size w wr)) (fun _ iv _ => LL.length - (intOf iv).toNat)
        case atStart => exact ⟨0, Nat.zero_le _, rfl, by simpa [Hid] using OwnS.nil w6 w6.heap.size, Below.refl _ _, X6.out.2.2⟩
        case round =>
          obtain ⟨k, hk', rfl, HO, HB6, HB⟩ := hrel
          by_cases hlt : k < LL.length
          · obtain ⟨bz, oz, rfl, hbz, z1, z2⟩ := HS6.out k hlt
            have g1 := (HB6.out.cell (p := ⟨bz, oz + k * 2, none⟩) hbz).trans z1
            have g2 := (HB6.out.cell (p := ⟨bz, oz + k * 2 + 1, none⟩) hbz).trans z2
            change _ = some (Value.int .i64 (at_ LL k).1) at g1
            change _ = some (Value.int .i64 (at_ LL k).2) at g2
            have HFS := hid (filt_succ (f := safB 4 s) hlt)
            have hfl : ((LL.take k).filter (safB 4 s)).length ≤ 6561 := by
              have h1 := List.length_filter_le (safB 4 s) (LL.take k)
              rw [List.length_take] at h1
              omega
            have k0 : (0 : Int) ≤ (k : Int) := by omega
            have k1 : (k : Int) < (LL.length : Int) := by omega
            clear z1 z2
            generalize at_ LL k = z at *
            generalize (LL.take k).filter (safB 4 s) = FL at *
            have hz1 := cell_new0 wr (.int .i64 z.1) (.int .i64 z.2) 51
            have hz2 := cell_new1 wr (.int .i64 z.1) (.int .i64 z.2) 51
            have ba := (Below.refl wr.heap.size wr).alloc (Nat.le_refl _) (.cells #[.int .i64 z.1, .int .i64 z.2] 51)
            have HO1 := hid (HO.out.below ba)
            have HB61 := hid (HB6.out.trans (ba.mono HB6.out.size))
            have HB1 := hid (HB.out.trans (ba.mono HB.out.size))
            clear ba HO HB6 HB
            cases e1 : inB s (4 - 1 - s) z.1
            · have HN := hid (show (LL.take (k + 1)).filter (safB 4 s) = FL by rw [HFS.out, show safB 4 s z = false by unfold safB; rw [e1]; rfl]; simp)
              have HE1 := hid (c_l1In' z.1 s (4 - 1 - s) false e1)
              clear e1 HFS
              go_wp2_with fail
              refine (HE1.out _).mono ?_
              rintro e w8 ⟨rfl, rfl⟩
              go_wp2_with fail
              go_roundw
              case rel => exact ⟨k + 1, by omega, by go_num, by rw [HN.out]; exact HO1.out, HB61.out, HB1.out⟩
              case measure => simp [intOf]; omega
            · have HE1 := hid (c_l1In' z.1 s (4 - 1 - s) true e1)
              cases e2 : inB s (4 - 1 - s) z.2
              · have HN := hid (show (LL.take (k + 1)).filter (safB 4 s) = FL by rw [HFS.out, show safB 4 s z = false by unfold safB; rw [e1, e2]; rfl]; simp)
                have HE2 := hid (c_l1In' z.2 s (4 - 1 - s) false e2)
                clear e1 e2 HFS
                go_wp2_with fail
                refine (HE1.out _).mono ?_
                rintro e w8 ⟨rfl, rfl⟩
                go_wp2_with fail
                refine (HE2.out _).mono ?_
                rintro e w8 ⟨rfl, rfl⟩
                go_wp2_with fail
                go_roundw
                case rel => exact ⟨k + 1, by omega, by go_num, by rw [HN.out]; exact HO1.out, HB61.out, HB1.out⟩
                case measure => simp [intOf]; omega
              · have HN := hid (show (LL.take (k + 1)).filter (safB 4 s) = FL ++ [z] by rw [HFS.out, show safB 4 s z = true by unfold safB; rw [e1, e2]; rfl]; simp)
                have HE2 := hid (c_l1In' z.2 s (4 - 1 - s) true e2)
                clear e1 e2 HFS
                go_wp2_with fail
                refine (HE1.out _).mono ?_
                rintro e w8 ⟨rfl, rfl⟩
                go_wp2_with fail
                refine (HE2.out _).mono ?_
                rintro e w8 ⟨rfl, rfl⟩
                generalize hWZ : wr.alloc (.cells #[.int .i64 z.1, .int .i64 z.2] 51) = Wz at *
                have bz2 := (Below.refl Wz.heap.size Wz).alloc (Nat.le_refl _) (.cells #[.int .i64 z.1, .int .i64 z.2] 51)
                have HO2 := hid (HO1.out.below bz2)
                have HB62 := hid (HB61.out.trans (bz2.mono HB61.out.size))
                have HB2 := hid (HB1.out.trans (bz2.mono HB1.out.size))
                clear bz2 hWZ
                go_wp2_with (at_builtin; refine wpList_app' rfl (.tmp 66) (.tmp 68) rfl w6.heap.size _ FL [z] (some ⟨Wz.heap.size, 0, none⟩) 1 1 rfl HO2.out rfl rfl (seg_block (heap_alloc_new Wz _)) (by intro h; cases h) (by simp; omega) HB62.out.size ?_; intro v9 w9 hO9 hG9; have HB9 := hid (HB2.out.grown hG9 HB2.out.size (fun k e => Nat.le_trans X6.out.2.2.size (HO2.out.lt k e).1)); have HB69 := hid (HB62.out.grown hG9 HB62.out.size (fun k e => (HO2.out.lt k e).1)))
                go_roundw
                case rel => exact ⟨k + 1, by omega, by go_num, by rw [HN.out]; exact hO9, HB69.out, HB9.out⟩
                case measure => simp [intOf]; omega
          · obtain rfl : k = LL.length := by omega
            go_wp2_with fail
            rw [HV.out.1, HV.out.2]
            obtain ⟨va, vc, hvv, _⟩ := HO.out.form
            exact bodyPost_ret (v := .tuple #[_, .bool true]) (by simp [results, Tryz.results33, go_sem]; rfl) rfl ⟨_, rfl, by have := HO.out; rw [List.take_length] at this; exact this.mono X6.out.2.2.size, HB.out⟩
    · cases hin : inB 0 2 s
      · have HD := hid (c_l1In' s 0 2 false hin)
        have HV := hid (show OKV = false ∧ SV = [] from ⟨HOK.out false hin, HSL.out false hin⟩)
        clear hin
        go_enter Tryz.func33, Tryz.ntmps33
        go_wp2_with fail
        refine HC.out.mono ?_
        rintro e w3 ⟨rfl, hb⟩
        have X3 := hid (HX.out.step hb)
        have x3 := X3.out.1
        have y3 := (hb.cell (p := ⟨b1, o1 + q.toNat * 2, none⟩) hb1).trans p1
        clear HC hb p1 x0
        go_wp2_with fail
        refine (HD.out _).mono ?_
        rintro e w4 ⟨rfl, rfl⟩
        go_wp2_with fail
        rw [HV.out.1, HV.out.2]
        exact bodyPost_ret (v := .tuple #[.slice none 0 0, .bool false]) (by simp [results, Tryz.results33, go_sem]) rfl ⟨_, rfl, OwnS.nil _ _, X3.out.2.2⟩
      · have HD := hid (c_l1In' s 0 2 true hin)
        have hs := inB_bd hin
        have HV := hid (show OKV = true ∧ SV = (stepsL s.toNat (ordL CL)).filter (safB 8 s) from ⟨HOK.out true hin, (HSL.out true hin).trans HSD.out⟩)
        have HST := hid (fun (aa : Option Addr) (cc : Nat) (W : World) (hS : Seg W aa CL) => c_l5After aa CL cc s.toNat W hS (by have := HCF.out; omega) HCI.out (by omega))
        rw [show ((s.toNat : Nat) : Int) = s by omega] at HST
        obtain ⟨l', r1, r2⟩ := ord_ex CL
        have ro : ordL CL = l' := ordL_eq r1 r2
        have hI : InB 0 31 l' := fun c hc => HCI.out c ((r2 c).1 hc)
        have hlen : (stepsL s.toNat (ordL CL)).length ≤ 6561 := by
          rw [ro]
          exact len_box (steps_ris r1) ((InB.steps (l := l') (n := s.toNat) hI).wide (by omega) (by omega))
        clear hin ro hI r1 r2 HOK HSL HSD
        generalize stepsL s.toNat (ordL CL) = LL at *
        go_enter Tryz.func33, Tryz.ntmps33
        go_wp2_with fail
        refine HC.out.mono ?_
        rintro e w3 ⟨rfl, hb⟩
        have X3 := hid (HX.out.step hb)
        have Q3 := hid (HQ.out.below hb)
        have x3 := X3.out.1
        have y3 := (hb.cell (p := ⟨b1, o1 + q.toNat * 2, none⟩) hb1).trans p1
        clear HC hb p1 x0
        go_wp2_with fail
        refine (HD.out _).mono ?_
        rintro e w4 ⟨rfl, rfl⟩
        go_wp2_with fail
        refine (HCE.out _ Q3.out).mono ?_
        rintro e w5 ⟨v5, rfl, hO5, hb5⟩
        obtain ⟨a5, c5, rfl, hs5⟩ := hO5.form
        have X5 := hid (X3.out.step hb5)
        have HS5 := hid hs5
        clear hO5 hs5 hb5 x3 y3 X3
        go_wp2_with fail
        refine (HST.out a5 c5 w5 HS5.out).mono ?_
        rintro e w6 ⟨v6, rfl, hS6, hb6⟩
        obtain ⟨a6, c6, rfl, hs6, _⟩ := hS6.form
        have X6 := hid (X5.out.step hb6)
        have HS6 := hid hs6
        clear hS6 hs6 hb6 X5 HS5
        go_wp2_with fail
        go_loopw [9, 44] (fun ov iv wr => ∃ k : Nat, k ≤ LL.length ∧ iv = .int .i64 k ∧ Hid (OwnS wr w6.heap.size ov ((LL.take k).filter (safB 8 s))) ∧ Hid (Below w6.heap.size w6 wr) ∧ Hid (Below w.heap.size w wr)) (fun _ iv _ => LL.length - (intOf iv).toNat)
        case atStart => exact ⟨0, Nat.zero_le _, rfl, by simpa [Hid] using OwnS.nil w6 w6.heap.size, Below.refl _ _, X6.out.2.2⟩
        case round =>
          obtain ⟨k, hk', rfl, HO, HB6, HB⟩ := hrel
          by_cases hlt : k < LL.length
          · obtain ⟨bz, oz, rfl, hbz, z1, z2⟩ := HS6.out k hlt
            have g1 := (HB6.out.cell (p := ⟨bz, oz + k * 2, none⟩) hbz).trans z1
            have g2 := (HB6.out.cell (p := ⟨bz, oz + k * 2 + 1, none⟩) hbz).trans z2
            change _ = some (Value.int .i64 (at_ LL k).1) at g1
            change _ = some (Value.int .i64 (at_ LL k).2) at g2
            have HFS := hid (filt_succ (f := safB 8 s) hlt)
            have hfl : ((LL.take k).filter (safB 8 s)).length ≤ 6561 := by
              have h1 := List.length_filter_le (safB 8 s) (LL.take k)
              rw [List.length_take] at h1
              omega
            have k0 : (0 : Int) ≤ (k : Int) := by omega
            have k1 : (k : Int) < (LL.length : Int) := by omega
            clear z1 z2
            generalize at_ LL k = z at *
            generalize (LL.take k).filter (safB 8 s) = FL at *
            have hz1 := cell_new0 wr (.int .i64 z.1) (.int .i64 z.2) 51
            have hz2 := cell_new1 wr (.int .i64 z.1) (.int .i64 z.2) 51
            have ba := (Below.refl wr.heap.size wr).alloc (Nat.le_refl _) (.cells #[.int .i64 z.1, .int .i64 z.2] 51)
            have HO1 := hid (HO.out.below ba)
            have HB61 := hid (HB6.out.trans (ba.mono HB6.out.size))
            have HB1 := hid (HB.out.trans (ba.mono HB.out.size))
            clear ba HO HB6 HB
            cases e1 : inB s (8 - 1 - s) z.1
            · have HN := hid (show (LL.take (k + 1)).filter (safB 8 s) = FL by rw [HFS.out, show safB 8 s z = false by unfold safB; rw [e1]; rfl]; simp)
              have HE1 := hid (c_l1In' z.1 s (8 - 1 - s) false e1)
              clear e1 HFS
              go_wp2_with fail
              refine (HE1.out _).mono ?_
              rintro e w8 ⟨rfl, rfl⟩
              go_wp2_with fail
              go_roundw
              case rel => exact ⟨k + 1, by omega, by go_num, by rw [HN.out]; exact HO1.out, HB61.out, HB1.out⟩
              case measure => simp [intOf]; omega
            · have HE1 := hid (c_l1In' z.1 s (8 - 1 - s) true e1)
              cases e2 : inB s (8 - 1 - s) z.2
              · have HN := hid (show (LL.take (k + 1)).filter (safB 8 s) = FL by rw [HFS.out, show safB 8 s z = false by unfold safB; rw [e1, e2]; rfl]; simp)
                have HE2 := hid (c_l1In' z.2 s (8 - 1 - s) false e2)
                clear e1 e2 HFS
                go_wp2_with fail
                refine (HE1.out _).mono ?_
                rintro e w8 ⟨rfl, rfl⟩
                go_wp2_with fail
                refine (HE2.out _).mono ?_
                rintro e w8 ⟨rfl, rfl⟩
                go_wp2_with fail
                go_roundw
                case rel => exact ⟨k + 1, by omega, by go_num, by rw [HN.out]; exact HO1.out, HB61.out, HB1.out⟩
                case measure => simp [intOf]; omega
              · have HN := hid (show (LL.take (k + 1)).filter (safB 8 s) = FL ++ [z] by rw [HFS.out, show safB 8 s z = true by unfold safB; rw [e1, e2]; rfl]; simp)
                have HE2 := hid (c_l1In' z.2 s (8 - 1 - s) true e2)
                clear e1 e2 HFS
                go_wp2_with fail
                refine (HE1.out _).mono ?_
                rintro e w8 ⟨rfl, rfl⟩
                go_wp2_with fail
                refine (HE2.out _).mono ?_
                rintro e w8 ⟨rfl, rfl⟩
                generalize hWZ : wr.alloc (.cells #[.int .i64 z.1, .int .i64 z.2] 51) = Wz at *
                have bz2 := (Below.refl Wz.heap.size Wz).alloc (Nat.le_refl _) (.cells #[.int .i64 z.1, .int .i64 z.2] 51)
                have HO2 := hid (HO1.out.below bz2)
                have HB62 := hid (HB61.out.trans (bz2.mono HB61.out.size))
                have HB2 := hid (HB1.out.trans (bz2.mono HB1.out.size))
                clear bz2 hWZ
                go_wp2_with (at_builtin; refine wpList_app' rfl (.tmp 66) (.tmp 68) rfl w6.heap.size _ FL [z] (some ⟨Wz.heap.size, 0, none⟩) 1 1 rfl HO2.out rfl rfl (seg_block (heap_alloc_new Wz _)) (by intro h; cases h) (by simp; omega) HB62.out.size ?_; intro v9 w9 hO9 hG9; have HB9 := hid (HB2.out.grown hG9 HB2.out.size (fun k e => Nat.le_trans X6.out.2.2.size (HO2.out.lt k e).1)); have HB69 := hid (HB62.out.grown hG9 HB62.out.size (fun k e => (HO2.out.lt k e).1)))
                go_roundw
                case rel => exact ⟨k + 1, by omega, by go_num, by rw [HN.out]; exact hO9, HB69.out, HB9.out⟩
                case measure => simp [intOf]; omega
          · obtain rfl : k = LL.length := by omega
            go_wp2_with fail
            rw [HV.out.1, HV.out.2]
            obtain ⟨va, vc, hvv, _⟩ := HO.out.form
            exact bodyPost_ret (v := .tuple #[_, .bool true]) (by simp [results, Tryz.results33, go_sem]; rfl) rfl ⟨_, rfl, by have := HO.out; rw [List.take_length] at this; exact this.mono X6.out.2.2.size, HB.out⟩
    · cases hin : inB 0 4 s
      · have HD := hid (c_l1In' s 0 4 false hin)
        have HV := hid (show OKV = false ∧ SV = [] from ⟨HOK.out false hin, HSL.out false hin⟩)
        clear hin
        go_enter Tryz.func33, Tryz.ntmps33
        go_wp2_with fail
        refine HC.out.mono ?_
        rintro e w3 ⟨rfl, hb⟩
        have X3 := hid (HX.out.step hb)
        have x3 := X3.out.1
        have y3 := (hb.cell (p := ⟨b1, o1 + q.toNat * 2, none⟩) hb1).trans p1
        clear HC hb p1 x0
        go_wp2_with fail
        refine (HD.out _).mono ?_
        rintro e w4 ⟨rfl, rfl⟩
        go_wp2_with fail
        rw [HV.out.1, HV.out.2]
        exact bodyPost_ret (v := .tuple #[.slice none 0 0, .bool false]) (by simp [results, Tryz.results33, go_sem]) rfl ⟨_, rfl, OwnS.nil _ _, X3.out.2.2⟩
      · have HD := hid (c_l1In' s 0 4 true hin)
        have hs := inB_bd hin
        have HV := hid (show OKV = true ∧ SV = (stepsL s.toNat (ordL CL)).filter (safB 16 s) from ⟨HOK.out true hin, (HSL.out true hin).trans HSD.out⟩)
        have HST := hid (fun (aa : Option Addr) (cc : Nat) (W : World) (hS : Seg W aa CL) => c_l5After aa CL cc s.toNat W hS (by have := HCF.out; omega) HCI.out (by omega))
        rw [show ((s.toNat : Nat) : Int) = s by omega] at HST
        obtain ⟨l', r1, r2⟩ := ord_ex CL
        have ro : ordL CL = l' := ordL_eq r1 r2
        have hI : InB 0 31 l' := fun c hc => HCI.out c ((r2 c).1 hc)
        have hlen : (stepsL s.toNat (ordL CL)).length ≤ 6561 := by
          rw [ro]
          exact len_box (steps_ris r1) ((InB.steps (l := l') (n := s.toNat) hI).wide (by omega) (by omega))
        clear hin ro hI r1 r2 HOK HSL HSD
        generalize stepsL s.toNat (ordL CL) = LL at *
        go_enter Tryz.func33, Tryz.ntmps33
        go_wp2_with fail
        refine HC.out.mono ?_
        rintro e w3 ⟨rfl, hb⟩
        have X3 := hid (HX.out.step hb)
        have Q3 := hid (HQ.out.below hb)
        have x3 := X3.out.1
        have y3 := (hb.cell (p := ⟨b1, o1 + q.toNat * 2, none⟩) hb1).trans p1
        clear HC hb p1 x0
        go_wp2_with fail
        refine (HD.out _).mono ?_
        rintro e w4 ⟨rfl, rfl⟩
        go_wp2_with fail
        refine (HCE.out _ Q3.out).mono ?_
        rintro e w5 ⟨v5, rfl, hO5, hb5⟩
        obtain ⟨a5, c5, rfl, hs5⟩ := hO5.form
        have X5 := hid (X3.out.step hb5)
        have HS5 := hid hs5
        clear hO5 hs5 hb5 x3 y3 X3
        go_wp2_with fail
        refine (HST.out a5 c5 w5 HS5.out).mono ?_
        rintro e w6 ⟨v6, rfl, hS6, hb6⟩
        obtain ⟨a6, c6, rfl, hs6, _⟩ := hS6.form
        have X6 := hid (X5.out.step hb6)
        have HS6 := hid hs6
        clear hS6 hs6 hb6 X5 HS5
        go_wp2_with fail
        go_loopw [9, 44] (fun ov iv wr => ∃ k : Nat, k ≤ LL.length ∧ iv = .int .i64 k ∧ Hid (OwnS wr w6.heap.size ov ((LL.take k).filter (safB 16 s))) ∧ Hid (Below w6.heap.size w6 wr) ∧ Hid (Below w.heap.size w wr)) (fun _ iv _ => LL.length - (intOf iv).toNat)
        case atStart => exact ⟨0, Nat.zero_le _, rfl, by simpa [Hid] using OwnS.nil w6 w6.heap.size, Below.refl _ _, X6.out.2.2⟩
        case round =>
          obtain ⟨k, hk', rfl, HO, HB6, HB⟩ := hrel
          by_cases hlt : k < LL.length
          · obtain ⟨bz, oz, rfl, hbz, z1, z2⟩ := HS6.out k hlt
            have g1 := (HB6.out.cell (p := ⟨bz, oz + k * 2, none⟩) hbz).trans z1
            have g2 := (HB6.out.cell (p := ⟨bz, oz + k * 2 + 1, none⟩) hbz).trans z2
            change _ = some (Value.int .i64 (at_ LL k).1) at g1
            change _ = some (Value.int .i64 (at_ LL k).2) at g2
            have HFS := hid (filt_succ (f := safB 16 s) hlt)
            have hfl : ((LL.take k).filter (safB 16 s)).length ≤ 6561 := by
              have h1 := List.length_filter_le (safB 16 s) (LL.take k)
              rw [List.length_take] at h1
              omega
            have k0 : (0 : Int) ≤ (k : Int) := by omega
            have k1 : (k : Int) < (LL.length : Int) := by omega
            clear z1 z2
            generalize at_ LL k = z at *
            generalize (LL.take k).filter (safB 16 s) = FL at *
            have hz1 := cell_new0 wr (.int .i64 z.1) (.int .i64 z.2) 51
            have hz2 := cell_new1 wr (.int .i64 z.1) (.int .i64 z.2) 51
            have ba := (Below.refl wr.heap.size wr).alloc (Nat.le_refl _) (.cells #[.int .i64 z.1, .int .i64 z.2] 51)
            have HO1 := hid (HO.out.below ba)
            have HB61 := hid (HB6.out.trans (ba.mono HB6.out.size))
            have HB1 := hid (HB.out.trans (ba.mono HB.out.size))
            clear ba HO HB6 HB
            cases e1 : inB s (16 - 1 - s) z.1
            · have HN := hid (show (LL.take (k + 1)).filter (safB 16 s) = FL by rw [HFS.out, show safB 16 s z = false by unfold safB; rw [e1]; rfl]; simp)
              have HE1 := hid (c_l1In' z.1 s (16 - 1 - s) false e1)
              clear e1 HFS
              go_wp2_with fail
              refine (HE1.out _).mono ?_
              rintro e w8 ⟨rfl, rfl⟩
              go_wp2_with fail
              go_roundw
              case rel => exact ⟨k + 1, by omega, by go_num, by rw [HN.out]; exact HO1.out, HB61.out, HB1.out⟩
              case measure => simp [intOf]; omega
            · have HE1 := hid (c_l1In' z.1 s (16 - 1 - s) true e1)
              cases e2 : inB s (16 - 1 - s) z.2
              · have HN := hid (show (LL.take (k + 1)).filter (safB 16 s) = FL by rw [HFS.out, show safB 16 s z = false by unfold safB; rw [e1, e2]; rfl]; simp)
                have HE2 := hid (c_l1In' z.2 s (16 - 1 - s) false e2)
                clear e1 e2 HFS
                go_wp2_with fail
                refine (HE1.out _).mono ?_
                rintro e w8 ⟨rfl, rfl⟩
                go_wp2_with fail
                refine (HE2.out _).mono ?_
                rintro e w8 ⟨rfl, rfl⟩
                go_wp2_with fail
                go_roundw
                case rel => exact ⟨k + 1, by omega, by go_num, by rw [HN.out]; exact HO1.out, HB61.out, HB1.out⟩
                case measure => simp [intOf]; omega
              · have HN := hid (show (LL.take (k + 1)).filter (safB 16 s) = FL ++ [z] by rw [HFS.out, show safB 16 s z = true by unfold safB; rw [e1, e2]; rfl]; simp)
                have HE2 := hid (c_l1In' z.2 s (16 - 1 - s) true e2)
                clear e1 e2 HFS
                go_wp2_with fail
                refine (HE1.out _).mono ?_
                rintro e w8 ⟨rfl, rfl⟩
                go_wp2_with fail
                refine (HE2.out _).mono ?_
                rintro e w8 ⟨rfl, rfl⟩
                generalize hWZ : wr.alloc (.cells #[.int .i64 z.1, .int .i64 z.2] 51) = Wz at *
                have bz2 := (Below.refl Wz.heap.size Wz).alloc (Nat.le_refl _) (.cells #[.int .i64 z.1, .int .i64 z.2] 51)
                have HO2 := hid (HO1.out.below bz2)
                have HB62 := hid (HB61.out.trans (bz2.mono HB61.out.size))
                have HB2 := hid (HB1.out.trans (bz2.mono HB1.out.size))
                clear bz2 hWZ
                go_wp2_with (at_builtin; refine wpList_app' rfl (.tmp 66) (.tmp 68) rfl w6.heap.size _ FL [z] (some ⟨Wz.heap.size, 0, none⟩) 1 1 rfl HO2.out rfl rfl (seg_block (heap_alloc_new Wz _)) (by intro h; cases h) (by simp; omega) HB62.out.size ?_; intro v9 w9 hO9 hG9; have HB9 := hid (HB2.out.grown hG9 HB2.out.size (fun k e => Nat.le_trans X6.out.2.2.size (HO2.out.lt k e).1)); have HB69 := hid (HB62.out.grown hG9 HB62.out.size (fun k e => (HO2.out.lt k e).1)))
                go_roundw
                case rel => exact ⟨k + 1, by omega, by go_num, by rw [HN.out]; exact hO9, HB69.out, HB9.out⟩
                case measure => simp [intOf]; omega
          · obtain rfl : k = LL.length := by omega
            go_wp2_with fail
            rw [HV.out.1, HV.out.2]
            obtain ⟨va, vc, hvv, _⟩ := HO.out.form
            exact bodyPost_ret (v := .tuple #[_, .bool true]) (by simp [results, Tryz.results33, go_sem]; rfl) rfl ⟨_, rfl, by have := HO.out; rw [List.take_length] at this; exact this.mono X6.out.2.2.size, HB.out⟩
    · cases hin : inB 0 8 s
      · have HD := hid (c_l1In' s 0 8 false hin)
        have HV := hid (show OKV = false ∧ SV = [] from ⟨HOK.out false hin, HSL.out false hin⟩)
        clear hin
        go_enter Tryz.func33, Tryz.ntmps33
        go_wp2_with fail
        refine HC.out.mono ?_
        rintro e w3 ⟨rfl, hb⟩
        have X3 := hid (HX.out.step hb)
        have x3 := X3.out.1
        have y3 := (hb.cell (p := ⟨b1, o1 + q.toNat * 2, none⟩) hb1).trans p1
        clear HC hb p1 x0
        go_wp2_with fail
        refine (HD.out _).mono ?_
        rintro e w4 ⟨rfl, rfl⟩
        go_wp2_with fail
        rw [HV.out.1, HV.out.2]
        exact bodyPost_ret (v := .tuple #[.slice none 0 0, .bool false]) (by simp [results, Tryz.results33, go_sem]) rfl ⟨_, rfl, OwnS.nil _ _, X3.out.2.2⟩
      · have HD := hid (c_l1In' s 0 8 true hin)
        have hs := inB_bd hin
        have HV := hid (show OKV = true ∧ SV = (stepsL s.toNat (ordL CL)).filter (safB 32 s) from ⟨HOK.out true hin, (HSL.out true hin).trans HSD.out⟩)
        have HST := hid (fun (aa : Option Addr) (cc : Nat) (W : World) (hS : Seg W aa CL) => c_l5After aa CL cc s.toNat W hS (by have := HCF.out; omega) HCI.out (by omega))
        rw [show ((s.toNat : Nat) : Int) = s by omega] at HST
        obtain ⟨l', r1, r2⟩ := ord_ex CL
        have ro : ordL CL = l' := ordL_eq r1 r2
        have hI : InB 0 31 l' := fun c hc => HCI.out c ((r2 c).1 hc)
        have hlen : (stepsL s.toNat (ordL CL)).length ≤ 6561 := by
          rw [ro]
          exact len_box (steps_ris r1) ((InB.steps (l := l') (n := s.toNat) hI).wide (by omega) (by omega))
        clear hin ro hI r1 r2 HOK HSL HSD
        generalize stepsL s.toNat (ordL CL) = LL at *
        go_enter Tryz.func33, Tryz.ntmps33
        go_wp2_with fail
        refine HC.out.mono ?_
        rintro e w3 ⟨rfl, hb⟩
        have X3 := hid (HX.out.step hb)
        have Q3 := hid (HQ.out.below hb)
        have x3 := X3.out.1
        have y3 := (hb.cell (p := ⟨b1, o1 + q.toNat * 2, none⟩) hb1).trans p1
        clear HC hb p1 x0
        go_wp2_with fail
        refine (HD.out _).mono ?_
        rintro e w4 ⟨rfl, rfl⟩
        go_wp2_with fail
        refine (HCE.out _ Q3.out).mono ?_
        rintro e w5 ⟨v5, rfl, hO5, hb5⟩
        obtain ⟨a5, c5, rfl, hs5⟩ := hO5.form
        have X5 := hid (X3.out.step hb5)
        have HS5 := hid hs5
        clear hO5 hs5 hb5 x3 y3 X3
        go_wp2_with fail
        refine (HST.out a5 c5 w5 HS5.out).mono ?_
        rintro e w6 ⟨v6, rfl, hS6, hb6⟩
        obtain ⟨a6, c6, rfl, hs6, _⟩ := hS6.form
        have X6 := hid (X5.out.step hb6)
        have HS6 := hid hs6
        clear hS6 hs6 hb6 X5 HS5
        go_wp2_with fail
        go_loopw [9, 44] (fun ov iv wr => ∃ k : Nat, k ≤ LL.length ∧ iv = .int .i64 k ∧ Hid (OwnS wr w6.heap.size ov ((LL.take k).filter (safB 32 s))) ∧ Hid (Below w6.heap.size w6 wr) ∧ Hid (Below w.heap.size w wr)) (fun _ iv _ => LL.length - (intOf iv).toNat)
        case atStart => exact ⟨0, Nat.zero_le _, rfl, by simpa [Hid] using OwnS.nil w6 w6.heap.size, Below.refl _ _, X6.out.2.2⟩
        case round =>
          obtain ⟨k, hk', rfl, HO, HB6, HB⟩ := hrel
          by_cases hlt : k < LL.length
          · obtain ⟨bz, oz, rfl, hbz, z1, z2⟩ := HS6.out k hlt
            have g1 := (HB6.out.cell (p := ⟨bz, oz + k * 2, none⟩) hbz).trans z1
            have g2 := (HB6.out.cell (p := ⟨bz, oz + k * 2 + 1, none⟩) hbz).trans z2
            change _ = some (Value.int .i64 (at_ LL k).1) at g1
            change _ = some (Value.int .i64 (at_ LL k).2) at g2
            have HFS := hid (filt_succ (f := safB 32 s) hlt)
            have hfl : ((LL.take k).filter (safB 32 s)).length ≤ 6561 := by
              have h1 := List.length_filter_le (safB 32 s) (LL.take k)
              rw [List.length_take] at h1
              omega
            have k0 : (0 : Int) ≤ (k : Int) := by omega
            have k1 : (k : Int) < (LL.length : Int) := by omega
            clear z1 z2
            generalize at_ LL k = z at *
            generalize (LL.take k).filter (safB 32 s) = FL at *
            have hz1 := cell_new0 wr (.int .i64 z.1) (.int .i64 z.2) 51
            have hz2 := cell_new1 wr (.int .i64 z.1) (.int .i64 z.2) 51
            have ba := (Below.refl wr.heap.size wr).alloc (Nat.le_refl _) (.cells #[.int .i64 z.1, .int .i64 z.2] 51)
            have HO1 := hid (HO.out.below ba)
            have HB61 := hid (HB6.out.trans (ba.mono HB6.out.size))
            have HB1 := hid (HB.out.trans (ba.mono HB.out.size))
            clear ba HO HB6 HB
            cases e1 : inB s (32 - 1 - s) z.1
            · have HN := hid (show (LL.take (k + 1)).filter (safB 32 s) = FL by rw [HFS.out, show safB 32 s z = false by unfold safB; rw [e1]; rfl]; simp)
              have HE1 := hid (c_l1In' z.1 s (32 - 1 - s) false e1)
              clear e1 HFS
              go_wp2_with fail
              refine (HE1.out _).mono ?_
              rintro e w8 ⟨rfl, rfl⟩
              go_wp2_with fail
              go_roundw
              case rel => exact ⟨k + 1, by omega, by go_num, by rw [HN.out]; exact HO1.out, HB61.out, HB1.out⟩
              case measure => simp [intOf]; omega
            · have HE1 := hid (c_l1In' z.1 s (32 - 1 - s) true e1)
              cases e2 : inB s (32 - 1 - s) z.2
              · have HN := hid (show (LL.take (k + 1)).filter (safB 32 s) = FL by rw [HFS.out, show safB 32 s z = false by unfold safB; rw [e1, e2]; rfl]; simp)
                have HE2 := hid (c_l1In' z.2 s (32 - 1 - s) false e2)
                clear e1 e2 HFS
                go_wp2_with fail
                refine (HE1.out _).mono ?_
                rintro e w8 ⟨rfl, rfl⟩
                go_wp2_with fail
                refine (HE2.out _).mono ?_
                rintro e w8 ⟨rfl, rfl⟩
                go_wp2_with fail
                go_roundw
                case rel => exact ⟨k + 1, by omega, by go_num, by rw [HN.out]; exact HO1.out, HB61.out, HB1.out⟩
                case measure => simp [intOf]; omega
              · have HN := hid (show (LL.take (k + 1)).filter (safB 32 s) = FL ++ [z] by rw [HFS.out, show safB 32 s z = true by unfold safB; rw [e1, e2]; rfl]; simp)
                have HE2 := hid (c_l1In' z.2 s (32 - 1 - s) true e2)
                clear e1 e2 HFS
                go_wp2_with fail
                refine (HE1.out _).mono ?_
                rintro e w8 ⟨rfl, rfl⟩
                go_wp2_with fail
                refine (HE2.out _).mono ?_
                rintro e w8 ⟨rfl, rfl⟩
                generalize hWZ : wr.alloc (.cells #[.int .i64 z.1, .int .i64 z.2] 51) = Wz at *
                have bz2 := (Below.refl Wz.heap.size Wz).alloc (Nat.le_refl _) (.cells #[.int .i64 z.1, .int .i64 z.2] 51)
                have HO2 := hid (HO1.out.below bz2)
                have HB62 := hid (HB61.out.trans (bz2.mono HB61.out.size))
                have HB2 := hid (HB1.out.trans (bz2.mono HB1.out.size))
                clear bz2 hWZ
                go_wp2_with (at_builtin; refine wpList_app' rfl (.tmp 66) (.tmp 68) rfl w6.heap.size _ FL [z] (some ⟨Wz.heap.size, 0, none⟩) 1 1 rfl HO2.out rfl rfl (seg_block (heap_alloc_new Wz _)) (by intro h; cases h) (by simp; omega) HB62.out.size ?_; intro v9 w9 hO9 hG9; have HB9 := hid (HB2.out.grown hG9 HB2.out.size (fun k e => Nat.le_trans X6.out.2.2.size (HO2.out.lt k e).1)); have HB69 := hid (HB62.out.grown hG9 HB62.out.size (fun k e => (HO2.out.lt k e).1)))
                go_roundw
                case rel => exact ⟨k + 1, by omega, by go_num, by rw [HN.out]; exact hO9, HB69.out, HB9.out⟩
                case measure => simp [intOf]; omega
          · obtain rfl : k = LL.length := by omega
            go_wp2_with fail
            rw [HV.out.1, HV.out.2]
            obtain ⟨va, vc, hvv, _⟩ := HO.out.form
            exact bodyPost_ret (v := .tuple #[_, .bool true]) (by simp [results, Tryz.results33, go_sem]; rfl) rfl ⟨_, rfl, by have := HO.out; rw [List.take_length] at this; exact this.mono X6.out.2.2.size, HB.out⟩

end Go.Proofs.YtnabgfbempkgnaaGreatDoor

namespace Go.Proofs.YtnabgfbempkgnaaGreatDoor
open Go.RowKit
set_option linter.unusedVariables false
set_option linter.unusedSimpArgs false

set_option maxHeartbeats 1000000 in
theorem c_iStepsFor (n : Int) (w : World) (hn : -9223372036854775808 ≤ n ∧ n ≤ 9223372036854775807) :
    Calls Tryz.prog 46 #[.int .i64 n] w fun e w' => e = .returned (.tuple #[.int .i64 (stpV n), .bool (inB 2 5 n)]) ∧ w' = w := by
  cases hin : inB 2 5 n
  · have HV := hid (show stpV n = 0 by simp [stpV, hin])
    have hb : n < 2 ∨ 5 < n := by
      simp [inB] at hin
      omega
    clear hin
    by_cases h2 : n < 2
    · go_enter Tryz.func46, Tryz.ntmps46
      go_wp2_with fail
      exact bodyPost_ret (v := .tuple #[.int .i64 0, .bool false]) (by simp [results, Tryz.results46, go_sem]) rfl ⟨by rw [HV.out], rfl⟩
    · have h5 : n > 5 := by omega
      go_enter Tryz.func46, Tryz.ntmps46
      go_wp2_with fail
      exact bodyPost_ret (v := .tuple #[.int .i64 0, .bool false]) (by simp [results, Tryz.results46, go_sem]) rfl ⟨by rw [HV.out], rfl⟩
  · have hb := inB_bd hin
    rcases (show n = 2 ∨ n = 3 ∨ n = 4 ∨ n = 5 by omega) with rfl | rfl | rfl | rfl
    · go_enter Tryz.func46, Tryz.ntmps46
      go_wp2_with fail
      exact bodyPost_ret (v := .tuple #[.int .i64 1, .bool true]) (by simp [results, Tryz.results46, go_sem]) rfl ⟨rfl, rfl⟩
    · go_enter Tryz.func46, Tryz.ntmps46
      go_wp2_with fail
      exact bodyPost_ret (v := .tuple #[.int .i64 2, .bool true]) (by simp [results, Tryz.results46, go_sem]) rfl ⟨rfl, rfl⟩
    · go_enter Tryz.func46, Tryz.ntmps46
      go_wp2_with fail
      exact bodyPost_ret (v := .tuple #[.int .i64 4, .bool true]) (by simp [results, Tryz.results46, go_sem]) rfl ⟨rfl, rfl⟩
    · go_enter Tryz.func46, Tryz.ntmps46
      go_wp2_with fail
      exact bodyPost_ret (v := .tuple #[.int .i64 8, .bool true]) (by simp [results, Tryz.results46, go_sem]) rfl ⟨rfl, rfl⟩
end Go.Proofs.YtnabgfbempkgnaaGreatDoor
