/- Texts of this seat, one behind the other: Jq, FourP, FFour, SFour, SFourO, FJoin, IFourO. -/
import Derived.Test.YtokemdbgcegjiaaKe
import Derived.Test.YtokemdbgcegjiaaKb
import Derived.Deep.RegionHeld3
import Derived.StillTailTactics
namespace Go.Proofs.Ytokemdbgcegjiaa
open Go.RowKit Go.Maps
set_option linter.unusedVariables false
set_option linter.unusedSimpArgs false
attribute [local go_sem ↓] Go.wp_at_zero Go.wp_at_succ

/-- May these be joined? -/
def jqOK (F : List Qd) (l : List Int) : Bool := goodF F && decide (l.length = 4) && canJ F l
def jqF (F : List Qd) (l : List Int) : List Qd := if jqOK F l then tellF (joinF F l).1 else []
def jqQ (F : List Qd) (l : List Int) : Int := if jqOK F l then tellQ (joinF F l).1 ((joinF F l).2 : Int) else 0
def jqB (F : List Qd) (l : List Int) : Bool := jqOK F l && tellB (joinF F l).1
theorem canJ_all {F : List Qd} {l : List Int} (hl : l.length = 4) (h : canJ F l = true) : allIn l 0 ((F.length : Int) - 1) = true := by
  simp only [canJ, Bool.and_eq_true] at h
  refine allB_iff.2 fun i hi => ?_
  have := allB_iff.1 h.1 i (by omega)
  simp only [kidB, Bool.and_eq_true] at this
  exact this.1
theorem canJ_lev {F : List Qd} {l : List Int} (h : canJ F l = true) : ∀ i, i < 4 → (0 ≤ ia l i ∧ ia l i < (F.length : Int)) ∧ (qa F (ia l i).toNat).1 = (qa F (ia l 0).toNat).1 ∧ (qa F (ia l i).toNat).1 < 5 := by
  simp only [canJ, Bool.and_eq_true, decide_eq_true_eq] at h
  intro i hi
  have := allB_iff.1 h.1 i hi
  simp only [kidB, Bool.and_eq_true, decide_eq_true_eq] at this
  have b := inB_bd this.1
  exact ⟨⟨by omega, by omega⟩, this.2, by omega⟩
/-- Is kid i of the first one's level, and not too high? -/
def okK (F : List Qd) (l : List Int) (i : Nat) : Bool := decide ((qa F (ia l i).toNat).1 = (qa F (ia l 0).toNat).1) && decide ((qa F (ia l i).toNat).1 < 5)
theorem canJ_of {F : List Qd} {l : List Int} (hl : l.length = 4) (h1 : allIn l 0 ((F.length : Int) - 1) = true) (h2 : allB (okK F l) 4 = true) : canJ F l = true := by
  simp only [canJ, Bool.and_eq_true, decide_eq_true_eq]
  have h0 := allB_iff.1 h2 0 (by omega)
  simp only [okK, Bool.and_eq_true, decide_eq_true_eq] at h0
  refine ⟨allB_iff.2 fun i hi => ?_, h0.2⟩
  have a := allB_iff.1 h1 i (by omega)
  have b := allB_iff.1 h2 i hi
  simp only [okK, Bool.and_eq_true, decide_eq_true_eq] at b
  simp only [kidB, Bool.and_eq_true, decide_eq_true_eq]
  exact ⟨a, b.1⟩
theorem canJ_no_all {F : List Qd} {l : List Int} (hl : l.length = 4) (h1 : allIn l 0 ((F.length : Int) - 1) = false) : canJ F l = false := by
  cases h : canJ F l
  · rfl
  · rw [canJ_all hl h] at h1; cases h1
theorem canJ_no_ok {F : List Qd} {l : List Int} {k : Nat} (hk : k < 4) (h1 : okK F l k = false) : canJ F l = false := by
  cases h : canJ F l
  · rfl
  · have := canJ_lev h k hk
    simp only [okK, this.2.1, decide_true, Bool.true_and, decide_eq_false_iff_not] at h1
    rw [this.2.1] at this
    omega

theorem jq_small (F : List Qd) (l : List Int) : (jqF F l).length ≤ 1048576 ∧ KidsLe (jqF F l) ∧ posF (nsF (jqF F l)) (jqF F l).length ≤ 8388608 := by
  unfold jqF
  split
  · rename_i hok
    unfold tellF
    split
    · rename_i h4
      simp only [jqOK, Bool.and_eq_true, decide_eq_true_eq] at hok
      have hlv := canJ_lev hok.2
      have hG := joinF_grows (good_grows hok.1.1) hok.1.2 (fun j hj => (hlv j hj).1) (hlv 0 (by omega)).2.2
      refine ⟨by omega, hG.kidsLe, ?_⟩
      have hp : ∀ G : List Qd, Grows G → ∀ k, k ≤ G.length → posF (nsF G) k ≤ 1 + 5 * k := by
        intro G hG k
        induction k with
        | zero => intro _; simp [posF]
        | succ k ih =>
          intro hk
          have := ih (by omega)
          have : nsF G k ≤ 4 := by
            unfold nsF
            by_cases h2 : k < 2
            · rw [hG.low k h2]; simp
            · have := hG.len k (by omega) (by omega); omega
          simp only [posF]; omega
      have := hp _ hG (joinF F l).1.length (Nat.le_refl _)
      omega
    · exact ⟨by simp, fun i hi => by simp at hi, by simp [posF]⟩
  · exact ⟨by simp, fun i hi => by simp at hi, by simp [posF]⟩

end Go.Proofs.Ytokemdbgcegjiaa

namespace Go.Proofs.Ytokemdbgcegjiaa
set_option linter.unusedVariables false

/-- The square i of those of two by two in a grid of numbers so wide, d of them in a row. -/
def sqW (d wd : Nat) (l : List Int) (i : Nat) : List Int := [ia l (i / d * wd + i % d), ia l (i / d * wd + i % d + 1), ia l (i / d * wd + i % d + wd), ia l (i / d * wd + i % d + wd + 1)]
theorem sqW_len (d wd : Nat) (l : List Int) (i : Nat) : (sqW d wd l i).length = 4 := rfl
/-- The forest behind the first k joinings, and the quads' numbers. -/
def jTo (F : List Qd) (sq : Nat → List Int) : Nat → List Qd × List Int
  | 0 => (F, [])
  | k + 1 => ((joinF (jTo F sq k).1 (sq k)).1, (jTo F sq k).2 ++ [((joinF (jTo F sq k).1 (sq k)).2 : Int)])
structure JTo (F : List Qd) (n : Int) (k : Nat) (r : List Qd × List Int) : Prop where
  grows : Grows r.1
  more : F.length ≤ r.1.length
  most : r.1.length ≤ F.length + k
  len : r.2.length = k
  old : ∀ i, i < F.length → qa r.1 i = qa F i
  num : ∀ j, j < k → (0 ≤ ia r.2 j ∧ ia r.2 j < (r.1.length : Int)) ∧ (qa r.1 (ia r.2 j).toNat).1 = n + 1
theorem ia_app_old {l : List Int} {x : Int} {j : Nat} (h : j < l.length) : ia (l ++ [x]) j = ia l j := by simp [ia, List.getElem?_append_left h]
theorem ia_app_new (l : List Int) (x : Int) : ia (l ++ [x]) l.length = x := by simp [ia]
theorem jTo_facts {F : List Qd} {sq : Nat → List Int} {n : Int} {m : Nat} (hG : Grows F) (hl : ∀ i, i < m → (sq i).length = 4) (hk : ∀ i, i < m → ∀ j, j < 4 → 0 ≤ ia (sq i) j ∧ ia (sq i) j < (F.length : Int)) (hv : ∀ i, i < m → (qa F (ia (sq i) 0).toNat).1 = n) (hn : n < 5) : ∀ k, k ≤ m → JTo F n k (jTo F sq k)
  | 0, _ => ⟨hG, Nat.le_refl _, by simp [jTo], rfl, fun _ _ => rfl, fun j hj => by omega⟩
  | k + 1, hkm => by
    have h := jTo_facts hG hl hk hv hn k (by omega)
    have hkk := hk k (by omega)
    have hk0 := hkk 0 (by omega)
    have hlv : (qa (jTo F sq k).1 (ia (sq k) 0).toNat).1 = n := by rw [h.old _ (by omega)]; exact hv k (by omega)
    have hjl := joinF_len (jTo F sq k).1 (sq k)
    have hlt := joinF_lt (jTo F sq k).1 (sq k)
    have hml := h.more
    have hmo := h.most
    have hle := h.len
    have hjv := joinF_lev h.grows (l := sq k)
    rw [hlv] at hjv
    refine ⟨joinF_grows h.grows (hl k (by omega)) (fun j hj => by have := hkk j hj; omega) (by rw [hlv]; exact hn), ?_, ?_, ?_, fun i hi => ?_, fun j hj => ?_⟩
    · simp only [jTo]; omega
    · simp only [jTo]; omega
    · simp [jTo, hle]
    · simp only [jTo]; rw [joinF_old _ _ (by omega)]; exact h.old i hi
    · simp only [jTo]
      by_cases e : j < k
      · rw [ia_app_old (by omega)]
        have := h.num j e
        rw [joinF_old _ _ (by omega)]
        exact ⟨by omega, this.2⟩
      · obtain rfl : j = (jTo F sq k).2.length := by omega
        rw [ia_app_new]
        refine ⟨by omega, ?_⟩
        rw [show (((joinF (jTo F sq k).1 (sq k)).2 : Nat) : Int).toNat = (joinF (jTo F sq k).1 (sq k)).2 by omega]
        exact hjv
theorem jTo_at (F : List Qd) (sq : Nat → List Int) {k j : Nat} (h : (jTo F sq k).2.length = k) : (if j = k then ((joinF (jTo F sq k).1 (sq k)).2 : Int) else if j < k then ia (jTo F sq k).2 j else 0) = (if j < k + 1 then ia (jTo F sq (k + 1)).2 j else 0) := by
  by_cases e : j = k
  · subst e
    rw [if_pos rfl, if_pos (by omega)]
    simp only [jTo, ia]
    rw [List.getD_eq_getElem?_getD, List.getElem?_append_right (by omega), h]
    simp
  · rw [if_neg e]
    by_cases e2 : j < k
    · rw [if_pos e2, if_pos (by omega)]
      simp only [jTo, ia]
      rw [List.getD_eq_getElem?_getD, List.getD_eq_getElem?_getD, List.getElem?_append_left (by omega)]
    · rw [if_neg e2, if_neg (by omega)]

/-- Forests that are told are small. -/
theorem tellF_small {G : List Qd} (hG : Grows G) : (tellF G).length ≤ 1048576 ∧ KidsLe (tellF G) ∧ posF (nsF (tellF G)) (tellF G).length ≤ 8388608 := by
  unfold tellF
  split
  · rename_i h4
    refine ⟨by omega, hG.kidsLe, ?_⟩
    have hp : ∀ G : List Qd, Grows G → ∀ k, k ≤ G.length → posF (nsF G) k ≤ 1 + 5 * k := by
      intro G hG k
      induction k with
      | zero => intro _; simp [posF]
      | succ k ih =>
        intro hk
        have := ih (by omega)
        have : nsF G k ≤ 4 := by
          unfold nsF
          by_cases h2 : k < 2
          · rw [hG.low k h2]; simp
          · have := hG.len k (by omega) (by omega); omega
        simp only [posF]; omega
    have := hp _ hG G.length (Nat.le_refl _)
    omega
  · exact ⟨by simp, fun i hi => by simp at hi, by simp [posF]⟩
theorem nil_small : ([] : List Qd).length ≤ 1048576 ∧ KidsLe [] ∧ posF (nsF []) ([] : List Qd).length ≤ 8388608 := ⟨by simp, fun i hi => by simp at hi, by simp [posF]⟩

/-- What is answered where ok, of a forest and numbers. -/
def anF (ok : Bool) (R : List Qd × List Int) : List Qd := if ok then tellF R.1 else []
def anN (ok : Bool) (R : List Qd × List Int) : List Int := if ok && tellB R.1 then R.2 else []
def anB (ok : Bool) (R : List Qd × List Int) : Bool := ok && tellB R.1
theorem an_no (R : List Qd × List Int) : anF false R = [] ∧ anN false R = [] ∧ anB false R = false := ⟨rfl, rfl, rfl⟩
theorem an_yes (R : List Qd × List Int) (h : tellB R.1 = true) : anF true R = tellF R.1 ∧ anN true R = R.2 ∧ anB true R = true := by simp [anF, anN, anB, h]
theorem an_full (R : List Qd × List Int) (h : tellB R.1 = false) : anF true R = [] ∧ anN true R = [] ∧ anB true R = false := by
  have : ¬ R.1.length ≤ 400 := by simpa [tellB] using h
  simp [anF, anN, anB, h, tellF, this]

/-- May four be made of these nine? -/
def fourOK (F : List Qd) (l : List Int) : Bool := goodF F && decide (l.length = 9) && (allIn l 0 ((F.length : Int) - 1) && allB (okK F l) 9)
theorem ia_cons0 (a : Int) (l : List Int) : ia (a :: l) 0 = a := rfl
theorem four_lev {F : List Qd} {l : List Int} (h9 : l.length = 9) (h1 : allIn l 0 ((F.length : Int) - 1) = true) (h2 : allB (okK F l) 9 = true) : ∀ i, i < 9 → (0 ≤ ia l i ∧ ia l i < (F.length : Int)) ∧ (qa F (ia l i).toNat).1 = (qa F (ia l 0).toNat).1 ∧ (qa F (ia l i).toNat).1 < 5 := by
  intro i hi
  have a := inB_bd (allB_iff.1 h1 i (by omega))
  have b := allB_iff.1 h2 i hi
  simp only [okK, Bool.and_eq_true, decide_eq_true_eq] at b
  exact ⟨by omega, b⟩
/-- The four squares may be joined just where the nine are of one level. -/
theorem four_can {F : List Qd} {l : List Int} (h9 : l.length = 9) : (allIn l 0 ((F.length : Int) - 1) && allB (okK F l) 9) = allB (fun i => canJ F (sqW 2 3 l i)) 4 := by
  cases h : allB (fun i => canJ F (sqW 2 3 l i)) 4
  · cases h1 : allIn l 0 ((F.length : Int) - 1)
    · rfl
    · cases h2 : allB (okK F l) 9
      · rfl
      · exfalso
        have hv := four_lev h9 h1 h2
        have : allB (fun i => canJ F (sqW 2 3 l i)) 4 = true := by
          refine allB_iff.2 fun i hi => ?_
          have e : ∀ j, j < 4 → ∃ m, m < 9 ∧ ia (sqW 2 3 l i) j = ia l m := by
            intro j hj
            rcases (show i = 0 ∨ i = 1 ∨ i = 2 ∨ i = 3 by omega) with rfl | rfl | rfl | rfl <;> rcases (show j = 0 ∨ j = 1 ∨ j = 2 ∨ j = 3 by omega) with rfl | rfl | rfl | rfl <;> exact ⟨_, by decide, rfl⟩
          obtain ⟨m0, hm0, e0⟩ := e 0 (by omega)
          simp only [canJ, Bool.and_eq_true, decide_eq_true_eq]
          refine ⟨allB_iff.2 fun j hj => ?_, by rw [e0]; exact (hv m0 hm0).2.2⟩
          obtain ⟨m, hm, ej⟩ := e j hj
          simp only [kidB, Bool.and_eq_true, decide_eq_true_eq]
          rw [ej, e0]
          refine ⟨?_, by rw [(hv m hm).2.1, (hv m0 hm0).2.1]⟩
          have := (hv m hm).1
          simp [inB]; omega
        rw [h] at this; cases this
  · have hc := fun i (hi : i < 4) => canJ_lev (allB_iff.1 h i hi)
    have c00 := hc 0 (by omega) 0 (by omega)
    have c01 := hc 0 (by omega) 1 (by omega)
    have c02 := hc 0 (by omega) 2 (by omega)
    have c03 := hc 0 (by omega) 3 (by omega)
    have c10 := hc 1 (by omega) 0 (by omega)
    have c11 := hc 1 (by omega) 1 (by omega)
    have c12 := hc 1 (by omega) 2 (by omega)
    have c13 := hc 1 (by omega) 3 (by omega)
    have c20 := hc 2 (by omega) 0 (by omega)
    have c21 := hc 2 (by omega) 1 (by omega)
    have c22 := hc 2 (by omega) 2 (by omega)
    have c23 := hc 2 (by omega) 3 (by omega)
    have c30 := hc 3 (by omega) 0 (by omega)
    have c31 := hc 3 (by omega) 1 (by omega)
    have c32 := hc 3 (by omega) 2 (by omega)
    have c33 := hc 3 (by omega) 3 (by omega)
    change (0 ≤ ia l 0 ∧ ia l 0 < _) ∧ (qa F (ia l 0).toNat).1 = (qa F (ia l 0).toNat).1 ∧ (qa F (ia l 0).toNat).1 < 5 at c00
    change (0 ≤ ia l 1 ∧ ia l 1 < _) ∧ (qa F (ia l 1).toNat).1 = (qa F (ia l 0).toNat).1 ∧ (qa F (ia l 1).toNat).1 < 5 at c01
    change (0 ≤ ia l 3 ∧ ia l 3 < _) ∧ (qa F (ia l 3).toNat).1 = (qa F (ia l 0).toNat).1 ∧ (qa F (ia l 3).toNat).1 < 5 at c02
    change (0 ≤ ia l 4 ∧ ia l 4 < _) ∧ (qa F (ia l 4).toNat).1 = (qa F (ia l 0).toNat).1 ∧ (qa F (ia l 4).toNat).1 < 5 at c03
    change (0 ≤ ia l 2 ∧ ia l 2 < _) ∧ (qa F (ia l 2).toNat).1 = (qa F (ia l 1).toNat).1 ∧ (qa F (ia l 2).toNat).1 < 5 at c11
    change (0 ≤ ia l 5 ∧ ia l 5 < _) ∧ (qa F (ia l 5).toNat).1 = (qa F (ia l 1).toNat).1 ∧ (qa F (ia l 5).toNat).1 < 5 at c13
    change (0 ≤ ia l 6 ∧ ia l 6 < _) ∧ (qa F (ia l 6).toNat).1 = (qa F (ia l 3).toNat).1 ∧ (qa F (ia l 6).toNat).1 < 5 at c22
    change (0 ≤ ia l 7 ∧ ia l 7 < _) ∧ (qa F (ia l 7).toNat).1 = (qa F (ia l 3).toNat).1 ∧ (qa F (ia l 7).toNat).1 < 5 at c23
    change (0 ≤ ia l 8 ∧ ia l 8 < _) ∧ (qa F (ia l 8).toNat).1 = (qa F (ia l 4).toNat).1 ∧ (qa F (ia l 8).toNat).1 < 5 at c33
    rw [Bool.and_eq_true]
    have all : ∀ i, i < 9 → (0 ≤ ia l i ∧ ia l i < (F.length : Int)) ∧ (qa F (ia l i).toNat).1 = (qa F (ia l 0).toNat).1 ∧ (qa F (ia l i).toNat).1 < 5 := by
      intro i hi
      rcases (show i = 0 ∨ i = 1 ∨ i = 2 ∨ i = 3 ∨ i = 4 ∨ i = 5 ∨ i = 6 ∨ i = 7 ∨ i = 8 by omega) with rfl | rfl | rfl | rfl | rfl | rfl | rfl | rfl | rfl
      · exact c00
      · exact c01
      · exact ⟨c11.1, by omega, c11.2.2⟩
      · exact c02
      · exact c03
      · exact ⟨c13.1, by omega, c13.2.2⟩
      · exact ⟨c22.1, by omega, c22.2.2⟩
      · exact ⟨c23.1, by omega, c23.2.2⟩
      · exact ⟨c33.1, by omega, c33.2.2⟩
    refine ⟨allB_iff.2 fun i hi => ?_, allB_iff.2 fun i hi => ?_⟩
    · have := (all i (by omega)).1
      simp [inB]; omega
    · have := (all i hi).2
      simp only [okK, Bool.and_eq_true, decide_eq_true_eq]
      exact this
/-- What comes of nine. -/
def fourR (F : List Qd) (l : List Int) : List Qd × List Int := jTo F (sqW 2 3 l) 4
theorem fourR_facts {F : List Qd} {l : List Int} (hg : Grows F) (hv : ∀ i, i < 9 → (0 ≤ ia l i ∧ ia l i < (F.length : Int)) ∧ (qa F (ia l i).toNat).1 = (qa F (ia l 0).toNat).1 ∧ (qa F (ia l i).toNat).1 < 5) (k : Nat) (hk : k ≤ 4) : JTo F (qa F (ia l 0).toNat).1 k (jTo F (sqW 2 3 l) k) := by
  have e : ∀ i, i < 4 → ∀ j, j < 4 → ∃ m, m < 9 ∧ ia (sqW 2 3 l i) j = ia l m := by
    intro i hi j hj
    rcases (show i = 0 ∨ i = 1 ∨ i = 2 ∨ i = 3 by omega) with rfl | rfl | rfl | rfl <;> rcases (show j = 0 ∨ j = 1 ∨ j = 2 ∨ j = 3 by omega) with rfl | rfl | rfl | rfl <;> exact ⟨_, by decide, rfl⟩
  refine jTo_facts hg (fun i _ => rfl) (fun i hi j hj => ?_) (fun i hi => ?_) (hv 0 (by omega)).2.2 k hk
  · obtain ⟨m, hm, em⟩ := e i hi j hj
    rw [em]; exact (hv m hm).1
  · obtain ⟨m, hm, em⟩ := e i hi 0 (by omega)
    rw [em]; exact (hv m hm).2.1
theorem four_small (F : List Qd) (l : List Int) : ((anF (fourOK F l) (fourR F l)).length ≤ 1048576 ∧ KidsLe (anF (fourOK F l) (fourR F l)) ∧ posF (nsF (anF (fourOK F l) (fourR F l))) (anF (fourOK F l) (fourR F l)).length ≤ 8388608) ∧ (anN (fourOK F l) (fourR F l)).length ≤ 9 := by
  cases h : fourOK F l
  · exact ⟨nil_small, by simp [anN]⟩
  · unfold fourOK at h
    simp only [Bool.and_eq_true, decide_eq_true_eq] at h
    have hf := fourR_facts (good_grows h.1.1) (four_lev h.1.2 h.2.1 h.2.2) 4 (Nat.le_refl _)
    refine ⟨tellF_small hf.grows, ?_⟩
    unfold anN
    split
    · have := hf.len
      unfold fourR; omega
    · simp

end Go.Proofs.Ytokemdbgcegjiaa

namespace Go.Proofs.Ytokemdbgcegjiaa
open Go.RowKit Go.Maps
set_option linter.unusedVariables false
set_option linter.unusedSimpArgs false
attribute [local go_sem ↓] Go.wp_at_zero Go.wp_at_succ

theorem info_four : (Try.prog.info? 81).map (fun i => (i.zero, i.size, i.bytes)) = some (some (.agg #[.int .i64 0, .int .i64 0, .int .i64 0, .int .i64 0]), 4, 32) := by kernel_rfl
/-- The cells of squares one behind the other. -/
def fv4 : List (List Int) → List Value
  | [] => []
  | l :: r => .int .i64 (ia l 0) :: .int .i64 (ia l 1) :: .int .i64 (ia l 2) :: .int .i64 (ia l 3) :: fv4 r
theorem fv4_length : ∀ L : List (List Int), (fv4 L).length = L.length * 4
  | [] => rfl
  | l :: r => by simp [fv4, fv4_length r]; omega
theorem fv4_append : ∀ L M : List (List Int), fv4 (L ++ M) = fv4 L ++ fv4 M
  | [], M => rfl
  | l :: r, M => by simp [fv4, fv4_append r M]
theorem fv4_at : ∀ (L : List (List Int)) {i j : Nat}, i < L.length → j < 4 → (fv4 L)[i * 4 + j]? = some (.int .i64 (ia (L.getD i []) j))
  | [], i, j, hi, hj => by simp at hi
  | l :: r, 0, j, hi, hj => by
    rcases (show j = 0 ∨ j = 1 ∨ j = 2 ∨ j = 3 by omega) with rfl | rfl | rfl | rfl <;> simp [fv4]
  | l :: r, i + 1, j, hi, hj => by
    have := fv4_at r (i := i) (j := j) (by simpa using hi) hj
    rw [show (i + 1) * 4 + j = i * 4 + j + 4 by omega]
    simp only [fv4, List.getElem?_cons_succ]
    rw [this]; simp
theorem fv4_one : ∀ (L : List (List Int)), ∀ u ∈ fv4 L, u.oneCell' = true
  | [], u, hu => by simp [fv4] at hu
  | l :: r, u, hu => by
    simp only [fv4, List.mem_cons] at hu
    rcases hu with rfl | rfl | rfl | rfl | hu
    · rfl
    · rfl
    · rfl
    · rfl
    · exact fv4_one r u hu
/-- The slice v owns the squares L, among the blocks from base on. -/
def OwnF (w : World) (base : Nat) (v : Value) (L : List (List Int)) : Prop := w.ownsRow base 81 4 v L.length (fv4 L)
theorem OwnF.nil (w : World) (base : Nat) : OwnF w base (.slice none 0 0) [] := World.ownsRow_nil w base 81 4
theorem OwnF.below {w w' : World} {base : Nat} {v : Value} {L : List (List Int)} (h : OwnF w base v L) (hb : Below w.heap.size w w') : OwnF w' base v L :=
  World.ownsRow.kept h (grown_of_below hb none) (by cases v.ownBlock <;> simp)
theorem OwnF.lt {w : World} {base : Nat} {v : Value} {L : List (List Int)} (h : OwnF w base v L) : ∀ k, v.ownBlock = some k → base ≤ k ∧ k < w.heap.size := World.ownsRow.lt h
/-- Squares in a row of them. -/
def FSq (w : World) (a : Option Addr) (n : Nat) (sq : Nat → List Int) : Prop :=
  ∀ i, i < n → ∃ b cur, a = some ⟨b, 0, none⟩ ∧ w.heap[b]? = some (.cells cur 81 (0, 0)) ∧ ∀ j, j < 4 → w.cell? ⟨b, i * 4 + j, none⟩ = some (.int .i64 (ia (sq i) j))
theorem OwnF.form {w : World} {base : Nat} {v : Value} {L : List (List Int)} (h : OwnF w base v L) : ∃ a cap, v = .slice a L.length cap ∧ FSq w a L.length (fun i => L.getD i []) := by
  have h0 := h
  rcases h.2 with ⟨rfl, hn⟩ | ⟨g, cap, cur, rfl, hb, hg, hcap, hm, hs, ht⟩
  · have : L = [] := List.eq_nil_of_length_eq_zero hn
    subst this
    exact ⟨none, 0, rfl, fun i hi => by simp at hi⟩
  · refine ⟨_, _, rfl, fun i hi => ⟨g, cur, rfl, hg, fun j hj => ?_⟩⟩
    have := World.ownsRow.cellAt h0 (i * 4 + j) (by omega)
    rw [fv4_at L hi hj] at this
    exact this
/-- A block of anything but groves and nodes stays as it is where rows are kept. -/
theorem RowsKept.block {w w' : World} (h : RowsKept w w') {B : Nat} {cur : Array Value} {t : TypeId} (hb : w.heap[B]? = some (.cells cur t (0, 0))) (h1 : t ≠ 87) (h2 : t ≠ 83) : w'.heap[B]? = w.heap[B]? := by
  have hr : w.rowIs B t cur.size (fun i => cur.getD i (.bool false)) := ⟨cur, hb, rfl, fun i hi => by simp [Array.getD, hi]⟩
  obtain ⟨c, hc, hs, hv⟩ := h B t cur.size _ h1 (fun e => absurd e h2) hr
  rw [hc, hb]
  congr 2
  refine Array.ext hs fun i hi1 hi2 => ?_
  have := hv i hi2
  simp [Array.getD, hi2] at this
  have e2 := Array.getElem?_eq_getElem hi1
  rw [e2] at this
  simpa using this
theorem FSq.rows {w w' : World} {a : Option Addr} {n : Nat} {sq : Nat → List Int} (h : FSq w a n sq) (hr : RowsKept w w') : FSq w' a n sq := by
  intro i hi
  obtain ⟨b, cur, e, hb, hc⟩ := h i hi
  have hh := hr.block hb (by decide) (by decide)
  exact ⟨b, cur, e, hh.trans hb, fun j hj => (World.cell?_of_block (a := ⟨b, i * 4 + j, none⟩) hh).trans (hc j hj)⟩
theorem FSq.below {w w' : World} {a : Option Addr} {n : Nat} {sq : Nat → List Int} (h : FSq w a n sq) (hb : Below w.heap.size w w') : FSq w' a n sq := h.rows (RowsKept.of_below hb)
theorem FSq.congr {w : World} {a : Option Addr} {n : Nat} {sq sq' : Nat → List Int} (h : FSq w a n sq) (he : ∀ i, i < n → sq i = sq' i) : FSq w a n sq' := by
  intro i hi
  obtain ⟨b, cur, e, hb, hc⟩ := h i hi
  exact ⟨b, cur, e, hb, fun j hj => by rw [← he i hi]; exact hc j hj⟩
theorem step_appF {w : World} {ops : Array Oper} {o : Oper} {a : Act} {K : Act → World → Prop} {Q : Exit → Act → World → Prop} {E : Prop} (hgd : o.guard = none) (s x : Operand)
    (ho : o.op = .call { callee := .builtin .append, args := #[s, x], argTypes := #[67, 67] })
    (base : Nat) (v : Value) (L : List (List Int)) (l : List Int) (B : Nat) (hs : a.eval s = v) (hown : OwnF w base v L) (hx : a.eval x = .slice (some ⟨B, 0, none⟩) 1 1)
    (hblk : w.heap[B]? = some (.cells #[.int .i64 (ia l 0), .int .i64 (ia l 1), .int .i64 (ia l 2), .int .i64 (ia l 3)] 81)) (hlen : L.length ≤ 1000) (hbase : base ≤ w.heap.size)
    (h : ∀ v' w', OwnF w' base v' (L ++ [l]) → w.grownBy w' v.ownBlock → K (a.put o.dst v') w') : if Region.wanted o (yielded ops a.tmps) = true then Oper.wp Try.prog o a w K Q else E := by
  have hw : Region.wanted o (yielded ops a.tmps) = true := by simp [Region.wanted, hgd]
  rw [if_pos hw]
  obtain ⟨i, hi, hz, hsz, hb⟩ := info_parts info_four
  obtain ⟨v', w', hr, h1, h2, _, h4⟩ := run_append_own_at (P := Try.prog) w base 67 o.type 81 i _ 4 32 Try.underlying67 hi hz hsz hb rfl (by omega) v L.length (fv4 L) hown ⟨B, 0, none⟩ 1 1 (fv4 [l]) rfl (by
      intro j u hu
      have hadd : (⟨B, 0, none⟩ : Addr).add j = ⟨B, j, none⟩ := by unfold Addr.add; split <;> simp_all
      rw [hadd]
      unfold World.cell?
      rw [hblk]
      simpa [fv4] using hu) (fv4_one _) (by unfold maxLen; omega) (by omega) hbase
  unfold Oper.wp execOp
  simp only [ho, resolve, invoke, builtin, Sem.run_bind, Sem.run_pure, Result.andThen_ok, List.map_toArray, List.map_cons, List.map_nil, hs, hx, hr]
  refine h v' w' ?_ h2
  unfold OwnF
  rw [fv4_append, List.length_append]
  exact h1
theorem take_sq {d wd : Nat} (l : List Int) (k : Nat) : (List.range (k + 1)).map (sqW d wd l) = (List.range k).map (sqW d wd l) ++ [sqW d wd l k] := by
  rw [List.range_succ, List.map_append]; rfl

set_option maxHeartbeats 8000000 in
set_option maxRecDepth 100000 in
theorem c_two3 (b o ca : Nat) (l : List Int) (hl : l.length = 9) (w : World) (h : ISeg w (some ⟨b, o, none⟩) l) :
    Calls Try.prog 38 #[.slice (some ⟨b, o, none⟩) 9 ca, .int .i64 3] w fun e w' => ∃ v, e = .returned v ∧ OwnF w' w.heap.size v ((List.range 4).map (sqW 2 3 l)) ∧ Below w.heap.size w w' := by
  have HC : Hid (∀ (W : World), Below w.heap.size w W → ∀ i, i < 9 → W.cell? ⟨b, o + i, none⟩ = some (.int .i64 (ia l i))) := by
    intro W hB i hi
    obtain ⟨b', o', e, hlt, hc⟩ := h i (by omega)
    simp only [Option.some.injEq, Addr.mk.injEq, and_true] at e
    obtain ⟨rfl, rfl⟩ := e
    exact (hB.cell (p := ⟨b, o + i, none⟩) hlt).trans hc
  clear h
  go_enter Try.func38, Try.ntmps38
  go_wp2
  go_loopw [5, 11] (fun ov iv wr => ∃ k : Nat, k ≤ 2 ∧ iv = .int .i64 k ∧ Hid (OwnF wr w.heap.size ov ((List.range (k * 2)).map (sqW 2 3 l))) ∧ Hid (Below w.heap.size w wr)) (fun _ iv _ => 2 - (intOf iv).toNat)
  case atStart => exact ⟨0, Nat.zero_le _, rfl, OwnF.nil w w.heap.size, Below.refl _ _⟩
  case round =>
    obtain ⟨k, hk, rfl, HO, HB⟩ := hrel
    by_cases hlt : k < 2
    · have hlt' : (k : Int) < 2 := by omega
      go_wp2
      go_loopw [5, 16] (fun ov iv wr => ∃ j : Nat, j ≤ 2 ∧ iv = .int .i64 j ∧ Hid (OwnF wr w.heap.size ov ((List.range (k * 2 + j)).map (sqW 2 3 l))) ∧ Hid (Below w.heap.size w wr)) (fun _ iv _ => 2 - (intOf iv).toNat)
      case atStart => exact ⟨0, Nat.zero_le _, rfl, HO.out, HB.out⟩
      case round =>
        clear HO HB
        obtain ⟨j, hj, rfl, HO, HB⟩ := hrel
        by_cases hjt : j < 2
        · have HT := hid (take_sq (d := 2) (wd := 3) l (k * 2 + j))
          have HLE : Hid (((List.range (k * 2 + j)).map (sqW 2 3 l)).length ≤ 1000) := by simp [Hid]; omega
          generalize (List.range (k * 2 + j)).map (sqW 2 3 l) = L at *
          have HS := hid (show sqW 2 3 l (k * 2 + j) = [ia l (k * 3 + j), ia l (k * 3 + j + 1), ia l (k * 3 + j + 3), ia l (k * 3 + j + 3 + 1)] by unfold sqW; rw [show (k * 2 + j) / 2 = k by omega, show (k * 2 + j) % 2 = j by omega])
          have hb1 := (Below.refl wr.heap.size wr).drew
          have HO1 := hid (HO.out.below hb1)
          have HB1 := hid (HB.out.trans (hb1.mono HB.out.size))
          have HSS := hid (show ∀ W : World, Below w.heap.size w W → W.cell? ⟨b, o + ((k : Int) * 3 + (j : Int)).toNat, none⟩ = some (.int .i64 (ia l (k * 3 + j))) ∧ W.cell? ⟨b, o + ((k : Int) * 3 + (j : Int) + 1).toNat, none⟩ = some (.int .i64 (ia l (k * 3 + j + 1))) ∧ W.cell? ⟨b, o + ((k : Int) * 3 + (j : Int) + 3).toNat, none⟩ = some (.int .i64 (ia l (k * 3 + j + 3))) ∧ W.cell? ⟨b, o + ((k : Int) * 3 + (j : Int) + 3 + 1).toNat, none⟩ = some (.int .i64 (ia l (k * 3 + j + 3 + 1))) from fun W h => ⟨by have := HC.out W h (k * 3 + j) (by omega); rwa [show o + (k * 3 + j) = o + ((k : Int) * 3 + (j : Int)).toNat by omega] at this, by have := HC.out W h (k * 3 + j + 1) (by omega); rwa [show o + (k * 3 + j + 1) = o + ((k : Int) * 3 + (j : Int) + 1).toNat by omega] at this, by have := HC.out W h (k * 3 + j + 3) (by omega); rwa [show o + (k * 3 + j + 3) = o + ((k : Int) * 3 + (j : Int) + 3).toNat by omega] at this, by have := HC.out W h (k * 3 + j + 3 + 1) (by omega); rwa [show o + (k * 3 + j + 3 + 1) = o + ((k : Int) * 3 + (j : Int) + 3 + 1).toNat by omega] at this⟩)
          have p1 : IntKind.i64.wrap ((k : Int) * 3 + (j : Int) + 1) = (k : Int) * 3 + (j : Int) + 1 := by rw [IntKind.wrap_i64]; omega
          have p2 : IntKind.i64.wrap ((k : Int) * 3 + (j : Int) + 3) = (k : Int) * 3 + (j : Int) + 3 := by rw [IntKind.wrap_i64]; omega
          have p3 : IntKind.i64.wrap ((k : Int) * 3 + (j : Int) + 3 + 1) = (k : Int) * 3 + (j : Int) + 3 + 1 := by rw [IntKind.wrap_i64]; omega
          have b0 : 0 ≤ (k : Int) * 3 + (j : Int) := by omega
          have b1 : (k : Int) * 3 + (j : Int) < 9 := by omega
          have b2 : 0 ≤ (k : Int) * 3 + (j : Int) + 1 := by omega
          have b3 : (k : Int) * 3 + (j : Int) + 1 < 9 := by omega
          have b4 : 0 ≤ (k : Int) * 3 + (j : Int) + 3 := by omega
          have b5 : (k : Int) * 3 + (j : Int) + 3 < 9 := by omega
          have b6 : 0 ≤ (k : Int) * 3 + (j : Int) + 3 + 1 := by omega
          have b7 : (k : Int) * 3 + (j : Int) + 3 + 1 < 9 := by omega
          have hjt' : (j : Int) < 2 := by omega
          generalize ia l (k * 3 + j) = y0 at *
          generalize ia l (k * 3 + j + 1) = y1 at *
          generalize ia l (k * 3 + j + 3) = y2 at *
          generalize ia l (k * 3 + j + 3 + 1) = y3 at *
          have hb2 := (Below.refl wr.drew.heap.size wr.drew).alloc (Nat.le_refl _) (.cells #[.int .i64 y0, .int .i64 y1, .int .i64 y2, .int .i64 y3] 81)
          have HO2 := hid (HO1.out.below hb2)
          have HB2 := hid (HB1.out.trans (hb2.mono HB1.out.size))
          clear hb1 hb2 HO HB HO1
          go_wp2_with fail
          go_region_held3 (fun W => W.cell? ⟨b, o + ((k : Int) * 3 + (j : Int)).toNat, none⟩ = some (.int .i64 y0) ∧ W.cell? ⟨b, o + ((k : Int) * 3 + (j : Int) + 1).toNat, none⟩ = some (.int .i64 y1) ∧ W.cell? ⟨b, o + ((k : Int) * 3 + (j : Int) + 3).toNat, none⟩ = some (.int .i64 y2) ∧ W.cell? ⟨b, o + ((k : Int) * 3 + (j : Int) + 3 + 1).toNat, none⟩ = some (.int .i64 y3))
            (first | with_reducible exact HSS.out _ HB9.out | with_reducible exact HSS.out _ HB2.out | with_reducible exact HSS.out _ HB1.out | exact HSS.out _ HB1.out | exact HSS.out _ HB2.out)
            ((refine step_appF rfl (.tmp 24) (.tmp 48) rfl w.heap.size _ L [y0, y1, y2, y3] wr.drew.heap.size (by simp [Act.eval, Act.put]) HO2.out (by simp [Act.eval, Act.put]) (heap_alloc_new wr.drew _) HLE.out HB2.out.size ?_; intro v9 w9 hO9 hG9; have HB9 := hid (HB2.out.grown hG9 HB2.out.size (fun k e => (HO2.out.lt k e).1))))
          clear p1 p2 p3 b0 b1 b2 b3 b4 b5 b6 b7
          go_wp2_with fail
          go_roundw
          case rel => exact ⟨j + 1, by omega, by go_num, by rw [show k * 2 + (j + 1) = k * 2 + j + 1 by omega, HT.out, HS.out]; exact hO9, HB9.out⟩
          case measure => simp [intOf]; omega
        · obtain rfl : j = 2 := by omega
          go_wp2
          go_roundw
          case rel => exact ⟨k + 1, by omega, by go_num, by rw [show (k + 1) * 2 = k * 2 + 2 by omega]; exact HO.out, HB.out⟩
          case measure => simp [intOf]; omega
    · obtain rfl : k = 2 := by omega
      go_wp2
      go_ret
      exact ⟨_, rfl, HO.out, HB.out⟩

set_option maxHeartbeats 8000000 in
set_option maxRecDepth 100000 in
theorem c_two4 (b o ca : Nat) (l : List Int) (hl : l.length = 16) (w : World) (h : ISeg w (some ⟨b, o, none⟩) l) :
    Calls Try.prog 38 #[.slice (some ⟨b, o, none⟩) 16 ca, .int .i64 4] w fun e w' => ∃ v, e = .returned v ∧ OwnF w' w.heap.size v ((List.range 9).map (sqW 3 4 l)) ∧ Below w.heap.size w w' := by
  have HC : Hid (∀ (W : World), Below w.heap.size w W → ∀ i, i < 16 → W.cell? ⟨b, o + i, none⟩ = some (.int .i64 (ia l i))) := by
    intro W hB i hi
    obtain ⟨b', o', e, hlt, hc⟩ := h i (by omega)
    simp only [Option.some.injEq, Addr.mk.injEq, and_true] at e
    obtain ⟨rfl, rfl⟩ := e
    exact (hB.cell (p := ⟨b, o + i, none⟩) hlt).trans hc
  clear h
  go_enter Try.func38, Try.ntmps38
  go_wp2
  go_loopw [5, 11] (fun ov iv wr => ∃ k : Nat, k ≤ 3 ∧ iv = .int .i64 k ∧ Hid (OwnF wr w.heap.size ov ((List.range (k * 3)).map (sqW 3 4 l))) ∧ Hid (Below w.heap.size w wr)) (fun _ iv _ => 3 - (intOf iv).toNat)
  case atStart => exact ⟨0, Nat.zero_le _, rfl, OwnF.nil w w.heap.size, Below.refl _ _⟩
  case round =>
    obtain ⟨k, hk, rfl, HO, HB⟩ := hrel
    by_cases hlt : k < 3
    · have hlt' : (k : Int) < 3 := by omega
      go_wp2
      go_loopw [5, 16] (fun ov iv wr => ∃ j : Nat, j ≤ 3 ∧ iv = .int .i64 j ∧ Hid (OwnF wr w.heap.size ov ((List.range (k * 3 + j)).map (sqW 3 4 l))) ∧ Hid (Below w.heap.size w wr)) (fun _ iv _ => 3 - (intOf iv).toNat)
      case atStart => exact ⟨0, Nat.zero_le _, rfl, HO.out, HB.out⟩
      case round =>
        clear HO HB
        obtain ⟨j, hj, rfl, HO, HB⟩ := hrel
        by_cases hjt : j < 3
        · have HT := hid (take_sq (d := 3) (wd := 4) l (k * 3 + j))
          have HLE : Hid (((List.range (k * 3 + j)).map (sqW 3 4 l)).length ≤ 1000) := by simp [Hid]; omega
          generalize (List.range (k * 3 + j)).map (sqW 3 4 l) = L at *
          have HS := hid (show sqW 3 4 l (k * 3 + j) = [ia l (k * 4 + j), ia l (k * 4 + j + 1), ia l (k * 4 + j + 4), ia l (k * 4 + j + 4 + 1)] by unfold sqW; rw [show (k * 3 + j) / 3 = k by omega, show (k * 3 + j) % 3 = j by omega])
          have hb1 := (Below.refl wr.heap.size wr).drew
          have HO1 := hid (HO.out.below hb1)
          have HB1 := hid (HB.out.trans (hb1.mono HB.out.size))
          have HSS := hid (show ∀ W : World, Below w.heap.size w W → W.cell? ⟨b, o + ((k : Int) * 4 + (j : Int)).toNat, none⟩ = some (.int .i64 (ia l (k * 4 + j))) ∧ W.cell? ⟨b, o + ((k : Int) * 4 + (j : Int) + 1).toNat, none⟩ = some (.int .i64 (ia l (k * 4 + j + 1))) ∧ W.cell? ⟨b, o + ((k : Int) * 4 + (j : Int) + 4).toNat, none⟩ = some (.int .i64 (ia l (k * 4 + j + 4))) ∧ W.cell? ⟨b, o + ((k : Int) * 4 + (j : Int) + 4 + 1).toNat, none⟩ = some (.int .i64 (ia l (k * 4 + j + 4 + 1))) from fun W h => ⟨by have := HC.out W h (k * 4 + j) (by omega); rwa [show o + (k * 4 + j) = o + ((k : Int) * 4 + (j : Int)).toNat by omega] at this, by have := HC.out W h (k * 4 + j + 1) (by omega); rwa [show o + (k * 4 + j + 1) = o + ((k : Int) * 4 + (j : Int) + 1).toNat by omega] at this, by have := HC.out W h (k * 4 + j + 4) (by omega); rwa [show o + (k * 4 + j + 4) = o + ((k : Int) * 4 + (j : Int) + 4).toNat by omega] at this, by have := HC.out W h (k * 4 + j + 4 + 1) (by omega); rwa [show o + (k * 4 + j + 4 + 1) = o + ((k : Int) * 4 + (j : Int) + 4 + 1).toNat by omega] at this⟩)
          have p1 : IntKind.i64.wrap ((k : Int) * 4 + (j : Int) + 1) = (k : Int) * 4 + (j : Int) + 1 := by rw [IntKind.wrap_i64]; omega
          have p2 : IntKind.i64.wrap ((k : Int) * 4 + (j : Int) + 4) = (k : Int) * 4 + (j : Int) + 4 := by rw [IntKind.wrap_i64]; omega
          have p3 : IntKind.i64.wrap ((k : Int) * 4 + (j : Int) + 4 + 1) = (k : Int) * 4 + (j : Int) + 4 + 1 := by rw [IntKind.wrap_i64]; omega
          have b0 : 0 ≤ (k : Int) * 4 + (j : Int) := by omega
          have b1 : (k : Int) * 4 + (j : Int) < 16 := by omega
          have b2 : 0 ≤ (k : Int) * 4 + (j : Int) + 1 := by omega
          have b3 : (k : Int) * 4 + (j : Int) + 1 < 16 := by omega
          have b4 : 0 ≤ (k : Int) * 4 + (j : Int) + 4 := by omega
          have b5 : (k : Int) * 4 + (j : Int) + 4 < 16 := by omega
          have b6 : 0 ≤ (k : Int) * 4 + (j : Int) + 4 + 1 := by omega
          have b7 : (k : Int) * 4 + (j : Int) + 4 + 1 < 16 := by omega
          have hjt' : (j : Int) < 3 := by omega
          generalize ia l (k * 4 + j) = y0 at *
          generalize ia l (k * 4 + j + 1) = y1 at *
          generalize ia l (k * 4 + j + 4) = y2 at *
          generalize ia l (k * 4 + j + 4 + 1) = y3 at *
          have hb2 := (Below.refl wr.drew.heap.size wr.drew).alloc (Nat.le_refl _) (.cells #[.int .i64 y0, .int .i64 y1, .int .i64 y2, .int .i64 y3] 81)
          have HO2 := hid (HO1.out.below hb2)
          have HB2 := hid (HB1.out.trans (hb2.mono HB1.out.size))
          clear hb1 hb2 HO HB HO1
          go_wp2_with fail
          go_region_held3 (fun W => W.cell? ⟨b, o + ((k : Int) * 4 + (j : Int)).toNat, none⟩ = some (.int .i64 y0) ∧ W.cell? ⟨b, o + ((k : Int) * 4 + (j : Int) + 1).toNat, none⟩ = some (.int .i64 y1) ∧ W.cell? ⟨b, o + ((k : Int) * 4 + (j : Int) + 4).toNat, none⟩ = some (.int .i64 y2) ∧ W.cell? ⟨b, o + ((k : Int) * 4 + (j : Int) + 4 + 1).toNat, none⟩ = some (.int .i64 y3))
            (first | with_reducible exact HSS.out _ HB9.out | with_reducible exact HSS.out _ HB2.out | with_reducible exact HSS.out _ HB1.out | exact HSS.out _ HB1.out | exact HSS.out _ HB2.out)
            ((refine step_appF rfl (.tmp 24) (.tmp 48) rfl w.heap.size _ L [y0, y1, y2, y3] wr.drew.heap.size (by simp [Act.eval, Act.put]) HO2.out (by simp [Act.eval, Act.put]) (heap_alloc_new wr.drew _) HLE.out HB2.out.size ?_; intro v9 w9 hO9 hG9; have HB9 := hid (HB2.out.grown hG9 HB2.out.size (fun k e => (HO2.out.lt k e).1))))
          clear p1 p2 p3 b0 b1 b2 b3 b4 b5 b6 b7
          go_wp2_with fail
          go_roundw
          case rel => exact ⟨j + 1, by omega, by go_num, by rw [show k * 3 + (j + 1) = k * 3 + j + 1 by omega, HT.out, HS.out]; exact hO9, HB9.out⟩
          case measure => simp [intOf]; omega
        · obtain rfl : j = 3 := by omega
          go_wp2
          go_roundw
          case rel => exact ⟨k + 1, by omega, by go_num, by rw [show (k + 1) * 3 = k * 3 + 3 by omega]; exact HO.out, HB.out⟩
          case measure => simp [intOf]; omega
    · obtain rfl : k = 3 := by omega
      go_wp2
      go_ret
      exact ⟨_, rfl, HO.out, HB.out⟩

end Go.Proofs.Ytokemdbgcegjiaa

namespace Go.Proofs.Ytokemdbgcegjiaa
open Go.RowKit Go.Maps
set_option linter.unusedVariables false
set_option linter.unusedSimpArgs false
attribute [local go_sem ↓] Go.wp_at_zero Go.wp_at_succ

/-- Numbers in a block of numbers. -/
def TyI (w : World) (a : Option Addr) (l : List Int) : Prop := ISeg w a l ∧ ∀ g o, a = some ⟨g, o, none⟩ → ∃ c fr, w.heap[g]? = some (.cells c 3 fr)
theorem TyI.keep {w w' : World} {a : Option Addr} {l : List Int} (h : TyI w a l) (k : KeepT w w') : TyI w' a l := by
  refine ⟨fun i hi => ?_, fun g o e => ?_⟩
  · obtain ⟨b, o, e, hb, p1⟩ := h.1 i hi
    obtain ⟨c, fr, hc⟩ := h.2 b o e
    have hh := k.2 b c _ fr hc (by decide) (by decide)
    exact ⟨b, o, e, Nat.lt_of_lt_of_le hb k.1, (World.cell?_of_block (a := ⟨b, o + i, none⟩) hh).trans p1⟩
  · obtain ⟨c, fr, hc⟩ := h.2 g o e
    exact ⟨c, fr, (k.2 g c _ fr hc (by decide) (by decide)).trans hc⟩
theorem TyI.at {w : World} {b o : Nat} {l : List Int} (h : TyI w (some ⟨b, o, none⟩) l) {i : Nat} (hi : i < l.length) : w.cell? ⟨b, o + i, none⟩ = some (.int .i64 (ia l i)) := by
  obtain ⟨b', o', e, _, hc⟩ := h.1 i hi
  simp only [Option.some.injEq, Addr.mk.injEq, and_true] at e
  obtain ⟨rfl, rfl⟩ := e
  exact hc
theorem KeepT.drew (w : World) : KeepT w w.drew := KeepT.of ((Below.refl w.heap.size w).drew)
theorem TyI.row {w : World} {g : Nat} {l : List Int} (h : IRow w g l) : TyI w (some ⟨g, 0, none⟩) l := by
  refine ⟨fun i hi => ⟨g, 0, rfl, World.rowIs.lt h, by rw [Nat.zero_add]; exact World.rowIs.cell h hi⟩, fun g' o e => ?_⟩
  simp only [Option.some.injEq, Addr.mk.injEq, and_true] at e
  obtain ⟨rfl, _⟩ := e
  obtain ⟨c, hc, _⟩ := h
  exact ⟨c, _, hc⟩
theorem IRow.keepT {w w' : World} {g : Nat} {l : List Int} (h : IRow w g l) (k : KeepT w w') : IRow w' g l := by
  obtain ⟨c, hc, r⟩ := h
  exact ⟨c, (k.2 g c _ _ hc (by decide) (by decide)).trans hc, r⟩

set_option maxHeartbeats 8000000 in
set_option maxRecDepth 100000 in
theorem c_sfour {bk ok lca : Nat} {l : List Int} (h9 : l.length = 9) (w : World) {base p : Nat} {v : Value} {F : List Qd} (h : SF w base p v F) (hI : TyI w (some ⟨bk, ok, none⟩) l) (hG : Grows F) (hlen : F.length ≤ 90000) (hv : ∀ i, i < 9 → (0 ≤ ia l i ∧ ia l i < (F.length : Int)) ∧ (qa F (ia l i).toNat).1 = (qa F (ia l 0).toNat).1 ∧ (qa F (ia l i).toNat).1 < 5) :
    Calls Try.prog 45 #[.pointer (some ⟨p, 0, none⟩), .slice (some ⟨bk, ok, none⟩) 9 lca] w fun e w' => ∃ v' B, e = .returned (.slice (some ⟨B, 0, none⟩) 4 4) ∧ SF w' base p v' (fourR F l).1 ∧ IRow w' B (fourR F l).2 ∧ w.heap.size ≤ B ∧ Below base w w' ∧ KeepT w w' := by
  have HF0 := hid (fourR_facts hG hv 0 (by omega))
  have HF1 := hid (fourR_facts hG hv 1 (by omega))
  have HF2 := hid (fourR_facts hG hv 2 (by omega))
  have HF3 := hid (fourR_facts hG hv 3 (by omega))
  have HF4 := hid (fourR_facts hG hv 4 (by omega))
  have HE := hid (show fourR F l = ((joinF (jTo F (sqW 2 3 l) 3).1 [ia l 4, ia l 5, ia l 7, ia l 8]).1, [((joinF F [ia l 0, ia l 1, ia l 3, ia l 4]).2 : Int), ((joinF (jTo F (sqW 2 3 l) 1).1 [ia l 1, ia l 2, ia l 4, ia l 5]).2 : Int), ((joinF (jTo F (sqW 2 3 l) 2).1 [ia l 3, ia l 4, ia l 6, ia l 7]).2 : Int), ((joinF (jTo F (sqW 2 3 l) 3).1 [ia l 4, ia l 5, ia l 7, ia l 8]).2 : Int)]) from rfl)
  have HE1 := hid (show (jTo F (sqW 2 3 l) 1).1 = (joinF F [ia l 0, ia l 1, ia l 3, ia l 4]).1 from rfl)
  have HE2 := hid (show (jTo F (sqW 2 3 l) 2).1 = (joinF (jTo F (sqW 2 3 l) 1).1 [ia l 1, ia l 2, ia l 4, ia l 5]).1 from rfl)
  have HE3 := hid (show (jTo F (sqW 2 3 l) 3).1 = (joinF (jTo F (sqW 2 3 l) 2).1 [ia l 3, ia l 4, ia l 6, ia l 7]).1 from rfl)
  have HVV := hid hv
  have lv := fun i (hi : i < 9) => hG.lev (ia l i).toNat (by have := (hv i hi).1; omega)
  have HLV := hid lv
  clear lv hv
  rw [HE.out]
  generalize hG1 : (jTo F (sqW 2 3 l) 1) = G1 at *
  generalize hG2 : (jTo F (sqW 2 3 l) 2) = G2 at *
  generalize hG3 : (jTo F (sqW 2 3 l) 3) = G3 at *
  have HS := hid h
  have HT := hid hI
  have HN9 := hid h9
  have HGR := hid hG
  clear h hI hG hG1 hG2 hG3 HE HF0
  have hbs : base ≤ w.heap.size := Nat.le_trans HS.out.low (Nat.le_of_lt HS.out.box.lt)
  have HBS := hid hbs
  have l9 : (0 : Int) < 9 := by omega
  clear h9 hbs
  go_enter Try.func45, Try.ntmps45
  go_wp2_with fail
  have z0 := (HT.out.keep (KeepT.drew w)).at (i := 0) (by have := HN9.out; omega)
  have z1 := (HT.out.keep (KeepT.drew w)).at (i := 1) (by have := HN9.out; omega)
  have z2 := (HT.out.keep (KeepT.drew w)).at (i := 3) (by have := HN9.out; omega)
  have z3 := (HT.out.keep (KeepT.drew w)).at (i := 4) (by have := HN9.out; omega)
  rw [Nat.add_zero] at z0
  refine wp_region_still_tail 13 (by kernel_rfl) (by kernel_rfl) ?_
  simp only [List.take_succ_cons, List.take_zero, List.drop_succ_cons, List.drop_zero]
  iterate 13 still_step
  refine wpStill_nil ?_
  clear z0 z1 z2 z3
  have hbd := (Below.refl w.heap.size w).drew
  have HJ := hid (c_sjoin [ia l 0, ia l 1, ia l 3, ia l 4] rfl w.drew (HS.out.below hbd) (by have := hlen; omega) HGR.out.kidsLe (HVV.out 0 (by omega)).1.1 (HVV.out 0 (by omega)).1.2 (by rw [show ia [ia l 0, ia l 1, ia l 3, ia l 4] 0 = ia l 0 from rfl]; have := HLV.out 0 (by omega); omega) (by rw [show ia [ia l 0, ia l 1, ia l 3, ia l 4] 0 = ia l 0 from rfl]; have := HLV.out 0 (by omega); omega))
  clear hbd
  go_wp2_with fail
  refine HJ.out.mono ?_
  rintro e w1 ⟨v1, rfl, hS, hb, hE⟩
  have K1 := hid ((KeepT.drew w).trans (KeepT.else (HS.out.below ((Below.refl w.heap.size w).drew)) hE hb.size))
  have B1 := hid (((Below.refl w.heap.size w).drew.mono HBS.out).trans hb)
  rw [← HE1.out] at hS
  replace HS := hid hS
  replace HBS := hid (Nat.le_trans HBS.out B1.out.size)
  replace HT := hid (HT.out.keep K1.out)
  clear hS hb hE HJ
  go_wp2_with fail
  have z0 := (HT.out.keep (KeepT.drew w1)).at (i := 1) (by have := HN9.out; omega)
  have z1 := (HT.out.keep (KeepT.drew w1)).at (i := 2) (by have := HN9.out; omega)
  have z2 := (HT.out.keep (KeepT.drew w1)).at (i := 4) (by have := HN9.out; omega)
  have z3 := (HT.out.keep (KeepT.drew w1)).at (i := 5) (by have := HN9.out; omega)
  refine wp_region_still_tail 13 (by kernel_rfl) (by kernel_rfl) ?_
  simp only [List.take_succ_cons, List.take_zero, List.drop_succ_cons, List.drop_zero]
  iterate 13 still_step
  refine wpStill_nil ?_
  clear z0 z1 z2 z3
  have hbd := (Below.refl w1.heap.size w1).drew
  have HJ := hid (c_sjoin [ia l 1, ia l 2, ia l 4, ia l 5] rfl w1.drew (HS.out.below hbd) (by have := HF1.out.most; omega) HF1.out.grows.kidsLe (HVV.out 1 (by omega)).1.1 (by rw [show ia [ia l 1, ia l 2, ia l 4, ia l 5] 0 = ia l 1 from rfl]; have := (HVV.out 1 (by omega)).1.2; have := HF1.out.more; omega) (by rw [show ia [ia l 1, ia l 2, ia l 4, ia l 5] 0 = ia l 1 from rfl, HF1.out.old _ (by have := (HVV.out 1 (by omega)).1; omega)]; have := HLV.out 1 (by omega); omega) (by rw [show ia [ia l 1, ia l 2, ia l 4, ia l 5] 0 = ia l 1 from rfl, HF1.out.old _ (by have := (HVV.out 1 (by omega)).1; omega)]; have := HLV.out 1 (by omega); omega))
  clear hbd
  go_wp2_with fail
  refine HJ.out.mono ?_
  rintro e w2 ⟨v2, rfl, hS, hb, hE⟩
  have K2 := hid ((KeepT.drew w1).trans (KeepT.else (HS.out.below ((Below.refl w1.heap.size w1).drew)) hE hb.size))
  have B2 := hid (((Below.refl w1.heap.size w1).drew.mono HBS.out).trans hb)
  rw [← HE2.out] at hS
  replace HS := hid hS
  replace HBS := hid (Nat.le_trans HBS.out B2.out.size)
  replace HT := hid (HT.out.keep K2.out)
  clear hS hb hE HJ
  go_wp2_with fail
  have z0 := (HT.out.keep (KeepT.drew w2)).at (i := 3) (by have := HN9.out; omega)
  have z1 := (HT.out.keep (KeepT.drew w2)).at (i := 4) (by have := HN9.out; omega)
  have z2 := (HT.out.keep (KeepT.drew w2)).at (i := 6) (by have := HN9.out; omega)
  have z3 := (HT.out.keep (KeepT.drew w2)).at (i := 7) (by have := HN9.out; omega)
  refine wp_region_still_tail 13 (by kernel_rfl) (by kernel_rfl) ?_
  simp only [List.take_succ_cons, List.take_zero, List.drop_succ_cons, List.drop_zero]
  iterate 13 still_step
  refine wpStill_nil ?_
  clear z0 z1 z2 z3
  have hbd := (Below.refl w2.heap.size w2).drew
  have HJ := hid (c_sjoin [ia l 3, ia l 4, ia l 6, ia l 7] rfl w2.drew (HS.out.below hbd) (by have := HF2.out.most; omega) HF2.out.grows.kidsLe (HVV.out 3 (by omega)).1.1 (by rw [show ia [ia l 3, ia l 4, ia l 6, ia l 7] 0 = ia l 3 from rfl]; have := (HVV.out 3 (by omega)).1.2; have := HF2.out.more; omega) (by rw [show ia [ia l 3, ia l 4, ia l 6, ia l 7] 0 = ia l 3 from rfl, HF2.out.old _ (by have := (HVV.out 3 (by omega)).1; omega)]; have := HLV.out 3 (by omega); omega) (by rw [show ia [ia l 3, ia l 4, ia l 6, ia l 7] 0 = ia l 3 from rfl, HF2.out.old _ (by have := (HVV.out 3 (by omega)).1; omega)]; have := HLV.out 3 (by omega); omega))
  clear hbd
  go_wp2_with fail
  refine HJ.out.mono ?_
  rintro e w3 ⟨v3, rfl, hS, hb, hE⟩
  have K3 := hid ((KeepT.drew w2).trans (KeepT.else (HS.out.below ((Below.refl w2.heap.size w2).drew)) hE hb.size))
  have B3 := hid (((Below.refl w2.heap.size w2).drew.mono HBS.out).trans hb)
  rw [← HE3.out] at hS
  replace HS := hid hS
  replace HBS := hid (Nat.le_trans HBS.out B3.out.size)
  replace HT := hid (HT.out.keep K3.out)
  clear hS hb hE HJ
  go_wp2_with fail
  have z0 := (HT.out.keep (KeepT.drew w3)).at (i := 4) (by have := HN9.out; omega)
  have z1 := (HT.out.keep (KeepT.drew w3)).at (i := 5) (by have := HN9.out; omega)
  have z2 := (HT.out.keep (KeepT.drew w3)).at (i := 7) (by have := HN9.out; omega)
  have z3 := (HT.out.keep (KeepT.drew w3)).at (i := 8) (by have := HN9.out; omega)
  have hbd := (Below.refl w3.heap.size w3).drew
  have HJ := hid (c_sjoin [ia l 4, ia l 5, ia l 7, ia l 8] rfl w3.drew (HS.out.below hbd) (by have := HF3.out.most; omega) HF3.out.grows.kidsLe (HVV.out 4 (by omega)).1.1 (by rw [show ia [ia l 4, ia l 5, ia l 7, ia l 8] 0 = ia l 4 from rfl]; have := (HVV.out 4 (by omega)).1.2; have := HF3.out.more; omega) (by rw [show ia [ia l 4, ia l 5, ia l 7, ia l 8] 0 = ia l 4 from rfl, HF3.out.old _ (by have := (HVV.out 4 (by omega)).1; omega)]; have := HLV.out 4 (by omega); omega) (by rw [show ia [ia l 4, ia l 5, ia l 7, ia l 8] 0 = ia l 4 from rfl, HF3.out.old _ (by have := (HVV.out 4 (by omega)).1; omega)]; have := HLV.out 4 (by omega); omega))
  clear hbd
  have HTD := hid (HT.out.keep (KeepT.drew w3))
  have HSD := hid (HS.out.below ((Below.refl w3.heap.size w3).drew))
  have HAT := hid (fun (W : World) (h : TyI W (some ⟨bk, ok, none⟩) l) => (⟨h.at (by have := HN9.out; omega), h.at (by have := HN9.out; omega), h.at (by have := HN9.out; omega), h.at (by have := HN9.out; omega)⟩ : W.cell? ⟨bk, ok + 4, none⟩ = some (.int .i64 (ia l 4)) ∧ W.cell? ⟨bk, ok + 5, none⟩ = some (.int .i64 (ia l 5)) ∧ W.cell? ⟨bk, ok + 7, none⟩ = some (.int .i64 (ia l 7)) ∧ W.cell? ⟨bk, ok + 8, none⟩ = some (.int .i64 (ia l 8))))
  clear z0 z1 z2 z3
  go_region_held3 (fun W => W.cell? ⟨bk, ok + 4, none⟩ = some (.int .i64 (ia l 4)) ∧ W.cell? ⟨bk, ok + 5, none⟩ = some (.int .i64 (ia l 5)) ∧ W.cell? ⟨bk, ok + 7, none⟩ = some (.int .i64 (ia l 7)) ∧ W.cell? ⟨bk, ok + 8, none⟩ = some (.int .i64 (ia l 8)))
    (first | exact HAT.out _ HTD.out | with_reducible exact HAT.out _ HTK.out | with_reducible exact HAT.out _ HTA.out | exact HAT.out _ HTA.out | exact HAT.out _ HTK.out)
    ((go_at_call 66; refine HJ.out.mono ?_; rintro e w4 ⟨v4, rfl, hS, hb, hE⟩; have HTK := hid (HTD.out.keep (KeepT.else HSD.out hE hb.size)); have HTA := hid (HTK.out.keep (KeepT.of ((Below.refl w4.heap.size w4).alloc (Nat.le_refl _) (.cells #[.int .i64 ((joinF F [ia l 0, ia l 1, ia l 3, ia l 4]).2 : Int), .int .i64 ((joinF G1.1 [ia l 1, ia l 2, ia l 4, ia l 5]).2 : Int), .int .i64 ((joinF G2.1 [ia l 3, ia l 4, ia l 6, ia l 7]).2 : Int), .int .i64 ((joinF G3.1 [ia l 4, ia l 5, ia l 7, ia l 8]).2 : Int)] 3))))))
  have K4 := hid ((KeepT.drew w3).trans (KeepT.else (HS.out.below ((Below.refl w3.heap.size w3).drew)) hE hb.size))
  have B4 := hid (((Below.refl w3.heap.size w3).drew.mono HBS.out).trans hb)
  replace HS := hid hS
  clear hS hb hE HJ HT HTK HTA HTD HSD HAT
  have KA := hid (((K1.out.trans K2.out).trans K3.out).trans K4.out)
  have BA := hid (((B1.out.trans B2.out).trans B3.out).trans B4.out)
  clear K1 K2 K3 K4 B1 B2 B3 B4
  go_wp2_with fail
  go_ret
  refine ⟨v4, w4.heap.size, rfl, HS.out.below ((Below.refl w4.heap.size w4).alloc (Nat.le_refl _) _), ⟨_, heap_alloc_new w4 _, rfl, fun i hi => ?_⟩, KA.out.1, BA.out.trans (((Below.refl w4.heap.size w4).alloc (Nat.le_refl _) _).mono (Nat.le_trans (Nat.le_trans HS.out.low (Nat.le_of_lt HS.out.box.lt)) (Nat.le_refl _))), KA.out.trans (KeepT.of ((Below.refl w4.heap.size w4).alloc (Nat.le_refl _) _))⟩
  rcases (show i = 0 ∨ i = 1 ∨ i = 2 ∨ i = 3 by simp at hi; omega) with rfl | rfl | rfl | rfl <;> rfl

end Go.Proofs.Ytokemdbgcegjiaa

namespace Go.Proofs.Ytokemdbgcegjiaa
open Go.RowKit Go.Maps
set_option linter.unusedVariables false
set_option linter.unusedSimpArgs false
attribute [local go_sem ↓] Go.wp_at_zero Go.wp_at_succ

theorem four_no_all {F : List Qd} {l : List Int} (h : allIn l 0 ((F.length : Int) - 1) = false) : fourOK F l = false := by simp [fourOK, h]
theorem four_no_ok {F : List Qd} {l : List Int} {k : Nat} (hk : k < 9) (h : okK F l k = false) : fourOK F l = false := by simp [fourOK, allB_false hk h]
theorem IOwn.wide {w : World} {lo hi lo' hi' : Nat} {v : Value} {l : List Int} (h : IOwn w lo hi v l) (h1 : lo' ≤ lo) (h2 : hi ≤ hi') (h3 : hi' ≤ w.heap.size) : IOwn w lo' hi' v l := by
  rcases h with h | ⟨g, cap, e1, e2, e3, e4, e5, e6⟩
  · exact .inl h
  · exact .inr ⟨g, cap, e1, e2, by omega, by omega, h3, e6⟩

set_option maxHeartbeats 4000000 in
set_option maxRecDepth 100000 in
theorem c_sFourOf (a : Option Addr) (F : List Qd) (ca : Nat) (la : Option Addr) (l : List Int) (lca : Nat) (w : World) (ha : QSeg w a F) (hl : F.length ≤ 1048576) (hk : KidsLe F) (hca : F.length ≤ ca) (hcm : ca ≤ 9223372036854775807) (hnc : NoneCap w a F) (hLT : TyI w la l) (hLl : l.length ≤ 1048576) :
    Calls Try.prog 19 #[.agg #[.slice a F.length ca], .slice la l.length lca] w fun e w' => ∃ u nv, e = .returned (.tuple #[.agg #[u], nv, .bool (anB (fourOK F l) (fourR F l))]) ∧ GF w' w.heap.size u (anF (fourOK F l) (fourR F l)) ∧ IOwn w' w.heap.size w'.heap.size nv (anN (fourOK F l) (fourR F l)) ∧ Below w.heap.size w w' := by
  have hL := hLT.1
  obtain ⟨W1, hW1⟩ : ∃ W1, W1 = w.alloc (.cells #[.slice a F.length ca] 31) := ⟨_, rfl⟩
  have X1 := Box1.new w (.slice a F.length ca) 31
  rw [← hW1] at X1
  have hb2 := (Below.refl W1.heap.size W1).alloc (Nat.le_refl _) (.cells #[.slice none 0 0] 31)
  have X2 := X1.step hb2
  have R2 := one_row (heap_alloc_new W1 (.cells #[.slice none 0 0] 31))
  have s1 : W1.heap.size = w.heap.size + 1 := by rw [hW1]; simp
  rw [s1] at R2
  have s2 : (W1.alloc (.cells #[.slice none 0 0] 31)).heap.size = w.heap.size + 1 + 1 := by simp [s1]
  rw [hW1] at X2 R2 s2
  have HX := hid X2
  have HR := hid R2
  have HSZ := hid s2
  clear X1 X2 R2 s1 s2 hb2 hW1
  clear W1
  have HLT := hid hLT
  have x0 := HX.out.1
  have HQ := hid (ha.below HX.out.2.2)
  have HL2 := hid (hL.below HX.out.2.2)
  have HNC := hid (hnc.below ha HX.out.2.2)
  have HQ0 := hid ha
  have HL0 := hid hL
  clear ha hL hnc
  have fin : ∀ W : World, Below w.heap.size w W → ∃ u nv, Ending.returned (.tuple #[.agg #[.slice none 0 0], .slice none 0 0, .bool false]) = .returned (.tuple #[.agg #[u], nv, .bool false]) ∧ GF W w.heap.size u [] ∧ IOwn W w.heap.size W.heap.size nv [] ∧ Below w.heap.size w W := fun W h => ⟨_, _, rfl, GF.nil _ _, .inl ⟨rfl, rfl⟩, h⟩
  cases hg : goodF F
  · have HC := hid (c_sGoodForest' a F ca false hg _ HQ.out hl hk hca hcm)
    have HV := hid (show anF (fourOK F l) (fourR F l) = [] ∧ anN (fourOK F l) (fourR F l) = [] ∧ anB (fourOK F l) (fourR F l) = false by rw [show fourOK F l = false by simp [fourOK, hg]]; exact an_no _)
    clear hg x0
    go_enter Try.func19, Try.ntmps19
    go_wp2_with fail
    refine HC.out.mono ?_
    rintro e w3 ⟨rfl, hb⟩
    have R3 := hid (HR.out.of_block (hb.block _ HR.out.lt))
    have X3 := hid (HX.out.step hb)
    have x0 := X3.out.1
    clear HC hb
    have HBB := hid (Below.refl w3.heap.size w3)
    have R9 := R3.out.of_block (HBB.out.block _ R3.out.lt)
    have r0 := R9.cell (i := 0) (by omega)
    have f0 := R9.frozen 0
    have E0 := hid ((R9.set 0 (.slice none 0 0)).cell (i := 0) (by omega))
    simp only [if_true] at E0
    have HB := hid ((X3.out.step HBB.out).2.2.setCell (p := ⟨w.heap.size + 1, 0, none⟩) (by dsimp only; omega) (.slice none 0 0))
    clear R9 R3 X3 HBB
    go_wp2_with fail
    rw [HV.out.1, HV.out.2.1, HV.out.2.2]
    exact bodyPost_ret (v := .tuple #[.agg #[.slice none 0 0], .slice none 0 0, .bool false]) (by simp [results, Try.results19, go_sem, E0.out]) rfl (fin _ HB.out)
  · have HC := hid (c_sGoodForest' a F ca true hg _ HQ.out hl hk hca hcm)
    have HG := hid hg
    have hg2 := good_len2 hg
    by_cases h4 : l.length = 9
    · have d4 : ((l.length : Int) != 9) = false := by simp [h4]
      have H4 := hid h4
      cases hall : allIn l 0 ((F.length : Int) - 1)
      · have HV := hid (show anF (fourOK F l) (fourR F l) = [] ∧ anN (fourOK F l) (fourR F l) = [] ∧ anB (fourOK F l) (fourR F l) = false by rw [show fourOK F l = false by exact four_no_all hall]; exact an_no _)
        have HE := hid (fun W h => c_l1All' la l lca 0 ((F.length : Int) - 1) false hall W h hLl)
        clear h4 hall x0
        go_enter Try.func19, Try.ntmps19
        go_wp2_with fail
        refine HC.out.mono ?_
        rintro e w3 ⟨rfl, hb⟩
        have R3 := hid (HR.out.of_block (hb.block _ HR.out.lt))
        have X3 := hid (HX.out.step hb)
        have x0 := X3.out.1
        have L3 := hid (HL2.out.below hb)
        clear HC hb
        go_wp2_with fail
        refine (HE.out _ L3.out).mono ?_
        rintro e w5 ⟨rfl, hb⟩
        have HBB := hid hb
        clear hb HE x0
        have R9 := R3.out.of_block (HBB.out.block _ R3.out.lt)
        have r0 := R9.cell (i := 0) (by omega)
        have f0 := R9.frozen 0
        have E0 := hid ((R9.set 0 (.slice none 0 0)).cell (i := 0) (by omega))
        simp only [if_true] at E0
        have HB := hid ((X3.out.step HBB.out).2.2.setCell (p := ⟨w.heap.size + 1, 0, none⟩) (by dsimp only; omega) (.slice none 0 0))
        clear R9 R3 X3 HBB
        go_wp2_with fail
        rw [HV.out.1, HV.out.2.1, HV.out.2.2]
        exact bodyPost_ret (v := .tuple #[.agg #[.slice none 0 0], .slice none 0 0, .bool false]) (by simp [results, Try.results19, go_sem, E0.out]) rfl (fin _ HB.out)
      · have HE := hid (fun W h => c_l1All' la l lca 0 ((F.length : Int) - 1) true hall W h hLl)
        have HAL := hid hall
        obtain ⟨bk, ok, rfl, hbk, kc0⟩ := HL0.out 0 (by omega)
        rw [Nat.add_zero] at kc0
        have HKC := hid kc0
        clear h4 hall x0 kc0
        go_enter Try.func19, Try.ntmps19
        go_wp2_with fail
        refine HC.out.mono ?_
        rintro e w3 ⟨rfl, hb⟩
        have R3 := hid (HR.out.of_block (hb.block _ HR.out.lt))
        have X3 := hid (HX.out.step hb)
        have x0 := X3.out.1
        have L3 := hid (HL2.out.below hb)
        have Q3 := hid (HQ.out.below hb)
        have N3 := hid (HNC.out.below HQ.out hb)
        clear HC hb HX HR HL2 HQ HNC
        go_wp2_with fail
        refine (HE.out _ L3.out).mono ?_
        rintro e w5 ⟨rfl, hb⟩
        have R5 := hid (R3.out.of_block (hb.block _ R3.out.lt))
        have X5 := hid (X3.out.step hb)
        have Q5 := hid (Q3.out.below hb)
        have N5 := hid (N3.out.below Q3.out hb)
        clear hb R3 X3 L3 Q3 N3 x0 HE
        go_wp2_with fail
        go_loopw [34] (fun i wr => ∃ k : Nat, k ≤ l.length ∧ i = .int .i64 k ∧ Hid (allB (okK F l) k = true) ∧ Hid (Below w5.heap.size w5 wr)) (fun i _ => l.length - (intOf i).toNat)
        case atStart => exact ⟨0, Nat.zero_le _, rfl, (rfl : _ = _), Below.refl _ _⟩
        case round =>
          obtain ⟨k, hkk, rfl, HT, HBW⟩ := hrel
          have h4' := H4.out
          by_cases hlt : k < l.length
          · have hk4 : k < 9 := by omega
            clear h4'
            obtain ⟨bk2, ok2, e2, hbk2, kck⟩ := HL0.out k hlt
            simp only [Option.some.injEq, Addr.mk.injEq, and_true] at e2
            obtain ⟨rfl, rfl⟩ := e2
            have hbd := inB_bd (allB_iff.1 HAL.out k hlt)
            have hbd0 := inB_bd (allB_iff.1 HAL.out 0 (by omega))
            have BW := hid (X5.out.2.2.trans (HBW.out.mono X5.out.2.2.size))
            have kk := (BW.out.cell (p := ⟨bk, ok + k, none⟩) hbk).trans kck
            have kz := (BW.out.cell (p := ⟨bk, ok, none⟩) hbk).trans HKC.out
            have hbw : bk < wr.heap.size := Nat.lt_of_lt_of_le hbk BW.out.size
            obtain ⟨b1, o1, ak, ck, e1, hb1, p1, _⟩ := HQ0.out (ia l k).toNat (by omega)
            obtain ⟨b1', o1', ak', ck', e1', hb1', p1', _⟩ := HQ0.out (ia l 0).toNat (by omega)
            rw [e1] at e1'
            simp only [Option.some.injEq, Addr.mk.injEq, and_true] at e1'
            obtain ⟨rfl, rfl⟩ := e1'
            subst e1
            have hbq : b1 < wr.heap.size := Nat.lt_of_lt_of_le hb1 BW.out.size
            have q1 := (BW.out.cell (p := ⟨b1, o1 + (ia l k).toNat * 2, none⟩) hb1).trans p1
            have q2 := (BW.out.cell (p := ⟨b1, o1 + (ia l 0).toNat * 2, none⟩) hb1).trans p1'
            have x5 := (X5.out.step HBW.out).1
            have lx5 := (X5.out.step HBW.out).2.1
            have hne := Gr.ne wr
            have g0 := fun G' : Gr wr => G'.cell x5 lx5
            have g1 := fun G' : Gr wr => G'.cell kz hbw
            have g2 := fun G' : Gr wr => G'.cell q1 hbq
            have g3 := fun G' : Gr wr => G'.cell q2 hbq
            have k0 : (0 : Int) ≤ (k : Int) := by omega
            have k1 : (k : Int) < (l.length : Int) := by omega
            have kl0 : (0 : Int) < (l.length : Int) := by omega
            have i0 : 0 ≤ ia l k := hbd.1
            have i1 : ia l k < (F.length : Int) := by omega
            have i2 : 0 ≤ ia l 0 := hbd0.1
            have i3 : ia l 0 < (F.length : Int) := by omega
            have HS := hid (allB_succ (okK F l) k)
            have HNO := hid (fun h => four_no_ok (F := F) (l := l) hk4 h)
            have HOK := hid (show okK F l k = (decide ((qa F (ia l k).toNat).1 = (qa F (ia l 0).toNat).1) && decide ((qa F (ia l k).toNat).1 < 5)) from rfl)
            clear p1 p1' kck q1 q2 kz x5 hbd hbd0
            by_cases hv : (qa F (ia l k).toNat).1 = (qa F (ia l 0).toNat).1
            · have d1 : ((qa F (ia l k).toNat).1 != (qa F (ia l 0).toNat).1) = false := by simp [hv]
              by_cases hv5 : (qa F (ia l k).toNat).1 < 5
              · have d2 : decide (5 ≤ (qa F (ia l k).toNat).1) = false := decide_eq_false (by omega)
                have HV := hid (show allB (okK F l) (k + 1) = true by rw [HS.out, HT.out, HOK.out]; simp [hv, hv5]; omega)
                clear HS HNO HOK hv
                go_wp2_with fail
                refine wp_region_gr (by kernel_rfl) (by kernel_rfl) ?_
                repeat (go_big_quiet_step (fail))
                refine wpQuiet_nil ?_
                rintro _ ⟨G', rfl⟩
                clear g0 g1 g2 g3
                go_wp2_with fail
                go_roundw
                case rel => exact ⟨k + 1, by omega, by go_num, HV.out, HBW.out.trans (G'.below.mono HBW.out.size)⟩
                case measure => simp [intOf]; omega
              · have d2 : decide (5 ≤ (qa F (ia l k).toNat).1) = true := decide_eq_true (by omega)
                have HCN := hid (HNO.out (by rw [HOK.out, decide_eq_false hv5, Bool.and_false]))
                have HV := hid (show anF (fourOK F l) (fourR F l) = [] ∧ anN (fourOK F l) (fourR F l) = [] ∧ anB (fourOK F l) (fourR F l) = false by rw [show fourOK F l = false by exact HCN.out]; exact an_no _)
                clear HS HNO HOK hv
                go_wp2_with fail
                refine wp_region_gr (by kernel_rfl) (by kernel_rfl) ?_
                repeat (go_big_quiet_step (fail))
                refine wpQuiet_nil ?_
                rintro _ ⟨G', rfl⟩
                clear g0 g1 g2 g3
                have HBB := hid (HBW.out.trans (G'.below.mono HBW.out.size))
                have R3 := hid R5.out
                have X3 := hid X5.out
                have R9 := R3.out.of_block (HBB.out.block _ R3.out.lt)
                have r0 := R9.cell (i := 0) (by omega)
                have f0 := R9.frozen 0
                have E0 := hid ((R9.set 0 (.slice none 0 0)).cell (i := 0) (by omega))
                simp only [if_true] at E0
                have HB := hid ((X3.out.step HBB.out).2.2.setCell (p := ⟨w.heap.size + 1, 0, none⟩) (by dsimp only; omega) (.slice none 0 0))
                clear R9 R3 X3 HBB
                go_wp2_with fail
                rw [HV.out.1, HV.out.2.1, HV.out.2.2]
                exact bodyPost_ret (v := .tuple #[.agg #[.slice none 0 0], .slice none 0 0, .bool false]) (by simp [results, Try.results19, go_sem, E0.out]) rfl (fin _ HB.out)
            · have d1 : ((qa F (ia l k).toNat).1 != (qa F (ia l 0).toNat).1) = true := by simp [hv]
              have HCN := hid (HNO.out (by rw [HOK.out, decide_eq_false hv, Bool.false_and]))
              have HV := hid (show anF (fourOK F l) (fourR F l) = [] ∧ anN (fourOK F l) (fourR F l) = [] ∧ anB (fourOK F l) (fourR F l) = false by rw [show fourOK F l = false by exact HCN.out]; exact an_no _)
              clear HS HNO HOK hv
              go_wp2_with fail
              refine wp_region_gr (by kernel_rfl) (by kernel_rfl) ?_
              repeat (go_big_quiet_step (fail))
              refine wpQuiet_nil ?_
              rintro _ ⟨G', rfl⟩
              clear g0 g1 g2 g3
              have HBB := hid (HBW.out.trans (G'.below.mono HBW.out.size))
              have R3 := hid R5.out
              have X3 := hid X5.out
              have R9 := R3.out.of_block (HBB.out.block _ R3.out.lt)
              have r0 := R9.cell (i := 0) (by omega)
              have f0 := R9.frozen 0
              have E0 := hid ((R9.set 0 (.slice none 0 0)).cell (i := 0) (by omega))
              simp only [if_true] at E0
              have HB := hid ((X3.out.step HBB.out).2.2.setCell (p := ⟨w.heap.size + 1, 0, none⟩) (by dsimp only; omega) (.slice none 0 0))
              clear R9 R3 X3 HBB
              go_wp2_with fail
              rw [HV.out.1, HV.out.2.1, HV.out.2.2]
              exact bodyPost_ret (v := .tuple #[.agg #[.slice none 0 0], .slice none 0 0, .bool false]) (by simp [results, Try.results19, go_sem, E0.out]) rfl (fin _ HB.out)
          · have hk4 : k = 9 := by omega
            have hT4 : allB (okK F l) 9 = true := by rw [← hk4]; exact HT.out
            have HOKK := hid (show fourOK F l = true by simp [fourOK, HG.out, h4', HAL.out, hT4])
            have kge : ¬ (k : Int) < (l.length : Int) := by omega
            have HVL := hid (four_lev h4' HAL.out hT4)
            have HF := hid (fourR_facts (good_grows HG.out) HVL.out 4 (Nat.le_refl _))
            have HF : Hid (JTo F (qa F (ia l 0).toNat).1 4 (fourR F l)) := HF
            clear hk4 hT4
            have R6 := hid (R5.out.of_block (HBW.out.block _ R5.out.lt))
            have X6 := hid (X5.out.step HBW.out)
            have Q6 := hid (Q5.out.below HBW.out)
            have N6 := hid (N5.out.below Q5.out HBW.out)
            have H4L := hid h4'
            clear HT HBW R5 X5 Q5 N5 h4' hlt
            have x0 := X6.out.1
            go_wp2_with fail
            refine (c_l3Own a F ca wr Q6.out hl hk N6.out).mono ?_
            rintro e w6 ⟨u, rfl, hG6, hb6⟩
            have HG6 := hid hG6
            obtain ⟨ua, uc, rfl, _⟩ := hG6.form
            have hb7 := (Below.refl w6.heap.size w6).alloc (Nat.le_refl _) (.cells #[.slice ua F.length uc, .bool false] 57)
            have hSF : SF (w6.alloc (.cells #[.slice ua F.length uc, .bool false] 57)) wr.heap.size w6.heap.size (.slice ua F.length uc) F := by
              refine ⟨HG6.out.below hb7, (two_row (heap_alloc_new _ _)).congr fun j hj => ?_, hb6.size⟩
              rcases (show j = 0 ∨ j = 1 by omega) with rfl | rfl
              · simp
              · simp; omega
            have HSF := hid hSF
            have B7 := hid (hb6.trans (hb7.mono hb6.size))
            clear hG6 HG6 hb6 hb7 hSF x0
            go_wp2_with fail
            generalize w6.alloc (.cells #[.slice ua F.length uc, .bool false] 57) = W7 at *
            have BX7 := hid (X6.out.2.2.trans (B7.out.mono X6.out.2.2.size))
            have HC4 := hid (c_sfour (lca := lca) H4L.out W7 HSF.out (HLT.out.keep (KeepT.of BX7.out)) (good_grows HG.out) (by omega) HVL.out)
            rw [H4L.out]
            refine HC4.out.mono ?_
            rintro e w8 ⟨v8, B8, rfl, hS8, hR8, hB8, hb8, hK8⟩
            have HS8 := hid hS8
            have HR8 := hid hR8
            have B8L := hid (show w.heap.size + 1 < B8 by have := R6.out.lt; have := B7.out.size; omega)
            have B8A := hid (B7.out.trans hb8)
            clear hS8 hR8 hB8 hb8 hK8 HC4
            go_wp2_with fail
            refine (c_tell 0 _ HS8.out (by have := HF.out.most; omega) HF.out.grows.kidsLe).mono ?_
            rintro e w9 ⟨u9, rfl, hG9, hb9⟩
            have HG9 := hid hG9
            obtain ⟨ua9, uc9, rfl, _⟩ := hG9.form
            have ba := (Below.refl w9.heap.size w9).alloc (Nat.le_refl _) (.cells #[.slice ua9 (tellF (fourR F l).1).length uc9] 31)
            have B9 := hid (B8A.out.trans (hb9.mono B8A.out.size))
            have B10 := hid (B9.out.trans (ba.mono B9.out.size))
            have BT := hid (X6.out.2.2.trans (B10.out.mono X6.out.2.2.size))
            have R10 := hid (R6.out.of_block (B10.out.block _ R6.out.lt))
            have r0 := R10.out.cell (i := 0) (by omega)
            have f0 := R10.out.frozen 0
            have y9 : (w9.alloc (.cells #[.slice ua9 (tellF (fourR F l).1).length uc9] 31)).cell? ⟨w9.heap.size, 0, none⟩ = some (.slice ua9 (tellF (fourR F l).1).length uc9) := by unfold World.cell?; rw [heap_alloc_new]; rfl
            have HR10 := hid ((HR8.out.keepT (KeepT.of hb9)).keepT (KeepT.of ba))
            have HG10 := hid (HG9.out.below ba)
            have HZ := hid (show w.heap.size ≤ w8.heap.size from Nat.le_trans X6.out.2.2.size B8A.out.size)
            have HZ9 := hid hb9.size
            clear hG9 HG9 hb9 ba HR8 HS8
            cases htb : tellB (fourR F l).1
            · have HV := hid (show anF (fourOK F l) (fourR F l) = [] ∧ anN (fourOK F l) (fourR F l) = [] ∧ anB (fourOK F l) (fourR F l) = false by rw [HOKK.out]; exact an_full _ htb)
              have E0 := hid ((R10.out.set 0 (.slice none 0 0)).cell (i := 0) (by omega))
              simp only [if_true] at E0
              have HB := hid (BT.out.setCell (p := ⟨w.heap.size + 1, 0, none⟩) (by dsimp only; omega) (.slice none 0 0))
              clear HR10 HG10
              go_wp2_with fail
              rw [HV.out.1, HV.out.2.1, HV.out.2.2]
              exact bodyPost_ret (v := .tuple #[.agg #[.slice none 0 0], .slice none 0 0, .bool false]) (by simp [results, Try.results19, go_sem, E0.out]) rfl (fin _ HB.out)
            · have HV := hid (show anF (fourOK F l) (fourR F l) = tellF (fourR F l).1 ∧ anN (fourOK F l) (fourR F l) = (fourR F l).2 ∧ anB (fourOK F l) (fourR F l) = true by rw [HOKK.out]; exact an_yes _ htb)
              have HL4 := hid HF.out.len
              have E0 := hid ((R10.out.set 0 (.slice ua9 (tellF (fourR F l).1).length uc9)).cell (i := 0) (by omega))
              simp only [if_true] at E0
              have HB := hid (BT.out.setCell (p := ⟨w.heap.size + 1, 0, none⟩) (by dsimp only; omega) (.slice ua9 (tellF (fourR F l).1).length uc9))
              have HGF := hid ((HG10.out.setRow (o := 0) R10.out (by decide) (by decide) (.slice ua9 (tellF (fourR F l).1).length uc9)).mono HZ.out)
              have HRW := hid (IRow.own (World.rowIs.setOther HR10.out (a := ⟨w.heap.size + 1, 0, none⟩) (by have := B8L.out; show B8 ≠ w.heap.size + 1; omega) (.slice ua9 (tellF (fourR F l).1).length uc9)))
              have HLO := hid (show w.heap.size ≤ B8 by have := B8L.out; omega)
              clear HR10 HG10
              go_wp2_with fail
              rw [HV.out.1, HV.out.2.1, HV.out.2.2]
              refine bodyPost_ret (v := .tuple #[.agg #[.slice ua9 (tellF (fourR F l).1).length uc9], .slice (some ⟨B8, 0, none⟩) 4 4, .bool true]) (by simp [results, Try.results19, go_sem, E0.out]) rfl ⟨_, _, rfl, HGF.out, ?_, HB.out⟩
              have := HRW.out
              rw [HL4.out] at this
              exact this.wide HLO.out (Nat.le_refl _) (Nat.le_refl _)
    · have d4 : ((l.length : Int) != 9) = true := by simp; omega
      have HV := hid (show anF (fourOK F l) (fourR F l) = [] ∧ anN (fourOK F l) (fourR F l) = [] ∧ anB (fourOK F l) (fourR F l) = false by rw [show fourOK F l = false by simp [fourOK, h4]]; exact an_no _)
      clear x0
      go_enter Try.func19, Try.ntmps19
      go_wp2_with fail
      refine HC.out.mono ?_
      rintro e w3 ⟨rfl, hb⟩
      have R3 := hid (HR.out.of_block (hb.block _ HR.out.lt))
      have X3 := hid (HX.out.step hb)
      have x0 := X3.out.1
      clear HC hb
      have HBB := hid (Below.refl w3.heap.size w3)
      have R9 := R3.out.of_block (HBB.out.block _ R3.out.lt)
      have r0 := R9.cell (i := 0) (by omega)
      have f0 := R9.frozen 0
      have E0 := hid ((R9.set 0 (.slice none 0 0)).cell (i := 0) (by omega))
      simp only [if_true] at E0
      have HB := hid ((X3.out.step HBB.out).2.2.setCell (p := ⟨w.heap.size + 1, 0, none⟩) (by dsimp only; omega) (.slice none 0 0))
      clear R9 R3 X3 HBB
      go_wp2_with fail
      rw [HV.out.1, HV.out.2.1, HV.out.2.2]
      exact bodyPost_ret (v := .tuple #[.agg #[.slice none 0 0], .slice none 0 0, .bool false]) (by simp [results, Try.results19, go_sem, E0.out]) rfl (fin _ HB.out)

end Go.Proofs.Ytokemdbgcegjiaa

namespace Go.Proofs.Ytokemdbgcegjiaa
open Go.RowKit Go.Maps
set_option linter.unusedVariables false
set_option linter.unusedSimpArgs false
attribute [local go_sem ↓] Go.wp_at_zero Go.wp_at_succ

set_option maxHeartbeats 4000000 in
set_option maxRecDepth 100000 in
theorem c_canJoinEach (sa : Option Addr) (n sca : Nat) (sq : Nat → List Int) (w : World) {base p g cap mb : Nat} {G : List Qd} (h : Grv w base p g cap mb G) (hs : FSq w sa n sq) (hn : n ≤ 1000) (hG : G.length ≤ 1048576) :
    Calls Try.prog 46 #[.pointer (some ⟨p, 0, none⟩), .slice sa n sca] w fun e w' => e = .returned (.bool (allB (fun i => canJ G (sq i)) n)) ∧ Below w.heap.size w w' := by
  have HG := hid h
  have HS := hid hs
  clear h hs
  go_enter Try.func46, Try.ntmps46
  go_wp2
  go_loopw [9] (fun i wr => ∃ k : Nat, k ≤ n ∧ i = .int .i64 k ∧ Hid (allB (fun i => canJ G (sq i)) k = true) ∧ Hid (Below w.heap.size w wr)) (fun i _ => n - (intOf i).toNat)
  case atStart => exact ⟨0, Nat.zero_le _, rfl, (rfl : _ = _), Below.refl _ _⟩
  case round =>
    obtain ⟨k, hk, rfl, HT, HB⟩ := hrel
    by_cases hlt : k < n
    · have hlt' : (k : Int) < (n : Int) := by omega
      have HX := hid (Box4.new wr (sq k) 81)
      have HQ := hid ((HS.out.below HB.out).below HX.out.2.2)
      obtain ⟨b, cur, rfl, hb, hc⟩ := (HS.out.below HB.out) k hlt
      have z0 := hc 0 (by omega)
      have z1 := hc 1 (by omega)
      have z2 := hc 2 (by omega)
      have z3 := hc 3 (by omega)
      rw [Nat.add_zero] at z0
      have HGX := hid ((HG.out.below HB.out).below HX.out.2.2)
      have HBX := hid (HB.out.trans (HX.out.2.2.mono HB.out.size))
      have x0 := HX.out.1 0 (by omega)
      have x1 := HX.out.1 1 (by omega)
      have x2 := HX.out.1 2 (by omega)
      have x3 := HX.out.1 3 (by omega)
      have HSU := hid (allB_succ (fun i => canJ G (sq i)) k)
      have HNO := hid (fun h => allB_false (p := fun i => canJ G (sq i)) hlt h)
      cases hcan : canJ G (sq k)
      · have HC := hid (c_canJoin' (sq k) false hcan _ HGX.out hG)
        have HV := hid (HNO.out hcan)
        unfold kv at HC
        clear hcan hc hb HSU HNO
        go_wp2_with fail
        refine HC.out.mono ?_
        rintro e w5 ⟨rfl, hb5⟩
        go_wp2_with fail
        go_ret
        exact ⟨ret_bool HV.out.symm, HBX.out.trans (hb5.mono HBX.out.size)⟩
      · have HC := hid (c_canJoin' (sq k) true hcan _ HGX.out hG)
        have HV := hid (show allB (fun i => canJ G (sq i)) (k + 1) = true by rw [HSU.out, HT.out, hcan]; rfl)
        unfold kv at HC
        clear hcan hc hb HSU HNO
        go_wp2_with fail
        refine HC.out.mono ?_
        rintro e w5 ⟨rfl, hb5⟩
        have HB5 := hid (HBX.out.trans (hb5.mono HBX.out.size))
        clear hb5
        go_wp2_with fail
        go_roundw
        case rel => exact ⟨k + 1, by omega, by go_num, HV.out, HB5.out⟩
        case measure => simp [intOf]; omega
    · obtain rfl : k = n := by omega
      go_wp2
      go_ret
      exact ⟨ret_bool HT.out.symm, HB.out⟩

/-- So many noughts. -/
theorem zeros_row (w : World) (n : Nat) : (w.alloc (.cells (madeCells #[.int .i64 0] n) 3)).rowIs w.heap.size 3 n (fun _ => .int .i64 0) := World.rowIs_made w (.int .i64 0) n 3
theorem run_makeInts (n : Nat) (hn : n ≤ 1000) (w : World) :
    (Instr.makeSlice 32 (.int .i64 (n : Int)) (.int .i64 (n : Int))).run Try.prog w = .ok (.slice (some ⟨w.heap.size, 0, none⟩) n n) (w.alloc (.cells (madeCells #[.int .i64 0] n) 3)) := by
  obtain ⟨i, hi, hz, hs, hb⟩ := info_parts info_int
  have := run_make (P := Try.prog) w 32 3 i _ Try.underlying32 hi hz .i64 .i64 n n (by omega) (Int.le_refl _) (by rw [hb]; omega) (by omega)
  simpa [hs, Value.cells] using this
/-- A number is written into a row of them: a grove is as it was. -/
theorem Grv.setInts {w : World} {base p g cap mb : Nat} {G : List Qd} (h : Grv w base p g cap mb G) {B n : Nat} {f : Nat → Value} (hr : w.rowIs B 3 n f) (k : Nat) (v : Int) : Grv (w.setCell ⟨B, k, none⟩ (.int .i64 v)) base p g cap mb G := by
  have np : p ≠ B := by
    intro e
    subst e
    obtain ⟨c, hc, _⟩ := hr
    obtain ⟨d, hd, _⟩ := h.box
    rw [hc] at hd
    simp at hd
  have ng : g ≠ B := by
    intro e
    subst e
    exact own_row_ne h.own hr (by decide) rfl
  have nm : mb ≠ B := by
    intro e
    subst e
    obtain ⟨c, hc, _⟩ := hr
    obtain ⟨D, ⟨es, clock, hd, _⟩, _⟩ := h.map
    rw [hc] at hd
    simp at hd
  refine ⟨h.lowp, h.lowm, h.box.setOther (by dsimp only; omega) _, ownsRow_setCell_other h.own (by simp [Value.ownBlock]; omega) _, ?_, h.pm, h.pg, h.mg⟩
  obtain ⟨D, ⟨es, clock, hb, r⟩, hd⟩ := h.map
  refine ⟨D, ⟨es, clock, ?_, r⟩, hd⟩
  rw [Below.heap_setCell _ _ _ _ (by dsimp only; omega)]
  exact hb
theorem FSq.setInts {w : World} {a : Option Addr} {n : Nat} {sq : Nat → List Int} (h : FSq w a n sq) {B m : Nat} {f : Nat → Value} (hr : w.rowIs B 3 m f) (k : Nat) (v : Value) : FSq (w.setCell ⟨B, k, none⟩ v) a n sq := by
  intro i hi
  obtain ⟨b, cur, e, hb, hc⟩ := h i hi
  have hne : b ≠ B := by
    rintro rfl
    obtain ⟨c, hc, _⟩ := hr
    rw [hb] at hc
    simp at hc
  have hh := Below.heap_setCell w ⟨B, k, none⟩ v b hne
  exact ⟨b, cur, e, hh.trans hb, fun j hj => (World.cell?_of_block (a := ⟨b, i * 4 + j, none⟩) hh).trans (hc j hj)⟩

set_option maxHeartbeats 4000000 in
set_option maxRecDepth 100000 in
theorem c_joinEach (sa : Option Addr) (n sca : Nat) (sq : Nat → List Int) (w : World) {base p g cap mb : Nat} {G : List Qd} {lv : Int} (h : Grv w base p g cap mb G) (hs : FSq w sa n sq) (hn : n ≤ 1000) (hlen : G.length ≤ 90000) (hl : ∀ i, i < n → (sq i).length = 4) (hk : ∀ i, i < n → ∀ j, j < 4 → 0 ≤ ia (sq i) j ∧ ia (sq i) j < (G.length : Int)) (hf : ∀ k, k ≤ n → JTo G lv k (jTo G sq k)) :
    Calls Try.prog 37 #[.pointer (some ⟨p, 0, none⟩), .slice sa n sca] w fun e w' => ∃ B g' cap', e = .returned (.slice (some ⟨B, 0, none⟩) n n) ∧ Grv w' base p g' cap' mb (jTo G sq n).1 ∧ IRow w' B (jTo G sq n).2 ∧ w.heap.size ≤ B ∧ Below base w w' ∧ RowsKept w w' := by
  have HF := hid hf
  have HL4 := hid hl
  have HKK := hid hk
  have ba := (Below.refl w.heap.size w).alloc (Nat.le_refl _) (.cells (madeCells #[.int .i64 0] n) 3)
  have HG1 := hid (h.below ba)
  have HS1 := hid (hs.below ba)
  have HR1 := hid (zeros_row w n)
  have HRK1 := hid (RowsKept.of_below ba)
  have hbs : base ≤ w.heap.size := Nat.le_trans h.lowp (Nat.le_of_lt h.box.lt)
  have HB1 := hid (ba.mono hbs)
  have hmm := run_makeInts n hn
  clear h hs hf hl hk ba
  go_enter Try.func37, Try.ntmps37
  go_wp2
  generalize w.alloc (.cells (madeCells #[.int .i64 0] n) 3) = W1 at *
  go_loopw [13] (fun i wr => ∃ (k g cap : Nat), k ≤ n ∧ i = .int .i64 k ∧ Hid (Grv wr base p g cap mb (jTo G sq k).1) ∧ Hid (wr.rowIs w.heap.size 3 n (fun j => .int .i64 (if j < k then ia (jTo G sq k).2 j else 0))) ∧ Hid (FSq wr sa n sq) ∧ Hid (Below base w wr) ∧ Hid (RowsKept w wr)) (fun i _ => n - (intOf i).toNat)
  case atStart => exact ⟨0, g, cap, Nat.zero_le _, rfl, HG1.out, HR1.out.congr fun j hj => by simp, HS1.out, HB1.out, HRK1.out⟩
  case round =>
    obtain ⟨k, g, cap, hk, rfl, HG, HR, HS, HB, HRK⟩ := hrel
    by_cases hlt : k < n
    · have hlt' : (k : Int) < (n : Int) := by omega
      have HX := hid (Box4.new wr (sq k) 81)
      obtain ⟨b, cur, rfl, hb, hc⟩ := HS.out k hlt
      have z0 := hc 0 (by omega)
      have z1 := hc 1 (by omega)
      have z2 := hc 2 (by omega)
      have z3 := hc 3 (by omega)
      rw [Nat.add_zero] at z0
      have hfk := HF.out k (by omega)
      have HFK := hid hfk
      have HGX := hid (HG.out.below HX.out.2.2)
      have HSX := hid (HS.out.below HX.out.2.2)
      have HRX := hid (HR.out.of_block (HX.out.2.2.block _ HR.out.lt))
      have hbw : base ≤ wr.heap.size := Nat.le_trans HG.out.lowp (Nat.le_of_lt HG.out.box.lt)
      have HBX := hid (HB.out.trans (HX.out.2.2.mono hbw))
      have HRKX := hid (HRK.out.trans (RowsKept.of_below HX.out.2.2))
      have x0 := HX.out.1 0 (by omega)
      have x1 := HX.out.1 1 (by omega)
      have x2 := HX.out.1 2 (by omega)
      have x3 := HX.out.1 3 (by omega)
      have hmo := hfk.more
      have hms := hfk.most
      have HJ := hid (c_ijoin (sq k) (HL4.out k hlt) _ HGX.out hfk.grows (by omega) (fun j hj => by have := HKK.out k hlt j hj; omega))
      unfold kv at HJ
      have HAT := hid (fun j => jTo_at G sq (k := k) (j := j) hfk.len)
      have HJT := hid (show (jTo G sq (k + 1)).1 = (joinF (jTo G sq k).1 (sq k)).1 from rfl)
      clear hc hb hfk HG HS HR HB HRK hmo hms
      go_wp2_with fail
      refine HJ.out.mono ?_
      rintro e w5 ⟨g5, cap5, rfl, hG5, hB5, hR5⟩
      have HG5 := hid hG5
      have HS5 := hid (HSX.out.rows hR5)
      have hr5 := hR5 _ _ _ _ (by decide) (fun e => absurd e (by decide)) HRX.out
      have f5 := World.rowIs.frozen hr5 k
      have c5 := World.rowIs.cell hr5 hlt
      have HR5 := hid hr5
      have HB5 := hid (HBX.out.trans hB5)
      have HK5 := hid (HRKX.out.trans hR5)
      clear hG5 hB5 hR5 hr5 HJ HGX HSX HRX HBX HRKX HX x0 x1 x2 x3
      go_wp2_with fail
      have HRS := hid (World.rowIs.set HR5.out k (.int .i64 ((joinF (jTo G sq k).1 (sq k)).2 : Int)))
      go_roundw
      case rel =>
        refine ⟨k + 1, g5, cap5, by omega, by go_num, ?_, HRS.out.congr fun j hj => ?_, ?_, HB5.out.setCell (p := ⟨w.heap.size, k, none⟩) hbs _, ?_⟩
        · rw [HJT.out]
          exact HG5.out.setInts HR5.out k _
        · have := HAT.out j
          rw [← this]
          by_cases e : j = k
          · subst e; simp
          · simp [e]
        · exact FSq.setInts HS5.out HR5.out k _
        · exact rows_set HK5.out (Nat.le_refl _) k _
      case measure => simp [intOf]; omega
    · obtain rfl : k = n := by omega
      have hle := (HF.out k (Nat.le_refl _)).len
      go_wp2
      go_ret
      refine ⟨w.heap.size, g, cap, rfl, HG.out, ?_, Nat.le_refl _, HB.out, HRK.out⟩
      unfold IRow
      rw [hle]
      exact HR.out.congr fun j hj => by rw [if_pos hj]

/-- Numbers that are told: none, where the forest has outgrown. -/
def toldN (G : List Qd) (v : Value) : Value := if tellB G then v else .slice none 0 0
set_option maxHeartbeats 2000000 in
theorem c_toldAll (na : Option Addr) (n nca : Nat) (w : World) {base p g cap mb : Nat} {G : List Qd} (h : Grv w base p g cap mb G) (hG : Grows G) (hlen : G.length ≤ 100000) :
    Calls Try.prog 36 #[.pointer (some ⟨p, 0, none⟩), .slice na n nca] w fun e w' => ∃ u, e = .returned (.tuple #[.agg #[u], toldN G (.slice na n nca), .bool (tellB G)]) ∧ FOwn w' w.heap.size w'.heap.size u (tellF G) ∧ Below w.heap.size w w' := by
  have hb1 := (Below.refl w.heap.size w).alloc (Nat.le_refl _) (.cells #[.slice none 0 0] 31)
  have R1 := hid (one_row (heap_alloc_new w (.cells #[.slice none 0 0] 31)))
  have H1 := hid (h.below hb1)
  have HB1 := hid hb1
  have hsz : (w.alloc (.cells #[.slice none 0 0] 31)).heap.size = w.heap.size + 1 := by simp
  have HSZ := hid hsz
  have HC := hid (c_told 0 _ H1.out hG hlen)
  clear hb1 h hsz
  go_enter Try.func36, Try.ntmps36
  go_wp2_with fail
  refine HC.out.mono ?_
  rintro e w1 ⟨u1, rfl, hO, hB⟩
  rw [HSZ.out] at hO
  have HO := hid hO
  obtain ⟨ua, uc, rfl, _⟩ := hO.form
  have ba := (Below.refl w1.heap.size w1).alloc (Nat.le_refl _) (.cells #[.slice ua (tellF G).length uc] 31)
  have BT := hid ((HB1.out.trans (hB.mono HB1.out.size)).trans (ba.mono (Nat.le_trans HB1.out.size hB.size)))
  have HO2 := hid (HO.out.below ba)
  have R2 := hid ((R1.out.of_block (hB.block _ (by rw [HSZ.out]; omega))).of_block (ba.block _ (by have := hB.size; rw [HSZ.out] at this; omega)))
  have r0 := R2.out.cell (i := 0) (by omega)
  have f0 := R2.out.frozen 0
  have y1 : (w1.alloc (.cells #[.slice ua (tellF G).length uc] 31)).cell? ⟨w1.heap.size, 0, none⟩ = some (.slice ua (tellF G).length uc) := by unfold World.cell?; rw [heap_alloc_new]; rfl
  have HS1 := hid (show w.heap.size + 1 ≤ w1.heap.size by have := hB.size; rw [HSZ.out] at this; exact this)
  have HS2 := hid (show (w1.alloc (.cells #[.slice ua (tellF G).length uc] 31)).heap.size = w1.heap.size + 1 by simp)
  clear hO HO hB ba HC
  cases htb : tellB G
  · have HV := hid (show tellF G = [] by have : ¬ G.length ≤ 400 := by simpa [tellB] using htb
                                         simp [tellF, this])
    have E0 := hid ((R2.out.set 0 (.slice none 0 0)).cell (i := 0) (by omega))
    simp only [if_true] at E0
    have HB := hid (BT.out.setCell (p := ⟨w.heap.size, 0, none⟩) (Nat.le_refl _) (.slice none 0 0))
    go_wp2_with fail
    exact bodyPost_ret (v := .tuple #[.agg #[.slice none 0 0], .slice none 0 0, .bool false]) (by simp [results, Try.results36, go_sem, E0.out]) rfl ⟨.slice none 0 0, by simp [toldN, htb], by rw [HV.out]; exact .inl ⟨rfl, rfl⟩, HB.out⟩
  · have E0 := hid ((R2.out.set 0 (.slice ua (tellF G).length uc)).cell (i := 0) (by omega))
    simp only [if_true] at E0
    have HB := hid (BT.out.setCell (p := ⟨w.heap.size, 0, none⟩) (Nat.le_refl _) (.slice ua (tellF G).length uc))
    have hGW : Grew (w1.alloc (.cells #[.slice ua (tellF G).length uc] 31)) ((w1.alloc (.cells #[.slice ua (tellF G).length uc] 31)).setCell ⟨w.heap.size, 0, none⟩ (.slice ua (tellF G).length uc)) w.heap.size (w.heap.size + 1) := (Grew.refl _ _ _).set (Nat.le_refl _) (by omega) _
    have hsz : ((w1.alloc (.cells #[.slice ua (tellF G).length uc] 31)).setCell ⟨w.heap.size, 0, none⟩ (.slice ua (tellF G).length uc)).heap.size = w1.heap.size + 1 := by simp
    have HO3 := hid ((HO2.out.kept hGW (by omega)).wide (lo' := w.heap.size) (hi' := w1.heap.size + 1) (by omega) (by omega) (by rw [hsz]; exact Nat.le_refl _))
    have HSF := hid hsz
    clear hGW hsz HO2
    go_wp2_with fail
    exact bodyPost_ret (v := .tuple #[.agg #[.slice ua (tellF G).length uc], .slice na n nca, .bool true]) (by simp [results, Try.results36, go_sem, E0.out]) rfl ⟨.slice ua (tellF G).length uc, by simp [toldN, htb], by rw [HSF.out]; exact HO3.out, HB.out⟩

end Go.Proofs.Ytokemdbgcegjiaa

namespace Go.Proofs.Ytokemdbgcegjiaa
open Go.RowKit Go.Maps
set_option linter.unusedVariables false
set_option linter.unusedSimpArgs false
attribute [local go_sem ↓] Go.wp_at_zero Go.wp_at_succ

theorem IRow.rows {w w' : World} {g : Nat} {l : List Int} (h : IRow w g l) (k : RowsKept w w') : IRow w' g l := k _ _ _ _ (by decide) (fun e => absurd e (by decide)) h
theorem sqs_at (d wd : Nat) (l : List Int) {n i : Nat} (h : i < n) : ((List.range n).map (sqW d wd l)).getD i [] = sqW d wd l i := by simp [h]
set_option maxHeartbeats 4000000 in
set_option maxRecDepth 100000 in
theorem c_iFourOf (a : Option Addr) (F : List Qd) (ca : Nat) (la : Option Addr) (l : List Int) (lca : Nat) (w : World) (ha : QSeg w a F) (hl : F.length ≤ 1048576) (hk : KidsLe F) (hca : F.length ≤ ca) (hcm : ca ≤ 9223372036854775807) (hL : ISeg w la l) (hLl : l.length ≤ 1048576) :
    Calls Try.prog 21 #[.agg #[.slice a F.length ca], .slice la l.length lca] w fun e w' => ∃ u nv mid, e = .returned (.tuple #[.agg #[u], nv, .bool (anB (fourOK F l) (fourR F l))]) ∧ FOwn w' mid w'.heap.size u (anF (fourOK F l) (fourR F l)) ∧ IOwn w' w.heap.size mid nv (anN (fourOK F l) (fourR F l)) ∧ w.heap.size ≤ mid ∧ mid ≤ w'.heap.size ∧ Below w.heap.size w w' := by
  obtain ⟨W1, hW1⟩ : ∃ W1, W1 = w.alloc (.cells #[.slice a F.length ca] 31) := ⟨_, rfl⟩
  have X1 := Box1.new w (.slice a F.length ca) 31
  rw [← hW1] at X1
  have hb2 := (Below.refl W1.heap.size W1).alloc (Nat.le_refl _) (.cells #[.slice none 0 0] 31)
  have X2 := X1.step hb2
  have R2 := one_row (heap_alloc_new W1 (.cells #[.slice none 0 0] 31))
  have s1 : W1.heap.size = w.heap.size + 1 := by rw [hW1]; simp
  rw [s1] at R2
  have s2 : (W1.alloc (.cells #[.slice none 0 0] 31)).heap.size = w.heap.size + 1 + 1 := by simp [s1]
  rw [hW1] at X2 R2 s2
  have HX := hid X2
  have HR := hid R2
  have HSZ := hid s2
  clear X1 X2 R2 s1 s2 hb2 hW1
  clear W1
  have x0 := HX.out.1
  have HQ := hid (ha.below HX.out.2.2)
  have HL2 := hid (hL.below HX.out.2.2)
  clear ha hL
  have fin : ∀ W : World, Below w.heap.size w W → ∃ u nv mid, Ending.returned (.tuple #[.agg #[.slice none 0 0], .slice none 0 0, .bool false]) = .returned (.tuple #[.agg #[u], nv, .bool false]) ∧ FOwn W mid W.heap.size u [] ∧ IOwn W w.heap.size mid nv [] ∧ w.heap.size ≤ mid ∧ mid ≤ W.heap.size ∧ Below w.heap.size w W := fun W h => ⟨_, _, w.heap.size, rfl, .inl ⟨rfl, rfl⟩, .inl ⟨rfl, rfl⟩, Nat.le_refl _, h.size, h⟩
  have HC := hid (c_groveOf a F ca _ HQ.out hl hk hca hcm)
  cases hg : goodF F
  · rw [hg] at HC
    have HV := hid (show anF (fourOK F l) (fourR F l) = [] ∧ anN (fourOK F l) (fourR F l) = [] ∧ anB (fourOK F l) (fourR F l) = false by rw [show fourOK F l = false by simp [fourOK, hg]]; exact an_no _)
    clear hg
    go_enter Try.func21, Try.ntmps21
    go_wp2_with fail
    refine HC.out.mono ?_
    rintro e w3 ⟨pv, rfl, ho, hb⟩
    have R3 := hid (HR.out.of_block (hb.block _ HR.out.lt))
    have X3 := hid (HX.out.step hb)
    have L3 := hid (HL2.out.below hb)
    clear ho HC hb
    have HBB := hid (Below.refl w3.heap.size w3)
    have R9 := R3.out.of_block (HBB.out.block _ R3.out.lt)
    have r0 := R9.cell (i := 0) (by omega)
    have f0 := R9.frozen 0
    have E0 := hid ((R9.set 0 (.slice none 0 0)).cell (i := 0) (by omega))
    simp only [if_true] at E0
    have HB := hid ((X3.out.step HBB.out).2.2.setCell (p := ⟨w.heap.size + 1, 0, none⟩) (by dsimp only; omega) (.slice none 0 0))
    clear R9 R3 X3 HBB
    go_wp2_with fail
    rw [HV.out.1, HV.out.2.1, HV.out.2.2]
    exact bodyPost_ret (v := .tuple #[.agg #[.slice none 0 0], .slice none 0 0, .bool false]) (by simp [results, Try.results21, go_sem, E0.out]) rfl (fin _ HB.out)
  · rw [hg] at HC
    have HG := hid hg
    have hg2 := good_len2 hg
    by_cases h4 : l.length = 9
    rotate_left
    · have d4 : ((l.length : Int) != 9) = true := by simp; omega
      have HV := hid (show anF (fourOK F l) (fourR F l) = [] ∧ anN (fourOK F l) (fourR F l) = [] ∧ anB (fourOK F l) (fourR F l) = false by rw [show fourOK F l = false by simp [fourOK, h4]]; exact an_no _)
      go_enter Try.func21, Try.ntmps21
      go_wp2_with fail
      refine HC.out.mono ?_
      rintro e w3 ⟨pv, rfl, ho, hb⟩
      have R3 := hid (HR.out.of_block (hb.block _ HR.out.lt))
      have X3 := hid (HX.out.step hb)
      have L3 := hid (HL2.out.below hb)
      clear ho HC hb
      have HBB := hid (Below.refl w3.heap.size w3)
      have R9 := R3.out.of_block (HBB.out.block _ R3.out.lt)
      have r0 := R9.cell (i := 0) (by omega)
      have f0 := R9.frozen 0
      have E0 := hid ((R9.set 0 (.slice none 0 0)).cell (i := 0) (by omega))
      simp only [if_true] at E0
      have HB := hid ((X3.out.step HBB.out).2.2.setCell (p := ⟨w.heap.size + 1, 0, none⟩) (by dsimp only; omega) (.slice none 0 0))
      clear R9 R3 X3 HBB
      go_wp2_with fail
      rw [HV.out.1, HV.out.2.1, HV.out.2.2]
      exact bodyPost_ret (v := .tuple #[.agg #[.slice none 0 0], .slice none 0 0, .bool false]) (by simp [results, Try.results21, go_sem, E0.out]) rfl (fin _ HB.out)
    have d4 : ((l.length : Int) != 9) = false := by simp [h4]
    have H4 := hid h4
    obtain ⟨bk, ok, rfl, hbk, _⟩ := HL2.out 0 (by omega)
    have HCAN := hid (four_can (F := F) h4)
    have HOKE := hid (show fourOK F l = allB (fun i => canJ F (sqW 2 3 l i)) 4 by unfold fourOK; rw [hg, h4, four_can h4]; simp)
    go_enter Try.func21, Try.ntmps21
    go_wp2_with fail
    refine HC.out.mono ?_
    rintro e w3 ⟨pv, rfl, ho, hb⟩
    have R3 := hid (HR.out.of_block (hb.block _ HR.out.lt))
    have X3 := hid (HX.out.step hb)
    have L3 := hid (HL2.out.below hb)
    rcases ho with ⟨_, p, g, cap, mb, base, hbase, rfl, hGv⟩ | ⟨e, _⟩
    rotate_left
    · rw [HG.out] at e; cases e
    have HGV := hid hGv
    have HBS := hid (show w.heap.size + 1 + 1 ≤ base by rw [HSZ.out] at hbase; exact hbase)
    clear HC hb hGv hbase
    go_wp2_with fail
    refine (c_two3 bk ok lca l H4.out w3 L3.out).mono ?_
    rintro e w5 ⟨v5, rfl, hO5, hb5⟩
    obtain ⟨a5, c5, rfl, hs5⟩ := hO5.form
    have HS5 := hid (FSq.congr hs5 (fun i hi => sqs_at 2 3 l (n := 4) (by simpa using hi)))
    rw [show ((List.range 4).map (sqW 2 3 l)).length = 4 from rfl] at HS5
    have R5 := hid (R3.out.of_block (hb5.block _ R3.out.lt))
    have X5 := hid (X3.out.step hb5)
    have G5 := hid (HGV.out.below hb5)
    have HZ5 := hid hb5.size
    clear hO5 hb5 hs5 R3 X3 L3 HGV
    cases hcan : allB (fun i => canJ F (sqW 2 3 l i)) 4
    · have HV := hid (show anF (fourOK F l) (fourR F l) = [] ∧ anN (fourOK F l) (fourR F l) = [] ∧ anB (fourOK F l) (fourR F l) = false by rw [show fourOK F l = false by rw [HOKE.out, hcan]]; exact an_no _)
      go_wp2_with fail
      have HCJ := hid (c_canJoinEach a5 4 c5 (sqW 2 3 l) w5 G5.out HS5.out (by omega) (by omega))
      rw [hcan] at HCJ
      refine HCJ.out.mono ?_
      rintro e w6 ⟨rfl, hb6⟩
      have R3 := hid R5.out
      have X3 := hid X5.out
      have HBB := hid (hb6)
      have R9 := R3.out.of_block (HBB.out.block _ R3.out.lt)
      have r0 := R9.cell (i := 0) (by omega)
      have f0 := R9.frozen 0
      have E0 := hid ((R9.set 0 (.slice none 0 0)).cell (i := 0) (by omega))
      simp only [if_true] at E0
      have HB := hid ((X3.out.step HBB.out).2.2.setCell (p := ⟨w.heap.size + 1, 0, none⟩) (by dsimp only; omega) (.slice none 0 0))
      clear R9 R3 X3 HBB
      go_wp2_with fail
      rw [HV.out.1, HV.out.2.1, HV.out.2.2]
      exact bodyPost_ret (v := .tuple #[.agg #[.slice none 0 0], .slice none 0 0, .bool false]) (by simp [results, Try.results21, go_sem, E0.out]) rfl (fin _ HB.out)
    · have HOKK := hid (show fourOK F l = true by rw [HOKE.out, hcan])
      have hfk : goodF F = true ∧ l.length = 9 ∧ allIn l 0 ((F.length : Int) - 1) = true ∧ allB (okK F l) 9 = true := by
        have := HOKK.out
        unfold fourOK at this
        simp only [Bool.and_eq_true, decide_eq_true_eq] at this
        exact ⟨this.1.1, this.1.2, this.2.1, this.2.2⟩
      have HVL := hid (four_lev hfk.2.1 hfk.2.2.1 hfk.2.2.2)
      have HFA := hid (fun k hk => fourR_facts (good_grows hfk.1) HVL.out k hk)
      have HF : Hid (JTo F (qa F (ia l 0).toNat).1 4 (fourR F l)) := HFA.out 4 (Nat.le_refl _)
      have HKK := hid (fun i (hi : i < 4) j (hj : j < 4) => (canJ_lev (allB_iff.1 hcan i hi) j hj).1)
      have HCJ := hid (c_canJoinEach a5 4 c5 (sqW 2 3 l) w5 G5.out HS5.out (by omega) (by omega))
      rw [hcan] at HCJ
      clear hfk hcan
      go_wp2_with fail
      refine HCJ.out.mono ?_
      rintro e w6 ⟨rfl, hb6⟩
      have R6 := hid (R5.out.of_block (hb6.block _ R5.out.lt))
      have X6 := hid (X5.out.step hb6)
      have G6 := hid (G5.out.below hb6)
      have S6 := hid (HS5.out.below hb6)
      have HZ6 := hid hb6.size
      clear hb6 R5 X5 G5 HS5 HCJ
      have HJE := hid (c_joinEach a5 4 c5 (sqW 2 3 l) w6 G6.out S6.out (by omega) (by omega) (fun i _ => rfl) HKK.out HFA.out)
      go_wp2_with fail
      refine HJE.out.mono ?_
      rintro e w7 ⟨B, g7, cap7, rfl, hG7, hR7, hB7, hb7, hr7⟩
      have hG7 : Grv w7 base p g7 cap7 mb (fourR F l).1 := hG7
      have hR7 : IRow w7 B (fourR F l).2 := hR7
      have G7 := hid hG7
      have I7 := hid hR7
      have hlb : w.heap.size + 1 < base := by have := HBS.out; omega
      have R7 := hid (R6.out.of_block (hb7.block _ hlb))
      have X7 := hid (X6.out.2.2.trans (hb7.mono (by omega)))
      have HBL := hid (show w.heap.size + 1 < B by have := R6.out.lt; omega)
      clear hG7 hR7 hb7 hr7 HJE R6 X6 G6 S6 hlb
      have HTA := hid (c_toldAll (some ⟨B, 0, none⟩) 4 4 w7 G7.out HF.out.grows (by have := HF.out.most; omega))
      go_wp2_with fail
      refine HTA.out.mono ?_
      rintro e w8 ⟨u8, rfl, hO8, hb8⟩
      have HO8 := hid hO8
      obtain ⟨ua8, uc8, rfl, _⟩ := hO8.form
      have R9 := R7.out.of_block (hb8.block _ R7.out.lt)
      have hlt7 := R7.out.lt
      have r0 := R9.cell (i := 0) (by omega)
      have f0 := R9.frozen 0
      have E0 := hid ((R9.set 0 (.slice ua8 (tellF (fourR F l).1).length uc8)).cell (i := 0) (by omega))
      simp only [if_true] at E0
      have hs9 : (w8.setCell ⟨w.heap.size + 1, 0, none⟩ (.slice ua8 (tellF (fourR F l).1).length uc8)).heap.size = w8.heap.size := by simp
      have hGW : Grew w8 (w8.setCell ⟨w.heap.size + 1, 0, none⟩ (.slice ua8 (tellF (fourR F l).1).length uc8)) (w.heap.size + 1) (w.heap.size + 1 + 1) := (Grew.refl w8 _ _).set (Nat.le_refl _) (by omega) _
      have HO9 := hid ((HO8.out.kept hGW (by omega)).wide (lo' := w7.heap.size) (hi' := w8.heap.size) (Nat.le_refl _) (Nat.le_refl _) (by rw [hs9]; exact Nat.le_refl _))
      have HB9 := hid ((X7.out.trans (hb8.mono X7.out.size)).setCell (p := ⟨w.heap.size + 1, 0, none⟩) (by dsimp only; omega) (.slice ua8 (tellF (fourR F l).1).length uc8))
      have HS9 := hid hs9
      have HZ8 := hid hb8.size
      have HZ7 := hid X7.out.size
      have HI9 := hid (World.rowIs.setOther (World.rowIs.of_block I7.out (hb8.block _ (World.rowIs.lt I7.out))) (a := ⟨w.heap.size + 1, 0, none⟩) (by have := HBL.out; show B ≠ w.heap.size + 1; omega) (.slice ua8 (tellF (fourR F l).1).length uc8))
      have HBW := hid (World.rowIs.lt I7.out)
      have HL4 := hid HF.out.len
      have HV := hid (show (tellB (fourR F l).1 = true ∧ anF (fourOK F l) (fourR F l) = tellF (fourR F l).1 ∧ anN (fourOK F l) (fourR F l) = (fourR F l).2 ∧ anB (fourOK F l) (fourR F l) = true) ∨ (tellB (fourR F l).1 = false ∧ anF (fourOK F l) (fourR F l) = [] ∧ anN (fourOK F l) (fourR F l) = [] ∧ anB (fourOK F l) (fourR F l) = false) by
        rw [HOKK.out]
        cases htb : tellB (fourR F l).1
        · exact .inr ⟨rfl, an_full _ htb⟩
        · exact .inl ⟨rfl, an_yes _ htb⟩)
      have HTF := hid (show tellB (fourR F l).1 = false → tellF (fourR F l).1 = [] by intro h; have : ¬ (fourR F l).1.length ≤ 400 := by simpa [tellB] using h
                                                                                      simp [tellF, this])
      clear HTA hO8 HO8 hb8 R9 hGW hs9 hlt7 I7 G7 X7 R7 HOKK HOKE HCAN HFA HF
      generalize hT : tellF (fourR F l).1 = TF at *
      have HTN := hid (show ∀ b, tellB (fourR F l).1 = b → toldN (fourR F l).1 (.slice (some ⟨B, 0, none⟩) 4 4) = if b then .slice (some ⟨B, 0, none⟩) 4 4 else .slice none 0 0 by intro b h; unfold toldN; rw [h])
      generalize toldN (fourR F l).1 (.slice (some ⟨B, 0, none⟩) 4 4) = TN at *
      generalize hTB : tellB (fourR F l).1 = TB at *
      clear hT
      go_wp2_with fail
      refine bodyPost_ret (v := .tuple #[.agg #[.slice ua8 TF.length uc8], TN, .bool TB]) (by simp [results, Try.results21, go_sem, E0.out]) rfl ⟨.slice ua8 TF.length uc8, TN, w7.heap.size, ?_, ?_, ?_, HZ7.out, by rw [HS9.out]; exact HZ8.out, HB9.out⟩
      · rcases HV.out with ⟨h1, _, _, h2⟩ | ⟨h1, _, _, h2⟩ <;> rw [h1, h2]
      · rw [HS9.out]
        rcases HV.out with ⟨h1, h2, _⟩ | ⟨h1, h2, _⟩
        · rw [h2]; exact HO9.out
        · rw [h2, ← HTF.out h1]; exact HO9.out
      · rcases HV.out with ⟨h1, _, h2, _⟩ | ⟨h1, _, h2, _⟩
        · rw [h2, HTN.out true h1]
          have h3 := IRow.own HI9.out
          rw [HL4.out] at h3
          rcases h3 with ⟨e, _⟩ | ⟨g0, cap0, e1, e2, e3, e4, e5, e6⟩
          · cases e
          · simp only [Value.slice.injEq, Option.some.injEq, Addr.mk.injEq, and_true] at e1
            obtain ⟨rfl, e7, rfl⟩ := e1
            exact .inr ⟨B, 4, by rw [← e7]; rfl, e2, by have := HBL.out; omega, HBW.out, by rw [HS9.out]; exact HZ8.out, e6⟩
        · rw [h2, HTN.out false h1]
          exact .inl ⟨rfl, rfl⟩

end Go.Proofs.Ytokemdbgcegjiaa
