/- Worlds: what is told of them, in numbers and lists alone. -/
import Derived.Test.YtgfdkolhldbehaaTimes
import Derived.Test.YtgfdkolhldbehaaBox
import Derived.Test.YtgfdkolhldbehaaShift
import Derived.Test.YtgfdkolhldbehaaQuadG
namespace Go.Proofs.Ytgfdkolhldbehaa
open Go.RowKit
set_option linter.unusedVariables false
set_option linter.unusedSimpArgs false

/-- Is a world of these cells and this age good? -/
def gw (l : List Cl) (t : Int) : Bool := good l && inB 0 1000 t
def gwL (l : List Cl) (t : Int) : List Cl := if gw l t then l else []
def gwT (l : List Cl) (t : Int) : Int := if gw l t then t else 0
theorem gwL_le (l : List Cl) (t : Int) : (gwL l t).length ≤ 120 := by
  unfold gwL; split
  · rename_i h; simp only [gw, Bool.and_eq_true] at h; exact good_le h.1
  · simp

/-! ### Going on -/
noncomputable def advOk (l : List Cl) (t s : Int) : Bool := gw l t && timesOk l s && gw (timesL l s) (t + s)
noncomputable def advL (l : List Cl) (t s : Int) : List Cl := if advOk l t s then timesL l s else []
noncomputable def advT (l : List Cl) (t s : Int) : Int := if advOk l t s then t + s else 0
theorem advL_le (l : List Cl) (t s : Int) : (advL l t s).length ≤ 120 := by
  unfold advL; split
  · exact timesL_le l s
  · simp
theorem times_zero {l : List Cl} (h : good l = true) : timesOk l 0 = true ∧ timesL l 0 = l := by
  simp [timesOk, timesL, h, inT, timesO]
theorem adv_zero (l : List Cl) : advOk l 0 0 = good l ∧ advL l 0 0 = tellV l ∧ advT l 0 0 = 0 := by
  cases hg : good l
  · simp [advOk, advL, advT, gw, tellV, hg]
  · have h := times_zero hg
    have h2 : advOk l 0 0 = true := by simp [advOk, gw, h.1, h.2, hg, inB]
    simp [h2, advL, advT, h.2, tellV, hg]

/-! ### Moving -/
def mwOk (l : List Cl) (t x y : Int) : Bool := gw l t && moveOk l x y
def mwL (l : List Cl) (t x y : Int) : List Cl := if mwOk l t x y then moveL l x y else []
def mwT (l : List Cl) (t x y : Int) : Int := if mwOk l t x y then t else 0
theorem mwL_le (l : List Cl) (t x y : Int) : (mwL l t x y).length ≤ 120 := by
  unfold mwL; split
  · exact moveL_le l x y
  · simp
theorem moveL_good {l : List Cl} {x y : Int} (h : moveOk l x y = true) : good (moveL l x y) = true := by
  simp only [moveOk, Bool.and_eq_true] at h
  simp [moveL, tellV, h.1.1.1, h.1.1.2, h.1.2, h.2]

/-! ### The same but for where it is -/
def home (l : List Cl) : List Cl := if boxOk l then mv l (-(boxLo l).1) (-(boxLo l).2) else []
def firstL (l : List Cl) : List Cl := mv l (-(at_ l 0).1) (-(at_ l 0).2)
theorem mv_two (l : List Cl) (x y z u : Int) : mv (mv l x y) z u = mv l (x + z) (y + u) := by
  simp only [mv_sh, List.map_map]
  apply List.map_congr_left
  intro c _
  simp only [Function.comp, sh, Prod.mk.injEq]
  omega
theorem mv_none (l : List Cl) : mv l 0 0 = l := by
  rw [mv_sh]
  conv => rhs; rw [← List.map_id l]
  apply List.map_congr_left
  intro c _
  simp [sh]
theorem loC_sh (x y : Int) (a b : Cl) : loC (sh x y a) (sh x y b) = sh x y (loC a b) := by
  have h1 : (b.1 + x < a.1 + x) = (b.1 < a.1) := by apply propext; omega
  have h2 : (b.2 + y < a.2 + y) = (b.2 < a.2) := by apply propext; omega
  simp only [loC, sh, h1, h2, Prod.mk.injEq]
  constructor <;> split <;> rfl
theorem fold_sh (x y : Int) : ∀ (l : List Cl) (c : Cl), (l.map (sh x y)).foldl loC (sh x y c) = sh x y (l.foldl loC c)
  | [], _ => rfl
  | d :: r, c => by simp only [List.map_cons, List.foldl_cons, loC_sh, fold_sh x y r]
theorem lo_mv {l : List Cl} (h : l.length ≠ 0) (x y : Int) : loTo (mv l x y) (mv l x y).length = sh x y (loTo l l.length) := by
  unfold loTo
  rw [List.take_length, List.take_length, mv_at (by omega), mv_sh]
  exact fold_sh x y l _
/-- Two lists that are one when moved to their first cells are so, too, when moved to their least numbers. -/
theorem same_iff {a b : List Cl} (ha : good a = true) (hb : good b = true) : firstL a = firstL b ↔ home a = home b := by
  by_cases ea : a.length = 0
  · have := List.eq_nil_of_length_eq_zero ea
    subst this
    by_cases eb : b.length = 0
    · have := List.eq_nil_of_length_eq_zero eb
      subst this
      simp
    · have hk : boxOk b = true := by simp [boxOk, hb]; intro e; simp [e] at eb
      have hk0 : boxOk [] = false := by simp [boxOk]
      constructor
      · intro h
        have := congrArg List.length h
        simp only [firstL, mv_length, List.length_nil] at this
        omega
      · intro h
        have := congrArg List.length h
        rw [home, home, hk0, hk] at this
        simp only [Bool.false_eq_true, if_false, if_true, mv_length, List.length_nil] at this
        omega
  · have ka : boxOk a = true := by simp [boxOk, ha]; intro e; simp [e] at ea
    have key : ∀ {b : List Cl}, good b = true → ∀ x y : Int, b = mv a x y → firstL a = firstL b ∧ home a = home b := by
      intro b hb x y e
      have eb : b.length ≠ 0 := by rw [e, mv_length]; exact ea
      have kb : boxOk b = true := by simp [boxOk, hb]; intro e; simp [e] at eb
      have l1 := lo_mv ea x y
      rw [← e] at l1
      have f1 : at_ b 0 = sh x y (at_ a 0) := by rw [e, mv_at (by omega)]; rfl
      refine ⟨?_, ?_⟩
      · unfold firstL
        rw [f1, e, mv_two]
        congr 1 <;> simp [sh] <;> omega
      · unfold home
        rw [ka, kb]
        simp only [if_true, boxLo, ka, kb]
        rw [l1, e, mv_two]
        congr 1 <;> simp [sh] <;> omega
    constructor
    · intro h
      have hb2 : b = mv a ((at_ b 0).1 - (at_ a 0).1) ((at_ b 0).2 - (at_ a 0).2) := by
        have := congrArg (fun z => mv z (at_ b 0).1 (at_ b 0).2) h
        simp only [firstL, mv_two] at this
        rw [show -(at_ b 0).1 + (at_ b 0).1 = 0 by omega, show -(at_ b 0).2 + (at_ b 0).2 = 0 by omega, mv_none] at this
        exact this.symm.trans (by congr 1 <;> omega)
      exact (key hb _ _ hb2).2
    · intro h
      have kb : boxOk b = true := by
        cases hk : boxOk b
        · rw [home, home, ka, hk] at h
          have := congrArg List.length h
          simp [mv_length] at this
          simp [this] at ea
        · rfl
      have hb2 : b = mv a ((boxLo b).1 - (boxLo a).1) ((boxLo b).2 - (boxLo a).2) := by
        rw [home, home, ka, kb] at h
        have := congrArg (fun z => mv z (boxLo b).1 (boxLo b).2) h
        simp only [if_true, mv_two] at this
        rw [show -(boxLo b).1 + (boxLo b).1 = 0 by omega, show -(boxLo b).2 + (boxLo b).2 = 0 by omega, mv_none] at this
        exact this.symm.trans (by congr 1 <;> omega)
      exact (key hb _ _ hb2).1

/-! ### The square for a world -/
theorem fold_lo : ∀ (l : List Cl) (c : Cl), (inR c = true) → (∀ d ∈ l, inR d = true) → inR (l.foldl loC c) = true
  | [], c, h, _ => h
  | d :: r, c, h, hh => by
    refine fold_lo r _ ?_ (fun e he => hh e (List.mem_cons_of_mem _ he))
    have := hh d (by simp)
    simp only [inR, Bool.and_eq_true, decide_eq_true_eq] at *
    have e1 : (loC c d).1 = c.1 ∨ (loC c d).1 = d.1 := by unfold loC; dsimp only; split <;> simp
    have e2 : (loC c d).2 = c.2 ∨ (loC c d).2 = d.2 := by unfold loC; dsimp only; split <;> simp
    omega
theorem fold_hi : ∀ (l : List Cl) (c : Cl), (inR c = true) → (∀ d ∈ l, inR d = true) → inR (l.foldl hiC c) = true
  | [], c, h, _ => h
  | d :: r, c, h, hh => by
    refine fold_hi r _ ?_ (fun e he => hh e (List.mem_cons_of_mem _ he))
    have := hh d (by simp)
    simp only [inR, Bool.and_eq_true, decide_eq_true_eq] at *
    have e1 : (hiC c d).1 = c.1 ∨ (hiC c d).1 = d.1 := by unfold hiC; dsimp only; split <;> simp
    have e2 : (hiC c d).2 = c.2 ∨ (hiC c d).2 = d.2 := by unfold hiC; dsimp only; split <;> simp
    omega
theorem box_reach {l : List Cl} (h : boxOk l = true) : inR (boxLo l) = true ∧ inR (boxHi l) = true := by
  have hg : good l = true ∧ l.length ≠ 0 := by simpa [boxOk] using h
  have hin := good_in hg.1
  have hm : ∀ d ∈ l, inR d = true := fun d hd => by
    obtain ⟨i, hi, e⟩ := List.getElem_of_mem hd
    have := hin i hi
    simpa [at_, hi, e] using this
  simp only [boxLo, boxHi, h, if_true, loTo, hiTo, List.take_length]
  exact ⟨fold_lo l _ (hin 0 (by omega)) hm, fold_hi l _ (hin 0 (by omega)) hm⟩
theorem fold_lo_le : ∀ (l : List Cl) (c : Cl), (l.foldl loC c).1 ≤ c.1 ∧ (l.foldl loC c).2 ≤ c.2
  | [], c => ⟨Int.le_refl _, Int.le_refl _⟩
  | d :: r, c => by
    have h := fold_lo_le r (loC c d)
    have e1 : (loC c d).1 ≤ c.1 := by unfold loC; dsimp only; split <;> omega
    have e2 : (loC c d).2 ≤ c.2 := by unfold loC; dsimp only; split <;> omega
    simp only [List.foldl_cons]
    omega
theorem fold_hi_le : ∀ (l : List Cl) (c : Cl), c.1 ≤ (l.foldl hiC c).1 ∧ c.2 ≤ (l.foldl hiC c).2
  | [], c => ⟨Int.le_refl _, Int.le_refl _⟩
  | d :: r, c => by
    have h := fold_hi_le r (hiC c d)
    have e1 : c.1 ≤ (hiC c d).1 := by unfold hiC; dsimp only; split <;> omega
    have e2 : c.2 ≤ (hiC c d).2 := by unfold hiC; dsimp only; split <;> omega
    simp only [List.foldl_cons]
    omega
theorem box_le {l : List Cl} (h : boxOk l = true) : (boxLo l).1 ≤ (boxHi l).1 ∧ (boxLo l).2 ≤ (boxHi l).2 := by
  have h1 := fold_lo_le l (at_ l 0)
  have h2 := fold_hi_le l (at_ l 0)
  simp only [boxLo, boxHi, h, if_true, loTo, hiTo, List.take_length]
  omega
/-- How long the middle is to be. -/
def longC (l : List Cl) (s : Int) : Int := max ((boxHi l).1 - (boxLo l).1) ((boxHi l).2 - (boxLo l).2) + 1 + 2 * s
def sqLev (n : Int) : Int := if n ≤ 2 then 2 else if n ≤ 4 then 3 else if n ≤ 8 then 4 else if n ≤ 16 then 5 else 0
/-- A quarter of its side. -/
def sqQ (n : Int) : Int := if n ≤ 2 then 1 else if n ≤ 4 then 2 else if n ≤ 8 then 4 else 8
def sqIn (l : List Cl) (t s : Int) : Bool := boxOk l && gw l t && inB 1 8 s
def sqOk (l : List Cl) (t s : Int) : Bool := sqIn l t s && decide (longC l s ≤ 16)
def sqV (l : List Cl) (t s : Int) : Int := if sqOk l t s then sqLev (longC l s) else 0
def sqC (l : List Cl) (t s : Int) : Cl := if sqOk l t s then ((boxLo l).1 - s - sqQ (longC l s), (boxLo l).2 - s - sqQ (longC l s)) else (0, 0)

end Go.Proofs.Ytgfdkolhldbehaa
