/- Texts of this seat, one behind the other: Law4, WdP, FormP, Wd. -/
import Derived.Test.YtgfdkolhldbehaaLb
import Derived.Test.YtgfdkolhldbehaaLe
import Derived.Test.YtgfdkolhldbehaaBox
import Derived.Test.YtgfdkolhldbehaaLf
namespace Go.Proofs.Ytgfdkolhldbehaa
open Go.RowKit
set_option linter.unusedVariables false
set_option linter.unusedSimpArgs false

/-- PA: the arguments' boxes; PW: what the specification told; PX: what was handed to the program; PG: what it told. -/
structure L4 (w W : World) (la ha lw hw lx hx lg hg : Nat) (PA PW PX PG : World → Prop) : Prop where
  pa : PA W
  pw : PW W
  px : PX W
  pg : PG W
  ka : Kpt PA la ha
  kw : Kpt PW lw hw
  kx : Kpt PX lx hx
  kg : Kpt PG lg hg
  bel : Below w.heap.size w W
  ord : w.heap.size ≤ la ∧ la ≤ ha ∧ ha ≤ lw ∧ lw ≤ hw ∧ hw ≤ lx ∧ lx ≤ hx ∧ hx ≤ lg ∧ lg ≤ hg
theorem L4.below {w W W' : World} {la ha lw hw lx hx lg hg : Nat} {PA PW PX PG : World → Prop} (h : L4 w W la ha lw hw lx hx lg hg PA PW PX PG) (hb : Below W.heap.size W W') : L4 w W' la ha lw hw lx hx lg hg PA PW PX PG :=
  ⟨h.ka.below h.pa hb, h.kw.below h.pw hb, h.kx.below h.px hb, h.kg.below h.pg hb, h.ka, h.kw, h.kx, h.kg, h.bel.trans (hb.mono h.bel.size), h.ord⟩
theorem L4.markX {w W W' : World} {la ha lw hw lx hx lg hg lo hi : Nat} {PA PW PX PX' PG : World → Prop} (h : L4 w W la ha lw hw lx hx lg hg PA PW PX PG) (hG : Grew W W' lo hi) (h1 : lx ≤ lo) (h2 : hi ≤ hx) (hp : PX' W') (hk : Kpt PX' lx hx) : L4 w W' la ha lw hw lx hx lg hg PA PW PX' PG := by
  have ho := h.ord
  exact ⟨h.ka _ _ _ _ h.pa hG (by omega), h.kw _ _ _ _ h.pw hG (by omega), hp, h.kg _ _ _ _ h.pg hG (by omega), h.ka, h.kw, hk, h.kg, hG.below h.bel (by omega), ho⟩
theorem L4.markG {w W W' : World} {la ha lw hw lx hx lg hg lo hi : Nat} {PA PW PX PG PG' : World → Prop} (h : L4 w W la ha lw hw lx hx lg hg PA PW PX PG) (hG : Grew W W' lo hi) (h1 : lg ≤ lo) (h2 : hi ≤ hg) (hp : PG' W') (hk : Kpt PG' lg hg) : L4 w W' la ha lw hw lx hx lg hg PA PW PX PG' := by
  have ho := h.ord
  exact ⟨h.ka _ _ _ _ h.pa hG (by omega), h.kw _ _ _ _ h.pw hG (by omega), h.kx _ _ _ _ h.px hG (by omega), hp, h.ka, h.kw, h.kx, hk, hG.below h.bel (by omega), ho⟩
theorem Kpt.true (lo hi : Nat) : Kpt (fun _ => True) lo hi := fun _ _ _ _ _ _ _ => trivial

/-- A box of a world: a slice and a number. -/
def WBox (w : World) (b : Nat) (s : Value) (t : Int) : Prop := w.cell? ⟨b, 0, none⟩ = some s ∧ w.cell? ⟨b, 1, none⟩ = some (.int .i64 t) ∧ b < w.heap.size
theorem WBox.new (w : World) (s : Value) (t : Int) (T : TypeId) : WBox (w.alloc (.cells #[s, .int .i64 t] T)) w.heap.size s t :=
  ⟨cell_new0 _ _ _ _, cell_new1 _ _ _ _, by simp⟩
theorem WBox.kpt (b : Nat) (s : Value) (t : Int) : Kpt (fun W => WBox W b s t) b (b + 1) := by
  rintro W W' lo' hi' ⟨h1, h2, h3⟩ hg hd
  have hb := hg.block b h3 (by omega)
  exact ⟨(World.cell?_of_block (a := ⟨b, 0, none⟩) hb).trans h1, (World.cell?_of_block (a := ⟨b, 1, none⟩) hb).trans h2, Nat.lt_of_lt_of_le h3 hg.size⟩
theorem WBox.below {w w' : World} {b : Nat} {s : Value} {t : Int} (h : WBox w b s t) (hb : Below w.heap.size w w') : WBox w' b s t := (WBox.kpt b s t).below h hb
/-- A world in a variable: its box is block b, behind all of its memory. -/
def PWd (w : World) (lo b : Nat) (s : Value) (l : List Cl) (t : Int) : Prop := OwnR w lo b s l ∧ WBox w b s t ∧ lo ≤ b
theorem PWd.kpt (lo b : Nat) (s : Value) (l : List Cl) (t : Int) : Kpt (fun W => PWd W lo b s l t) lo (b + 1) := by
  rintro W W' lo' hi' ⟨h1, h2, h3⟩ hg hd
  exact ⟨OwnR.kpt _ _ _ _ W W' lo' hi' h1 hg (by omega), WBox.kpt _ _ _ W W' lo' hi' h2 hg (by omega), h3⟩
theorem PWd.mark {W W' : World} {lo b : Nat} {s : Value} {l l' : List Cl} {t : Int} (h : PWd W lo b s l t) (hg : Grew W W' lo b) (h' : OwnR W' lo b s l') : PWd W' lo b s l' t :=
  ⟨h', WBox.kpt _ _ _ W W' lo b h.2.1 hg (.inr (Nat.le_refl _)), h.2.2⟩
theorem PWd.new {w : World} {lo : Nat} {s : Value} {l : List Cl} {t : Int} (h : OwnS w lo s l) (hl : lo ≤ w.heap.size) (T : TypeId) : PWd (w.alloc (.cells #[s, .int .i64 t] T)) lo w.heap.size s l t := by
  have hb := (Below.refl w.heap.size w).alloc (Nat.le_refl _) (.cells #[s, .int .i64 t] T)
  exact ⟨(OwnR.kpt _ _ _ _).below (OwnR.of h) hb, WBox.new _ _ _ _, hl⟩

end Go.Proofs.Ytgfdkolhldbehaa

namespace Go.Proofs.Ytgfdkolhldbehaa
open Go.RowKit
set_option linter.unusedVariables false
set_option linter.unusedSimpArgs false

/-- Is a world of these cells and this age good? -/
def gw (l : List Cl) (t : Int) : Bool := good l && inB 0 1000 t
def gwL (l : List Cl) (t : Int) : List Cl := if gw l t then l else []
def gwT (l : List Cl) (t : Int) : Int := if gw l t then t else 0
theorem gwL_le (l : List Cl) (t : Int) : (gwL l t).length ≤ 120 := by
  unfold gwL; split
  · rename_i h; simp only [gw, Bool.and_eq_true] at h; exact good_le h.1
  · simp

/-! ### Going on -/
noncomputable def advOk (l : List Cl) (t s : Int) : Bool := gw l t && timesOk l s && gw (timesL l s) (t + s)
noncomputable def advL (l : List Cl) (t s : Int) : List Cl := if advOk l t s then timesL l s else []
noncomputable def advT (l : List Cl) (t s : Int) : Int := if advOk l t s then t + s else 0
theorem advL_le (l : List Cl) (t s : Int) : (advL l t s).length ≤ 120 := by
  unfold advL; split
  · exact timesL_le l s
  · simp
theorem times_zero {l : List Cl} (h : good l = true) : timesOk l 0 = true ∧ timesL l 0 = l := by
  simp [timesOk, timesL, h, inT, timesO]
theorem adv_zero (l : List Cl) : advOk l 0 0 = good l ∧ advL l 0 0 = tellV l ∧ advT l 0 0 = 0 := by
  cases hg : good l
  · simp [advOk, advL, advT, gw, tellV, hg]
  · have h := times_zero hg
    have h2 : advOk l 0 0 = true := by simp [advOk, gw, h.1, h.2, hg, inB]
    simp [h2, advL, advT, h.2, tellV, hg]

/-! ### Moving -/
def mwOk (l : List Cl) (t x y : Int) : Bool := gw l t && moveOk l x y
def mwL (l : List Cl) (t x y : Int) : List Cl := if mwOk l t x y then moveL l x y else []
def mwT (l : List Cl) (t x y : Int) : Int := if mwOk l t x y then t else 0
theorem mwL_le (l : List Cl) (t x y : Int) : (mwL l t x y).length ≤ 120 := by
  unfold mwL; split
  · exact moveL_le l x y
  · simp
theorem moveL_good {l : List Cl} {x y : Int} (h : moveOk l x y = true) : good (moveL l x y) = true := by
  simp only [moveOk, Bool.and_eq_true] at h
  simp [moveL, tellV, h.1.1.1, h.1.1.2, h.1.2, h.2]

/-! ### The same but for where it is -/
def home (l : List Cl) : List Cl := if boxOk l then mv l (-(boxLo l).1) (-(boxLo l).2) else []
def firstL (l : List Cl) : List Cl := mv l (-(at_ l 0).1) (-(at_ l 0).2)
theorem mv_two (l : List Cl) (x y z u : Int) : mv (mv l x y) z u = mv l (x + z) (y + u) := by
  simp only [mv_sh, List.map_map]
  apply List.map_congr_left
  intro c _
  simp only [Function.comp, sh, Prod.mk.injEq]
  omega
theorem mv_none (l : List Cl) : mv l 0 0 = l := by
  rw [mv_sh]
  conv => rhs; rw [← List.map_id l]
  apply List.map_congr_left
  intro c _
  simp [sh]
theorem loC_sh (x y : Int) (a b : Cl) : loC (sh x y a) (sh x y b) = sh x y (loC a b) := by
  have h1 : (b.1 + x < a.1 + x) = (b.1 < a.1) := by apply propext; omega
  have h2 : (b.2 + y < a.2 + y) = (b.2 < a.2) := by apply propext; omega
  simp only [loC, sh, h1, h2, Prod.mk.injEq]
  constructor <;> split <;> rfl
theorem fold_sh (x y : Int) : ∀ (l : List Cl) (c : Cl), (l.map (sh x y)).foldl loC (sh x y c) = sh x y (l.foldl loC c)
  | [], _ => rfl
  | d :: r, c => by simp only [List.map_cons, List.foldl_cons, loC_sh, fold_sh x y r]
theorem lo_mv {l : List Cl} (h : l.length ≠ 0) (x y : Int) : loTo (mv l x y) (mv l x y).length = sh x y (loTo l l.length) := by
  unfold loTo
  rw [List.take_length, List.take_length, mv_at (by omega), mv_sh]
  exact fold_sh x y l _
/-- Two lists that are one when moved to their first cells are so, too, when moved to their least numbers. -/
theorem same_iff {a b : List Cl} (ha : good a = true) (hb : good b = true) : firstL a = firstL b ↔ home a = home b := by
  by_cases ea : a.length = 0
  · have := List.eq_nil_of_length_eq_zero ea
    subst this
    by_cases eb : b.length = 0
    · have := List.eq_nil_of_length_eq_zero eb
      subst this
      simp
    · have hk : boxOk b = true := by simp [boxOk, hb]; intro e; simp [e] at eb
      have hk0 : boxOk [] = false := by simp [boxOk]
      constructor
      · intro h
        have := congrArg List.length h
        simp only [firstL, mv_length, List.length_nil] at this
        omega
      · intro h
        have := congrArg List.length h
        rw [home, home, hk0, hk] at this
        simp only [Bool.false_eq_true, if_false, if_true, mv_length, List.length_nil] at this
        omega
  · have ka : boxOk a = true := by simp [boxOk, ha]; intro e; simp [e] at ea
    have key : ∀ {b : List Cl}, good b = true → ∀ x y : Int, b = mv a x y → firstL a = firstL b ∧ home a = home b := by
      intro b hb x y e
      have eb : b.length ≠ 0 := by rw [e, mv_length]; exact ea
      have kb : boxOk b = true := by simp [boxOk, hb]; intro e; simp [e] at eb
      have l1 := lo_mv ea x y
      rw [← e] at l1
      have f1 : at_ b 0 = sh x y (at_ a 0) := by rw [e, mv_at (by omega)]; rfl
      refine ⟨?_, ?_⟩
      · unfold firstL
        rw [f1, e, mv_two]
        congr 1 <;> simp [sh] <;> omega
      · unfold home
        rw [ka, kb]
        simp only [if_true, boxLo, ka, kb]
        rw [l1, e, mv_two]
        congr 1 <;> simp [sh] <;> omega
    constructor
    · intro h
      have hb2 : b = mv a ((at_ b 0).1 - (at_ a 0).1) ((at_ b 0).2 - (at_ a 0).2) := by
        have := congrArg (fun z => mv z (at_ b 0).1 (at_ b 0).2) h
        simp only [firstL, mv_two] at this
        rw [show -(at_ b 0).1 + (at_ b 0).1 = 0 by omega, show -(at_ b 0).2 + (at_ b 0).2 = 0 by omega, mv_none] at this
        exact this.symm.trans (by congr 1 <;> omega)
      exact (key hb _ _ hb2).2
    · intro h
      have kb : boxOk b = true := by
        cases hk : boxOk b
        · rw [home, home, ka, hk] at h
          have := congrArg List.length h
          simp [mv_length] at this
          simp [this] at ea
        · rfl
      have hb2 : b = mv a ((boxLo b).1 - (boxLo a).1) ((boxLo b).2 - (boxLo a).2) := by
        rw [home, home, ka, kb] at h
        have := congrArg (fun z => mv z (boxLo b).1 (boxLo b).2) h
        simp only [if_true, mv_two] at this
        rw [show -(boxLo b).1 + (boxLo b).1 = 0 by omega, show -(boxLo b).2 + (boxLo b).2 = 0 by omega, mv_none] at this
        exact this.symm.trans (by congr 1 <;> omega)
      exact (key hb _ _ hb2).1

/-! ### The square for a world -/
theorem fold_lo : ∀ (l : List Cl) (c : Cl), (inR c = true) → (∀ d ∈ l, inR d = true) → inR (l.foldl loC c) = true
  | [], c, h, _ => h
  | d :: r, c, h, hh => by
    refine fold_lo r _ ?_ (fun e he => hh e (List.mem_cons_of_mem _ he))
    have := hh d (by simp)
    simp only [inR, Bool.and_eq_true, decide_eq_true_eq] at *
    have e1 : (loC c d).1 = c.1 ∨ (loC c d).1 = d.1 := by unfold loC; dsimp only; split <;> simp
    have e2 : (loC c d).2 = c.2 ∨ (loC c d).2 = d.2 := by unfold loC; dsimp only; split <;> simp
    omega
theorem fold_hi : ∀ (l : List Cl) (c : Cl), (inR c = true) → (∀ d ∈ l, inR d = true) → inR (l.foldl hiC c) = true
  | [], c, h, _ => h
  | d :: r, c, h, hh => by
    refine fold_hi r _ ?_ (fun e he => hh e (List.mem_cons_of_mem _ he))
    have := hh d (by simp)
    simp only [inR, Bool.and_eq_true, decide_eq_true_eq] at *
    have e1 : (hiC c d).1 = c.1 ∨ (hiC c d).1 = d.1 := by unfold hiC; dsimp only; split <;> simp
    have e2 : (hiC c d).2 = c.2 ∨ (hiC c d).2 = d.2 := by unfold hiC; dsimp only; split <;> simp
    omega
theorem box_reach {l : List Cl} (h : boxOk l = true) : inR (boxLo l) = true ∧ inR (boxHi l) = true := by
  have hg : good l = true ∧ l.length ≠ 0 := by simpa [boxOk] using h
  have hin := good_in hg.1
  have hm : ∀ d ∈ l, inR d = true := fun d hd => by
    obtain ⟨i, hi, e⟩ := List.getElem_of_mem hd
    have := hin i hi
    simpa [at_, hi, e] using this
  simp only [boxLo, boxHi, h, if_true, loTo, hiTo, List.take_length]
  exact ⟨fold_lo l _ (hin 0 (by omega)) hm, fold_hi l _ (hin 0 (by omega)) hm⟩
theorem fold_lo_le : ∀ (l : List Cl) (c : Cl), (l.foldl loC c).1 ≤ c.1 ∧ (l.foldl loC c).2 ≤ c.2
  | [], c => ⟨Int.le_refl _, Int.le_refl _⟩
  | d :: r, c => by
    have h := fold_lo_le r (loC c d)
    have e1 : (loC c d).1 ≤ c.1 := by unfold loC; dsimp only; split <;> omega
    have e2 : (loC c d).2 ≤ c.2 := by unfold loC; dsimp only; split <;> omega
    simp only [List.foldl_cons]
    omega
theorem fold_hi_le : ∀ (l : List Cl) (c : Cl), c.1 ≤ (l.foldl hiC c).1 ∧ c.2 ≤ (l.foldl hiC c).2
  | [], c => ⟨Int.le_refl _, Int.le_refl _⟩
  | d :: r, c => by
    have h := fold_hi_le r (hiC c d)
    have e1 : c.1 ≤ (hiC c d).1 := by unfold hiC; dsimp only; split <;> omega
    have e2 : c.2 ≤ (hiC c d).2 := by unfold hiC; dsimp only; split <;> omega
    simp only [List.foldl_cons]
    omega
theorem box_le {l : List Cl} (h : boxOk l = true) : (boxLo l).1 ≤ (boxHi l).1 ∧ (boxLo l).2 ≤ (boxHi l).2 := by
  have h1 := fold_lo_le l (at_ l 0)
  have h2 := fold_hi_le l (at_ l 0)
  simp only [boxLo, boxHi, h, if_true, loTo, hiTo, List.take_length]
  omega
/-- How long the middle is to be. -/
def longC (l : List Cl) (s : Int) : Int := max ((boxHi l).1 - (boxLo l).1) ((boxHi l).2 - (boxLo l).2) + 1 + 2 * s
def sqLev (n : Int) : Int := if n ≤ 2 then 2 else if n ≤ 4 then 3 else if n ≤ 8 then 4 else if n ≤ 16 then 5 else 0
/-- A quarter of its side. -/
def sqQ (n : Int) : Int := if n ≤ 2 then 1 else if n ≤ 4 then 2 else if n ≤ 8 then 4 else 8
def sqIn (l : List Cl) (t s : Int) : Bool := boxOk l && gw l t && inB 1 8 s
def sqOk (l : List Cl) (t s : Int) : Bool := sqIn l t s && decide (longC l s ≤ 16)
def sqV (l : List Cl) (t s : Int) : Int := if sqOk l t s then sqLev (longC l s) else 0
def sqC (l : List Cl) (t s : Int) : Cl := if sqOk l t s then ((boxLo l).1 - s - sqQ (longC l s), (boxLo l).2 - s - sqQ (longC l s)) else (0, 0)

end Go.Proofs.Ytgfdkolhldbehaa

namespace Go.Proofs.Ytgfdkolhldbehaa
set_option linter.unusedVariables false
set_option linter.unusedSimpArgs false

/-- The form that cells have in a way. -/
noncomputable def hm (l : List Cl) (w : Nat) : List Cl := home (tuL w l)
theorem hm_le (l : List Cl) (w : Nat) (hw : w < 8) (hg : good l = true) : (hm l w).length ≤ 120 := by
  have h := tu_len hw (ris_nodup (good_ris hg))
  have h2 := good_le hg
  unfold hm home
  split
  · rw [mv_length]; omega
  · simp
theorem hm_zero {l : List Cl} (hg : good l = true) : hm l 0 = home l := by rw [hm, tu_zero (good_ris hg)]
/-- The ways by which the form stays, below n. -/
noncomputable def fixTo (l : List Cl) (n : Nat) : List Int := ((List.range n).filter fun w : Nat => decide (hm l w = hm l 0)).map fun w : Nat => (w : Int)
theorem fixTo_succ (l : List Cl) (n : Nat) : fixTo l (n + 1) = fixTo l n ++ (if hm l n = hm l 0 then [(n : Int)] else []) := by
  unfold fixTo
  rw [List.range_succ, List.filter_append, List.map_append]
  by_cases h : hm l n = hm l 0 <;> simp [h]
theorem fixTo_le (l : List Cl) : ∀ n, (fixTo l n).length ≤ n := by
  intro n
  have h := List.length_filter_le (fun w => decide (hm l w = hm l 0)) (List.range n)
  rw [List.length_range] at h
  unfold fixTo
  rw [List.length_map]; exact h

/-- One list is less than another. -/
def ltL : List Cl → List Cl → Bool
  | [], [] => false
  | [], _ :: _ => true
  | _ :: _, [] => false
  | a :: l, b :: m => if a = b then ltL l m else ltC a b
theorem ltC_tri {a b : Cl} (h : a ≠ b) : ltC a b = true ∨ ltC b a = true := by
  obtain ⟨x, y⟩ := a
  obtain ⟨u, v⟩ := b
  simp only [ne_eq, Prod.mk.injEq, ltC, Bool.or_eq_true, Bool.and_eq_true, decide_eq_true_eq] at *
  omega
theorem ltC_no {a : Cl} : ltC a a = false := by simp [ltC]
theorem ltC_asym {a b : Cl} (h : ltC a b = true) : ltC b a = false := by
  obtain ⟨x, y⟩ := a
  obtain ⟨u, v⟩ := b
  rw [Bool.eq_false_iff]
  intro h2
  simp only [ltC, Bool.or_eq_true, Bool.and_eq_true, decide_eq_true_eq] at *
  omega
theorem ltC_tr {a b c : Cl} (h : ltC a b = true) (h2 : ltC b c = true) : ltC a c = true := by
  obtain ⟨x, y⟩ := a
  obtain ⟨u, v⟩ := b
  obtain ⟨p, q⟩ := c
  simp only [ltC, Bool.or_eq_true, Bool.and_eq_true, decide_eq_true_eq] at *
  omega
theorem ltL_no : ∀ a : List Cl, ltL a a = false
  | [] => rfl
  | x :: l => by rw [ltL, if_pos rfl, ltL_no l]
theorem ltL_tri : ∀ {a b : List Cl}, a ≠ b → ltL a b = true ∨ ltL b a = true
  | [], [], h => absurd rfl h
  | [], _ :: _, _ => .inl rfl
  | _ :: _, [], _ => .inr rfl
  | x :: l, y :: m, h => by
    by_cases e : x = y
    · subst e
      rw [ltL, ltL, if_pos rfl, if_pos rfl]
      exact ltL_tri (fun e => h (by rw [e]))
    · rw [ltL, ltL, if_neg e, if_neg (fun h => e h.symm)]
      exact ltC_tri e
theorem ltL_tr : ∀ {a b c : List Cl}, ltL a b = true → ltL b c = true → ltL a c = true
  | [], [], _, h, _ => by simp [ltL] at h
  | [], _ :: _, [], _, h => by simp [ltL] at h
  | [], _ :: _, _ :: _, _, _ => rfl
  | _ :: _, [], _, h, _ => by simp [ltL] at h
  | _ :: _, _ :: _, [], _, h => by simp [ltL] at h
  | x :: l, y :: m, z :: n, h, h2 => by
    rw [ltL] at h h2 ⊢
    by_cases e : x = y
    · subst e
      rw [if_pos rfl] at h
      by_cases e2 : x = z
      · rw [if_pos e2] at h2 ⊢; exact ltL_tr h h2
      · rw [if_neg e2] at h2 ⊢; exact h2
    · rw [if_neg e] at h
      by_cases e2 : y = z
      · subst e2; rw [if_neg e]; exact h
      · rw [if_neg e2] at h2
        have h3 := ltC_tr h h2
        have e3 : x ≠ z := fun e3 => by subst e3; rw [ltC_no] at h3; cases h3
        rw [if_neg e3]; exact h3
theorem ltL_asym {a b : List Cl} (h : ltL a b = true) : ltL b a = false := by
  rw [Bool.eq_false_iff]
  intro h2
  have := ltL_tr h h2
  rw [ltL_no] at this; cases this
/-- Lists in order, each once. -/
def Asl (H : List (List Cl)) : Prop := H.Pairwise fun a b => ltL a b = true
theorem asl_unique : ∀ {H M : List (List Cl)}, Asl H → Asl M → (∀ x, x ∈ H ↔ x ∈ M) → H = M
  | [], [], _, _, _ => rfl
  | [], y :: M, _, _, h => absurd ((h y).2 List.mem_cons_self) (by simp)
  | x :: H, [], _, _, h => absurd ((h x).1 List.mem_cons_self) (by simp)
  | x :: H, y :: M, hH, hM, h => by
    obtain ⟨a1, a2⟩ := List.pairwise_cons.1 hH
    obtain ⟨b1, b2⟩ := List.pairwise_cons.1 hM
    have e : x = y := by
      refine Decidable.byContradiction fun e => ?_
      have h1 : x ∈ M := by
        have := (h x).1 List.mem_cons_self
        rcases List.mem_cons.1 this with e2 | e2
        · exact absurd e2 e
        · exact e2
      have h2 : y ∈ H := by
        have := (h y).2 List.mem_cons_self
        rcases List.mem_cons.1 this with e2 | e2
        · exact absurd e2.symm e
        · exact e2
      have := ltL_asym (a1 y h2)
      rw [b1 x h1] at this; cases this
    subst e
    rw [asl_unique (H := H) (M := M) a2 b2 fun z => ?_]
    constructor
    · intro hz
      rcases List.mem_cons.1 ((h z).1 (List.mem_cons_of_mem _ hz)) with e | e
      · subst e
        have := a1 z hz
        rw [ltL_no] at this; cases this
      · exact e
    · intro hz
      rcases List.mem_cons.1 ((h z).2 (List.mem_cons_of_mem _ hz)) with e | e
      · subst e
        have := b1 z hz
        rw [ltL_no] at this; cases this
      · exact e
/-- A list put in its place, where it is not there. -/
def insF (x : List Cl) : List (List Cl) → List (List Cl)
  | [] => [x]
  | y :: r => if ltL y x then y :: insF x r else if y = x then y :: r else x :: y :: r
theorem insF_mem (x : List Cl) : ∀ (H : List (List Cl)) (z : List Cl), z ∈ insF x H ↔ z = x ∨ z ∈ H
  | [], z => by simp [insF]
  | y :: r, z => by
    rw [insF]
    split
    · rw [List.mem_cons, insF_mem x r, List.mem_cons]
      constructor
      · rintro (h | h | h)
        · exact .inr (.inl h)
        · exact .inl h
        · exact .inr (.inr h)
      · rintro (h | h | h)
        · exact .inr (.inl h)
        · exact .inl h
        · exact .inr (.inr h)
    · split
      · rename_i e; subst e
        rw [List.mem_cons]
        constructor
        · rintro (h | h)
          · exact .inl h
          · exact .inr (.inr h)
        · rintro (h | h | h)
          · exact .inl h
          · exact .inl h
          · exact .inr h
      · rw [List.mem_cons]
theorem insF_asl (x : List Cl) : ∀ {H : List (List Cl)}, Asl H → Asl (insF x H)
  | [], _ => by simp [insF, Asl]
  | y :: r, h => by
    obtain ⟨a1, a2⟩ := List.pairwise_cons.1 h
    rw [insF]
    split
    · rename_i hl
      refine List.pairwise_cons.2 ⟨fun z hz => ?_, insF_asl x a2⟩
      rcases (insF_mem x r z).1 hz with e | e
      · rw [e]; exact hl
      · exact a1 z e
    · split
      · exact h
      · rename_i hl hne
        have hx : ltL x y = true := by
          rcases ltL_tri hne with e | e
          · exact absurd e hl
          · exact e
        refine List.pairwise_cons.2 ⟨fun z hz => ?_, h⟩
        rcases List.mem_cons.1 hz with e | e
        · rw [e]; exact hx
        · exact ltL_tr hx (a1 z e)
/-- Where the place is: behind those that are less. -/
theorem insF_at (x : List Cl) : ∀ {H : List (List Cl)} {k : Nat}, k ≤ H.length → (∀ i (h : i < H.length), i < k → ltL H[i] x = true) → (∀ h : k < H.length, ltL H[k] x = false) →
    insF x H = if H[k]? = some x then H else H.take k ++ x :: H.drop k
  | [], k, hk, _, _ => by
    have : k = 0 := by simpa using hk
    subst this; simp [insF]
  | y :: r, 0, hk, _, h2 => by
    have h3 := h2 (by simp)
    simp only [List.getElem_cons_zero] at h3
    rw [insF, h3]
    simp
  | y :: r, k + 1, hk, h1, h2 => by
    have h3 := h1 0 (by simp) (by omega)
    simp only [List.getElem_cons_zero] at h3
    rw [insF, if_pos h3, insF_at x (H := r) (k := k) (by simpa using hk) (fun i hi hik => by have := h1 (i + 1) (by simpa using hi) (by omega); simpa using this) (fun h => by have := h2 (by simpa using h); simpa using this)]
    simp only [List.getElem?_cons_succ, List.take_succ_cons, List.drop_succ_cons]
    split <;> simp
theorem insF_len (x : List Cl) : ∀ H : List (List Cl), (insF x H).length ≤ H.length + 1
  | [] => by simp [insF]
  | y :: r => by
    have := insF_len x r
    rw [insF]
    split
    · simp only [List.length_cons]; omega
    · split <;> simp
/-- The forms of the first ways, in order, each once. -/
noncomputable def frmTo (l : List Cl) : Nat → List (List Cl)
  | 0 => []
  | n + 1 => insF (hm l n) (frmTo l n)
theorem frmTo_asl (l : List Cl) : ∀ n, Asl (frmTo l n)
  | 0 => List.Pairwise.nil
  | n + 1 => insF_asl _ (frmTo_asl l n)
theorem frmTo_mem (l : List Cl) (z : List Cl) : ∀ n, z ∈ frmTo l n ↔ ∃ w, w < n ∧ z = hm l w
  | 0 => by simp [frmTo]
  | n + 1 => by
    rw [frmTo, insF_mem, frmTo_mem l z n]
    constructor
    · rintro (e | ⟨w, h, e⟩)
      · exact ⟨n, by omega, e⟩
      · exact ⟨w, by omega, e⟩
    · rintro ⟨w, h, e⟩
      by_cases e2 : w = n
      · subst e2; exact .inl e
      · exact .inr ⟨w, by omega, e⟩
theorem frmTo_len (l : List Cl) : ∀ n, (frmTo l n).length ≤ n
  | 0 => Nat.le_refl _
  | n + 1 => by
    have := frmTo_len l n
    have := insF_len (hm l n) (frmTo l n)
    rw [frmTo]; omega
theorem frmTo_pos (l : List Cl) : frmTo l 8 ≠ [] := by
  intro h
  have := (frmTo_mem l (hm l 0) 8).2 ⟨0, by omega, rfl⟩
  rw [h] at this; simp at this
/-- What no other is less than stands first. -/
theorem asl_head {H : List (List Cl)} (hH : Asl H) {x : List Cl} (hx : x ∈ H) (hl : ∀ z ∈ H, ltL z x = false) : H.head? = some x := by
  cases H with
  | nil => simp at hx
  | cons y r =>
    obtain ⟨a1, a2⟩ := List.pairwise_cons.1 hH
    rcases List.mem_cons.1 hx with e | e
    · rw [e]; rfl
    · have := hl y List.mem_cons_self
      rw [a1 x e] at this; cases this
/-- Lists compared, as numbers. -/
def cmpL : List Cl → List Cl → Int
  | [], [] => 0
  | [], _ :: _ => -1
  | _ :: _, [] => 1
  | a :: l, b :: m => if cmpC a b = 0 then cmpL l m else cmpC a b
theorem cmpC_cases (a b : Cl) : (cmpC a b = 0 ∧ a = b) ∨ (cmpC a b = -1 ∧ a ≠ b ∧ ltC a b = true) ∨ (cmpC a b = 1 ∧ a ≠ b ∧ ltC b a = true) := by
  obtain ⟨x, y⟩ := a
  obtain ⟨u, v⟩ := b
  simp only [cmpC, cmpI, ltC, ne_eq, Prod.mk.injEq, Bool.or_eq_true, Bool.and_eq_true, decide_eq_true_eq]
  split
  · split
    · omega
    · split <;> omega
  · split
    · omega
    · split <;> omega
theorem cmpL_cases : ∀ a b : List Cl, (cmpL a b = 0 ∧ a = b) ∨ (cmpL a b = -1 ∧ ltL a b = true) ∨ (cmpL a b = 1 ∧ ltL b a = true)
  | [], [] => .inl ⟨rfl, rfl⟩
  | [], _ :: _ => .inr (.inl ⟨rfl, rfl⟩)
  | _ :: _, [] => .inr (.inr ⟨rfl, rfl⟩)
  | x :: l, y :: m => by
    rw [cmpL, ltL, ltL]
    rcases cmpC_cases x y with ⟨h, e⟩ | ⟨h, e, h2⟩ | ⟨h, e, h2⟩
    · subst e
      rw [if_pos h, if_pos rfl, if_pos rfl]
      rcases cmpL_cases l m with ⟨h3, e⟩ | h3 | h3
      · exact .inl ⟨h3, by rw [e]⟩
      · exact .inr (.inl h3)
      · exact .inr (.inr h3)
    · rw [h, if_neg (by omega), if_neg e, if_neg (fun h => e h.symm)]
      exact .inr (.inl ⟨rfl, h2⟩)
    · rw [h, if_neg (by omega), if_neg e, if_neg (fun h => e h.symm)]
      exact .inr (.inr ⟨rfl, h2⟩)
theorem cmpL_neg {a b : List Cl} : cmpL a b < 0 ↔ ltL a b = true := by
  rcases cmpL_cases a b with ⟨h, e⟩ | ⟨h, e⟩ | ⟨h, e⟩
  · subst e; rw [h, ltL_no]; simp
  · rw [h, e]; simp
  · rw [h, ltL_asym e]; simp
end Go.Proofs.Ytgfdkolhldbehaa

namespace Go.Proofs.Ytgfdkolhldbehaa
open Go.RowKit
set_option linter.unusedVariables false
set_option linter.unusedSimpArgs false
attribute [local go_sem ↓] Go.wp_at_zero Go.wp_at_succ

/-- A world's value. -/
def wv (s : Value) (t : Int) : Value := .agg #[s, .int .i64 t]

theorem grown_setW (w : World) (b o : Nat) (u : Value) : w.grownBy (w.setCell ⟨b, o, none⟩ u) (some b) :=
  ⟨rfl, rfl, rfl, by simp, fun k hk hn => Below.heap_setCell w ⟨b, o, none⟩ u k (by dsimp only; simpa using hn)⟩
theorem OwnS.other {w : World} {base b o : Nat} {v : Value} {l : List Cl} (h : OwnS w base v l) (hb : ∀ k, v.ownBlock = some k → k ≠ b) (u : Value) : OwnS (w.setCell ⟨b, o, none⟩ u) base v l :=
  own_keep h (grown_setW w b o u) fun k hk e => hb k hk (by simpa using e.symm)
theorem Row.other {w : World} {g b o : Nat} {l : List Cl} (h : Row w g l) (hb : g ≠ b) (u : Value) : Row (w.setCell ⟨b, o, none⟩ u) g l := World.rowIs.setOther h (a := ⟨b, o, none⟩) hb u
/-- A world's box that may be written. -/
def WRow (w : World) (b : Nat) (s : Value) (t : Int) (T : TypeId) : Prop := w.rowIs b T 2 (fun j => if j = 0 then s else .int .i64 t)
theorem WRow.new (w : World) (s : Value) (t : Int) (T : TypeId) : WRow (w.alloc (.cells #[s, .int .i64 t] T)) w.heap.size s t T := two_row (heap_alloc_new _ _)
theorem WRow.of_block {w w' : World} {b : Nat} {s : Value} {t : Int} {T : TypeId} (h : WRow w b s t T) (e : w'.heap[b]? = w.heap[b]?) : WRow w' b s t T := World.rowIs.of_block h e
theorem WRow.below {w w' : World} {b : Nat} {s : Value} {t : Int} {T : TypeId} (h : WRow w b s t T) (hb : Below w.heap.size w w') : WRow w' b s t T := World.rowIs.of_block h (hb.block _ (World.rowIs.lt h))
theorem WRow.c0 {w : World} {b : Nat} {s : Value} {t : Int} {T : TypeId} (h : WRow w b s t T) : w.cell? ⟨b, 0, none⟩ = some s := by simpa using World.rowIs.cell h (i := 0) (by omega)
theorem WRow.c1 {w : World} {b : Nat} {s : Value} {t : Int} {T : TypeId} (h : WRow w b s t T) : w.cell? ⟨b, 1, none⟩ = some (.int .i64 t) := by simpa using World.rowIs.cell h (i := 1) (by omega)
theorem WRow.fr {w : World} {b : Nat} {s : Value} {t : Int} {T : TypeId} (h : WRow w b s t T) (i : Nat) : w.frozen? ⟨b, i, none⟩ = false := World.rowIs.frozen h i
theorem WRow.put {w : World} {b : Nat} {s : Value} {t : Int} {T : TypeId} (h : WRow w b s t T) (s' : Value) (t' : Int) : WRow ((w.setCell ⟨b, 0, none⟩ s').setCell ⟨b, 1, none⟩ (.int .i64 t')) b s' t' T := by
  refine ((World.rowIs.set (World.rowIs.set h 0 s') 1 (.int .i64 t'))).congr fun i hi => ?_
  rcases (show i = 0 ∨ i = 1 by omega) with rfl | rfl <;> simp
theorem WRow.put0 {w : World} {b : Nat} {s : Value} {t : Int} {T : TypeId} (h : WRow w b s t T) (s' : Value) : WRow (w.setCell ⟨b, 0, none⟩ s') b s' t T := by
  refine (World.rowIs.set h 0 s').congr fun i hi => ?_
  rcases (show i = 0 ∨ i = 1 by omega) with rfl | rfl <;> simp
theorem WRow.put1 {w : World} {b : Nat} {s : Value} {t : Int} {T : TypeId} (h : WRow w b s t T) (t' : Int) : WRow (w.setCell ⟨b, 1, none⟩ (.int .i64 t')) b s t' T := by
  refine (World.rowIs.set h 1 (.int .i64 t')).congr fun i hi => ?_
  rcases (show i = 0 ∨ i = 1 by omega) with rfl | rfl <;> simp
theorem WRow.other {w : World} {b b' o : Nat} {s : Value} {t : Int} {T : TypeId} (h : WRow w b s t T) (hne : b ≠ b') (u : Value) : WRow (w.setCell ⟨b', o, none⟩ u) b s t T := World.rowIs.setOther h (a := ⟨b', o, none⟩) hne u

end Go.Proofs.Ytgfdkolhldbehaa
