/- Texts of this seat, one behind the other: Law4, WdP, Wd, WdF, SmW. -/
import Derived.Test.YtgfdkolhldbehaaKb
import Derived.Test.YtgfdkolhldbehaaKe
import Derived.Test.YtgfdkolhldbehaaBox
import Derived.Test.YtgfdkolhldbehaaBoxS
import Derived.StillTailTactics
import Derived.Deep.RegionHeld3
namespace Go.Proofs.Ytgfdkolhldbehaa
open Go.RowKit
set_option linter.unusedVariables false
set_option linter.unusedSimpArgs false

/-- PA: the arguments' boxes; PW: what the specification told; PX: what was handed to the program; PG: what it told. -/
structure L4 (w W : World) (la ha lw hw lx hx lg hg : Nat) (PA PW PX PG : World → Prop) : Prop where
  pa : PA W
  pw : PW W
  px : PX W
  pg : PG W
  ka : Kpt PA la ha
  kw : Kpt PW lw hw
  kx : Kpt PX lx hx
  kg : Kpt PG lg hg
  bel : Below w.heap.size w W
  ord : w.heap.size ≤ la ∧ la ≤ ha ∧ ha ≤ lw ∧ lw ≤ hw ∧ hw ≤ lx ∧ lx ≤ hx ∧ hx ≤ lg ∧ lg ≤ hg
theorem L4.below {w W W' : World} {la ha lw hw lx hx lg hg : Nat} {PA PW PX PG : World → Prop} (h : L4 w W la ha lw hw lx hx lg hg PA PW PX PG) (hb : Below W.heap.size W W') : L4 w W' la ha lw hw lx hx lg hg PA PW PX PG :=
  ⟨h.ka.below h.pa hb, h.kw.below h.pw hb, h.kx.below h.px hb, h.kg.below h.pg hb, h.ka, h.kw, h.kx, h.kg, h.bel.trans (hb.mono h.bel.size), h.ord⟩
theorem L4.markX {w W W' : World} {la ha lw hw lx hx lg hg lo hi : Nat} {PA PW PX PX' PG : World → Prop} (h : L4 w W la ha lw hw lx hx lg hg PA PW PX PG) (hG : Grew W W' lo hi) (h1 : lx ≤ lo) (h2 : hi ≤ hx) (hp : PX' W') (hk : Kpt PX' lx hx) : L4 w W' la ha lw hw lx hx lg hg PA PW PX' PG := by
  have ho := h.ord
  exact ⟨h.ka _ _ _ _ h.pa hG (by omega), h.kw _ _ _ _ h.pw hG (by omega), hp, h.kg _ _ _ _ h.pg hG (by omega), h.ka, h.kw, hk, h.kg, hG.below h.bel (by omega), ho⟩
theorem L4.markG {w W W' : World} {la ha lw hw lx hx lg hg lo hi : Nat} {PA PW PX PG PG' : World → Prop} (h : L4 w W la ha lw hw lx hx lg hg PA PW PX PG) (hG : Grew W W' lo hi) (h1 : lg ≤ lo) (h2 : hi ≤ hg) (hp : PG' W') (hk : Kpt PG' lg hg) : L4 w W' la ha lw hw lx hx lg hg PA PW PX PG' := by
  have ho := h.ord
  exact ⟨h.ka _ _ _ _ h.pa hG (by omega), h.kw _ _ _ _ h.pw hG (by omega), h.kx _ _ _ _ h.px hG (by omega), hp, h.ka, h.kw, h.kx, hk, hG.below h.bel (by omega), ho⟩
theorem Kpt.true (lo hi : Nat) : Kpt (fun _ => True) lo hi := fun _ _ _ _ _ _ _ => trivial

/-- A box of a world: a slice and a number. -/
def WBox (w : World) (b : Nat) (s : Value) (t : Int) : Prop := w.cell? ⟨b, 0, none⟩ = some s ∧ w.cell? ⟨b, 1, none⟩ = some (.int .i64 t) ∧ b < w.heap.size
theorem WBox.new (w : World) (s : Value) (t : Int) (T : TypeId) : WBox (w.alloc (.cells #[s, .int .i64 t] T)) w.heap.size s t :=
  ⟨cell_new0 _ _ _ _, cell_new1 _ _ _ _, by simp⟩
theorem WBox.kpt (b : Nat) (s : Value) (t : Int) : Kpt (fun W => WBox W b s t) b (b + 1) := by
  rintro W W' lo' hi' ⟨h1, h2, h3⟩ hg hd
  have hb := hg.block b h3 (by omega)
  exact ⟨(World.cell?_of_block (a := ⟨b, 0, none⟩) hb).trans h1, (World.cell?_of_block (a := ⟨b, 1, none⟩) hb).trans h2, Nat.lt_of_lt_of_le h3 hg.size⟩
theorem WBox.below {w w' : World} {b : Nat} {s : Value} {t : Int} (h : WBox w b s t) (hb : Below w.heap.size w w') : WBox w' b s t := (WBox.kpt b s t).below h hb
/-- A world in a variable: its box is block b, behind all of its memory. -/
def PWd (w : World) (lo b : Nat) (s : Value) (l : List Cl) (t : Int) : Prop := OwnR w lo b s l ∧ WBox w b s t ∧ lo ≤ b
theorem PWd.kpt (lo b : Nat) (s : Value) (l : List Cl) (t : Int) : Kpt (fun W => PWd W lo b s l t) lo (b + 1) := by
  rintro W W' lo' hi' ⟨h1, h2, h3⟩ hg hd
  exact ⟨OwnR.kpt _ _ _ _ W W' lo' hi' h1 hg (by omega), WBox.kpt _ _ _ W W' lo' hi' h2 hg (by omega), h3⟩
theorem PWd.mark {W W' : World} {lo b : Nat} {s : Value} {l l' : List Cl} {t : Int} (h : PWd W lo b s l t) (hg : Grew W W' lo b) (h' : OwnR W' lo b s l') : PWd W' lo b s l' t :=
  ⟨h', WBox.kpt _ _ _ W W' lo b h.2.1 hg (.inr (Nat.le_refl _)), h.2.2⟩
theorem PWd.new {w : World} {lo : Nat} {s : Value} {l : List Cl} {t : Int} (h : OwnS w lo s l) (hl : lo ≤ w.heap.size) (T : TypeId) : PWd (w.alloc (.cells #[s, .int .i64 t] T)) lo w.heap.size s l t := by
  have hb := (Below.refl w.heap.size w).alloc (Nat.le_refl _) (.cells #[s, .int .i64 t] T)
  exact ⟨(OwnR.kpt _ _ _ _).below (OwnR.of h) hb, WBox.new _ _ _ _, hl⟩

end Go.Proofs.Ytgfdkolhldbehaa

namespace Go.Proofs.Ytgfdkolhldbehaa
open Go.RowKit
set_option linter.unusedVariables false
set_option linter.unusedSimpArgs false

/-- Is a world of these cells and this age good? -/
def gw (l : List Cl) (t : Int) : Bool := good l && inB 0 1000 t
def gwL (l : List Cl) (t : Int) : List Cl := if gw l t then l else []
def gwT (l : List Cl) (t : Int) : Int := if gw l t then t else 0
theorem gwL_le (l : List Cl) (t : Int) : (gwL l t).length ≤ 120 := by
  unfold gwL; split
  · rename_i h; simp only [gw, Bool.and_eq_true] at h; exact good_le h.1
  · simp

/-! ### Going on -/
noncomputable def advOk (l : List Cl) (t s : Int) : Bool := gw l t && timesOk l s && gw (timesL l s) (t + s)
noncomputable def advL (l : List Cl) (t s : Int) : List Cl := if advOk l t s then timesL l s else []
noncomputable def advT (l : List Cl) (t s : Int) : Int := if advOk l t s then t + s else 0
theorem advL_le (l : List Cl) (t s : Int) : (advL l t s).length ≤ 120 := by
  unfold advL; split
  · exact timesL_le l s
  · simp
theorem times_zero {l : List Cl} (h : good l = true) : timesOk l 0 = true ∧ timesL l 0 = l := by
  simp [timesOk, timesL, h, inT, timesO]
theorem adv_zero (l : List Cl) : advOk l 0 0 = good l ∧ advL l 0 0 = tellV l ∧ advT l 0 0 = 0 := by
  cases hg : good l
  · simp [advOk, advL, advT, gw, tellV, hg]
  · have h := times_zero hg
    have h2 : advOk l 0 0 = true := by simp [advOk, gw, h.1, h.2, hg, inB]
    simp [h2, advL, advT, h.2, tellV, hg]

/-! ### Moving -/
def mwOk (l : List Cl) (t x y : Int) : Bool := gw l t && moveOk l x y
def mwL (l : List Cl) (t x y : Int) : List Cl := if mwOk l t x y then moveL l x y else []
def mwT (l : List Cl) (t x y : Int) : Int := if mwOk l t x y then t else 0
theorem mwL_le (l : List Cl) (t x y : Int) : (mwL l t x y).length ≤ 120 := by
  unfold mwL; split
  · exact moveL_le l x y
  · simp
theorem moveL_good {l : List Cl} {x y : Int} (h : moveOk l x y = true) : good (moveL l x y) = true := by
  simp only [moveOk, Bool.and_eq_true] at h
  simp [moveL, tellV, h.1.1.1, h.1.1.2, h.1.2, h.2]

/-! ### The same but for where it is -/
def home (l : List Cl) : List Cl := if boxOk l then mv l (-(boxLo l).1) (-(boxLo l).2) else []
def firstL (l : List Cl) : List Cl := mv l (-(at_ l 0).1) (-(at_ l 0).2)
theorem mv_two (l : List Cl) (x y z u : Int) : mv (mv l x y) z u = mv l (x + z) (y + u) := by
  simp only [mv_sh, List.map_map]
  apply List.map_congr_left
  intro c _
  simp only [Function.comp, sh, Prod.mk.injEq]
  omega
theorem mv_none (l : List Cl) : mv l 0 0 = l := by
  rw [mv_sh]
  conv => rhs; rw [← List.map_id l]
  apply List.map_congr_left
  intro c _
  simp [sh]
theorem loC_sh (x y : Int) (a b : Cl) : loC (sh x y a) (sh x y b) = sh x y (loC a b) := by
  have h1 : (b.1 + x < a.1 + x) = (b.1 < a.1) := by apply propext; omega
  have h2 : (b.2 + y < a.2 + y) = (b.2 < a.2) := by apply propext; omega
  simp only [loC, sh, h1, h2, Prod.mk.injEq]
  constructor <;> split <;> rfl
theorem fold_sh (x y : Int) : ∀ (l : List Cl) (c : Cl), (l.map (sh x y)).foldl loC (sh x y c) = sh x y (l.foldl loC c)
  | [], _ => rfl
  | d :: r, c => by simp only [List.map_cons, List.foldl_cons, loC_sh, fold_sh x y r]
theorem lo_mv {l : List Cl} (h : l.length ≠ 0) (x y : Int) : loTo (mv l x y) (mv l x y).length = sh x y (loTo l l.length) := by
  unfold loTo
  rw [List.take_length, List.take_length, mv_at (by omega), mv_sh]
  exact fold_sh x y l _
/-- Two lists that are one when moved to their first cells are so, too, when moved to their least numbers. -/
theorem same_iff {a b : List Cl} (ha : good a = true) (hb : good b = true) : firstL a = firstL b ↔ home a = home b := by
  by_cases ea : a.length = 0
  · have := List.eq_nil_of_length_eq_zero ea
    subst this
    by_cases eb : b.length = 0
    · have := List.eq_nil_of_length_eq_zero eb
      subst this
      simp
    · have hk : boxOk b = true := by simp [boxOk, hb]; intro e; simp [e] at eb
      have hk0 : boxOk [] = false := by simp [boxOk]
      constructor
      · intro h
        have := congrArg List.length h
        simp only [firstL, mv_length, List.length_nil] at this
        omega
      · intro h
        have := congrArg List.length h
        rw [home, home, hk0, hk] at this
        simp only [Bool.false_eq_true, if_false, if_true, mv_length, List.length_nil] at this
        omega
  · have ka : boxOk a = true := by simp [boxOk, ha]; intro e; simp [e] at ea
    have key : ∀ {b : List Cl}, good b = true → ∀ x y : Int, b = mv a x y → firstL a = firstL b ∧ home a = home b := by
      intro b hb x y e
      have eb : b.length ≠ 0 := by rw [e, mv_length]; exact ea
      have kb : boxOk b = true := by simp [boxOk, hb]; intro e; simp [e] at eb
      have l1 := lo_mv ea x y
      rw [← e] at l1
      have f1 : at_ b 0 = sh x y (at_ a 0) := by rw [e, mv_at (by omega)]; rfl
      refine ⟨?_, ?_⟩
      · unfold firstL
        rw [f1, e, mv_two]
        congr 1 <;> simp [sh] <;> omega
      · unfold home
        rw [ka, kb]
        simp only [if_true, boxLo, ka, kb]
        rw [l1, e, mv_two]
        congr 1 <;> simp [sh] <;> omega
    constructor
    · intro h
      have hb2 : b = mv a ((at_ b 0).1 - (at_ a 0).1) ((at_ b 0).2 - (at_ a 0).2) := by
        have := congrArg (fun z => mv z (at_ b 0).1 (at_ b 0).2) h
        simp only [firstL, mv_two] at this
        rw [show -(at_ b 0).1 + (at_ b 0).1 = 0 by omega, show -(at_ b 0).2 + (at_ b 0).2 = 0 by omega, mv_none] at this
        exact this.symm.trans (by congr 1 <;> omega)
      exact (key hb _ _ hb2).2
    · intro h
      have kb : boxOk b = true := by
        cases hk : boxOk b
        · rw [home, home, ka, hk] at h
          have := congrArg List.length h
          simp [mv_length] at this
          simp [this] at ea
        · rfl
      have hb2 : b = mv a ((boxLo b).1 - (boxLo a).1) ((boxLo b).2 - (boxLo a).2) := by
        rw [home, home, ka, kb] at h
        have := congrArg (fun z => mv z (boxLo b).1 (boxLo b).2) h
        simp only [if_true, mv_two] at this
        rw [show -(boxLo b).1 + (boxLo b).1 = 0 by omega, show -(boxLo b).2 + (boxLo b).2 = 0 by omega, mv_none] at this
        exact this.symm.trans (by congr 1 <;> omega)
      exact (key hb _ _ hb2).1

/-! ### The square for a world -/
theorem fold_lo : ∀ (l : List Cl) (c : Cl), (inR c = true) → (∀ d ∈ l, inR d = true) → inR (l.foldl loC c) = true
  | [], c, h, _ => h
  | d :: r, c, h, hh => by
    refine fold_lo r _ ?_ (fun e he => hh e (List.mem_cons_of_mem _ he))
    have := hh d (by simp)
    simp only [inR, Bool.and_eq_true, decide_eq_true_eq] at *
    have e1 : (loC c d).1 = c.1 ∨ (loC c d).1 = d.1 := by unfold loC; dsimp only; split <;> simp
    have e2 : (loC c d).2 = c.2 ∨ (loC c d).2 = d.2 := by unfold loC; dsimp only; split <;> simp
    omega
theorem fold_hi : ∀ (l : List Cl) (c : Cl), (inR c = true) → (∀ d ∈ l, inR d = true) → inR (l.foldl hiC c) = true
  | [], c, h, _ => h
  | d :: r, c, h, hh => by
    refine fold_hi r _ ?_ (fun e he => hh e (List.mem_cons_of_mem _ he))
    have := hh d (by simp)
    simp only [inR, Bool.and_eq_true, decide_eq_true_eq] at *
    have e1 : (hiC c d).1 = c.1 ∨ (hiC c d).1 = d.1 := by unfold hiC; dsimp only; split <;> simp
    have e2 : (hiC c d).2 = c.2 ∨ (hiC c d).2 = d.2 := by unfold hiC; dsimp only; split <;> simp
    omega
theorem box_reach {l : List Cl} (h : boxOk l = true) : inR (boxLo l) = true ∧ inR (boxHi l) = true := by
  have hg : good l = true ∧ l.length ≠ 0 := by simpa [boxOk] using h
  have hin := good_in hg.1
  have hm : ∀ d ∈ l, inR d = true := fun d hd => by
    obtain ⟨i, hi, e⟩ := List.getElem_of_mem hd
    have := hin i hi
    simpa [at_, hi, e] using this
  simp only [boxLo, boxHi, h, if_true, loTo, hiTo, List.take_length]
  exact ⟨fold_lo l _ (hin 0 (by omega)) hm, fold_hi l _ (hin 0 (by omega)) hm⟩
theorem fold_lo_le : ∀ (l : List Cl) (c : Cl), (l.foldl loC c).1 ≤ c.1 ∧ (l.foldl loC c).2 ≤ c.2
  | [], c => ⟨Int.le_refl _, Int.le_refl _⟩
  | d :: r, c => by
    have h := fold_lo_le r (loC c d)
    have e1 : (loC c d).1 ≤ c.1 := by unfold loC; dsimp only; split <;> omega
    have e2 : (loC c d).2 ≤ c.2 := by unfold loC; dsimp only; split <;> omega
    simp only [List.foldl_cons]
    omega
theorem fold_hi_le : ∀ (l : List Cl) (c : Cl), c.1 ≤ (l.foldl hiC c).1 ∧ c.2 ≤ (l.foldl hiC c).2
  | [], c => ⟨Int.le_refl _, Int.le_refl _⟩
  | d :: r, c => by
    have h := fold_hi_le r (hiC c d)
    have e1 : c.1 ≤ (hiC c d).1 := by unfold hiC; dsimp only; split <;> omega
    have e2 : c.2 ≤ (hiC c d).2 := by unfold hiC; dsimp only; split <;> omega
    simp only [List.foldl_cons]
    omega
theorem box_le {l : List Cl} (h : boxOk l = true) : (boxLo l).1 ≤ (boxHi l).1 ∧ (boxLo l).2 ≤ (boxHi l).2 := by
  have h1 := fold_lo_le l (at_ l 0)
  have h2 := fold_hi_le l (at_ l 0)
  simp only [boxLo, boxHi, h, if_true, loTo, hiTo, List.take_length]
  omega
/-- How long the middle is to be. -/
def longC (l : List Cl) (s : Int) : Int := max ((boxHi l).1 - (boxLo l).1) ((boxHi l).2 - (boxLo l).2) + 1 + 2 * s
def sqLev (n : Int) : Int := if n ≤ 2 then 2 else if n ≤ 4 then 3 else if n ≤ 8 then 4 else if n ≤ 16 then 5 else 0
/-- A quarter of its side. -/
def sqQ (n : Int) : Int := if n ≤ 2 then 1 else if n ≤ 4 then 2 else if n ≤ 8 then 4 else 8
def sqIn (l : List Cl) (t s : Int) : Bool := boxOk l && gw l t && inB 1 8 s
def sqOk (l : List Cl) (t s : Int) : Bool := sqIn l t s && decide (longC l s ≤ 16)
def sqV (l : List Cl) (t s : Int) : Int := if sqOk l t s then sqLev (longC l s) else 0
def sqC (l : List Cl) (t s : Int) : Cl := if sqOk l t s then ((boxLo l).1 - s - sqQ (longC l s), (boxLo l).2 - s - sqQ (longC l s)) else (0, 0)

end Go.Proofs.Ytgfdkolhldbehaa

namespace Go.Proofs.Ytgfdkolhldbehaa
open Go.RowKit
set_option linter.unusedVariables false
set_option linter.unusedSimpArgs false
attribute [local go_sem ↓] Go.wp_at_zero Go.wp_at_succ

/-- A world's value. -/
def wv (s : Value) (t : Int) : Value := .agg #[s, .int .i64 t]

theorem grown_setW (w : World) (b o : Nat) (u : Value) : w.grownBy (w.setCell ⟨b, o, none⟩ u) (some b) :=
  ⟨rfl, rfl, rfl, by simp, fun k hk hn => Below.heap_setCell w ⟨b, o, none⟩ u k (by dsimp only; simpa using hn)⟩
theorem OwnS.other {w : World} {base b o : Nat} {v : Value} {l : List Cl} (h : OwnS w base v l) (hb : ∀ k, v.ownBlock = some k → k ≠ b) (u : Value) : OwnS (w.setCell ⟨b, o, none⟩ u) base v l :=
  own_keep h (grown_setW w b o u) fun k hk e => hb k hk (by simpa using e.symm)
theorem Row.other {w : World} {g b o : Nat} {l : List Cl} (h : Row w g l) (hb : g ≠ b) (u : Value) : Row (w.setCell ⟨b, o, none⟩ u) g l := World.rowIs.setOther h (a := ⟨b, o, none⟩) hb u
/-- A world's box that may be written. -/
def WRow (w : World) (b : Nat) (s : Value) (t : Int) (T : TypeId) : Prop := w.rowIs b T 2 (fun j => if j = 0 then s else .int .i64 t)
theorem WRow.new (w : World) (s : Value) (t : Int) (T : TypeId) : WRow (w.alloc (.cells #[s, .int .i64 t] T)) w.heap.size s t T := two_row (heap_alloc_new _ _)
theorem WRow.of_block {w w' : World} {b : Nat} {s : Value} {t : Int} {T : TypeId} (h : WRow w b s t T) (e : w'.heap[b]? = w.heap[b]?) : WRow w' b s t T := World.rowIs.of_block h e
theorem WRow.below {w w' : World} {b : Nat} {s : Value} {t : Int} {T : TypeId} (h : WRow w b s t T) (hb : Below w.heap.size w w') : WRow w' b s t T := World.rowIs.of_block h (hb.block _ (World.rowIs.lt h))
theorem WRow.c0 {w : World} {b : Nat} {s : Value} {t : Int} {T : TypeId} (h : WRow w b s t T) : w.cell? ⟨b, 0, none⟩ = some s := by simpa using World.rowIs.cell h (i := 0) (by omega)
theorem WRow.c1 {w : World} {b : Nat} {s : Value} {t : Int} {T : TypeId} (h : WRow w b s t T) : w.cell? ⟨b, 1, none⟩ = some (.int .i64 t) := by simpa using World.rowIs.cell h (i := 1) (by omega)
theorem WRow.fr {w : World} {b : Nat} {s : Value} {t : Int} {T : TypeId} (h : WRow w b s t T) (i : Nat) : w.frozen? ⟨b, i, none⟩ = false := World.rowIs.frozen h i
theorem WRow.put {w : World} {b : Nat} {s : Value} {t : Int} {T : TypeId} (h : WRow w b s t T) (s' : Value) (t' : Int) : WRow ((w.setCell ⟨b, 0, none⟩ s').setCell ⟨b, 1, none⟩ (.int .i64 t')) b s' t' T := by
  refine ((World.rowIs.set (World.rowIs.set h 0 s') 1 (.int .i64 t'))).congr fun i hi => ?_
  rcases (show i = 0 ∨ i = 1 by omega) with rfl | rfl <;> simp
theorem WRow.put0 {w : World} {b : Nat} {s : Value} {t : Int} {T : TypeId} (h : WRow w b s t T) (s' : Value) : WRow (w.setCell ⟨b, 0, none⟩ s') b s' t T := by
  refine (World.rowIs.set h 0 s').congr fun i hi => ?_
  rcases (show i = 0 ∨ i = 1 by omega) with rfl | rfl <;> simp
theorem WRow.put1 {w : World} {b : Nat} {s : Value} {t : Int} {T : TypeId} (h : WRow w b s t T) (t' : Int) : WRow (w.setCell ⟨b, 1, none⟩ (.int .i64 t')) b s t' T := by
  refine (World.rowIs.set h 1 (.int .i64 t')).congr fun i hi => ?_
  rcases (show i = 0 ∨ i = 1 by omega) with rfl | rfl <;> simp
theorem WRow.other {w : World} {b b' o : Nat} {s : Value} {t : Int} {T : TypeId} (h : WRow w b s t T) (hne : b ≠ b') (u : Value) : WRow (w.setCell ⟨b', o, none⟩ u) b s t T := World.rowIs.setOther h (a := ⟨b', o, none⟩) hne u

end Go.Proofs.Ytgfdkolhldbehaa

namespace Go.Proofs.Ytgfdkolhldbehaa
open Go.RowKit
set_option linter.unusedVariables false
set_option linter.unusedSimpArgs false
attribute [local go_sem ↓] Go.wp_at_zero Go.wp_at_succ

theorem own_none {w : World} {base n cv : Nat} {av : Option Addr} {l : List Cl} (h : OwnS w base (.slice av n cv) l) : av = none → cv = 0 := by
  intro e
  subst e
  rcases h.2 with ⟨e, _⟩ | ⟨g, cap, cur, e, _⟩ <;> simp at e
  exact e.2
theorem nilW (w : World) (b : Nat) (base : Nat) (u v : Value) : OwnS ((w.setCell ⟨b, 0, none⟩ u).setCell ⟨b, 1, none⟩ v) base (.slice none 0 0) [] := OwnS.nil _ _
theorem ownW {w : World} {base b : Nat} {s : Value} {l : List Cl} (h : OwnS w base s l) (hb : b < base) (u v : Value) {base' : Nat} (h' : base' ≤ base) : OwnS ((w.setCell ⟨b, 0, none⟩ u).setCell ⟨b, 1, none⟩ v) base' s l :=
  ((h.other (fun k hk => by have := (h.lt k hk).1; omega) _).other (fun k hk => by have := (h.lt k hk).1; omega) _).mono h'
theorem belW {w W : World} {b : Nat} (h : Below w.heap.size w W) (hb : w.heap.size ≤ b) (u v : Value) : Below w.heap.size w ((W.setCell ⟨b, 0, none⟩ u).setCell ⟨b, 1, none⟩ v) :=
  (h.setCell (p := ⟨b, 0, none⟩) hb _).setCell (p := ⟨b, 1, none⟩) hb _

theorem gw_age {l : List Cl} {t : Int} (h : gw l t = true) : 0 ≤ t ∧ t ≤ 1000 := by
  simp only [gw, Bool.and_eq_true] at h; exact inB_bd h.2
theorem times_bd {l : List Cl} {s : Int} (h : timesOk l s = true) : 0 ≤ s ∧ s ≤ 20 := by
  simp only [timesOk, Bool.and_eq_true] at h; exact inT_bd h.1.2
theorem times_none {l : List Cl} {s : Int} (h : timesOk l s = false) (hg : good l = true) : True := trivial

end Go.Proofs.Ytgfdkolhldbehaa

namespace Go.Proofs.Ytgfdkolhldbehaa
open Go.RowKit
set_option linter.unusedVariables false
set_option linter.unusedSimpArgs false
attribute [local go_sem ↓] Go.wp_at_zero Go.wp_at_succ

theorem take_oneW {l m : List Cl} {k : Nat} (h1 : k < l.length) (h2 : k < m.length) (ht : l.take k = m.take k) (h : at_ l k = at_ m k) : l.take (k + 1) = m.take (k + 1) := by
  rw [List.take_succ_eq_append_getElem h1, List.take_succ_eq_append_getElem h2, ht]
  simp [at_, h1, h2] at h
  rw [h]

set_option maxHeartbeats 1000000 in
set_option maxRecDepth 100000 in
theorem c_l6Same (a b : Option Addr) (l m : List Cl) (ca cb : Nat) (w : World) (ha : Seg w a l) (hb : Seg w b m) (hl : l.length ≤ 1048576) (hm : m.length ≤ 1048576) :
    Calls Try.prog 63 #[.slice a l.length ca, .slice b m.length cb] w fun e w' => e = .returned (.bool (decide (l = m))) ∧ Below w.heap.size w w' := by
  by_cases hlm : l.length = m.length
  · have hlm' : ((l.length : Int) != (m.length : Int)) = false := by simp [hlm]
    have HLM : Hid (l.length = m.length) := hlm
    have hle : l.length ≤ m.length := by omega
    clear hlm
    go_enter Try.func63, Try.ntmps63
    go_wp2
    go_loopw [13] (fun i wr => ∃ k : Nat, k ≤ l.length ∧ i = .int .i64 k ∧ Hid (l.take k = m.take k) ∧ Below w.heap.size w wr) (fun i _ => l.length - (intOf i).toNat)
    case atStart => exact ⟨0, Nat.zero_le _, rfl, (rfl : _ = _), Below.refl _ _⟩
    case round =>
      obtain ⟨k, hk, rfl, ht, hbel⟩ := hrel
      by_cases hlt : k < l.length
      · obtain ⟨b1, o1, rfl, hb1, p1, p2⟩ := (ha k hlt)
        obtain ⟨b2, o2, rfl, hb2, q1, q2⟩ := (hb k (by omega))
        have g1 := (hbel.cell (p := ⟨b1, o1 + k * 2, none⟩) hb1).trans p1
        have g2 := (hbel.cell (p := ⟨b1, o1 + k * 2 + 1, none⟩) hb1).trans p2
        have g3 := (hbel.cell (p := ⟨b2, o2 + k * 2, none⟩) hb2).trans q1
        have g4 := (hbel.cell (p := ⟨b2, o2 + k * 2 + 1, none⟩) hb2).trans q2
        change _ = some (Value.int .i64 (at_ l k).1) at g1
        change _ = some (Value.int .i64 (at_ l k).2) at g2
        change _ = some (Value.int .i64 (at_ m k).1) at g3
        change _ = some (Value.int .i64 (at_ m k).2) at g4
        clear p1 p2 q1 q2
        have HT := hid (fun h : at_ l k = at_ m k => take_oneW hlt (by omega) ht.out h)
        have HF := hid (show ¬ at_ l k = at_ m k → decide (l = m) = false from fun h => by simp; intro e; exact h (by rw [e]))
        have HB := hid (hbel.trans (((Below.refl wr.heap.size wr).drew).mono hbel.size))
        clear hbel
        generalize at_ l k = x at *
        generalize at_ m k = y at *
        have k0 : (0 : Int) ≤ (k : Int) := by omega
        have k1 : (k : Int) < (l.length : Int) := by omega
        have k2 : (k : Int) < (m.length : Int) := by omega
        by_cases hx1 : x.1 = y.1
        · by_cases hx2 : x.2 = y.2
          · have HT' := hid (HT.out (Prod.ext hx1 hx2))
            go_wp2
            go_still (by kernel_rfl)
            go_wp2
            go_roundw
            case rel => exact ⟨k + 1, by omega, by go_num, HT'.out, HB.out⟩
            case measure => simp [intOf]; omega
          · have HF' := hid (HF.out (fun e => hx2 (by rw [e])))
            have hb2 : (x.2 == y.2) = false := beq_eq_false_iff_ne.2 hx2
            go_wp2
            go_still (by kernel_rfl)
            go_wp2
            go_ret
            exact ⟨ret_bool HF'.out.symm, HB.out⟩
        · have HF' := hid (HF.out (fun e => hx1 (by rw [e])))
          have hb2 : (x.1 == y.1) = false := beq_eq_false_iff_ne.2 hx1
          go_wp2
          go_still (by kernel_rfl)
          go_wp2
          go_ret
          exact ⟨ret_bool HF'.out.symm, HB.out⟩
      · go_wp2
        go_ret
        have e1 : l.take k = l := List.take_of_length_le (by omega)
        have e2 : m.take k = m := List.take_of_length_le (by have := HLM.out; omega)
        have e3 := ht.out
        rw [e1, e2] at e3
        exact ⟨ret_bool (by simp [e3]), hbel⟩
  · have hlm' : ((l.length : Int) != (m.length : Int)) = true := by simp; omega
    go_enter Try.func63, Try.ntmps63
    go_wp2
    go_ret
    exact ⟨ret_bool (by simp; intro e; exact hlm (by rw [e])), Below.refl _ _⟩

set_option maxHeartbeats 1000000 in
set_option maxRecDepth 100000 in
theorem c_slicesEqual (a b : Option Addr) (l m : List Cl) (ca cb : Nat) (w : World) (ha : Seg w a l) (hb : Seg w b m) (hl : l.length ≤ 1048576) (hm : m.length ≤ 1048576) :
    Calls Try.prog 100 #[.slice a l.length ca, .slice b m.length cb] w fun e w' => e = .returned (.bool (decide (l = m))) ∧ Below w.heap.size w w' := by
  by_cases hlm : l.length = m.length
  · have hlm' : ((l.length : Int) != (m.length : Int)) = false := by simp [hlm]
    have HLM : Hid (l.length = m.length) := hlm
    have hle : l.length ≤ m.length := by omega
    clear hlm
    go_enter Try.func100, Try.ntmps100
    go_wp2
    go_loopw [13] (fun i wr => ∃ k : Nat, k ≤ l.length ∧ i = .int .i64 k ∧ Hid (l.take k = m.take k) ∧ Below w.heap.size w wr) (fun i _ => l.length - (intOf i).toNat)
    case atStart => exact ⟨0, Nat.zero_le _, rfl, (rfl : _ = _), Below.refl _ _⟩
    case round =>
      obtain ⟨k, hk, rfl, ht, hbel⟩ := hrel
      by_cases hlt : k < l.length
      · obtain ⟨b1, o1, rfl, hb1, p1, p2⟩ := (ha k hlt)
        obtain ⟨b2, o2, rfl, hb2, q1, q2⟩ := (hb k (by omega))
        have g1 := (hbel.cell (p := ⟨b1, o1 + k * 2, none⟩) hb1).trans p1
        have g2 := (hbel.cell (p := ⟨b1, o1 + k * 2 + 1, none⟩) hb1).trans p2
        have g3 := (hbel.cell (p := ⟨b2, o2 + k * 2, none⟩) hb2).trans q1
        have g4 := (hbel.cell (p := ⟨b2, o2 + k * 2 + 1, none⟩) hb2).trans q2
        change _ = some (Value.int .i64 (at_ l k).1) at g1
        change _ = some (Value.int .i64 (at_ l k).2) at g2
        change _ = some (Value.int .i64 (at_ m k).1) at g3
        change _ = some (Value.int .i64 (at_ m k).2) at g4
        clear p1 p2 q1 q2
        have HT := hid (fun h : at_ l k = at_ m k => take_oneW hlt (by omega) ht.out h)
        have HF := hid (show ¬ at_ l k = at_ m k → decide (l = m) = false from fun h => by simp; intro e; exact h (by rw [e]))
        have HB := hid (hbel.trans (((Below.refl wr.heap.size wr).drew).mono hbel.size))
        clear hbel
        generalize at_ l k = x at *
        generalize at_ m k = y at *
        have k0 : (0 : Int) ≤ (k : Int) := by omega
        have k1 : (k : Int) < (l.length : Int) := by omega
        have k2 : (k : Int) < (m.length : Int) := by omega
        by_cases hx1 : x.1 = y.1
        · by_cases hx2 : x.2 = y.2
          · have HT' := hid (HT.out (Prod.ext hx1 hx2))
            go_wp2
            go_still (by kernel_rfl)
            go_wp2
            go_roundw
            case rel => exact ⟨k + 1, by omega, by go_num, HT'.out, HB.out⟩
            case measure => simp [intOf]; omega
          · have HF' := hid (HF.out (fun e => hx2 (by rw [e])))
            have hb2 : (x.2 == y.2) = false := beq_eq_false_iff_ne.2 hx2
            go_wp2
            go_still (by kernel_rfl)
            go_wp2
            go_ret
            exact ⟨ret_bool HF'.out.symm, HB.out⟩
        · have HF' := hid (HF.out (fun e => hx1 (by rw [e])))
          have hb2 : (x.1 == y.1) = false := beq_eq_false_iff_ne.2 hx1
          go_wp2
          go_still (by kernel_rfl)
          go_wp2
          go_ret
          exact ⟨ret_bool HF'.out.symm, HB.out⟩
      · go_wp2
        go_ret
        have e1 : l.take k = l := List.take_of_length_le (by omega)
        have e2 : m.take k = m := List.take_of_length_le (by have := HLM.out; omega)
        have e3 := ht.out
        rw [e1, e2] at e3
        exact ⟨ret_bool (by simp [e3]), hbel⟩
  · have hlm' : ((l.length : Int) != (m.length : Int)) = true := by simp; omega
    go_enter Try.func100, Try.ntmps100
    go_wp2
    go_ret
    exact ⟨ret_bool (by simp; intro e; exact hlm (by rw [e])), Below.refl _ _⟩


theorem home_le (l : List Cl) : (home l).length ≤ l.length := by
  unfold home; split
  · rw [mv_length]; exact Nat.le_refl _
  · simp
theorem box_good {l : List Cl} (h : boxOk l = true) : good l = true := by simp [boxOk] at h; exact h.1

set_option maxHeartbeats 2000000 in
set_option maxRecDepth 100000 in
theorem c_l6Home (a : Option Addr) (l : List Cl) (ca : Nat) (w : World) (ha : Seg w a l) (hl : l.length ≤ 1048576) :
    Calls Try.prog 64 #[.slice a l.length ca] w fun e w' => ∃ v, e = .returned v ∧ OwnS w' w.heap.size v (home l) ∧ Below w.heap.size w w' := by
  have HBX := hid (c_sBoxOf a l ca _ ha hl)
  cases hbo : boxOk l
  · have HV := hid (show home l = [] by simp [home, hbo])
    rw [hbo] at HBX
    clear ha
    go_enter Try.func64, Try.ntmps64
    go_wp2_with fail
    refine HBX.out.mono ?_
    rintro e w1 ⟨rfl, b1⟩
    have k1 := (Below.refl w1.heap.size w1).alloc (Nat.le_refl _) (.cells #[.int .i64 (boxLo l).1, .int .i64 (boxLo l).2] 36)
    have k2 := k1.alloc k1.size (.cells #[.int .i64 (boxHi l).1, .int .i64 (boxHi l).2] 36)
    have B1 := hid (b1.trans (k2.mono b1.size))
    clear k1 k2 b1
    go_wp2
    go_ret
    exact ⟨_, rfl, by rw [HV.out]; exact OwnS.nil _ _, B1.out⟩
  · have HV := hid (show home l = mv l (-(boxLo l).1) (-(boxLo l).2) by simp [home, hbo])
    rw [hbo] at HBX
    obtain ⟨hlo, _⟩ := box_reach hbo
    simp only [inR, Bool.and_eq_true, decide_eq_true_eq] at hlo
    have HIN := hid (good_in (box_good hbo))
    go_enter Try.func64, Try.ntmps64
    go_wp2_with fail
    refine HBX.out.mono ?_
    rintro e w1 ⟨rfl, b1⟩
    have k1 := (Below.refl w1.heap.size w1).alloc (Nat.le_refl _) (.cells #[.int .i64 (boxLo l).1, .int .i64 (boxLo l).2] 36)
    have k2 := (Below.refl (w1.alloc (.cells #[.int .i64 (boxLo l).1, .int .i64 (boxLo l).2] 36)).heap.size (w1.alloc (.cells #[.int .i64 (boxLo l).1, .int .i64 (boxLo l).2] 36))).alloc (Nat.le_refl _) (.cells #[.int .i64 (boxHi l).1, .int .i64 (boxHi l).2] 36)
    have RA := hid ((WRow.new w1 (.int .i64 (boxLo l).1) (boxLo l).2 36).below k2)
    have HA := hid (((ha.below b1).below k1).below k2)
    have B1 := hid ((b1.trans (k1.mono b1.size)).trans (k2.mono (by have := b1.size; have := k1.size; omega)))
    clear k1 k2 b1 ha
    have x0 := RA.out.c0
    have x1 := RA.out.c1
    go_wp2_with fail
    generalize boxLo l = lo at *
    refine (c_l1Move a l ca (-lo.1) (-lo.2) _ HA.out hl HIN.out (by omega) (by omega)).mono ?_
    rintro e w2 ⟨v, rfl, hO, b2⟩
    go_wp2
    go_ret
    exact ⟨_, rfl, by rw [HV.out]; exact hO.mono B1.out.size, B1.out.trans (b2.mono B1.out.size)⟩

def smOk (l m : List Cl) (s t : Int) : Bool := gw l s && gw m t
def smB (l m : List Cl) (s t : Int) : Bool := smOk l m s t && decide (s = t) && decide (home l = home m)
theorem sm_first {l m : List Cl} {s t : Int} (hl : gw l s = true) (hm : gw m t = true) : decide (firstL l = firstL m) = decide (home l = home m) := by
  simp only [gw, Bool.and_eq_true] at hl hm
  exact decide_eq_decide.2 (same_iff hl.1 hm.1)

end Go.Proofs.Ytgfdkolhldbehaa
