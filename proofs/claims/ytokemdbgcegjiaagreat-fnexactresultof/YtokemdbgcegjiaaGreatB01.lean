/- Texts of this seat, one behind the other: Leaf, Base, Eq, Plain, Good, Quad, QuadT, Own, Ints. -/
import Derived.Test.YtokemdbgcegjiaaGreatRows
import Derived.WalkKit
import Derived.WalkSpells
import Derived.WalkLawsBesides
import Derived.Deep.OwnRows
import Derived.BigQuiet
import Derived.Deep.RegionHeld3
import Derived.Deep.DrawnRows
import Derived.Deep.AppendLies
import Derived.Deep.Onto
import Derived.Maps.AppendAt
import Derived.Laws.AppendOwnNone
namespace Go.Proofs.YtokemdbgcegjiaaGreat
open Go.RowKit

/-- A cell as a value. -/
def cv (c : Int × Int) : Value := .agg #[.int .i64 c.1, .int .i64 c.2]
/-- Is a cell within reach? -/
def inR (c : Int × Int) : Bool := decide (-40 ≤ c.1) && decide (c.1 ≤ 40) && decide (-40 ≤ c.2) && decide (c.2 ≤ 40)
/-- Is a cell ahead of another? -/
def ltC (a b : Int × Int) : Bool := decide (a.2 < b.2) || (decide (a.2 = b.2) && decide (a.1 < b.1))
/-- Are two cells one? -/
def eqC (a b : Int × Int) : Bool := decide (a = b)
/-- How two numbers compare. -/
def cmpI (a b : Int) : Int := if a < b then -1 else if b < a then 1 else 0
/-- How two cells compare. -/
def cmpC (a b : Int × Int) : Int := if a.2 = b.2 then cmpI a.1 b.1 else cmpI a.2 b.2

theorem ret_bool {a b : Bool} (h : a = b) : Ending.returned (.bool a) = .returned (.bool b) := by rw [h]
theorem ret_two {a b c d : Value} (h1 : a = c) (h2 : b = d) : Ending.returned (.tuple #[a, b]) = .returned (.tuple #[c, d]) := by rw [h1, h2]
theorem vbool {a b : Bool} (h : a = b) : Value.bool a = .bool b := by rw [h]
theorem ret_int {k : IntKind} {a b : Int} (h : a = b) : Ending.returned (.int k a) = .returned (.int k b) := by rw [h]

set_option maxHeartbeats 400000 in
theorem c_l1In (n lo hi : Int) (w : World) :
    Calls Tryz.prog 72 #[.int .i64 n, .int .i64 lo, .int .i64 hi] w fun e w' => e = .returned (.bool (decide (lo ≤ n) && decide (n ≤ hi))) ∧ w' = w := by
  by_cases h1 : lo ≤ n <;> by_cases h2 : n ≤ hi
  all_goals
    go_enter Tryz.func72, Tryz.ntmps72
    go_wp2
    go_ret
    exact ⟨ret_bool (by simp [h1, h2] <;> omega), rfl⟩

set_option maxHeartbeats 400000 in
theorem c_l1There (c : Int × Int) (w : World) :
    Calls Tryz.prog 127 #[.agg #[.int .i64 c.1, .int .i64 c.2]] w fun e w' => e = .returned (.bool (inR c)) ∧ Below w.heap.size w w' := by
  obtain ⟨x, y⟩ := c
  dsimp only
  by_cases h1 : (-40 ≤ x ∧ x ≤ 40)
  · have hb : (decide (-40 ≤ x) && decide (x ≤ 40)) = true := by simp; omega
    go_enter Tryz.func127, Tryz.ntmps127
    go_wp2_with (go_at_call 72; refine (c_l1In _ _ _ _).mono ?_; rintro e w' ⟨rfl, rfl⟩)
    go_ret
    exact ⟨ret_bool (by simp [inR, h1]), (Below.refl _ _).alloc (Nat.le_refl _) _⟩
  · have hb : (decide (-40 ≤ x) && decide (x ≤ 40)) = false := by simp; omega
    go_enter Tryz.func127, Tryz.ntmps127
    go_wp2_with (go_at_call 72; refine (c_l1In _ _ _ _).mono ?_; rintro e w' ⟨rfl, rfl⟩)
    go_ret
    exact ⟨ret_bool (by simp [inR]; omega), (Below.refl _ _).alloc (Nat.le_refl _) _⟩

set_option maxHeartbeats 400000 in
theorem c_inReach (c : Int × Int) (w : World) :
    Calls Tryz.prog 136 #[.agg #[.int .i64 c.1, .int .i64 c.2]] w fun e w' => e = .returned (.bool (inR c)) ∧ Below w.heap.size w w' := by
  obtain ⟨x, y⟩ := c
  dsimp only
  go_enter Tryz.func136, Tryz.ntmps136
  go_wp2
  all_goals
    go_ret
    exact ⟨ret_bool (by simp [inR, *] <;> omega), (Below.refl _ _).alloc (Nat.le_refl _) _⟩

set_option maxHeartbeats 400000 in
theorem c_l1Less (c d : Int × Int) (w : World) :
    Calls Tryz.prog 128 #[.agg #[.int .i64 c.1, .int .i64 c.2], .agg #[.int .i64 d.1, .int .i64 d.2]] w fun e w' => e = .returned (.bool (ltC c d)) ∧ Below w.heap.size w w' := by
  obtain ⟨x, y⟩ := c
  obtain ⟨u, v⟩ := d
  dsimp only
  go_enter Tryz.func128, Tryz.ntmps128
  go_wp2
  all_goals
    go_ret
    exact ⟨ret_bool (by simp [ltC, *] <;> omega), ((Below.refl _ _).alloc (Nat.le_refl _) _).alloc (by simp) _⟩

set_option maxHeartbeats 400000 in
theorem c_Compare (x y : Int) (w : World) :
    Calls Tryz.prog 135 #[.int .i64 x, .int .i64 y] w fun e w' => e = .returned (.int .i64 (cmpI x y)) ∧ w' = w := by
  rcases (show x < y ∨ x = y ∨ y < x by omega) with h | h | h
  all_goals
    go_enter Tryz.func135, Tryz.ntmps135
    go_wp2
    go_ret
    exact ⟨ret_int (by simp [cmpI]; omega), rfl⟩

set_option maxHeartbeats 400000 in
theorem c_compareCells (c d : Int × Int) (w : World) :
    Calls Tryz.prog 111 #[.agg #[.int .i64 c.1, .int .i64 c.2], .agg #[.int .i64 d.1, .int .i64 d.2]] w fun e w' => e = .returned (.int .i64 (cmpC c d)) ∧ Below w.heap.size w w' := by
  obtain ⟨x, y⟩ := c
  obtain ⟨u, v⟩ := d
  dsimp only
  by_cases h : y = v
  · have hb : (y != v) = false := by simp [h]
    have H : Hid (y = v) := h
    clear h
    go_enter Tryz.func111, Tryz.ntmps111
    go_wp2_with (go_at_call 135; refine (c_Compare _ _ _).mono ?_; rintro e w' ⟨rfl, rfl⟩)
    go_ret
    exact ⟨ret_int (by simp [cmpC, H.out]), ((Below.refl _ _).alloc (Nat.le_refl _) _).alloc (by simp) _⟩
  · have hb : (y != v) = true := by simp [h]
    go_enter Tryz.func111, Tryz.ntmps111
    go_wp2_with (go_at_call 135; refine (c_Compare _ _ _).mono ?_; rintro e w' ⟨rfl, rfl⟩)
    go_ret
    exact ⟨ret_int (by simp [cmpC, h]), ((Below.refl _ _).alloc (Nat.le_refl _) _).alloc (by simp) _⟩

end Go.Proofs.YtokemdbgcegjiaaGreat

namespace Go.Proofs.YtokemdbgcegjiaaGreat
open Go.RowKit

/-- The cells l lie where the slice's address a leads to, below the heap's end. -/
def Seg (w : World) (a : Option Addr) (l : List (Int × Int)) : Prop :=
  ∀ i, i < l.length → ∃ b o, a = some ⟨b, o, none⟩ ∧ b < w.heap.size ∧ w.cell? ⟨b, o + i * 2, none⟩ = some (.int .i64 (l.getD i (0, 0)).1) ∧ w.cell? ⟨b, o + i * 2 + 1, none⟩ = some (.int .i64 (l.getD i (0, 0)).2)

theorem Seg.below {w w' : World} {a : Option Addr} {l : List (Int × Int)} (h : Seg w a l) (hb : Below w.heap.size w w') : Seg w' a l := by
  intro i hi
  obtain ⟨b, o, rfl, hlt, h1, h2⟩ := h i hi
  exact ⟨b, o, rfl, Nat.lt_of_lt_of_le hlt hb.size, (hb.cell (p := ⟨b, _, none⟩) hlt).trans h1, (hb.cell (p := ⟨b, _, none⟩) hlt).trans h2⟩

/-- The slice v owns, among the blocks from base on, the cells l: they lie at the head of block g. -/
def Row (w : World) (g : Nat) (l : List (Int × Int)) : Prop :=
  w.rowIs g 41 (l.length * 2) (fun j => .int .i64 (if j % 2 = 0 then (l.getD (j / 2) (0, 0)).1 else (l.getD (j / 2) (0, 0)).2))

theorem Row.seg {w : World} {g : Nat} {l : List (Int × Int)} (h : Row w g l) : Seg w (some ⟨g, 0, none⟩) l := by
  intro i hi
  refine ⟨g, 0, rfl, h.lt, ?_, ?_⟩
  · have := h.cell (i := i * 2) (by omega)
    simpa using this
  · have := h.cell (i := i * 2 + 1) (by omega)
    rw [show 0 + i * 2 + 1 = i * 2 + 1 by omega, this]
    have e1 : (i * 2 + 1) % 2 = 1 := by omega
    have e2 : (i * 2 + 1) / 2 = i := by omega
    simp [e1, e2]

theorem Row.below {w w' : World} {g : Nat} {l : List (Int × Int)} (h : Row w g l) (hb : Below w.heap.size w w') : Row w' g l := h.of_block (hb.block _ h.lt)

theorem hid {p : Prop} (h : p) : Hid p := h
theorem ofDrew {w w' : World} (h : Below w.drew.heap.size w.drew w') : Below w.heap.size w w' := ⟨h.os, h.tape, h.output, h.size, h.block⟩
/-- Two stretches, one behind the other. -/
theorem Below.then {a b c : World} {B : Nat} (h : Below B a b) (k : Below b.heap.size b c) (hB : B ≤ b.heap.size) : Below B a c := h.trans (k.mono hB)

/-- Cells and marks below the heap's end are as they were: two rules for a walk. -/
theorem bcell {W w1 : World} (hb : Below W.heap.size W w1) : (∀ b o, b < W.heap.size → w1.cell? ⟨b, o, none⟩ = W.cell? ⟨b, o, none⟩) ∧ (∀ b o, b < W.heap.size → w1.frozen? ⟨b, o, none⟩ = W.frozen? ⟨b, o, none⟩) :=
  ⟨fun b o h => hb.cell (p := ⟨b, o, none⟩) h, fun b o h => hb.frozen (p := ⟨b, o, none⟩) h⟩

/-- A world that has grown out of W: all that was there is as it was. -/
structure Gr (W : World) where
  val : World
  below : Below W.heap.size W val

theorem Gr.ne (W : World) : Nonempty (Gr W) := ⟨⟨W, Below.refl _ _⟩⟩
/-- A region that draws its order and in which nothing old is written is walked once, in the order of the text, in every world that has grown out of the one at hand. -/
theorem wp_region_gr {P : Program} {id : Nat} {Q : Exit → Act → World → Prop} {a : Act} {w : World} {l : List Oper} (hm : P.follows .mixedOrders = true) (hB : Region.lexB .any l.toArray = true)
    (h : wpQuiet P l.toArray (fun w' => ∃ g : Gr w, w' = g.val) (fun a' => ∀ w', (∃ g : Gr w, w' = g.val) → Q .normal a' w') l a) : (Code.region id l.toArray true).wp P Q a w :=
  wp_region_quiet (C := fun w' => ∃ g : Gr w, w' = g.val) hm hB ⟨⟨w.drew, (Below.refl _ _).drew⟩, rfl⟩ (by simpa using h)

theorem Calls.gr {P : Program} {f : FuncId} {args : Array Value} {W : World} {v : Value} (g : Gr W)
    (h : Calls P f args g.val fun e w' => e = .returned v ∧ Below g.val.heap.size g.val w') : Calls P f args g.val fun e w'' => e = .returned v ∧ ∃ g' : Gr W, w'' = g'.val :=
  h.mono fun _ w'' ⟨he, hb⟩ => ⟨he, ⟨w'', g.below.trans (hb.mono g.below.size)⟩, rfl⟩

theorem Gr.cell {W : World} (g : Gr W) {b o : Nat} {v : Value} (h : W.cell? ⟨b, o, none⟩ = some v) (hb : b < W.heap.size) : g.val.cell? ⟨b, o, none⟩ = some v :=
  (g.below.cell (p := ⟨b, o, none⟩) hb).trans h

/-- A cell's box at the heap's end of w, kept in all that has grown out of w. -/
def BoxIn (w W : World) (c : Int × Int) : Prop :=
  W.cell? ⟨w.heap.size, 0, none⟩ = some (.int .i64 c.1) ∧ W.cell? ⟨w.heap.size, 1, none⟩ = some (.int .i64 c.2) ∧ w.heap.size < W.heap.size ∧ Below w.heap.size w W
theorem BoxIn.step {w W W' : World} {c : Int × Int} (h : BoxIn w W c) (hb : Below W.heap.size W W') : BoxIn w W' c :=
  ⟨(hb.cell (p := ⟨w.heap.size, 0, none⟩) h.2.2.1).trans h.1, (hb.cell (p := ⟨w.heap.size, 1, none⟩) h.2.2.1).trans h.2.1, Nat.lt_of_lt_of_le h.2.2.1 hb.size, h.2.2.2.trans (hb.mono h.2.2.2.size)⟩
theorem BoxIn.below {w W : World} {c : Int × Int} (h : BoxIn w W c) : Below w.heap.size w W := h.2.2.2
theorem BoxIn.drew {w W : World} {c : Int × Int} (h : BoxIn w W c) : BoxIn w W.drew c := h.step ((Below.refl _ _).drew)
theorem BoxIn.new (w : World) (c : Int × Int) (t : TypeId) : BoxIn w (w.alloc (.cells #[.int .i64 c.1, .int .i64 c.2] t)) c := by
  refine ⟨?_, ?_, by simp, (Below.refl _ _).alloc (Nat.le_refl _) _⟩
  · unfold World.cell?; rw [heap_alloc_new]; rfl
  · unfold World.cell?; rw [heap_alloc_new]; rfl

end Go.Proofs.YtokemdbgcegjiaaGreat

namespace Go.Proofs.YtokemdbgcegjiaaGreat
open Go.RowKit
set_option linter.unusedVariables false
attribute [local go_sem ↓] Go.wp_at_zero Go.wp_at_succ

theorem take_eq_succ {l m : List (Int × Int)} {k : Nat} {x y : Int × Int} (h1 : k < l.length) (h2 : k < m.length) (hx : l.getD k (0, 0) = x) (hy : m.getD k (0, 0) = y) (ht : l.take k = m.take k) (h : x = y) : l.take (k + 1) = m.take (k + 1) := by
  rw [List.take_succ_eq_append_getElem h1, List.take_succ_eq_append_getElem h2, ht]
  simp [h1, h2] at hx hy
  rw [hx, hy, h]
theorem ne_of_at {l m : List (Int × Int)} {k : Nat} {x y : Int × Int} (hx : l.getD k (0, 0) = x) (hy : m.getD k (0, 0) = y) (h : ¬ x = y) : decide (l = m) = false := by
  simp
  intro e
  subst e
  exact h (hx.symm.trans hy)

end Go.Proofs.YtokemdbgcegjiaaGreat

namespace Go.Proofs.YtokemdbgcegjiaaGreat

abbrev Cl := Int × Int
/-- The cell at a place. -/
def at_ (l : List Cl) (i : Nat) : Cl := l.getD i (0, 0)
/-- Are the first k cells within reach? -/
def allTo (l : List Cl) (k : Nat) : Bool := (List.range k).all fun i => inR (at_ l i)
/-- Does each of the first k cells (but the first) stand behind the one ahead of it? -/
def risTo (l : List Cl) (k : Nat) : Bool := (List.range k).all fun i => decide (i = 0) || ltC (at_ l (i - 1)) (at_ l i)
/-- Good cells. -/
def good (l : List Cl) : Bool := decide (l.length ≤ 120) && allTo l l.length && risTo l l.length

theorem allTo_succ (l : List Cl) (k : Nat) : allTo l (k + 1) = (allTo l k && inR (at_ l k)) := by simp [allTo, List.range_succ]
theorem risTo_succ (l : List Cl) (k : Nat) : risTo l (k + 1) = (risTo l k && (decide (k = 0) || ltC (at_ l (k - 1)) (at_ l k))) := by simp [risTo, List.range_succ]
theorem allTo_false {l : List Cl} {k n : Nat} (h : k < n) (hk : inR (at_ l k) = false) : allTo l n = false := by
  simp only [allTo, List.all_eq_false]
  exact ⟨k, List.mem_range.2 h, by simp [hk]⟩
theorem risTo_false {l : List Cl} {k n : Nat} (h : k < n) (h0 : 0 < k) (hk : ltC (at_ l (k - 1)) (at_ l k) = false) : risTo l n = false := by
  simp only [risTo, List.all_eq_false]
  exact ⟨k, List.mem_range.2 h, by simp [hk]; omega⟩
theorem cmpC_lt (a b : Cl) : decide (0 ≤ cmpC a b) = !ltC a b := by
  obtain ⟨x, y⟩ := a
  obtain ⟨u, v⟩ := b
  by_cases h : y = v
  · by_cases h1 : x < u
    · simp [cmpC, cmpI, ltC, h, h1]
    · by_cases h2 : u < x <;> simp [cmpC, cmpI, ltC, h, h1, h2] <;> omega
  · by_cases h1 : y < v
    · simp [cmpC, cmpI, ltC, h, h1]
    · by_cases h2 : v < y <;> simp [cmpC, cmpI, ltC, h, h1, h2] <;> omega
theorem good_len {l : List Cl} (h : good l = true) : l.length ≤ 120 := by simp [good] at h; exact h.1.1
end Go.Proofs.YtokemdbgcegjiaaGreat

namespace Go.Proofs.YtokemdbgcegjiaaGreat
open Go.RowKit
set_option linter.unusedVariables false
attribute [local go_sem ↓] Go.wp_at_zero Go.wp_at_succ

theorem info_Cell : (Tryz.prog.info? 41).map (fun i => (i.zero, i.size, i.bytes)) = some (some (.agg #[.int .i64 0, .int .i64 0]), 2, 16) := by kernel_rfl

theorem make_Cells (n : Nat) (hn : n ≤ 1048576) (w : World) :
    (Instr.makeSlice 31 (.int .i64 (n : Int)) (.int .i64 (n : Int))).run Tryz.prog w = .ok (.slice (some ⟨w.heap.size, 0, none⟩) n n) (w.alloc (.cells (madeCells #[.int .i64 0, .int .i64 0] (n * 2)) 41)) := by
  obtain ⟨i, hi, hz, hs, hb⟩ := info_parts info_Cell
  have := run_make (P := Tryz.prog) w 31 41 i _ Tryz.underlying31 hi hz .i64 .i64 n n (by omega) (Int.le_refl _) (by rw [hb]; omega) (by omega)
  simpa [hs, Value.cells] using this

/-- What stands in a row of cells of which the first k are laid. -/
def cellTo (l : List Cl) (k : Nat) (j : Nat) : Value := .int .i64 (if j < k * 2 then (if j % 2 = 0 then (at_ l (j / 2)).1 else (at_ l (j / 2)).2) else 0)

theorem made_row (w : World) (l : List Cl) : (w.alloc (.cells (madeCells #[.int .i64 0, .int .i64 0] (l.length * 2)) 41)).rowIs w.heap.size 41 (l.length * 2) (cellTo l 0) := by
  refine ⟨_, heap_alloc_new _ _, size_madeCells _ _, fun i hi => ?_⟩
  have h2 : i % 2 = 0 ∨ i % 2 = 1 := by omega
  rcases h2 with h2 | h2 <;> simp [madeCells, hi, h2, cellTo]

theorem row_step {w : World} {g : Nat} {l : List Cl} {k : Nat} (h : w.rowIs g 41 (l.length * 2) (cellTo l k)) (hk : k < l.length) :
    ((w.setCell ⟨g, k * 2, none⟩ (.int .i64 (at_ l k).1)).setCell ⟨g, k * 2 + 1, none⟩ (.int .i64 (at_ l k).2)).rowIs g 41 (l.length * 2) (cellTo l (k + 1)) := by
  refine ((h.set (k * 2) _).set (k * 2 + 1) _).congr fun j hj => ?_
  by_cases h1 : j = k * 2 + 1
  · have e1 : j % 2 = 1 := by omega
    have e2 : j / 2 = k := by omega
    have e3 : j < (k + 1) * 2 := by omega
    simp only [cellTo, if_pos h1, if_pos e3, e1, e2]
    rfl
  · by_cases h2 : j = k * 2
    · have e1 : j % 2 = 0 := by omega
      have e2 : j / 2 = k := by omega
      have e3 : j < (k + 1) * 2 := by omega
      simp only [cellTo, if_neg h1, if_pos h2, if_pos e3, e1, e2]
      rfl
    · simp only [cellTo, if_neg h1, if_neg h2]
      by_cases h3 : j < k * 2
      · rw [if_pos h3, if_pos (show j < (k + 1) * 2 by omega)]
      · rw [if_neg h3, if_neg (show ¬ j < (k + 1) * 2 by omega)]

theorem row_done {w : World} {g : Nat} {l : List Cl} (h : w.rowIs g 41 (l.length * 2) (cellTo l l.length)) : Row w g l :=
  h.congr fun j hj => by simp [cellTo, hj, at_]

set_option maxHeartbeats 400000 in
theorem c_allInReach (a : Option Addr) (l : List Cl) (ca : Nat) (w : World) (ha : Seg w a l) (hl : l.length ≤ 1048576) :
    Calls Tryz.prog 112 #[.slice a l.length ca] w fun e w' => e = .returned (.bool (allTo l l.length)) ∧ Below w.heap.size w w' := by
  go_enter Tryz.func112, Tryz.ntmps112
  go_wp2
  go_loopw [7] (fun i wr => ∃ k : Nat, k ≤ l.length ∧ i = .int .i64 k ∧ Hid (allTo l k = true) ∧ Below w.heap.size w wr) (fun i _ => l.length - (intOf i).toNat)
  case atStart => exact ⟨0, Nat.zero_le _, rfl, (rfl : _ = _), Below.refl _ _⟩
  case round =>
    obtain ⟨k, hk, rfl, hT, hbel⟩ := hrel
    by_cases hlt : k < l.length
    · obtain ⟨b1, o1, rfl, hb1, p1, p2⟩ := ha k hlt
      have g1 := (hbel.cell (p := ⟨b1, o1 + k * 2, none⟩) hb1).trans p1
      have g2 := (hbel.cell (p := ⟨b1, o1 + k * 2 + 1, none⟩) hb1).trans p2
      change _ = some (Value.int .i64 (at_ l k).1) at g1
      change _ = some (Value.int .i64 (at_ l k).2) at g2
      clear p1 p2
      have k0 : (0 : Int) ≤ (k : Int) := by omega
      have k1 : (k : Int) < (l.length : Int) := by omega
      cases hin : inR (at_ l k)
      · go_wp2_with (go_at_call 136; refine (c_inReach (at_ l k) _).mono ?_; rintro e w1 ⟨rfl, hbq⟩)
        go_ret
        exact ⟨ret_bool (allTo_false hlt hin).symm, (hbel.alloc hbel.size _).trans (hbq.mono (by simp; have := hbel.size; omega))⟩
      · go_wp2_with (go_at_call 136; refine (c_inReach (at_ l k) _).mono ?_; rintro e w1 ⟨rfl, hbq⟩)
        go_roundw
        case rel => exact ⟨k + 1, by omega, by go_num, (show _ = true by rw [allTo_succ, hT.out, hin]; rfl), (hbel.alloc hbel.size _).trans (hbq.mono (by simp; have := hbel.size; omega))⟩
        case measure => simp [intOf]; omega
    · go_wp2
      go_ret
      have : k = l.length := by omega
      subst this
      exact ⟨ret_bool hT.out.symm, hbel⟩


theorem c_l1There' (c : Cl) (v : Bool) (h : inR c = v) (w : World) :
    Calls Tryz.prog 127 #[.agg #[.int .i64 c.1, .int .i64 c.2]] w fun e w' => e = .returned (.bool v) ∧ Below w.heap.size w w' := by
  rw [← h]; exact c_l1There c w
theorem c_l1Less' (c d : Cl) (v : Bool) (h : ltC c d = v) (w : World) :
    Calls Tryz.prog 128 #[.agg #[.int .i64 c.1, .int .i64 c.2], .agg #[.int .i64 d.1, .int .i64 d.2]] w fun e w' => e = .returned (.bool v) ∧ Below w.heap.size w w' := by
  rw [← h]; exact c_l1Less c d w

set_option maxHeartbeats 400000 in
theorem c_areRising (a : Option Addr) (l : List Cl) (ca : Nat) (w : World) (ha : Seg w a l) (hl : l.length ≤ 1048576) :
    Calls Tryz.prog 113 #[.slice a l.length ca] w fun e w' => e = .returned (.bool (risTo l l.length)) ∧ Below w.heap.size w w' := by
  go_enter Tryz.func113, Tryz.ntmps113
  go_wp2
  go_loopw [3] (fun i wr => ∃ z : Int, 1 ≤ z ∧ (z ≤ l.length ∨ z = 1) ∧ i = .int .i64 z ∧ Hid (risTo l z.toNat = true) ∧ Below w.heap.size w wr) (fun i _ => l.length - (intOf i).toNat)
  case atStart => exact ⟨1, by omega, .inr rfl, rfl, (rfl : _ = _), Below.refl _ _⟩
  case round =>
    obtain ⟨z, hz1, hk, rfl, hT, hbel⟩ := hrel
    have HK := hid hk
    clear hk
    by_cases hlt : z < l.length
    · obtain ⟨b1, o1, rfl, hb1, p1, p2⟩ := ha z.toNat (by omega)
      obtain ⟨b2, o2, e2, hb2, q1, q2⟩ := ha (z.toNat - 1) (by omega)
      simp only [Option.some.injEq, Addr.mk.injEq, and_true] at e2
      obtain ⟨rfl, rfl⟩ := e2
      have hw1 : b1 < wr.heap.size := Nat.lt_of_lt_of_le hb1 hbel.size
      have g1 := fun g : Gr wr => g.cell ((hbel.cell (p := ⟨b1, o1 + z.toNat * 2, none⟩) hb1).trans p1) hw1
      have g2 := fun g : Gr wr => g.cell ((hbel.cell (p := ⟨b1, o1 + z.toNat * 2 + 1, none⟩) hb1).trans p2) hw1
      have g3 := fun g : Gr wr => g.cell ((hbel.cell (p := ⟨b1, o1 + (z.toNat - 1) * 2, none⟩) hb1).trans q1) hw1
      have g4 := fun g : Gr wr => g.cell ((hbel.cell (p := ⟨b1, o1 + (z.toNat - 1) * 2 + 1, none⟩) hb1).trans q2) hw1
      change ∀ g : Gr wr, _ = some (Value.int .i64 (at_ l z.toNat).1) at g1
      change ∀ g : Gr wr, _ = some (Value.int .i64 (at_ l z.toNat).2) at g2
      change ∀ g : Gr wr, _ = some (Value.int .i64 (at_ l (z.toNat - 1)).1) at g3
      change ∀ g : Gr wr, _ = some (Value.int .i64 (at_ l (z.toNat - 1)).2) at g4
      clear p1 p2 q1 q2
      have hne := Gr.ne wr
      have hS := risTo_succ l z.toNat
      rw [hT.out] at hS
      have hF := fun h => risTo_false (l := l) (k := z.toNat) (n := l.length) (by omega) (by omega) h
      generalize at_ l z.toNat = x at *
      generalize at_ l (z.toNat - 1) = y at *
      have HS := hid hS
      have HF := hid hF
      clear hS hF
      have hcl := cmpC_lt y x
      cases hin : ltC y x
      · rw [hin] at hcl
        have hge : 0 ≤ cmpC y x := by simpa using hcl
        clear hcl
        go_wp2
        refine wp_region_gr (by kernel_rfl) (by kernel_rfl) ?_
        repeat (go_big_quiet_step (first | (go_at_call 111; exact Calls.gr _ (c_compareCells y x _))))
        refine wpQuiet_nil ?_
        rintro _ ⟨g, rfl⟩
        clear g1 g2 g3 g4
        go_wp2
        go_ret
        exact ⟨ret_bool (HF.out hin).symm, hbel.trans (g.below.mono hbel.size)⟩
      · rw [hin] at hcl
        have hge : cmpC y x < 0 := by simpa using hcl
        clear hcl
        go_wp2
        refine wp_region_gr (by kernel_rfl) (by kernel_rfl) ?_
        repeat (go_big_quiet_step (first | (go_at_call 111; exact Calls.gr _ (c_compareCells y x _))))
        refine wpQuiet_nil ?_
        rintro _ ⟨g, rfl⟩
        clear g1 g2 g3 g4
        go_wp2
        go_roundw
        case rel => exact ⟨z + 1, by omega, .inl (by omega), by go_num, (show _ = true by rw [show (z + 1).toNat = z.toNat + 1 by omega, HS.out, hin]; simp), hbel.trans (g.below.mono hbel.size)⟩
        case measure => simp [intOf]; omega
    · have hge : (l.length : Int) ≤ z := by omega
      go_wp2
      go_ret
      refine ⟨ret_bool ?_, hbel⟩
      rcases HK.out with h | h
      · have : l.length = z.toNat := by omega
        rw [this, hT.out]
      · have h1 : l.length = 0 ∨ l.length = 1 := by omega
        rcases h1 with h1 | h1 <;> rw [h1] <;> rfl

theorem good_false_reach {l : List Cl} {k : Nat} (hlt : k < l.length) (h : inR (at_ l k) = false) : good l = false := by
  simp [good, allTo_false hlt h]
theorem good_false_rise {l : List Cl} {k : Nat} (hlt : k < l.length) (h0 : 0 < k) (h : ltC (at_ l (k - 1)) (at_ l k) = false) : good l = false := by
  simp [good, risTo_false hlt h0 h]

theorem cell_new0 (w : World) (u v : Value) (t : TypeId) : (w.alloc (.cells #[u, v] t)).cell? ⟨w.heap.size, 0, none⟩ = some u := by unfold World.cell?; rw [heap_alloc_new]; rfl
theorem cell_new1 (w : World) (u v : Value) (t : TypeId) : (w.alloc (.cells #[u, v] t)).cell? ⟨w.heap.size, 1, none⟩ = some v := by unfold World.cell?; rw [heap_alloc_new]; rfl
theorem cell_old (w : World) (o : Obj) {b i : Nat} {v : Value} (h : w.cell? ⟨b, i, none⟩ = some v) (hb : b < w.heap.size) : (w.alloc o).cell? ⟨b, i, none⟩ = some v :=
  (((Below.refl _ _).alloc (Nat.le_refl _) o).cell (p := ⟨b, i, none⟩) hb).trans h

set_option maxHeartbeats 400000 in
theorem c_sGood (a : Option Addr) (l : List Cl) (ca : Nat) (w : World) (ha : Seg w a l) (hl : l.length ≤ 1048576) :
    Calls Tryz.prog 94 #[.slice a l.length ca] w fun e w' => e = .returned (.bool (good l)) ∧ Below w.heap.size w w' := by
  go_enter Tryz.func94, Tryz.ntmps94
  go_wp2
  go_loopw [7] (fun i wr => ∃ k : Nat, k ≤ l.length ∧ i = .int .i64 k ∧ Hid (allTo l k = true ∧ risTo l k = true) ∧ Below w.heap.size w wr) (fun i _ => l.length - (intOf i).toNat)
  case atStart => exact ⟨0, Nat.zero_le _, rfl, (⟨rfl, rfl⟩ : _ ∧ _), Below.refl _ _⟩
  case round =>
    obtain ⟨k, hk, rfl, hT, hbel⟩ := hrel
    by_cases hlt : k < l.length
    · obtain ⟨b1, o1, rfl, hb1, p1, p2⟩ := ha k hlt
      have g1 := (hbel.cell (p := ⟨b1, o1 + k * 2, none⟩) hb1).trans p1
      have g2 := (hbel.cell (p := ⟨b1, o1 + k * 2 + 1, none⟩) hb1).trans p2
      change _ = some (Value.int .i64 (at_ l k).1) at g1
      change _ = some (Value.int .i64 (at_ l k).2) at g2
      clear p1 p2
      have hw1 : b1 < wr.heap.size := Nat.lt_of_lt_of_le hb1 hbel.size
      have k0 : (0 : Int) ≤ (k : Int) := by omega
      have k1 : (k : Int) < (l.length : Int) := by omega
      have HG1 := hid (good_false_reach hlt)
      have HG2 := hid (good_false_rise hlt)
      have HA := hid (allTo_succ l k)
      have HR := hid (risTo_succ l k)
      have hprev : ∀ j, j < l.length → wr.cell? ⟨b1, o1 + j * 2, none⟩ = some (.int .i64 (at_ l j).1) ∧ wr.cell? ⟨b1, o1 + j * 2 + 1, none⟩ = some (.int .i64 (at_ l j).2) := by
        intro j hj
        obtain ⟨b2, o2, e2, hb2, q1, q2⟩ := ha j hj
        simp only [Option.some.injEq, Addr.mk.injEq, and_true] at e2
        obtain ⟨rfl, rfl⟩ := e2
        exact ⟨(hbel.cell (p := ⟨b1, _, none⟩) hb1).trans q1, (hbel.cell (p := ⟨b1, _, none⟩) hb1).trans q2⟩
      have HP := hid (hprev (k - 1) (by omega))
      clear hprev ha
      generalize at_ l k = x at *
      generalize at_ l (k - 1) = y at *
      have n0 := fun g : Gr (wr.alloc (.cells #[.int .i64 x.1, .int .i64 x.2] 41)) => g.cell (cell_new0 wr (.int .i64 x.1) (.int .i64 x.2) 41) (by simp)
      have n1 := fun g : Gr (wr.alloc (.cells #[.int .i64 x.1, .int .i64 x.2] 41)) => g.cell (cell_new1 wr (.int .i64 x.1) (.int .i64 x.2) 41) (by simp)
      have hne := Gr.ne (wr.alloc (.cells #[.int .i64 x.1, .int .i64 x.2] 41))
      cases hin : inR x
      · go_wp2
        refine wp_region_gr (by kernel_rfl) (by kernel_rfl) ?_
        repeat (go_big_quiet_step (first | (go_at_call 127; exact Calls.gr _ (c_l1There' x false hin _))))
        refine wpQuiet_nil ?_
        rintro _ ⟨g, rfl⟩
        clear n0 n1
        go_wp2
        go_ret
        exact ⟨ret_bool (HG1.out hin).symm, (hbel.alloc hbel.size _).trans (g.below.mono (by simp; have := hbel.size; omega))⟩
      · by_cases hk0 : 0 < k
        · have m0 := fun g : Gr (wr.alloc (.cells #[.int .i64 x.1, .int .i64 x.2] 41)) => g.cell (cell_old wr (.cells #[.int .i64 x.1, .int .i64 x.2] 41) HP.out.1 hw1) (by simp; omega)
          have m1 := fun g : Gr (wr.alloc (.cells #[.int .i64 x.1, .int .i64 x.2] 41)) => g.cell (cell_old wr (.cells #[.int .i64 x.1, .int .i64 x.2] 41) HP.out.2 hw1) (by simp; omega)
          cases hin2 : ltC y x
          · go_wp2
            refine wp_region_gr (by kernel_rfl) (by kernel_rfl) ?_
            repeat (go_big_quiet_step (first | (go_at_call 127; exact Calls.gr _ (c_l1There' x true hin _)) | (go_at_call 128; exact Calls.gr _ (c_l1Less' y x false hin2 _))))
            refine wpQuiet_nil ?_
            rintro _ ⟨g, rfl⟩
            clear n0 n1 m0 m1
            go_wp2
            go_ret
            exact ⟨ret_bool (HG2.out hk0 hin2).symm, (hbel.alloc hbel.size _).trans (g.below.mono (by simp; have := hbel.size; omega))⟩
          · go_wp2
            refine wp_region_gr (by kernel_rfl) (by kernel_rfl) ?_
            repeat (go_big_quiet_step (first | (go_at_call 127; exact Calls.gr _ (c_l1There' x true hin _)) | (go_at_call 128; exact Calls.gr _ (c_l1Less' y x true hin2 _))))
            refine wpQuiet_nil ?_
            rintro _ ⟨g, rfl⟩
            clear n0 n1 m0 m1
            go_wp2
            go_roundw
            case rel => exact ⟨k + 1, by omega, by go_num, (show _ ∧ _ from ⟨by rw [HA.out, hT.out.1, hin]; rfl, by rw [HR.out, hT.out.2, hin2]; simp⟩), (hbel.alloc hbel.size _).trans (g.below.mono (by simp; have := hbel.size; omega))⟩
            case measure => simp [intOf]; omega
        · have hk0' : decide ((0 : Int) < (k : Int)) = false := by simp; omega
          go_wp2
          refine wp_region_gr (by kernel_rfl) (by kernel_rfl) ?_
          repeat (go_big_quiet_step (first | (go_at_call 127; exact Calls.gr _ (c_l1There' x true hin _))))
          refine wpQuiet_nil ?_
          rintro _ ⟨g, rfl⟩
          clear n0 n1
          go_wp2
          go_roundw
          case rel => exact ⟨k + 1, by omega, by go_num, (show _ ∧ _ from ⟨by rw [HA.out, hT.out.1, hin]; rfl, by rw [HR.out, hT.out.2, show k = 0 by omega]; simp⟩), (hbel.alloc hbel.size _).trans (g.below.mono (by simp; have := hbel.size; omega))⟩
          case measure => simp [intOf]; omega
    · go_wp2
      go_ret
      have : k = l.length := by omega
      subst this
      exact ⟨ret_bool (by simp [good, hT.out.1, hT.out.2]; omega), hbel⟩

theorem c_allInReach' (a : Option Addr) (l : List Cl) (ca : Nat) (v : Bool) (h : allTo l l.length = v) (w : World) (ha : Seg w a l) (hl : l.length ≤ 1048576) :
    Calls Tryz.prog 112 #[.slice a l.length ca] w fun e w' => e = .returned (.bool v) ∧ Below w.heap.size w w' := by
  rw [← h]; exact c_allInReach a l ca w ha hl

set_option maxHeartbeats 400000 in
theorem c_iGood (a : Option Addr) (l : List Cl) (ca : Nat) (w : World) (ha : Seg w a l) (hl : l.length ≤ 1048576) :
    Calls Tryz.prog 69 #[.slice a l.length ca] w fun e w' => e = .returned (.bool (good l)) ∧ Below w.heap.size w w' := by
  by_cases h1 : l.length ≤ 120
  · cases h2 : allTo l l.length
    · go_enter Tryz.func69, Tryz.ntmps69
      go_wp2_with (go_at_call 112; refine (c_allInReach' a l ca false h2 _ ha hl).mono ?_; rintro e w1 ⟨rfl, hb1⟩)
      go_ret
      exact ⟨ret_bool (by simp [good, h2]), hb1⟩
    · go_enter Tryz.func69, Tryz.ntmps69
      go_wp2_with (first | (go_at_call 112; refine (c_allInReach' a l ca true h2 _ ha hl).mono ?_; rintro e w1 ⟨rfl, hb1⟩) | (go_at_call 113; refine (c_areRising a l ca _ (ha.below hb1) hl).mono ?_; rintro e w2 ⟨rfl, hb2⟩))
      go_ret
      exact ⟨ret_bool (by simp [good, h1, h2]), hb1.trans (hb2.mono hb1.size)⟩
  · go_enter Tryz.func69, Tryz.ntmps69
    go_wp2
    go_ret
    exact ⟨ret_bool (by simp [good, h1]), Below.refl _ _⟩

end Go.Proofs.YtokemdbgcegjiaaGreat

namespace Go.Proofs.YtokemdbgcegjiaaGreat
open Go.RowKit
set_option linter.unusedVariables false
attribute [local go_sem ↓] Go.wp_at_zero Go.wp_at_succ

/-- A quad: its level and its kids. -/
abbrev Qd := Int × List Int
def qa (F : List Qd) (i : Nat) : Qd := F.getD i (0, [])
def ia (l : List Int) (i : Nat) : Int := l.getD i 0
/-- The numbers of a slice. -/
def ISeg (w : World) (a : Option Addr) (l : List Int) : Prop :=
  ∀ i, i < l.length → ∃ b o, a = some ⟨b, o, none⟩ ∧ b < w.heap.size ∧ w.cell? ⟨b, o + i, none⟩ = some (.int .i64 (ia l i))
theorem ISeg.below {w w' : World} {a : Option Addr} {l : List Int} (h : ISeg w a l) (hb : Below w.heap.size w w') : ISeg w' a l := by
  intro i hi
  obtain ⟨b, o, rfl, hlt, h1⟩ := h i hi
  exact ⟨b, o, rfl, Nat.lt_of_lt_of_le hlt hb.size, (hb.cell (p := ⟨b, _, none⟩) hlt).trans h1⟩
/-- The quads of a slice. -/
def QSeg (w : World) (a : Option Addr) (F : List Qd) : Prop :=
  ∀ i, i < F.length → ∃ b o ak ck, a = some ⟨b, o, none⟩ ∧ b < w.heap.size ∧ w.cell? ⟨b, o + i * 2, none⟩ = some (.int .i64 (qa F i).1) ∧ w.cell? ⟨b, o + i * 2 + 1, none⟩ = some (.slice ak (qa F i).2.length ck) ∧ ISeg w ak (qa F i).2 ∧ (qa F i).2.length ≤ ck
theorem QSeg.below {w w' : World} {a : Option Addr} {F : List Qd} (h : QSeg w a F) (hb : Below w.heap.size w w') : QSeg w' a F := by
  intro i hi
  obtain ⟨b, o, ak, ck, rfl, hlt, h1, h2, h3, h4⟩ := h i hi
  exact ⟨b, o, ak, ck, rfl, Nat.lt_of_lt_of_le hlt hb.size, (hb.cell (p := ⟨b, _, none⟩) hlt).trans h1, (hb.cell (p := ⟨b, _, none⟩) hlt).trans h2, h3.below hb, h4⟩
/-- The kids of each quad are at most so many. -/
def KidsLe (F : List Qd) : Prop := ∀ i, i < F.length → (qa F i).2.length ≤ 1048576

theorem ia_take {l m : List Int} {k : Nat} (h1 : k < l.length) (h2 : k < m.length) (ht : l.take k = m.take k) (h : ia l k = ia m k) : l.take (k + 1) = m.take (k + 1) := by
  rw [List.take_succ_eq_append_getElem h1, List.take_succ_eq_append_getElem h2, ht]
  simp [ia, h1, h2] at h
  rw [h]
theorem qa_take {l m : List Qd} {k : Nat} (h1 : k < l.length) (h2 : k < m.length) (ht : l.take k = m.take k) (h : qa l k = qa m k) : l.take (k + 1) = m.take (k + 1) := by
  rw [List.take_succ_eq_append_getElem h1, List.take_succ_eq_append_getElem h2, ht]
  simp [qa, h1, h2] at h
  rw [h]

set_option maxHeartbeats 400000 in
theorem c_eqIntS (a b : Option Addr) (l m : List Int) (ca cb : Nat) (w : World) (ha : ISeg w a l) (hb : ISeg w b m) (hl : l.length ≤ 1048576) (hm : m.length ≤ 1048576) :
    Calls Tryz.prog 43 #[.slice a l.length ca, .slice b m.length cb] w fun e w' => e = .returned (.bool (decide (l = m))) ∧ Below w.heap.size w w' := by
  by_cases hlm : l.length = m.length
  · have hlm' : ((l.length : Int) != (m.length : Int)) = false := by simp [hlm]
    have HLM : Hid (l.length = m.length) := hlm
    have hle : l.length ≤ m.length := by omega
    clear hlm
    go_enter Tryz.func43, Tryz.ntmps43
    go_wp2
    go_loopw [5] (fun i wr => ∃ k : Nat, k ≤ l.length ∧ i = .int .i64 k ∧ Hid (l.take k = m.take k) ∧ Below w.heap.size w wr) (fun i _ => l.length - (intOf i).toNat)
    case atStart => exact ⟨0, Nat.zero_le _, rfl, (rfl : _ = _), Below.refl _ _⟩
    case round =>
      obtain ⟨k, hk, rfl, ht, hbel⟩ := hrel
      by_cases hlt : k < l.length
      · obtain ⟨b1, o1, rfl, hb1, p1⟩ := (ha k hlt)
        obtain ⟨b2, o2, rfl, hb2, q1⟩ := (hb k (by omega))
        have g1 := (hbel.cell (p := ⟨b1, o1 + k, none⟩) hb1).trans p1
        have g3 := (hbel.cell (p := ⟨b2, o2 + k, none⟩) hb2).trans q1
        clear p1 q1
        have k0 : (0 : Int) ≤ (k : Int) := by omega
        have k1 : (k : Int) < (l.length : Int) := by omega
        have k2 : (k : Int) < (m.length : Int) := by omega
        by_cases hxy : ia l k = ia m k
        · have hd : (ia l k != ia m k) = false := by simp [hxy]
          have HXY := hid (hxy)
          clear hxy
          go_wp2
          go_region
          go_wp2
          go_roundw
          case rel => exact ⟨k + 1, by omega, by go_num, ia_take hlt (by omega) ht.out HXY.out, hbel.drew⟩
          case measure => simp [intOf]; omega
        · have hd : (ia l k != ia m k) = true := by simp [hxy]
          have HXY := hid (hxy)
          clear hxy
          go_wp2
          go_region
          go_wp2
          go_ret
          exact ⟨ret_bool (by simp; intro e; subst e; exact HXY.out rfl), hbel.drew⟩
      · go_wp2
        go_ret
        have e1 : l.take k = l := List.take_of_length_le (by omega)
        have e2 : m.take k = m := List.take_of_length_le (by have := HLM.out; omega)
        have e3 := ht.out
        rw [e1, e2] at e3
        exact ⟨ret_bool (by simp [e3]), hbel⟩
  · have hlm' : ((l.length : Int) != (m.length : Int)) = true := by simp; omega
    go_enter Tryz.func43, Tryz.ntmps43
    go_wp2
    go_ret
    exact ⟨ret_bool (by simp; intro e; exact hlm (by rw [e])), Below.refl _ _⟩

set_option maxHeartbeats 400000 in
theorem c_l3Same (a b : Option Addr) (l m : List Int) (ca cb : Nat) (w : World) (ha : ISeg w a l) (hb : ISeg w b m) (hl : l.length ≤ 1048576) (hm : m.length ≤ 1048576) :
    Calls Tryz.prog 106 #[.slice a l.length ca, .slice b m.length cb] w fun e w' => e = .returned (.bool (decide (l = m))) ∧ Below w.heap.size w w' := by
  by_cases hlm : l.length = m.length
  · have hlm' : ((l.length : Int) != (m.length : Int)) = false := by simp [hlm]
    have HLM : Hid (l.length = m.length) := hlm
    have hle : l.length ≤ m.length := by omega
    clear hlm
    go_enter Tryz.func106, Tryz.ntmps106
    go_wp2
    go_loopw [13] (fun i wr => ∃ k : Nat, k ≤ l.length ∧ i = .int .i64 k ∧ Hid (l.take k = m.take k) ∧ Below w.heap.size w wr) (fun i _ => l.length - (intOf i).toNat)
    case atStart => exact ⟨0, Nat.zero_le _, rfl, (rfl : _ = _), Below.refl _ _⟩
    case round =>
      obtain ⟨k, hk, rfl, ht, hbel⟩ := hrel
      by_cases hlt : k < l.length
      · obtain ⟨b1, o1, rfl, hb1, p1⟩ := (ha k hlt)
        obtain ⟨b2, o2, rfl, hb2, q1⟩ := (hb k (by omega))
        have g1 := (hbel.cell (p := ⟨b1, o1 + k, none⟩) hb1).trans p1
        have g3 := (hbel.cell (p := ⟨b2, o2 + k, none⟩) hb2).trans q1
        clear p1 q1
        have k0 : (0 : Int) ≤ (k : Int) := by omega
        have k1 : (k : Int) < (l.length : Int) := by omega
        have k2 : (k : Int) < (m.length : Int) := by omega
        by_cases hxy : ia l k = ia m k
        · have hd : (ia l k != ia m k) = false := by simp [hxy]
          have HXY := hid (hxy)
          clear hxy
          go_wp2
          go_region
          go_wp2
          go_roundw
          case rel => exact ⟨k + 1, by omega, by go_num, ia_take hlt (by omega) ht.out HXY.out, hbel.drew⟩
          case measure => simp [intOf]; omega
        · have hd : (ia l k != ia m k) = true := by simp [hxy]
          have HXY := hid (hxy)
          clear hxy
          go_wp2
          go_region
          go_wp2
          go_ret
          exact ⟨ret_bool (by simp; intro e; subst e; exact HXY.out rfl), hbel.drew⟩
      · go_wp2
        go_ret
        have e1 : l.take k = l := List.take_of_length_le (by omega)
        have e2 : m.take k = m := List.take_of_length_le (by have := HLM.out; omega)
        have e3 := ht.out
        rw [e1, e2] at e3
        exact ⟨ret_bool (by simp [e3]), hbel⟩
  · have hlm' : ((l.length : Int) != (m.length : Int)) = true := by simp; omega
    go_enter Tryz.func106, Tryz.ntmps106
    go_wp2
    go_ret
    exact ⟨ret_bool (by simp; intro e; exact hlm (by rw [e])), Below.refl _ _⟩

set_option maxHeartbeats 400000 in
theorem c_eqQuad (q r : Qd) (a b : Option Addr) (ca cb : Nat) (w : World) (ha : ISeg w a q.2) (hb : ISeg w b r.2) (hl : q.2.length ≤ 1048576) (hm : r.2.length ≤ 1048576) :
    Calls Tryz.prog 126 #[.agg #[.int .i64 q.1, .slice a q.2.length ca], .agg #[.int .i64 r.1, .slice b r.2.length cb]] w fun e w' => e = .returned (.bool (decide (q = r))) ∧ Below w.heap.size w w' := by
  obtain ⟨x, l⟩ := q
  obtain ⟨y, m⟩ := r
  dsimp only at *
  have B2 := hid (((Below.refl w.heap.size w).alloc (Nat.le_refl _) (.cells #[.int .i64 x, .slice a l.length ca] 92)).alloc (by simp) (.cells #[.int .i64 y, .slice b m.length cb] 92))
  by_cases hxy : x = y
  · have hd : (x != y) = false := by simp [hxy]
    have HXY := hid hxy
    clear hxy
    have HC := hid (c_eqIntS a b l m ca cb _ (ha.below B2.out) (hb.below B2.out) hl hm)
    cases hlm : decide (l = m)
    · rw [hlm] at HC
      go_enter Tryz.func126, Tryz.ntmps126
      go_wp2_with fail
      refine HC.out.mono ?_
      rintro e w1 ⟨rfl, hb1⟩
      clear HC
      go_wp2
      go_ret
      exact ⟨ret_bool (by symm; simp at hlm; simp; intro _; exact hlm), Below.then B2.out hb1 (by simp; omega)⟩
    · rw [hlm] at HC
      go_enter Tryz.func126, Tryz.ntmps126
      go_wp2_with fail
      refine HC.out.mono ?_
      rintro e w1 ⟨rfl, hb1⟩
      clear HC
      go_wp2
      go_ret
      exact ⟨ret_bool (by symm; simp at hlm; simp [HXY.out, hlm]), Below.then B2.out hb1 (by simp; omega)⟩
  · have hd : (x != y) = true := by simp [hxy]
    go_enter Tryz.func126, Tryz.ntmps126
    go_wp2
    go_ret
    exact ⟨ret_bool (by symm; simp [hxy]), B2.out⟩

theorem c_eqQuad' (q r : Qd) (v : Bool) (hv : decide (q = r) = v) (a b : Option Addr) (ca cb : Nat) (w : World) (ha : ISeg w a q.2) (hb : ISeg w b r.2) (hl : q.2.length ≤ 1048576) (hm : r.2.length ≤ 1048576) :
    Calls Tryz.prog 126 #[.agg #[.int .i64 q.1, .slice a q.2.length ca], .agg #[.int .i64 r.1, .slice b r.2.length cb]] w fun e w' => e = .returned (.bool v) ∧ Below w.heap.size w w' := by
  rw [← hv]; exact c_eqQuad q r a b ca cb w ha hb hl hm

set_option maxHeartbeats 1000000 in
theorem c_eqQuadS (a b : Option Addr) (l m : List Qd) (ca cb : Nat) (w : World) (ha : QSeg w a l) (hb : QSeg w b m) (hl : l.length ≤ 1048576) (hm : m.length ≤ 1048576) (hkl : KidsLe l) (hkm : KidsLe m) :
    Calls Tryz.prog 91 #[.slice a l.length ca, .slice b m.length cb] w fun e w' => e = .returned (.bool (decide (l = m))) ∧ Below w.heap.size w w' := by
  by_cases hlm : l.length = m.length
  · have hlm' : ((l.length : Int) != (m.length : Int)) = false := by simp [hlm]
    have HLM : Hid (l.length = m.length) := hlm
    have hle : l.length ≤ m.length := by omega
    clear hlm
    go_enter Tryz.func91, Tryz.ntmps91
    go_wp2
    go_loopw [5] (fun i wr => ∃ k : Nat, k ≤ l.length ∧ i = .int .i64 k ∧ Hid (l.take k = m.take k) ∧ Below w.heap.size w wr) (fun i _ => l.length - (intOf i).toNat)
    case atStart => exact ⟨0, Nat.zero_le _, rfl, (rfl : _ = _), Below.refl _ _⟩
    case round =>
      obtain ⟨k, hk, rfl, ht, hbel⟩ := hrel
      by_cases hlt : k < l.length
      · obtain ⟨b1, o1, a1, c1, rfl, hb1, p1, p2, p3, _⟩ := (ha k hlt)
        obtain ⟨b2, o2, a2, c2, rfl, hb2, q1, q2, q3, _⟩ := (hb k (by omega))
        have hw1 : b1 < wr.heap.size := Nat.lt_of_lt_of_le hb1 hbel.size
        have hw2 : b2 < wr.heap.size := Nat.lt_of_lt_of_le hb2 hbel.size
        have g1 := fun g : Gr wr => g.cell ((hbel.cell (p := ⟨b1, o1 + k * 2, none⟩) hb1).trans p1) hw1
        have g2 := fun g : Gr wr => g.cell ((hbel.cell (p := ⟨b1, o1 + k * 2 + 1, none⟩) hb1).trans p2) hw1
        have g3 := fun g : Gr wr => g.cell ((hbel.cell (p := ⟨b2, o2 + k * 2, none⟩) hb2).trans q1) hw2
        have g4 := fun g : Gr wr => g.cell ((hbel.cell (p := ⟨b2, o2 + k * 2 + 1, none⟩) hb2).trans q2) hw2
        have P3 := hid fun g : Gr wr => (p3.below hbel).below g.below
        have Q3 := hid fun g : Gr wr => (q3.below hbel).below g.below
        have n1 := hkl k hlt
        have n2 := hkm k (by omega)
        clear p1 p2 p3 q1 q2 q3
        have hne := Gr.ne wr
        generalize hx : qa l k = x at *
        generalize hy : qa m k = y at *
        have HX := hid (hx)
        have HY := hid (hy)
        clear hx hy
        have k0 : (0 : Int) ≤ (k : Int) := by omega
        have k1 : (k : Int) < (l.length : Int) := by omega
        have k2 : (k : Int) < (m.length : Int) := by omega
        cases hxy : decide (x = y)
        · go_wp2
          refine wp_region_gr (by kernel_rfl) (by kernel_rfl) ?_
          repeat (go_big_quiet_step (first | (go_at_call 126; exact Calls.gr _ (c_eqQuad' x y false hxy _ _ _ _ _ (P3.out _) (Q3.out _) n1 n2))))
          refine wpQuiet_nil ?_
          rintro _ ⟨g, rfl⟩
          clear g1 g2 g3 g4
          go_wp2
          go_ret
          refine ⟨ret_bool ?_, hbel.trans (g.below.mono hbel.size)⟩
          symm
          simp only [decide_eq_false_iff_not] at hxy ⊢
          intro e
          subst e
          exact hxy (HX.out.symm.trans HY.out)
        · go_wp2
          refine wp_region_gr (by kernel_rfl) (by kernel_rfl) ?_
          repeat (go_big_quiet_step (first | (go_at_call 126; exact Calls.gr _ (c_eqQuad' x y true hxy _ _ _ _ _ (P3.out _) (Q3.out _) n1 n2))))
          refine wpQuiet_nil ?_
          rintro _ ⟨g, rfl⟩
          clear g1 g2 g3 g4
          go_wp2
          go_roundw
          case rel => exact ⟨k + 1, by omega, by go_num, qa_take hlt (by omega) ht.out (by rw [HX.out, HY.out]; simpa using hxy), hbel.trans (g.below.mono hbel.size)⟩
          case measure => simp [intOf]; omega
      · go_wp2
        go_ret
        have e1 : l.take k = l := List.take_of_length_le (by omega)
        have e2 : m.take k = m := List.take_of_length_le (by have := HLM.out; omega)
        have e3 := ht.out
        rw [e1, e2] at e3
        exact ⟨ret_bool (by simp [e3]), hbel⟩
  · have hlm' : ((l.length : Int) != (m.length : Int)) = true := by simp; omega
    go_enter Tryz.func91, Tryz.ntmps91
    go_wp2
    go_ret
    exact ⟨ret_bool (by simp; intro e; exact hlm (by rw [e])), Below.refl _ _⟩

set_option maxHeartbeats 400000 in
theorem c_eqForest (a b : Option Addr) (l m : List Qd) (ca cb : Nat) (w : World) (ha : QSeg w a l) (hb : QSeg w b m) (hl : l.length ≤ 1048576) (hm : m.length ≤ 1048576) (hkl : KidsLe l) (hkm : KidsLe m) :
    Calls Tryz.prog 40 #[.agg #[.slice a l.length ca], .agg #[.slice b m.length cb]] w fun e w' => e = .returned (.bool (decide (l = m))) ∧ Below w.heap.size w w' := by
  have B2 := hid (((Below.refl w.heap.size w).alloc (Nat.le_refl _) (.cells #[.slice a l.length ca] 25)).alloc (by simp) (.cells #[.slice b m.length cb] 25))
  have HC := hid (c_eqQuadS a b l m ca cb _ (ha.below B2.out) (hb.below B2.out) hl hm hkl hkm)
  cases hlm : decide (l = m)
  all_goals
    rw [hlm] at HC
    go_enter Tryz.func40, Tryz.ntmps40
    go_wp2_with fail
    refine HC.out.mono ?_
    rintro e w1 ⟨rfl, hb1⟩
    clear HC
    go_wp2
    go_ret
    exact ⟨rfl, Below.then B2.out hb1 (by simp; omega)⟩

end Go.Proofs.YtokemdbgcegjiaaGreat

namespace Go.Proofs.YtokemdbgcegjiaaGreat
open Go.RowKit
set_option linter.unusedVariables false
attribute [local go_sem ↓] Go.wp_at_zero Go.wp_at_succ

theorem info_int : (Tryz.prog.info? 3).map (fun i => (i.zero, i.size, i.bytes)) = some (some (.int .i64 0), 1, 8) := by kernel_rfl
theorem info_Quad : (Tryz.prog.info? 92).map (fun i => (i.zero, i.size, i.bytes)) = some (some (.agg #[.int .i64 0, .slice none 0 0]), 2, 32) := by kernel_rfl
theorem make_Ints (n : Nat) (hn : n ≤ 1048576) (w : World) :
    (Instr.makeSlice 46 (.int .i64 (n : Int)) (.int .i64 (n : Int))).run Tryz.prog w = .ok (.slice (some ⟨w.heap.size, 0, none⟩) n n) (w.alloc (.cells (madeCells #[.int .i64 0] n) 3)) := by
  obtain ⟨i, hi, hz, hs, hb⟩ := info_parts info_int
  have := run_make (P := Tryz.prog) w 46 3 i _ Tryz.underlying46 hi hz .i64 .i64 n n (by omega) (Int.le_refl _) (by rw [hb]; omega) (by omega)
  simpa [hs, Value.cells] using this
theorem make_Quads (n : Nat) (hn : n ≤ 1048576) (w : World) :
    (Instr.makeSlice 23 (.int .i64 (n : Int)) (.int .i64 (n : Int))).run Tryz.prog w = .ok (.slice (some ⟨w.heap.size, 0, none⟩) n n) (w.alloc (.cells (madeCells #[.int .i64 0, .slice none 0 0] (n * 2)) 92)) := by
  obtain ⟨i, hi, hz, hs, hb⟩ := info_parts info_Quad
  have := run_make (P := Tryz.prog) w 23 92 i _ Tryz.underlying23 hi hz .i64 .i64 n n (by omega) (Int.le_refl _) (by rw [hb]; omega) (by omega)
  simpa [hs, Value.cells] using this

/-- The numbers l are all of block g. -/
def IRow (w : World) (g : Nat) (l : List Int) : Prop := w.rowIs g 3 l.length (fun j => .int .i64 (ia l j))
theorem IRow.seg {w : World} {g : Nat} {l : List Int} (h : IRow w g l) : ISeg w (some ⟨g, 0, none⟩) l := by
  intro i hi
  refine ⟨g, 0, rfl, h.lt, ?_⟩
  have := World.rowIs.cell h (i := i) hi
  simpa using this
theorem IRow.below {w w' : World} {g : Nat} {l : List Int} (h : IRow w g l) (hb : Below w.heap.size w w') : IRow w' g l := h.of_block (hb.block _ h.lt)
def intTo (l : List Int) (k j : Nat) : Value := .int .i64 (if j < k then ia l j else 0)

set_option maxHeartbeats 400000 in
theorem c_toIntS (a : Option Addr) (l : List Int) (ca : Nat) (w : World) (ha : ISeg w a l) (hl : l.length ≤ 1048576) :
    Calls Tryz.prog 144 #[.slice a l.length ca] w fun e w' => e = .returned (.slice (some ⟨w.heap.size, 0, none⟩) l.length l.length) ∧ IRow w' w.heap.size l ∧ Below w.heap.size w w' := by
  have hmk := make_Ints l.length hl
  have R0 := hid ((World.rowIs_made w (.int .i64 0) l.length 3).congr (g := intTo l 0) fun i hi => by simp [intTo])
  go_enter Tryz.func144, Tryz.ntmps144
  go_wp2
  go_loopw [4] (fun i wr => ∃ k : Nat, k ≤ l.length ∧ i = .int .i64 k ∧ wr.rowIs w.heap.size 3 l.length (intTo l k) ∧ Below w.heap.size w wr) (fun i _ => l.length - (intOf i).toNat)
  case atStart => exact ⟨0, Nat.zero_le _, rfl, R0.out, (Below.refl _ _).alloc (Nat.le_refl _) _⟩
  case round =>
    clear R0 hmk
    obtain ⟨k, hk, rfl, hR, hbel⟩ := hrel
    by_cases hlt : k < l.length
    · obtain ⟨b1, o1, rfl, hb1, p1⟩ := ha k hlt
      have g1 := (hbel.cell (p := ⟨b1, o1 + k, none⟩) hb1).trans p1
      clear p1
      have k0 : (0 : Int) ≤ (k : Int) := by omega
      have k1 : (k : Int) < (l.length : Int) := by omega
      have c1 := hR.cell (i := k) (by omega)
      have f1 := hR.frozen k
      have hR' := hid hR
      clear hR
      go_wp2
      go_roundw
      case rel =>
        refine ⟨k + 1, by omega, by go_num, (hR'.out.set k _).congr fun j hj => ?_, hbel.setCell (Nat.le_refl _) _⟩
        by_cases e : j = k
        · subst e; simp [intTo]
        · have e2 : (j < k + 1) = (j < k) := by apply propext; omega
          simp [intTo, e, e2]
      case measure => simp [intOf]; omega
    · go_wp2
      go_ret
      have : k = l.length := by omega
      subst this
      exact ⟨rfl, hR.congr fun j hj => by simp [intTo, hj], hbel⟩

theorem two_row {w : World} {g : Nat} {t : TypeId} {u v : Value} (h : w.heap[g]? = some (.cells #[u, v] t)) : w.rowIs g t 2 (fun j => if j = 0 then u else v) := by
  refine ⟨_, h, rfl, fun i hi => ?_⟩
  rcases (show i = 0 ∨ i = 1 by omega) with rfl | rfl <;> rfl
theorem one_row {w : World} {g : Nat} {t : TypeId} {u : Value} (h : w.heap[g]? = some (.cells #[u] t)) : w.rowIs g t 1 (fun _ => u) := by
  refine ⟨_, h, rfl, fun i hi => ?_⟩
  have e : i = 0 := by omega
  subst e; rfl
theorem alloc_lt_of {w : World} {o : Obj} {g : Nat} (h : g < w.heap.size) : g < (w.alloc o).heap.size := by simp; omega

set_option maxHeartbeats 1000000 in
theorem c_toQuad (q : Qd) (a : Option Addr) (ca : Nat) (w : World) (ha : ISeg w a q.2) (hl : q.2.length ≤ 1048576) :
    Calls Tryz.prog 125 #[.agg #[.int .i64 q.1, .slice a q.2.length ca]] w fun e w' => e = .returned (.agg #[.int .i64 q.1, .slice (some ⟨w.heap.size + 3, 0, none⟩) q.2.length q.2.length]) ∧ IRow w' (w.heap.size + 3) q.2 ∧ Below w.heap.size w w' := by
  obtain ⟨x, l⟩ := q
  dsimp only at *
  obtain ⟨W1, hW1⟩ : ∃ W1, W1 = w.alloc (.cells #[.int .i64 x, .slice a l.length ca] 154) := ⟨_, rfl⟩
  obtain ⟨W2, hW2⟩ : ∃ W2, W2 = W1.alloc (.cells #[.int .i64 0, .slice none 0 0] 92) := ⟨_, rfl⟩
  obtain ⟨W3, hW3⟩ : ∃ W3, W3 = W2.alloc (.cells #[.int .i64 x, .slice none 0 0] 92) := ⟨_, rfl⟩
  have s1 : W1.heap.size = w.heap.size + 1 := by rw [hW1]; simp
  have s2 : W2.heap.size = w.heap.size + 1 + 1 := by rw [hW2]; simp [s1]
  have s3 : W3.heap.size = w.heap.size + 3 := by rw [hW3]; simp [s2]
  have R1 : W2.rowIs (w.heap.size + 1) 92 2 (fun j => if j = 0 then .int .i64 0 else .slice none 0 0) := by
    rw [← s1, hW2]; exact two_row (heap_alloc_new _ _)
  have R2 : W3.rowIs (w.heap.size + 1 + 1) 92 2 (fun j => if j = 0 then .int .i64 x else .slice none 0 0) := by
    rw [← s2, hW3]; exact two_row (heap_alloc_new _ _)
  have R1' : W3.rowIs (w.heap.size + 1) 92 2 (fun j => if j = 0 then .int .i64 0 else .slice none 0 0) := by
    rw [hW3]; exact R1.alloc _
  have B3 : Below w.heap.size w W3 := by
    rw [hW3, hW2, hW1]
    exact (((Below.refl _ _).alloc (Nat.le_refl _) _).alloc (by simp) _).alloc (by simp; omega) _
  have HC := hid (c_toIntS a l ca _ (ha.below B3) hl)
  have HB := hid B3
  have H1 := hid R1'
  have H2 := hid R2
  rw [s3] at HC
  have HS := hid s3
  have hW : Hid (W3 = ((w.alloc (.cells #[.int .i64 x, .slice a l.length ca] 154)).alloc (.cells #[.int .i64 0, .slice none 0 0] 92)).alloc (.cells #[.int .i64 x, .slice none 0 0] 92)) := by
    show _ = _
    rw [hW3, hW2, hW1]
  rw [hW.out] at HC HB H1 H2 HS
  clear hW R1' B3 R1 R2 s1 s2 s3 hW1 hW2 hW3 ha
  clear W1 W2 W3
  go_enter Tryz.func125, Tryz.ntmps125
  go_wp2_with fail
  refine HC.out.mono ?_
  rintro e w1 ⟨rfl, hR, hb1⟩
  have K1 := H1.out.of_block (hb1.block _ (by omega))
  have K2 := H2.out.of_block (hb1.block _ (by omega))
  have c0 := K1.cell (i := 0) (by omega)
  have c1 := K1.cell (i := 1) (by omega)
  have f0 := K1.frozen 0
  have f1 := K1.frozen 1
  have c2 := K2.cell (i := 0) (by omega)
  have c3 := K2.cell (i := 1) (by omega)
  have f2 := K2.frozen 0
  have f3 := K2.frozen 1
  have HR := hid hR
  have BB := hid (HB.out.trans (hb1.mono (by omega)))
  have e0 := ((K1.setOther (a := ⟨w.heap.size + 1 + 1, 1, none⟩) (by dsimp only; omega) (.slice (some ⟨w.heap.size + 3, 0, none⟩) l.length l.length)).set 0 (.int .i64 x)).cell (i := 0) (by omega)
  have e1 := (((K1.setOther (a := ⟨w.heap.size + 1 + 1, 1, none⟩) (by dsimp only; omega) (.slice (some ⟨w.heap.size + 3, 0, none⟩) l.length l.length)).set 0 (.int .i64 x)).set 1 (.slice (some ⟨w.heap.size + 3, 0, none⟩) l.length l.length)).cell (i := 1) (by omega)
  simp only [if_true] at e0 e1
  have E0 := hid e0
  have E1 := hid e1
  clear HC HB H1 H2 HS K1 K2 hR hb1 e0 e1
  simp only [if_true, if_false, Nat.one_ne_zero] at c0 c1 c2 c3
  go_wp2
  refine bodyPost_ret (v := .agg #[.int .i64 x, .slice (some ⟨w.heap.size + 3, 0, none⟩) l.length l.length]) (by simp [results, Tryz.results125, go_sem, E0.out, E1.out]) rfl ⟨rfl, ?_, ?_⟩
  · exact ((HR.out.setOther (by dsimp only; omega) _).setOther (by dsimp only; omega) _).setOther (by dsimp only; omega) _
  · exact ((BB.out.setCell (by dsimp only; omega) _).setCell (by dsimp only; omega) _).setCell (by dsimp only; omega) _

/-- What stands in a row of quads of which the first k are laid, kid i's in block ks i. -/
def quadTo (F : List Qd) (ks : Nat → Nat) (k j : Nat) : Value :=
  if j % 2 = 0 then .int .i64 (if j / 2 < k then (qa F (j / 2)).1 else 0) else (if j / 2 < k then .slice (some ⟨ks (j / 2), 0, none⟩) (qa F (j / 2)).2.length (qa F (j / 2)).2.length else .slice none 0 0)
theorem quadTo_even (F : List Qd) (ks : Nat → Nat) (k i : Nat) : quadTo F ks k (i * 2) = .int .i64 (if i < k then (qa F i).1 else 0) := by
  simp [quadTo]
theorem quadTo_odd (F : List Qd) (ks : Nat → Nat) (k i : Nat) : quadTo F ks k (i * 2 + 1) = (if i < k then .slice (some ⟨ks i, 0, none⟩) (qa F i).2.length (qa F i).2.length else .slice none 0 0) := by
  have e1 : (i * 2 + 1) % 2 = 1 := by omega
  have e2 : (i * 2 + 1) / 2 = i := by omega
  simp [quadTo, e1, e2]
theorem quad_made (w : World) (F : List Qd) (ks : Nat → Nat) : (w.alloc (.cells (madeCells #[.int .i64 0, .slice none 0 0] (F.length * 2)) 92)).rowIs w.heap.size 92 (F.length * 2) (quadTo F ks 0) := by
  refine ⟨_, heap_alloc_new _ _, size_madeCells _ _, fun i hi => ?_⟩
  have h2 : i % 2 = 0 ∨ i % 2 = 1 := by omega
  rcases h2 with h2 | h2 <;> simp [madeCells, hi, h2, quadTo]
theorem quad_step {w : World} {g : Nat} {F : List Qd} {ks : Nat → Nat} {k : Nat} (b : Nat) (h : w.rowIs g 92 (F.length * 2) (quadTo F ks k)) :
    ((w.setCell ⟨g, k * 2, none⟩ (.int .i64 (qa F k).1)).setCell ⟨g, k * 2 + 1, none⟩ (.slice (some ⟨b, 0, none⟩) (qa F k).2.length (qa F k).2.length)).rowIs g 92 (F.length * 2) (quadTo F (fun i => if i = k then b else ks i) (k + 1)) := by
  refine ((h.set (k * 2) _).set (k * 2 + 1) _).congr fun j hj => ?_
  rcases (show j = j / 2 * 2 ∨ j = j / 2 * 2 + 1 by omega) with e | e
  · rw [e, quadTo_even, quadTo_even]
    generalize j / 2 = i
    by_cases h1 : i = k
    · subst h1
      rw [if_neg (by omega), if_pos rfl, if_pos (by omega)]
    · rw [if_neg (by omega), if_neg (by omega)]
      by_cases h2 : i < k
      · rw [if_pos h2, if_pos (by omega)]
      · rw [if_neg h2, if_neg (by omega)]
  · rw [e, quadTo_odd, quadTo_odd]
    generalize j / 2 = i
    by_cases h1 : i = k
    · subst h1
      rw [if_pos rfl, if_pos (by omega)]
      simp
    · rw [if_neg (by omega), if_neg (by omega)]
      by_cases h2 : i < k
      · rw [if_pos h2, if_pos (by omega), if_neg h1]
      · rw [if_neg h2, if_neg (by omega)]

/-- A forest that lies in memory of its own: the quads are all of block g, the kids of quad i all of block ks i, each behind the last. -/
structure QRow (w : World) (base g : Nat) (ks : Nat → Nat) (F : List Qd) (k : Nat) : Prop where
  low : base ≤ g
  row : w.rowIs g 92 (F.length * 2) (quadTo F ks k)
  kid : ∀ i, i < k → IRow w (ks i) (qa F i).2 ∧ g < ks i ∧ ∀ j, j < i → ks j < ks i
theorem QRow.below {w w' : World} {base g : Nat} {ks : Nat → Nat} {F : List Qd} {k : Nat} (h : QRow w base g ks F k) (hb : Below w.heap.size w w') : QRow w' base g ks F k :=
  ⟨h.low, h.row.of_block (hb.block _ h.row.lt), fun i hi => ⟨(h.kid i hi).1.below hb, (h.kid i hi).2⟩⟩
theorem QRow.seg {w : World} {base g : Nat} {ks : Nat → Nat} {F : List Qd} (h : QRow w base g ks F F.length) : QSeg w (some ⟨g, 0, none⟩) F := by
  intro i hi
  have c0 := h.row.cell (i := i * 2) (by omega)
  have c1 := h.row.cell (i := i * 2 + 1) (by omega)
  rw [quadTo_even, if_pos hi] at c0
  rw [quadTo_odd, if_pos hi] at c1
  exact ⟨g, 0, some ⟨ks i, 0, none⟩, (qa F i).2.length, rfl, h.row.lt, by simpa using c0, by simpa using c1, (h.kid i hi).1.seg, Nat.le_refl _⟩
theorem QRow.step {w : World} {base g : Nat} {ks : Nat → Nat} {F : List Qd} {k b : Nat} (h : QRow w base g ks F k) (hk : k < F.length) (hI : IRow w b (qa F k).2) (hg : g < b) (hlast : ∀ j, j < k → ks j < b) :
    QRow ((w.setCell ⟨g, k * 2, none⟩ (.int .i64 (qa F k).1)).setCell ⟨g, k * 2 + 1, none⟩ (.slice (some ⟨b, 0, none⟩) (qa F k).2.length (qa F k).2.length)) base g (fun i => if i = k then b else ks i) F (k + 1) := by
  refine ⟨h.low, quad_step b h.row, fun i hi => ?_⟩
  by_cases e : i = k
  · subst e
    rw [if_pos rfl]
    refine ⟨(hI.setOther (by dsimp only; omega) _).setOther (by dsimp only; omega) _, hg, fun j hj => ?_⟩
    rw [if_neg (by omega)]
    exact hlast j hj
  · have hi' : i < k := by omega
    obtain ⟨h1, h2, h3⟩ := h.kid i hi'
    rw [if_neg e]
    refine ⟨(h1.setOther (by dsimp only; omega) _).setOther (by dsimp only; omega) _, h2, fun j hj => ?_⟩
    rw [if_neg (by omega)]
    exact h3 j hj

set_option maxHeartbeats 1000000 in
theorem c_toQuadS (a : Option Addr) (F : List Qd) (ca : Nat) (w : World) (ha : QSeg w a F) (hl : F.length ≤ 1048576) (hk : KidsLe F) :
    Calls Tryz.prog 90 #[.slice a F.length ca] w fun e w' => e = .returned (.slice (some ⟨w.heap.size, 0, none⟩) F.length F.length) ∧ (∃ ks, QRow w' w.heap.size w.heap.size ks F F.length) ∧ Below w.heap.size w w' := by
  have hmk := make_Quads F.length hl
  have R0 := hid (quad_made w F (fun _ => 0))
  go_enter Tryz.func90, Tryz.ntmps90
  go_wp2
  go_loopw [4] (fun i wr => ∃ (k : Nat) (ks : Nat → Nat), k ≤ F.length ∧ i = .int .i64 k ∧ Hid (QRow wr w.heap.size w.heap.size ks F k) ∧ Hid (∀ j, j < k → ks j < wr.heap.size) ∧ Below w.heap.size w wr) (fun i _ => F.length - (intOf i).toNat)
  case atStart => exact ⟨0, fun _ => 0, Nat.zero_le _, rfl, (⟨Nat.le_refl _, R0.out, fun i hi => absurd hi (Nat.not_lt_zero _)⟩ : QRow _ _ _ _ _ _), (fun j hj => absurd hj (Nat.not_lt_zero _)), (Below.refl _ _).alloc (Nat.le_refl _) _⟩
  case round =>
    clear R0 hmk
    obtain ⟨k, ks, hk', rfl, HR, HL, hbel⟩ := hrel
    by_cases hlt : k < F.length
    · obtain ⟨b1, o1, ak, ck, rfl, hb1, p1, p2, p3, _⟩ := ha k hlt
      have g1 := (hbel.cell (p := ⟨b1, o1 + k * 2, none⟩) hb1).trans p1
      have g2 := (hbel.cell (p := ⟨b1, o1 + k * 2 + 1, none⟩) hb1).trans p2
      have HC := hid (c_toQuad (qa F k) ak ck wr (p3.below hbel) (hk k hlt))
      clear p1 p2 p3
      have k0 : (0 : Int) ≤ (k : Int) := by omega
      have k1 : (k : Int) < (F.length : Int) := by omega
      go_wp2_with fail
      refine HC.out.mono ?_
      rintro e w1 ⟨rfl, hI, hb⟩
      have K := HR.out.below hb
      have c1 := K.row.cell (i := k * 2) (by omega)
      have c2 := K.row.cell (i := k * 2 + 1) (by omega)
      have f1 := K.row.frozen (k * 2)
      have f2 := K.row.frozen (k * 2 + 1)
      have hz := hI.lt
      have HS := hid (K.step hlt hI (by have := hbel.size; omega) (fun j hj => by have := HL.out j hj; omega))
      have BB := hid (((hbel.trans (hb.mono hbel.size)).setCell (p := ⟨w.heap.size, k * 2, none⟩) (Nat.le_refl _) (.int .i64 (qa F k).1)).setCell (p := ⟨w.heap.size, k * 2 + 1, none⟩) (Nat.le_refl _) (.slice (some ⟨wr.heap.size + 3, 0, none⟩) (qa F k).2.length (qa F k).2.length))
      have HL' : Hid (∀ j, j < k + 1 → (if j = k then wr.heap.size + 3 else ks j) < w1.heap.size) := by
        intro j hj
        by_cases e : j = k
        · rw [if_pos e]; exact hz
        · rw [if_neg e]; have := HL.out j (by omega); have := hb.size; omega
      clear HR HL HC hI hb K ha hbel hz
      go_wp2
      go_roundw
      case rel => exact ⟨k + 1, _, by omega, by go_num, HS.out, (by intro j hj; simpa using HL'.out j hj), BB.out⟩
      case measure => simp [intOf]; omega
    · go_wp2
      go_ret
      have : k = F.length := by omega
      subst this
      exact ⟨rfl, ⟨ks, HR.out⟩, hbel⟩

set_option maxHeartbeats 1000000 in
theorem c_toForest (a : Option Addr) (F : List Qd) (ca : Nat) (w : World) (ha : QSeg w a F) (hl : F.length ≤ 1048576) (hk : KidsLe F) :
    Calls Tryz.prog 39 #[.agg #[.slice a F.length ca]] w fun e w' => e = .returned (.agg #[.slice (some ⟨w.heap.size + 3, 0, none⟩) F.length F.length]) ∧ (∃ ks, QRow w' (w.heap.size + 3) (w.heap.size + 3) ks F F.length) ∧ Below w.heap.size w w' := by
  obtain ⟨W1, hW1⟩ : ∃ W1, W1 = w.alloc (.cells #[.slice a F.length ca] 61) := ⟨_, rfl⟩
  obtain ⟨W2, hW2⟩ : ∃ W2, W2 = W1.alloc (.cells #[.slice none 0 0] 25) := ⟨_, rfl⟩
  obtain ⟨W3, hW3⟩ : ∃ W3, W3 = W2.alloc (.cells #[.slice none 0 0] 25) := ⟨_, rfl⟩
  have s1 : W1.heap.size = w.heap.size + 1 := by rw [hW1]; simp
  have s2 : W2.heap.size = w.heap.size + 1 + 1 := by rw [hW2]; simp [s1]
  have s3 : W3.heap.size = w.heap.size + 3 := by rw [hW3]; simp [s2]
  have R1 : W2.rowIs (w.heap.size + 1) 25 1 (fun j => .slice none 0 0) := by
    rw [← s1, hW2]; exact one_row (heap_alloc_new _ _)
  have R2 : W3.rowIs (w.heap.size + 1 + 1) 25 1 (fun j => .slice none 0 0) := by
    rw [← s2, hW3]; exact one_row (heap_alloc_new _ _)
  have R1' : W3.rowIs (w.heap.size + 1) 25 1 (fun j => .slice none 0 0) := by
    rw [hW3]; exact R1.alloc _
  have B3 : Below w.heap.size w W3 := by
    rw [hW3, hW2, hW1]
    exact (((Below.refl _ _).alloc (Nat.le_refl _) _).alloc (by simp) _).alloc (by simp; omega) _
  have HC := hid (c_toQuadS a F ca _ (ha.below B3) hl hk)
  have HB := hid B3
  have H1 := hid R1'
  have H2 := hid R2
  rw [s3] at HC
  have hW : Hid (W3 = ((w.alloc (.cells #[.slice a F.length ca] 61)).alloc (.cells #[.slice none 0 0] 25)).alloc (.cells #[.slice none 0 0] 25)) := by
    show _ = _
    rw [hW3, hW2, hW1]
  rw [hW.out] at HC HB H1 H2
  clear hW R1' B3 R1 R2 s1 s2 s3 hW1 hW2 hW3 ha
  clear W1 W2 W3
  go_enter Tryz.func39, Tryz.ntmps39
  go_wp2_with fail
  refine HC.out.mono ?_
  rintro e w1 ⟨rfl, ⟨ks, hR⟩, hb1⟩
  have K1 := H1.out.of_block (hb1.block _ (by omega))
  have K2 := H2.out.of_block (hb1.block _ (by omega))
  have c0 := K1.cell (i := 0) (by omega)
  have f0 := K1.frozen 0
  have c2 := K2.cell (i := 0) (by omega)
  have f2 := K2.frozen 0
  have HR := hid hR
  have BB := hid (HB.out.trans (hb1.mono (by omega)))
  have e0 := ((K1.setOther (a := ⟨w.heap.size + 1 + 1, 0, none⟩) (by dsimp only; omega) (.slice (some ⟨w.heap.size + 3, 0, none⟩) F.length F.length)).set 0 (.slice (some ⟨w.heap.size + 3, 0, none⟩) F.length F.length)).cell (i := 0) (by omega)
  simp only [if_true] at e0
  have E0 := hid e0
  clear HC HB H1 H2 K1 K2 hR hb1 e0
  go_wp2
  refine bodyPost_ret (v := .agg #[.slice (some ⟨w.heap.size + 3, 0, none⟩) F.length F.length]) (by simp [results, Tryz.results39, go_sem, E0.out]) rfl ⟨rfl, ⟨ks, ?_⟩, ?_⟩
  · refine ⟨HR.out.low, (HR.out.row.setOther (by dsimp only; omega) _).setOther (by dsimp only; omega) _, fun i hi => ?_⟩
    obtain ⟨h1, h2, h3⟩ := HR.out.kid i hi
    exact ⟨(h1.setOther (by dsimp only; omega) _).setOther (by dsimp only; omega) _, h2, h3⟩
  · exact (BB.out.setCell (by dsimp only; omega) _).setCell (by dsimp only; omega) _

end Go.Proofs.YtokemdbgcegjiaaGreat

namespace Go.Proofs.YtokemdbgcegjiaaGreat
open Go.RowKit
set_option linter.unusedVariables false

/-- Cells, one value behind the other. -/
def flat (l : List Cl) : List Value := l.flatMap fun c => [.int .i64 c.1, .int .i64 c.2]
theorem flat_length (l : List Cl) : (flat l).length = l.length * 2 := by
  induction l with
  | nil => rfl
  | cons c r ih => simp only [flat, List.flatMap_cons, List.length_append, List.length_cons, List.length_nil] at *; omega
theorem flat_append (l m : List Cl) : flat (l ++ m) = flat l ++ flat m := by simp [flat]
theorem flat_cons (c : Cl) (l : List Cl) : flat (c :: l) = .int .i64 c.1 :: .int .i64 c.2 :: flat l := by simp [flat]
theorem flat_even {l : List Cl} {i : Nat} (h : i < l.length) : (flat l)[i * 2]? = some (.int .i64 (at_ l i).1) := by
  induction l generalizing i with
  | nil => simp at h
  | cons c r ih =>
    rw [flat_cons]
    cases i with
    | zero => simp [at_]
    | succ i =>
      rw [show (i + 1) * 2 = i * 2 + 1 + 1 by omega, List.getElem?_cons_succ, List.getElem?_cons_succ, ih (by simpa using h)]
      simp [at_]
theorem flat_odd {l : List Cl} {i : Nat} (h : i < l.length) : (flat l)[i * 2 + 1]? = some (.int .i64 (at_ l i).2) := by
  induction l generalizing i with
  | nil => simp at h
  | cons c r ih =>
    rw [flat_cons]
    cases i with
    | zero => simp [at_]
    | succ i =>
      rw [show (i + 1) * 2 + 1 = i * 2 + 1 + 1 + 1 by omega, List.getElem?_cons_succ, List.getElem?_cons_succ, ih (by simpa using h)]
      simp [at_]
theorem flat_one (l : List Cl) : ∀ u ∈ flat l, u.oneCell' = true := by
  intro u hu
  simp only [flat, List.mem_flatMap, List.mem_cons, List.not_mem_nil, or_false] at hu
  obtain ⟨c, _, rfl | rfl⟩ := hu <;> rfl
/-- Setting two values sets one cell. -/
theorem flat_set (l : List Cl) (i : Nat) (c : Cl) (h : i < l.length) : ((flat l).set (i * 2) (.int .i64 c.1)).set (i * 2 + 1) (.int .i64 c.2) = flat (l.set i c) := by
  induction l generalizing i with
  | nil => simp at h
  | cons d r ih =>
    cases i with
    | zero => simp [flat_cons]
    | succ i =>
      rw [flat_cons, show (i + 1) * 2 = i * 2 + 1 + 1 by omega, List.set_cons_succ, List.set_cons_succ, List.set_cons_succ, List.set_cons_succ, ih i (by simpa using h), List.set_cons_succ, flat_cons]

/-- The slice v owns the cells l, among the blocks from base on. -/
def OwnS (w : World) (base : Nat) (v : Value) (l : List Cl) : Prop := w.ownsRow base 41 2 v l.length (flat l)

theorem OwnS.nil (w : World) (base : Nat) : OwnS w base (.slice none 0 0) [] := World.ownsRow_nil w base 41 2
theorem OwnS.form {w : World} {base : Nat} {v : Value} {l : List Cl} (h : OwnS w base v l) : ∃ a cap, v = .slice a l.length cap ∧ Seg w a l := by
  have h0 := h
  rcases h.2 with ⟨rfl, hn⟩ | ⟨g, cap, cur, rfl, hb, hg, hcap, hm, hs, ht⟩
  · exact ⟨none, 0, by rw [hn], fun i hi => by omega⟩
  · refine ⟨some ⟨g, 0, none⟩, cap, rfl, fun i hi => ⟨g, 0, rfl, (Array.getElem?_eq_some_iff.1 hg).1, ?_, ?_⟩⟩
    · have := World.ownsRow.cellAt h0 (i * 2) (by omega)
      rw [flat_even hi] at this
      rw [show 0 + i * 2 = i * 2 by omega]
      exact this
    · have := World.ownsRow.cellAt h0 (i * 2 + 1) (by omega)
      rw [flat_odd hi] at this
      rw [show 0 + i * 2 + 1 = i * 2 + 1 by omega]
      exact this
theorem grown_of_below {w w' : World} (h : Below w.heap.size w w') (row : Option Nat) : w.grownBy w' row := ⟨h.os, h.tape, h.output, h.size, fun k hk _ => h.block k hk⟩
theorem OwnS.below {w w' : World} {base : Nat} {v : Value} {l : List Cl} (h : OwnS w base v l) (hb : Below w.heap.size w w') : OwnS w' base v l :=
  World.ownsRow.kept h (grown_of_below hb none) (by cases v.ownBlock <;> simp)
theorem OwnS.lt {w : World} {base : Nat} {v : Value} {l : List Cl} (h : OwnS w base v l) : ∀ k, v.ownBlock = some k → base ≤ k ∧ k < w.heap.size := World.ownsRow.lt h
theorem OwnS.mono {w : World} {base base' : Nat} {v : Value} {l : List Cl} (h : OwnS w base v l) (hb : base' ≤ base) : OwnS w base' v l := World.ownsRow.mono h hb

theorem flat_ext {l : List Cl} {xs : List Value} (hx : xs.length = l.length * 2) (h : ∀ i, i < l.length → xs[i * 2]? = some (.int .i64 (at_ l i).1) ∧ xs[i * 2 + 1]? = some (.int .i64 (at_ l i).2)) : xs = flat l := by
  apply List.ext_getElem?
  intro j
  by_cases hj : j < l.length * 2
  · have hi : j / 2 < l.length := by omega
    rcases (show j = j / 2 * 2 ∨ j = j / 2 * 2 + 1 by omega) with e | e
    · rw [e, (h _ hi).1, flat_even hi]
    · rw [e, (h _ hi).2, flat_odd hi]
  · rw [List.getElem?_eq_none (by omega), List.getElem?_eq_none (by rw [flat_length]; omega)]

/-- A row that was made whole is owned. -/
theorem Row.own {w : World} {g : Nat} {l : List Cl} (h : Row w g l) (hl : l.length ≤ 1048576) : OwnS w g (.slice (some ⟨g, 0, none⟩) l.length l.length) l := by
  obtain ⟨c, hb, hn, hc⟩ := h
  refine ⟨flat_length l, .inr ⟨g, l.length, c, rfl, Nat.le_refl _, hb, Nat.le_refl _, by unfold maxLen; omega, hn, ?_⟩⟩
  have hcl : c.toList.length = l.length * 2 := by simpa using hn
  refine flat_ext (by rw [List.length_take, hcl]; omega) fun i hi => ?_
  have e0 := hc (i * 2) (by omega)
  have e1 := hc (i * 2 + 1) (by omega)
  rw [List.getElem?_take_of_lt (by omega), List.getElem?_take_of_lt (by omega), Array.getElem?_toList, Array.getElem?_toList, e0, e1]
  have m0 : (i * 2) % 2 = 0 := by omega
  have m1 : (i * 2 + 1) % 2 = 1 := by omega
  have d0 : (i * 2) / 2 = i := by omega
  have d1 : (i * 2 + 1) / 2 = i := by omega
  simp [m0, m1, d0, d1, at_]

/-- Marks. -/
def marks (k : Int) (n : Nat) : List Cl := (List.range n).map fun i : Nat => (k + 2 * (i : Int), k + 2 * (i : Int) + 1)
theorem marks_length (k : Int) (n : Nat) : (marks k n).length = n := by simp [marks]
theorem marks_at {k : Int} {n i : Nat} (h : i < n) : at_ (marks k n) i = (k + 2 * (i : Int), k + 2 * (i : Int) + 1) := by simp [at_, marks, h]
/-- Cells of which the first i are marked. -/
def markTo (l : List Cl) (k : Int) (i : Nat) : List Cl := marks k i ++ l.drop i
theorem markTo_length {l : List Cl} {k : Int} {i : Nat} (h : i ≤ l.length) : (markTo l k i).length = l.length := by simp [markTo, marks_length]; omega
theorem markTo_succ {l : List Cl} {k : Int} {i : Nat} (h : i < l.length) : (markTo l k i).set i (k + 2 * (i : Int), k + 2 * (i : Int) + 1) = markTo l k (i + 1) := by
  unfold markTo
  rw [List.set_append_right _ _ (by rw [marks_length]; exact Nat.le_refl _), marks_length, Nat.sub_self]
  obtain ⟨x, r, e⟩ : ∃ x r, l.drop i = x :: r := by
    cases hd : l.drop i with
    | nil => have := congrArg List.length hd; simp at this; omega
    | cons x r => exact ⟨x, r, rfl⟩
  have e2 : l.drop (i + 1) = r := by rw [← List.drop_drop, e]; rfl
  rw [e, e2]
  simp [marks, List.range_succ]
theorem markTo_all (l : List Cl) (k : Int) : markTo l k l.length = marks k l.length := by simp [markTo]


theorem grown_trans {a b c : World} {row : Option Nat} (h : a.grownBy b row) (k : b.grownBy c row) : a.grownBy c row :=
  ⟨k.os.trans h.os, k.tape.trans h.tape, k.output.trans h.output, Nat.le_trans h.size k.size, fun i hi hn => (k.block i (Nat.lt_of_lt_of_le hi h.size) hn).trans (h.block i hi hn)⟩
theorem grown_refl (a : World) (row : Option Nat) : a.grownBy a row := ⟨rfl, rfl, rfl, Nat.le_refl _, fun _ _ _ => rfl⟩

theorem mark_step {W : World} {base g ca : Nat} {l : List Cl} {k : Int} {i : Nat} (h : OwnS W base (.slice (some ⟨g, 0, none⟩) l.length ca) (markTo l k i)) (hi : i < l.length) :
    OwnS ((W.setCell ⟨g, i * 2, none⟩ (.int .i64 (k + 2 * (i : Int)))).setCell ⟨g, i * 2 + 1, none⟩ (.int .i64 (k + 2 * (i : Int) + 1))) base (.slice (some ⟨g, 0, none⟩) l.length ca) (markTo l k (i + 1)) ∧
    W.grownBy ((W.setCell ⟨g, i * 2, none⟩ (.int .i64 (k + 2 * (i : Int)))).setCell ⟨g, i * 2 + 1, none⟩ (.int .i64 (k + 2 * (i : Int) + 1))) (some g) := by
  unfold OwnS at h ⊢
  rw [markTo_length (by omega)] at h ⊢
  obtain ⟨h1, g1⟩ := World.ownsRow.stored h (i * 2) (.int .i64 (k + 2 * (i : Int)))
  obtain ⟨h2, g2⟩ := World.ownsRow.stored h1 (i * 2 + 1) (.int .i64 (k + 2 * (i : Int) + 1))
  refine ⟨?_, grown_trans g1 g2⟩
  rw [← markTo_succ hi, ← flat_set _ _ _ (by rw [markTo_length (by omega)]; exact hi)]
  exact h2

end Go.Proofs.YtokemdbgcegjiaaGreat

namespace Go.Proofs.YtokemdbgcegjiaaGreat
open Go.RowKit
set_option linter.unusedVariables false

def iv (l : List Int) : List Value := l.map fun x => .int .i64 x
theorem iv_length (l : List Int) : (iv l).length = l.length * 1 := by simp [iv]
theorem iv_append (l m : List Int) : iv (l ++ m) = iv l ++ iv m := by simp [iv]
theorem iv_at {l : List Int} {i : Nat} (h : i < l.length) : (iv l)[i]? = some (.int .i64 (ia l i)) := by simp [iv, ia, h]
theorem iv_one (l : List Int) : ∀ u ∈ iv l, u.oneCell' = true := by
  intro u hu
  simp only [iv, List.mem_map] at hu
  obtain ⟨c, _, rfl⟩ := hu; rfl
/-- The slice v owns the numbers l, among the blocks from base on. -/
def OwnI (w : World) (base : Nat) (v : Value) (l : List Int) : Prop := w.ownsRow base 3 1 v l.length (iv l)
theorem OwnI.nil (w : World) (base : Nat) : OwnI w base (.slice none 0 0) [] := World.ownsRow_nil w base 3 1
theorem OwnI.form {w : World} {base : Nat} {v : Value} {l : List Int} (h : OwnI w base v l) : (v = .slice none 0 0 ∧ l = []) ∨ ∃ g cap, v = .slice (some ⟨g, 0, none⟩) l.length cap ∧ l.length ≤ cap ∧ cap ≤ maxLen ∧ ISeg w (some ⟨g, 0, none⟩) l := by
  have h0 := h
  rcases h.2 with ⟨rfl, hn⟩ | ⟨g, cap, cur, rfl, hb, hg, hcap, hm, hs, ht⟩
  · exact .inl ⟨rfl, List.eq_nil_of_length_eq_zero hn⟩
  · refine .inr ⟨g, cap, rfl, hcap, hm, fun i hi => ⟨g, 0, rfl, (Array.getElem?_eq_some_iff.1 hg).1, ?_⟩⟩
    have := World.ownsRow.cellAt h0 i (by omega)
    rw [iv_at hi] at this
    rw [Nat.zero_add]
    exact this
theorem OwnI.seg {w : World} {base : Nat} {v : Value} {l : List Int} (h : OwnI w base v l) : ∃ a cap, v = .slice a l.length cap ∧ ISeg w a l := by
  rcases h.form with ⟨rfl, rfl⟩ | ⟨g, cap, rfl, _, _, hs⟩
  · exact ⟨none, 0, rfl, fun i hi => by simp at hi⟩
  · exact ⟨_, _, rfl, hs⟩
theorem OwnI.below {w w' : World} {base : Nat} {v : Value} {l : List Int} (h : OwnI w base v l) (hb : Below w.heap.size w w') : OwnI w' base v l :=
  World.ownsRow.kept h (grown_of_below hb none) (by cases v.ownBlock <;> simp)
theorem OwnI.lt {w : World} {base : Nat} {v : Value} {l : List Int} (h : OwnI w base v l) : ∀ k, v.ownBlock = some k → base ≤ k ∧ k < w.heap.size := World.ownsRow.lt h
theorem OwnI.mono {w : World} {base base' : Nat} {v : Value} {l : List Int} (h : OwnI w base v l) (hb : base' ≤ base) : OwnI w base' v l := World.ownsRow.mono h hb
theorem OwnI.keep {W W' : World} {base : Nat} {v : Value} {l : List Int} {row : Option Nat} (h : OwnI W base v l) (hg : W.grownBy W' row) (hne : ∀ k, v.ownBlock = some k → row ≠ some k) : OwnI W' base v l := by
  refine World.ownsRow.kept h hg ?_
  cases e : v.ownBlock with
  | none => exact .inl rfl
  | some k => exact .inr fun e2 => hne k e e2.symm
theorem iseg_news {w : World} {ad : Addr} {m : List Int} (h : ISeg w (some ad) m) : ∀ j u, (iv m)[j]? = some u → w.cell? (ad.add j) = some u := by
  intro j u hu
  have hj : j < m.length := by have := (List.getElem?_eq_some_iff.1 hu).1; simpa [iv] using this
  obtain ⟨b, o, e, hb, h0⟩ := h j hj
  simp only [Option.some.injEq] at e
  subst e
  have hadd : (⟨b, o, none⟩ : Addr).add j = ⟨b, o + j, none⟩ := by unfold Addr.add; split <;> simp_all
  rw [hadd, h0]
  rw [iv_at hj] at hu
  exact hu
theorem wpList_appI {w : World} {ops : Array Oper} {rest : List Oper} {o : Oper} {a : Act} {Q : Exit → Act → World → Prop} (hgd : o.guard = none) (s x : Operand)
    (ho : o.op = .call { callee := .builtin .append, args := #[s, x], argTypes := #[46, 46] })
    (base : Nat) (v : Value) (l m : List Int) (ad : Option Addr) (n k : Nat) (hs : a.eval s = v) (hown : OwnI w base v l) (hx : a.eval x = .slice ad n k) (hn : m.length = n) (hseg : ISeg w ad m) (hk : ad = none → k = 0) (hlen : l.length + m.length ≤ 4194304) (hbase : base ≤ w.heap.size)
    (h : ∀ v' w', OwnI w' base v' (l ++ m) → w.grownBy w' v.ownBlock → (v'.ownBlock = v.ownBlock ∨ v'.ownBlock = some w.heap.size) → wpList Tryz.prog ops Q rest (a.put o.dst v') w') : wpList Tryz.prog ops Q (o :: rest) a w := by
  subst hn
  obtain ⟨i, hi, hz, hsz, hb⟩ := info_parts info_int
  cases ad with
  | none =>
    have hm : m = [] := by
      cases m with
      | nil => rfl
      | cons c r => obtain ⟨b, o, e, _⟩ := hseg 0 (by simp); cases e
    subst hm
    have hx' : a.eval x = .slice none 0 0 := by rw [hx, hk rfl]; rfl
    refine wpList_append_own_none hgd s x 46 ho base 3 i 1 Tryz.underlying46 hi v l.length (iv l) hs hown hx' ?_
    exact h v w (by simpa using hown) (grown_refl _ _) (.inl rfl)
  | some ad =>
    refine wpList_append_own_at w hgd s x 46 ho base 3 i _ 1 8 Tryz.underlying46 hi hz hsz hb rfl (by omega) v l.length (iv l) hs hown ad m.length k (iv m) hx (iv_length m) (iseg_news hseg) (iv_one m)
      (by unfold maxLen; omega) (by omega) hbase ?_
    intro v' w' h1 h2 _ h4
    refine h v' w' ?_ h2 h4
    unfold OwnI
    rw [iv_append, List.length_append]
    exact h1
/-- Appending nothing, whatever the address. -/
theorem wpList_appI0 {w : World} {ops : Array Oper} {rest : List Oper} {o : Oper} {a : Act} {Q : Exit → Act → World → Prop} (hgd : o.guard = none) (s x : Operand)
    (ho : o.op = .call { callee := .builtin .append, args := #[s, x], argTypes := #[46, 46] })
    (base : Nat) (v : Value) (l : List Int) (hs : a.eval s = v) (hown : OwnI w base v l) (hx : ∃ ad n k, a.eval x = .slice ad n k ∧ n = 0 ∧ (ad = none → k = 0)) (hlen : l.length ≤ 4194304) (hbase : base ≤ w.heap.size)
    (h : ∀ v' w', OwnI w' base v' l → w.grownBy w' v.ownBlock → (v'.ownBlock = v.ownBlock ∨ v'.ownBlock = some w.heap.size) → wpList Tryz.prog ops Q rest (a.put o.dst v') w') : wpList Tryz.prog ops Q (o :: rest) a w := by
  obtain ⟨ad, n, k, h1, h2, h3⟩ := hx
  subst h2
  exact wpList_appI hgd s x ho base v l [] ad 0 k hs hown h1 rfl (fun i hi => absurd hi (Nat.not_lt_zero _)) h3 (by simpa using hlen) hbase (by simpa using h)
theorem below_grownI {w W W' : World} {v : Value} {l : List Int} (hB : Below w.heap.size w W) (hown : OwnI W w.heap.size v l) (hg : W.grownBy W' v.ownBlock) : Below w.heap.size w W' :=
  hB.grown hg hB.size fun k hk => (hown.lt k hk).1
theorem iseg_block {w : World} {B : Nat} {x : Int} {fr : Nat × Nat} (hb : w.heap[B]? = some (.cells #[.int .i64 x] 3 fr)) : ISeg w (some ⟨B, 0, none⟩) [x] := by
  intro i hi
  have h0 : i = 0 := by simpa using hi
  subst h0
  refine ⟨B, 0, rfl, (Array.getElem?_eq_some_iff.1 hb).1, ?_⟩
  unfold World.cell?; rw [hb]; rfl
theorem slice_empty_int (w : World) : OwnI (w.alloc (.cells #[] 3)) w.heap.size (.slice (some ⟨w.heap.size, 0, none⟩) 0 0) [] :=
  ⟨rfl, .inr ⟨w.heap.size, 0, #[], rfl, Nat.le_refl _, heap_alloc_new w _, Nat.le_refl _, by simp [maxLen], rfl, rfl⟩⟩
theorem ISeg.take {w : World} {a : Option Addr} {l : List Int} (h : ISeg w a l) (k : Nat) : ISeg w a (l.take k) := by
  intro i hi
  rw [List.length_take] at hi
  obtain ⟨b, o, e, hb, h1⟩ := h i (by omega)
  refine ⟨b, o, e, hb, ?_⟩
  rw [h1]; unfold ia
  rw [List.getD_eq_getElem?_getD, List.getD_eq_getElem?_getD, List.getElem?_take_of_lt (by omega)]
theorem ISeg.drop {w : World} {g o : Nat} {l : List Int} (h : ISeg w (some ⟨g, o, none⟩) l) (k : Nat) : ISeg w (some ⟨g, o + k, none⟩) (l.drop k) := by
  intro i hi
  rw [List.length_drop] at hi
  obtain ⟨b, o', e, hb, h1⟩ := h (k + i) (by omega)
  simp only [Option.some.injEq, Addr.mk.injEq, and_true] at e
  obtain ⟨rfl, rfl⟩ := e
  refine ⟨g, o + k, rfl, hb, ?_⟩
  rw [show o + k + i = o + (k + i) by omega, h1]; unfold ia
  rw [List.getD_eq_getElem?_getD, List.getD_eq_getElem?_getD, List.getElem?_drop]

/-- Numbers that rise. -/
abbrev Asc (l : List Int) : Prop := l.Pairwise (· < ·)
theorem asc_lt {l : List Int} (h : Asc l) {i j : Nat} (hij : i < j) (hj : j < l.length) : ia l i < ia l j := by
  have := List.pairwise_iff_getElem.1 h i j (by omega) hj hij
  simpa [ia, hj, show i < l.length by omega] using this
theorem mem_ia {l : List Int} {x : Int} : x ∈ l ↔ ∃ i, i < l.length ∧ ia l i = x := by
  rw [List.mem_iff_getElem]
  constructor
  · rintro ⟨i, hi, e⟩; exact ⟨i, hi, by simp [ia, hi, e]⟩
  · rintro ⟨i, hi, e⟩; exact ⟨i, hi, by simpa [ia, hi] using e⟩
/-- l' is l with n, each once, rising. -/
def WithI (l : List Int) (n : Int) (l' : List Int) : Prop := Asc l' ∧ (∀ d, d ∈ l' ↔ d = n ∨ d ∈ l) ∧ l'.length ≤ l.length + 1
theorem withI_same {l : List Int} {n : Int} (hr : Asc l) (hm : n ∈ l) : WithI l n l :=
  ⟨hr, fun d => ⟨fun h => .inr h, fun h => h.elim (fun e => by rw [e]; exact hm) id⟩, by omega⟩
theorem withI_new {l : List Int} {n : Int} {k : Nat} (hr : Asc l) (hk : k ≤ l.length) (h1 : ∀ i, i < k → ia l i < n) (h2 : k < l.length → n < ia l k) : WithI l n (l.take k ++ [n] ++ l.drop k) := by
  have hd : ∀ x ∈ l.drop k, n < x := by
    intro x hx
    obtain ⟨i, hi, e⟩ := mem_ia.1 hx
    rw [List.length_drop] at hi
    have e2 : ia (l.drop k) i = ia l (k + i) := by unfold ia; rw [List.getD_eq_getElem?_getD, List.getD_eq_getElem?_getD, List.getElem?_drop]
    rw [e2] at e
    have := h2 (by omega)
    rcases Nat.eq_zero_or_pos i with h0 | h0
    · subst h0; rw [Nat.add_zero] at e; omega
    · have := asc_lt hr (i := k) (j := k + i) (by omega) (by omega); omega
  have ht : ∀ x ∈ l.take k, x < n := by
    intro x hx
    obtain ⟨i, hi, e⟩ := mem_ia.1 hx
    rw [List.length_take] at hi
    have e2 : ia (l.take k) i = ia l i := by unfold ia; rw [List.getD_eq_getElem?_getD, List.getD_eq_getElem?_getD, List.getElem?_take_of_lt (by omega)]
    rw [e2] at e
    have := h1 i (by omega); omega
  refine ⟨?_, fun d => ?_, by simp; omega⟩
  · show List.Pairwise _ _
    rw [List.pairwise_append, List.pairwise_append]
    refine ⟨⟨hr.sublist (List.take_sublist _ _), List.pairwise_singleton _ _, fun x hx y hy => ?_⟩, hr.sublist (List.drop_sublist _ _), fun x hx y hy => ?_⟩
    · simp at hy; subst hy; exact ht x hx
    · rw [List.mem_append] at hx
      have hyd := hd y hy
      rcases hx with hx | hx
      · have := ht x hx; omega
      · simp at hx; subst hx; exact hyd
  · simp only [List.mem_append, List.mem_singleton]
    constructor
    · rintro ((h | h) | h)
      · exact .inr (List.mem_of_mem_take h)
      · exact .inl h
      · exact .inr (List.mem_of_mem_drop h)
    · rintro (h | h)
      · exact .inl (.inr h)
      · have := List.take_append_drop k l
        rw [← this, List.mem_append] at h
        rcases h with h | h
        · exact .inl (.inl h)
        · exact .inr h
theorem asc_nodup {l : List Int} (h : Asc l) : l.Nodup := by
  rw [List.nodup_iff_pairwise_ne]
  exact h.imp fun h => by omega
theorem asc_unique {l m : List Int} (hl : Asc l) (hm : Asc m) (h : ∀ c, c ∈ l ↔ c ∈ m) : l = m := by
  have hp : l.Perm m := (List.perm_ext_iff_of_nodup (asc_nodup hl) (asc_nodup hm)).2 h
  exact hp.eq_of_pairwise (fun a b _ _ h1 h2 => by omega) hl hm
/-- Rising numbers from nought on are as many as the last allows. -/
theorem asc_len {l : List Int} (h : Asc l) {N : Nat} (hb : ∀ x ∈ l, 0 ≤ x ∧ x < (N : Int)) : l.length ≤ N := by
  have : ∀ i, i < l.length → (i : Int) ≤ ia l i := by
    intro i
    induction i with
    | zero => intro hi; have := hb (ia l 0) (mem_ia.2 ⟨0, hi, rfl⟩); omega
    | succ i ih => intro hi; have := ih (by omega); have := asc_lt h (i := i) (j := i + 1) (by omega) hi; omega
  rcases Nat.eq_zero_or_pos l.length with h0 | h0
  · omega
  · have h1 := this (l.length - 1) (by omega)
    have h2 := hb (ia l (l.length - 1)) (mem_ia.2 ⟨l.length - 1, by omega, rfl⟩)
    omega

end Go.Proofs.YtokemdbgcegjiaaGreat
