/- Texts of this seat, one behind the other: Leaf, Base, Eq, Plain, Good, Has, Open, Own, App. -/
import Derived.Test.YtgfdkolhldbehaaRows
import Derived.WalkKit
import Derived.WalkSpells
import Derived.WalkLawsBesides
import Derived.Deep.OwnRows
import Derived.BigQuiet
import Derived.Deep.RegionHeld3
import Derived.Deep.DrawnRows
import Derived.ProofKit
import Derived.OpenShut
import Derived.ShutString
import Derived.ChangeOld
import Derived.Below
import Derived.Deep.SlicePairs
import Derived.Lib.SmallJoins
import Derived.Deep.AppendLies
import Derived.Deep.Onto
import Derived.Laws.AppendOwnNone
namespace Go.Proofs.Ytgfdkolhldbehaa
open Go.RowKit

/-- A cell as a value. -/
def cv (c : Int × Int) : Value := .agg #[.int .i64 c.1, .int .i64 c.2]
/-- Is a cell within reach? -/
def inR (c : Int × Int) : Bool := decide (-40 ≤ c.1) && decide (c.1 ≤ 40) && decide (-40 ≤ c.2) && decide (c.2 ≤ 40)
/-- Is a cell ahead of another? -/
def ltC (a b : Int × Int) : Bool := decide (a.2 < b.2) || (decide (a.2 = b.2) && decide (a.1 < b.1))
/-- Are two cells one? -/
def eqC (a b : Int × Int) : Bool := decide (a = b)
/-- How two numbers compare. -/
def cmpI (a b : Int) : Int := if a < b then -1 else if b < a then 1 else 0
/-- How two cells compare. -/
def cmpC (a b : Int × Int) : Int := if a.2 = b.2 then cmpI a.1 b.1 else cmpI a.2 b.2

theorem ret_bool {a b : Bool} (h : a = b) : Ending.returned (.bool a) = .returned (.bool b) := by rw [h]
theorem ret_two {a b c d : Value} (h1 : a = c) (h2 : b = d) : Ending.returned (.tuple #[a, b]) = .returned (.tuple #[c, d]) := by rw [h1, h2]
theorem vbool {a b : Bool} (h : a = b) : Value.bool a = .bool b := by rw [h]
theorem ret_int {k : IntKind} {a b : Int} (h : a = b) : Ending.returned (.int k a) = .returned (.int k b) := by rw [h]

set_option maxHeartbeats 400000 in
theorem c_l1In (n lo hi : Int) (w : World) :
    Calls Try.prog 102 #[.int .i64 n, .int .i64 lo, .int .i64 hi] w fun e w' => e = .returned (.bool (decide (lo ≤ n) && decide (n ≤ hi))) ∧ w' = w := by
  by_cases h1 : lo ≤ n <;> by_cases h2 : n ≤ hi
  all_goals
    go_enter Try.func102, Try.ntmps102
    go_wp2
    go_ret
    exact ⟨ret_bool (by simp [h1, h2] <;> omega), rfl⟩

set_option maxHeartbeats 400000 in
theorem c_l1There (c : Int × Int) (w : World) :
    Calls Try.prog 119 #[.agg #[.int .i64 c.1, .int .i64 c.2]] w fun e w' => e = .returned (.bool (inR c)) ∧ Below w.heap.size w w' := by
  obtain ⟨x, y⟩ := c
  dsimp only
  by_cases h1 : (-40 ≤ x ∧ x ≤ 40)
  · have hb : (decide (-40 ≤ x) && decide (x ≤ 40)) = true := by simp; omega
    go_enter Try.func119, Try.ntmps119
    go_wp2_with (go_at_call 102; refine (c_l1In _ _ _ _).mono ?_; rintro e w' ⟨rfl, rfl⟩)
    go_ret
    exact ⟨ret_bool (by simp [inR, h1]), (Below.refl _ _).alloc (Nat.le_refl _) _⟩
  · have hb : (decide (-40 ≤ x) && decide (x ≤ 40)) = false := by simp; omega
    go_enter Try.func119, Try.ntmps119
    go_wp2_with (go_at_call 102; refine (c_l1In _ _ _ _).mono ?_; rintro e w' ⟨rfl, rfl⟩)
    go_ret
    exact ⟨ret_bool (by simp [inR]; omega), (Below.refl _ _).alloc (Nat.le_refl _) _⟩

set_option maxHeartbeats 400000 in
theorem c_inReach (c : Int × Int) (w : World) :
    Calls Try.prog 140 #[.agg #[.int .i64 c.1, .int .i64 c.2]] w fun e w' => e = .returned (.bool (inR c)) ∧ Below w.heap.size w w' := by
  obtain ⟨x, y⟩ := c
  dsimp only
  go_enter Try.func140, Try.ntmps140
  go_wp2
  all_goals
    go_ret
    exact ⟨ret_bool (by simp [inR, *] <;> omega), (Below.refl _ _).alloc (Nat.le_refl _) _⟩

set_option maxHeartbeats 400000 in
theorem c_l1Less (c d : Int × Int) (w : World) :
    Calls Try.prog 120 #[.agg #[.int .i64 c.1, .int .i64 c.2], .agg #[.int .i64 d.1, .int .i64 d.2]] w fun e w' => e = .returned (.bool (ltC c d)) ∧ Below w.heap.size w w' := by
  obtain ⟨x, y⟩ := c
  obtain ⟨u, v⟩ := d
  dsimp only
  go_enter Try.func120, Try.ntmps120
  go_wp2
  all_goals
    go_ret
    exact ⟨ret_bool (by simp [ltC, *] <;> omega), ((Below.refl _ _).alloc (Nat.le_refl _) _).alloc (by simp) _⟩

set_option maxHeartbeats 400000 in
theorem c_eqCell (c d : Int × Int) (w : World) :
    Calls Try.prog 92 #[.agg #[.int .i64 c.1, .int .i64 c.2], .agg #[.int .i64 d.1, .int .i64 d.2]] w fun e w' => e = .returned (.bool (eqC c d)) ∧ Below w.heap.size w w' := by
  obtain ⟨x, y⟩ := c
  obtain ⟨u, v⟩ := d
  dsimp only
  go_enter Try.func92, Try.ntmps92
  go_wp2
  all_goals
    go_ret
    exact ⟨ret_bool (by simp_all [eqC]), ((Below.refl _ _).alloc (Nat.le_refl _) _).alloc (by simp) _⟩

set_option maxHeartbeats 400000 in
theorem c_Compare (x y : Int) (w : World) :
    Calls Try.prog 142 #[.int .i64 x, .int .i64 y] w fun e w' => e = .returned (.int .i64 (cmpI x y)) ∧ w' = w := by
  rcases (show x < y ∨ x = y ∨ y < x by omega) with h | h | h
  all_goals
    go_enter Try.func142, Try.ntmps142
    go_wp2
    go_ret
    exact ⟨ret_int (by simp [cmpI]; omega), rfl⟩

set_option maxHeartbeats 400000 in
theorem c_compareCells (c d : Int × Int) (w : World) :
    Calls Try.prog 125 #[.agg #[.int .i64 c.1, .int .i64 c.2], .agg #[.int .i64 d.1, .int .i64 d.2]] w fun e w' => e = .returned (.int .i64 (cmpC c d)) ∧ Below w.heap.size w w' := by
  obtain ⟨x, y⟩ := c
  obtain ⟨u, v⟩ := d
  dsimp only
  by_cases h : y = v
  · have hb : (y != v) = false := by simp [h]
    have H : Hid (y = v) := h
    clear h
    go_enter Try.func125, Try.ntmps125
    go_wp2_with (go_at_call 142; refine (c_Compare _ _ _).mono ?_; rintro e w' ⟨rfl, rfl⟩)
    go_ret
    exact ⟨ret_int (by simp [cmpC, H.out]), ((Below.refl _ _).alloc (Nat.le_refl _) _).alloc (by simp) _⟩
  · have hb : (y != v) = true := by simp [h]
    go_enter Try.func125, Try.ntmps125
    go_wp2_with (go_at_call 142; refine (c_Compare _ _ _).mono ?_; rintro e w' ⟨rfl, rfl⟩)
    go_ret
    exact ⟨ret_int (by simp [cmpC, h]), ((Below.refl _ _).alloc (Nat.le_refl _) _).alloc (by simp) _⟩

end Go.Proofs.Ytgfdkolhldbehaa

namespace Go.Proofs.Ytgfdkolhldbehaa
open Go.RowKit

/-- The cells l lie where the slice's address a leads to, below the heap's end. -/
def Seg (w : World) (a : Option Addr) (l : List (Int × Int)) : Prop :=
  ∀ i, i < l.length → ∃ b o, a = some ⟨b, o, none⟩ ∧ b < w.heap.size ∧ w.cell? ⟨b, o + i * 2, none⟩ = some (.int .i64 (l.getD i (0, 0)).1) ∧ w.cell? ⟨b, o + i * 2 + 1, none⟩ = some (.int .i64 (l.getD i (0, 0)).2)

theorem Seg.below {w w' : World} {a : Option Addr} {l : List (Int × Int)} (h : Seg w a l) (hb : Below w.heap.size w w') : Seg w' a l := by
  intro i hi
  obtain ⟨b, o, rfl, hlt, h1, h2⟩ := h i hi
  exact ⟨b, o, rfl, Nat.lt_of_lt_of_le hlt hb.size, (hb.cell (p := ⟨b, _, none⟩) hlt).trans h1, (hb.cell (p := ⟨b, _, none⟩) hlt).trans h2⟩

/-- The slice v owns, among the blocks from base on, the cells l: they lie at the head of block g. -/
def Row (w : World) (g : Nat) (l : List (Int × Int)) : Prop :=
  w.rowIs g 36 (l.length * 2) (fun j => .int .i64 (if j % 2 = 0 then (l.getD (j / 2) (0, 0)).1 else (l.getD (j / 2) (0, 0)).2))

theorem Row.seg {w : World} {g : Nat} {l : List (Int × Int)} (h : Row w g l) : Seg w (some ⟨g, 0, none⟩) l := by
  intro i hi
  refine ⟨g, 0, rfl, h.lt, ?_, ?_⟩
  · have := h.cell (i := i * 2) (by omega)
    simpa using this
  · have := h.cell (i := i * 2 + 1) (by omega)
    rw [show 0 + i * 2 + 1 = i * 2 + 1 by omega, this]
    have e1 : (i * 2 + 1) % 2 = 1 := by omega
    have e2 : (i * 2 + 1) / 2 = i := by omega
    simp [e1, e2]

theorem Row.below {w w' : World} {g : Nat} {l : List (Int × Int)} (h : Row w g l) (hb : Below w.heap.size w w') : Row w' g l := h.of_block (hb.block _ h.lt)

theorem hid {p : Prop} (h : p) : Hid p := h
theorem ofDrew {w w' : World} (h : Below w.drew.heap.size w.drew w') : Below w.heap.size w w' := ⟨h.os, h.tape, h.output, h.size, h.block⟩
/-- Two stretches, one behind the other. -/
theorem Below.then {a b c : World} {B : Nat} (h : Below B a b) (k : Below b.heap.size b c) (hB : B ≤ b.heap.size) : Below B a c := h.trans (k.mono hB)

/-- Cells and marks below the heap's end are as they were: two rules for a walk. -/
theorem bcell {W w1 : World} (hb : Below W.heap.size W w1) : (∀ b o, b < W.heap.size → w1.cell? ⟨b, o, none⟩ = W.cell? ⟨b, o, none⟩) ∧ (∀ b o, b < W.heap.size → w1.frozen? ⟨b, o, none⟩ = W.frozen? ⟨b, o, none⟩) :=
  ⟨fun b o h => hb.cell (p := ⟨b, o, none⟩) h, fun b o h => hb.frozen (p := ⟨b, o, none⟩) h⟩

/-- A world that has grown out of W: all that was there is as it was. -/
structure Gr (W : World) where
  val : World
  below : Below W.heap.size W val

theorem Gr.ne (W : World) : Nonempty (Gr W) := ⟨⟨W, Below.refl _ _⟩⟩
/-- A region that draws its order and in which nothing old is written is walked once, in the order of the text, in every world that has grown out of the one at hand. -/
theorem wp_region_gr {P : Program} {id : Nat} {Q : Exit → Act → World → Prop} {a : Act} {w : World} {l : List Oper} (hm : P.follows .mixedOrders = true) (hB : Region.lexB .any l.toArray = true)
    (h : wpQuiet P l.toArray (fun w' => ∃ g : Gr w, w' = g.val) (fun a' => ∀ w', (∃ g : Gr w, w' = g.val) → Q .normal a' w') l a) : (Code.region id l.toArray true).wp P Q a w :=
  wp_region_quiet (C := fun w' => ∃ g : Gr w, w' = g.val) hm hB ⟨⟨w.drew, (Below.refl _ _).drew⟩, rfl⟩ (by simpa using h)

theorem Calls.gr {P : Program} {f : FuncId} {args : Array Value} {W : World} {v : Value} (g : Gr W)
    (h : Calls P f args g.val fun e w' => e = .returned v ∧ Below g.val.heap.size g.val w') : Calls P f args g.val fun e w'' => e = .returned v ∧ ∃ g' : Gr W, w'' = g'.val :=
  h.mono fun _ w'' ⟨he, hb⟩ => ⟨he, ⟨w'', g.below.trans (hb.mono g.below.size)⟩, rfl⟩

theorem Gr.cell {W : World} (g : Gr W) {b o : Nat} {v : Value} (h : W.cell? ⟨b, o, none⟩ = some v) (hb : b < W.heap.size) : g.val.cell? ⟨b, o, none⟩ = some v :=
  (g.below.cell (p := ⟨b, o, none⟩) hb).trans h

/-- A cell's box at the heap's end of w, kept in all that has grown out of w. -/
def BoxIn (w W : World) (c : Int × Int) : Prop :=
  W.cell? ⟨w.heap.size, 0, none⟩ = some (.int .i64 c.1) ∧ W.cell? ⟨w.heap.size, 1, none⟩ = some (.int .i64 c.2) ∧ w.heap.size < W.heap.size ∧ Below w.heap.size w W
theorem BoxIn.step {w W W' : World} {c : Int × Int} (h : BoxIn w W c) (hb : Below W.heap.size W W') : BoxIn w W' c :=
  ⟨(hb.cell (p := ⟨w.heap.size, 0, none⟩) h.2.2.1).trans h.1, (hb.cell (p := ⟨w.heap.size, 1, none⟩) h.2.2.1).trans h.2.1, Nat.lt_of_lt_of_le h.2.2.1 hb.size, h.2.2.2.trans (hb.mono h.2.2.2.size)⟩
theorem BoxIn.below {w W : World} {c : Int × Int} (h : BoxIn w W c) : Below w.heap.size w W := h.2.2.2
theorem BoxIn.drew {w W : World} {c : Int × Int} (h : BoxIn w W c) : BoxIn w W.drew c := h.step ((Below.refl _ _).drew)
theorem BoxIn.new (w : World) (c : Int × Int) (t : TypeId) : BoxIn w (w.alloc (.cells #[.int .i64 c.1, .int .i64 c.2] t)) c := by
  refine ⟨?_, ?_, by simp, (Below.refl _ _).alloc (Nat.le_refl _) _⟩
  · unfold World.cell?; rw [heap_alloc_new]; rfl
  · unfold World.cell?; rw [heap_alloc_new]; rfl

end Go.Proofs.Ytgfdkolhldbehaa

namespace Go.Proofs.Ytgfdkolhldbehaa
open Go.RowKit
set_option linter.unusedVariables false
attribute [local go_sem ↓] Go.wp_at_zero Go.wp_at_succ

set_option maxHeartbeats 400000 in
theorem c_toCell (x y : Int) (w : World) :
    Calls Try.prog 91 #[.agg #[.int .i64 x, .int .i64 y]] w fun e w' => e = .returned (.agg #[.int .i64 x, .int .i64 y]) ∧ Below w.heap.size w w' := by
  go_enter Try.func91, Try.ntmps91
  go_wp2
  exact bodyPost_ret (v := .agg #[.int .i64 x, .int .i64 y]) (by simp [results, Try.results91, go_sem]) rfl ⟨rfl, (((Below.refl _ _).alloc (Nat.le_refl _) _).alloc (by simp) _).alloc (by simp; omega) _⟩

theorem take_eq_succ {l m : List (Int × Int)} {k : Nat} {x y : Int × Int} (h1 : k < l.length) (h2 : k < m.length) (hx : l.getD k (0, 0) = x) (hy : m.getD k (0, 0) = y) (ht : l.take k = m.take k) (h : x = y) : l.take (k + 1) = m.take (k + 1) := by
  rw [List.take_succ_eq_append_getElem h1, List.take_succ_eq_append_getElem h2, ht]
  simp [h1, h2] at hx hy
  rw [hx, hy, h]
theorem ne_of_at {l m : List (Int × Int)} {k : Nat} {x y : Int × Int} (hx : l.getD k (0, 0) = x) (hy : m.getD k (0, 0) = y) (h : ¬ x = y) : decide (l = m) = false := by
  simp
  intro e
  subst e
  exact h (hx.symm.trans hy)

set_option maxHeartbeats 400000 in
theorem c_eqCellS (a b : Option Addr) (l m : List (Int × Int)) (ca cb : Nat) (w : World) (ha : Seg w a l) (hb : Seg w b m) (hl : l.length ≤ 1048576) (hm : m.length ≤ 1048576) :
    Calls Try.prog 38 #[.slice a l.length ca, .slice b m.length cb] w fun e w' => e = .returned (.bool (decide (l = m))) ∧ Below w.heap.size w w' := by
  by_cases hlm : l.length = m.length
  · have hlm' : ((l.length : Int) != (m.length : Int)) = false := by simp [hlm]
    have HLM : Hid (l.length = m.length) := hlm
    have hle : l.length ≤ m.length := by omega
    clear hlm
    go_enter Try.func38, Try.ntmps38
    go_wp2
    go_loopw [5] (fun i wr => ∃ k : Nat, k ≤ l.length ∧ i = .int .i64 k ∧ Hid (l.take k = m.take k) ∧ Below w.heap.size w wr) (fun i _ => l.length - (intOf i).toNat)
    case atStart => exact ⟨0, Nat.zero_le _, rfl, (rfl : _ = _), Below.refl _ _⟩
    case round =>
      obtain ⟨k, hk, rfl, ht, hbel⟩ := hrel
      by_cases hlt : k < l.length
      · obtain ⟨b1, o1, rfl, hb1, p1, p2⟩ := (ha k hlt)
        obtain ⟨b2, o2, rfl, hb2, q1, q2⟩ := (hb k (by omega))
        have g1 := (hbel.cell (p := ⟨b1, o1 + k * 2, none⟩) hb1).trans p1
        have g2 := (hbel.cell (p := ⟨b1, o1 + k * 2 + 1, none⟩) hb1).trans p2
        have g3 := (hbel.cell (p := ⟨b2, o2 + k * 2, none⟩) hb2).trans q1
        have g4 := (hbel.cell (p := ⟨b2, o2 + k * 2 + 1, none⟩) hb2).trans q2
        clear p1 p2 q1 q2
        have hw1 : b1 < wr.heap.size := Nat.lt_of_lt_of_le hb1 hbel.size
        have hw2 : b2 < wr.heap.size := Nat.lt_of_lt_of_le hb2 hbel.size
        generalize hx : l.getD k (0, 0) = x at *
        generalize hy : m.getD k (0, 0) = y at *
        have HX := hid (hx)
        have HY := hid (hy)
        clear hx hy
        have k0 : (0 : Int) ≤ (k : Int) := by omega
        have k1 : (k : Int) < (l.length : Int) := by omega
        have k2 : (k : Int) < (m.length : Int) := by omega
        by_cases hxy : x = y
        · have hd : eqC x y = true := by simp [eqC, hxy]
          have HXY := hid (hxy)
          clear hxy
          go_wp2
          go_region_held3 (fun w' => w'.cell? ⟨b1, o1 + k * 2, none⟩ = some (.int .i64 x.1) ∧ w'.cell? ⟨b1, o1 + k * 2 + 1, none⟩ = some (.int .i64 x.2) ∧ w'.cell? ⟨b2, o2 + k * 2, none⟩ = some (.int .i64 y.1) ∧ w'.cell? ⟨b2, o2 + k * 2 + 1, none⟩ = some (.int .i64 y.2)) (go_keep)
            (first | (go_at_call 92; refine (c_eqCell x y _).mono ?_; rintro e w' ⟨rfl, hbq⟩; have hbq' := ofDrew hbq; have hcq := (bcell hbq').1))
          clear hcq hbq
          go_wp2
          go_roundw
          case rel => exact ⟨k + 1, by omega, by go_num, take_eq_succ hlt (by omega) HX.out HY.out ht.out HXY.out, hbel.trans (hbq'.mono hbel.size)⟩
          case measure => simp [intOf]; omega
        · have hd : eqC x y = false := by simp [eqC, hxy]
          have HXY := hid (hxy)
          clear hxy
          go_wp2
          go_region_held3 (fun w' => w'.cell? ⟨b1, o1 + k * 2, none⟩ = some (.int .i64 x.1) ∧ w'.cell? ⟨b1, o1 + k * 2 + 1, none⟩ = some (.int .i64 x.2) ∧ w'.cell? ⟨b2, o2 + k * 2, none⟩ = some (.int .i64 y.1) ∧ w'.cell? ⟨b2, o2 + k * 2 + 1, none⟩ = some (.int .i64 y.2)) (go_keep)
            (first | (go_at_call 92; refine (c_eqCell x y _).mono ?_; rintro e w' ⟨rfl, hbq⟩; have hbq' := ofDrew hbq; have hcq := (bcell hbq').1))
          clear hcq hbq
          go_wp2
          go_ret
          exact ⟨ret_bool (ne_of_at HX.out HY.out HXY.out).symm, hbel.trans (hbq'.mono hbel.size)⟩
      · go_wp2
        go_ret
        have e1 : l.take k = l := List.take_of_length_le (by omega)
        have e2 : m.take k = m := List.take_of_length_le (by have := HLM.out; omega)
        have e3 := ht.out
        rw [e1, e2] at e3
        exact ⟨ret_bool (by simp [e3]), hbel⟩
  · have hlm' : ((l.length : Int) != (m.length : Int)) = true := by simp; omega
    go_enter Try.func38, Try.ntmps38
    go_wp2
    go_ret
    exact ⟨ret_bool (by simp; intro e; exact hlm (by rw [e])), Below.refl _ _⟩
end Go.Proofs.Ytgfdkolhldbehaa

namespace Go.Proofs.Ytgfdkolhldbehaa

abbrev Cl := Int × Int
/-- The cell at a place. -/
def at_ (l : List Cl) (i : Nat) : Cl := l.getD i (0, 0)
/-- Are the first k cells within reach? -/
def allTo (l : List Cl) (k : Nat) : Bool := (List.range k).all fun i => inR (at_ l i)
/-- Does each of the first k cells (but the first) stand behind the one ahead of it? -/
def risTo (l : List Cl) (k : Nat) : Bool := (List.range k).all fun i => decide (i = 0) || ltC (at_ l (i - 1)) (at_ l i)
/-- Good cells. -/
def good (l : List Cl) : Bool := decide (l.length ≤ 120) && allTo l l.length && risTo l l.length

theorem allTo_succ (l : List Cl) (k : Nat) : allTo l (k + 1) = (allTo l k && inR (at_ l k)) := by simp [allTo, List.range_succ]
theorem risTo_succ (l : List Cl) (k : Nat) : risTo l (k + 1) = (risTo l k && (decide (k = 0) || ltC (at_ l (k - 1)) (at_ l k))) := by simp [risTo, List.range_succ]
theorem allTo_false {l : List Cl} {k n : Nat} (h : k < n) (hk : inR (at_ l k) = false) : allTo l n = false := by
  simp only [allTo, List.all_eq_false]
  exact ⟨k, List.mem_range.2 h, by simp [hk]⟩
theorem risTo_false {l : List Cl} {k n : Nat} (h : k < n) (h0 : 0 < k) (hk : ltC (at_ l (k - 1)) (at_ l k) = false) : risTo l n = false := by
  simp only [risTo, List.all_eq_false]
  exact ⟨k, List.mem_range.2 h, by simp [hk]; omega⟩
theorem cmpC_lt (a b : Cl) : decide (0 ≤ cmpC a b) = !ltC a b := by
  obtain ⟨x, y⟩ := a
  obtain ⟨u, v⟩ := b
  by_cases h : y = v
  · by_cases h1 : x < u
    · simp [cmpC, cmpI, ltC, h, h1]
    · by_cases h2 : u < x <;> simp [cmpC, cmpI, ltC, h, h1, h2] <;> omega
  · by_cases h1 : y < v
    · simp [cmpC, cmpI, ltC, h, h1]
    · by_cases h2 : v < y <;> simp [cmpC, cmpI, ltC, h, h1, h2] <;> omega
theorem good_len {l : List Cl} (h : good l = true) : l.length ≤ 120 := by simp [good] at h; exact h.1.1
end Go.Proofs.Ytgfdkolhldbehaa

namespace Go.Proofs.Ytgfdkolhldbehaa
open Go.RowKit
set_option linter.unusedVariables false
attribute [local go_sem ↓] Go.wp_at_zero Go.wp_at_succ

theorem info_Cell : (Try.prog.info? 36).map (fun i => (i.zero, i.size, i.bytes)) = some (some (.agg #[.int .i64 0, .int .i64 0]), 2, 16) := by kernel_rfl

theorem make_Cells (n : Nat) (hn : n ≤ 1048576) (w : World) :
    (Instr.makeSlice 23 (.int .i64 (n : Int)) (.int .i64 (n : Int))).run Try.prog w = .ok (.slice (some ⟨w.heap.size, 0, none⟩) n n) (w.alloc (.cells (madeCells #[.int .i64 0, .int .i64 0] (n * 2)) 36)) := by
  obtain ⟨i, hi, hz, hs, hb⟩ := info_parts info_Cell
  have := run_make (P := Try.prog) w 23 36 i _ Try.underlying23 hi hz .i64 .i64 n n (by omega) (Int.le_refl _) (by rw [hb]; omega) (by omega)
  simpa [hs, Value.cells] using this

/-- What stands in a row of cells of which the first k are laid. -/
def cellTo (l : List Cl) (k : Nat) (j : Nat) : Value := .int .i64 (if j < k * 2 then (if j % 2 = 0 then (at_ l (j / 2)).1 else (at_ l (j / 2)).2) else 0)

theorem made_row (w : World) (l : List Cl) : (w.alloc (.cells (madeCells #[.int .i64 0, .int .i64 0] (l.length * 2)) 36)).rowIs w.heap.size 36 (l.length * 2) (cellTo l 0) := by
  refine ⟨_, heap_alloc_new _ _, size_madeCells _ _, fun i hi => ?_⟩
  have h2 : i % 2 = 0 ∨ i % 2 = 1 := by omega
  rcases h2 with h2 | h2 <;> simp [madeCells, hi, h2, cellTo]

theorem row_step {w : World} {g : Nat} {l : List Cl} {k : Nat} (h : w.rowIs g 36 (l.length * 2) (cellTo l k)) (hk : k < l.length) :
    ((w.setCell ⟨g, k * 2, none⟩ (.int .i64 (at_ l k).1)).setCell ⟨g, k * 2 + 1, none⟩ (.int .i64 (at_ l k).2)).rowIs g 36 (l.length * 2) (cellTo l (k + 1)) := by
  refine ((h.set (k * 2) _).set (k * 2 + 1) _).congr fun j hj => ?_
  by_cases h1 : j = k * 2 + 1
  · have e1 : j % 2 = 1 := by omega
    have e2 : j / 2 = k := by omega
    have e3 : j < (k + 1) * 2 := by omega
    simp only [cellTo, if_pos h1, if_pos e3, e1, e2]
    rfl
  · by_cases h2 : j = k * 2
    · have e1 : j % 2 = 0 := by omega
      have e2 : j / 2 = k := by omega
      have e3 : j < (k + 1) * 2 := by omega
      simp only [cellTo, if_neg h1, if_pos h2, if_pos e3, e1, e2]
      rfl
    · simp only [cellTo, if_neg h1, if_neg h2]
      by_cases h3 : j < k * 2
      · rw [if_pos h3, if_pos (show j < (k + 1) * 2 by omega)]
      · rw [if_neg h3, if_neg (show ¬ j < (k + 1) * 2 by omega)]

theorem row_done {w : World} {g : Nat} {l : List Cl} (h : w.rowIs g 36 (l.length * 2) (cellTo l l.length)) : Row w g l :=
  h.congr fun j hj => by simp [cellTo, hj, at_]

set_option maxHeartbeats 400000 in
theorem c_toCellS (a : Option Addr) (l : List Cl) (ca : Nat) (w : World) (ha : Seg w a l) (hl : l.length ≤ 1048576) :
    Calls Try.prog 37 #[.slice a l.length ca] w fun e w' => e = .returned (.slice (some ⟨w.heap.size, 0, none⟩) l.length l.length) ∧ Row w' w.heap.size l ∧ Below w.heap.size w w' := by
  have hmk := make_Cells l.length hl
  have R0 := hid (made_row w l)
  go_enter Try.func37, Try.ntmps37
  go_wp2
  go_loopw [4] (fun i wr => ∃ k : Nat, k ≤ l.length ∧ i = .int .i64 k ∧ wr.rowIs w.heap.size 36 (l.length * 2) (cellTo l k) ∧ Below w.heap.size w wr) (fun i _ => l.length - (intOf i).toNat)
  case atStart => exact ⟨0, Nat.zero_le _, rfl, R0.out, (Below.refl _ _).alloc (Nat.le_refl _) _⟩
  case round =>
    clear R0 hmk
    obtain ⟨k, hk, rfl, hR, hbel⟩ := hrel
    by_cases hlt : k < l.length
    · obtain ⟨b1, o1, rfl, hb1, p1, p2⟩ := ha k hlt
      have g1 := (hbel.cell (p := ⟨b1, o1 + k * 2, none⟩) hb1).trans p1
      have g2 := (hbel.cell (p := ⟨b1, o1 + k * 2 + 1, none⟩) hb1).trans p2
      change _ = some (Value.int .i64 (at_ l k).1) at g1
      change _ = some (Value.int .i64 (at_ l k).2) at g2
      clear p1 p2
      have k0 : (0 : Int) ≤ (k : Int) := by omega
      have k1 : (k : Int) < (l.length : Int) := by omega
      have hR' := hid hR
      clear hR
      go_wp2_with (go_at_call 91; refine (c_toCell _ _ _).mono ?_; rintro e w1 ⟨rfl, hbq⟩; have hr1 := hR'.out.of_block (hbq.block _ hR'.out.lt); have c1 := hr1.cell (i := k * 2) (by omega); have c2 := hr1.cell (i := k * 2 + 1) (by omega); have f1 := hr1.frozen (k * 2); have f2 := hr1.frozen (k * 2 + 1))
      go_roundw
      case rel => exact ⟨k + 1, by omega, by go_num, row_step hr1 hlt, ((hbel.trans (hbq.mono hbel.size)).setCell (Nat.le_refl _) _).setCell (Nat.le_refl _) _⟩
      case measure => simp [intOf]; omega
    · go_wp2
      go_ret
      have : k = l.length := by omega
      subst this
      exact ⟨rfl, row_done hR, hbel⟩

set_option maxHeartbeats 400000 in
theorem c_allInReach (a : Option Addr) (l : List Cl) (ca : Nat) (w : World) (ha : Seg w a l) (hl : l.length ≤ 1048576) :
    Calls Try.prog 116 #[.slice a l.length ca] w fun e w' => e = .returned (.bool (allTo l l.length)) ∧ Below w.heap.size w w' := by
  go_enter Try.func116, Try.ntmps116
  go_wp2
  go_loopw [7] (fun i wr => ∃ k : Nat, k ≤ l.length ∧ i = .int .i64 k ∧ Hid (allTo l k = true) ∧ Below w.heap.size w wr) (fun i _ => l.length - (intOf i).toNat)
  case atStart => exact ⟨0, Nat.zero_le _, rfl, (rfl : _ = _), Below.refl _ _⟩
  case round =>
    obtain ⟨k, hk, rfl, hT, hbel⟩ := hrel
    by_cases hlt : k < l.length
    · obtain ⟨b1, o1, rfl, hb1, p1, p2⟩ := ha k hlt
      have g1 := (hbel.cell (p := ⟨b1, o1 + k * 2, none⟩) hb1).trans p1
      have g2 := (hbel.cell (p := ⟨b1, o1 + k * 2 + 1, none⟩) hb1).trans p2
      change _ = some (Value.int .i64 (at_ l k).1) at g1
      change _ = some (Value.int .i64 (at_ l k).2) at g2
      clear p1 p2
      have k0 : (0 : Int) ≤ (k : Int) := by omega
      have k1 : (k : Int) < (l.length : Int) := by omega
      cases hin : inR (at_ l k)
      · go_wp2_with (go_at_call 140; refine (c_inReach (at_ l k) _).mono ?_; rintro e w1 ⟨rfl, hbq⟩)
        go_ret
        exact ⟨ret_bool (allTo_false hlt hin).symm, (hbel.alloc hbel.size _).trans (hbq.mono (by simp; have := hbel.size; omega))⟩
      · go_wp2_with (go_at_call 140; refine (c_inReach (at_ l k) _).mono ?_; rintro e w1 ⟨rfl, hbq⟩)
        go_roundw
        case rel => exact ⟨k + 1, by omega, by go_num, (show _ = true by rw [allTo_succ, hT.out, hin]; rfl), (hbel.alloc hbel.size _).trans (hbq.mono (by simp; have := hbel.size; omega))⟩
        case measure => simp [intOf]; omega
    · go_wp2
      go_ret
      have : k = l.length := by omega
      subst this
      exact ⟨ret_bool hT.out.symm, hbel⟩


theorem c_l1There' (c : Cl) (v : Bool) (h : inR c = v) (w : World) :
    Calls Try.prog 119 #[.agg #[.int .i64 c.1, .int .i64 c.2]] w fun e w' => e = .returned (.bool v) ∧ Below w.heap.size w w' := by
  rw [← h]; exact c_l1There c w
theorem c_l1Less' (c d : Cl) (v : Bool) (h : ltC c d = v) (w : World) :
    Calls Try.prog 120 #[.agg #[.int .i64 c.1, .int .i64 c.2], .agg #[.int .i64 d.1, .int .i64 d.2]] w fun e w' => e = .returned (.bool v) ∧ Below w.heap.size w w' := by
  rw [← h]; exact c_l1Less c d w

set_option maxHeartbeats 400000 in
theorem c_areRising (a : Option Addr) (l : List Cl) (ca : Nat) (w : World) (ha : Seg w a l) (hl : l.length ≤ 1048576) :
    Calls Try.prog 117 #[.slice a l.length ca] w fun e w' => e = .returned (.bool (risTo l l.length)) ∧ Below w.heap.size w w' := by
  go_enter Try.func117, Try.ntmps117
  go_wp2
  go_loopw [3] (fun i wr => ∃ z : Int, 1 ≤ z ∧ (z ≤ l.length ∨ z = 1) ∧ i = .int .i64 z ∧ Hid (risTo l z.toNat = true) ∧ Below w.heap.size w wr) (fun i _ => l.length - (intOf i).toNat)
  case atStart => exact ⟨1, by omega, .inr rfl, rfl, (rfl : _ = _), Below.refl _ _⟩
  case round =>
    obtain ⟨z, hz1, hk, rfl, hT, hbel⟩ := hrel
    have HK := hid hk
    clear hk
    by_cases hlt : z < l.length
    · obtain ⟨b1, o1, rfl, hb1, p1, p2⟩ := ha z.toNat (by omega)
      obtain ⟨b2, o2, e2, hb2, q1, q2⟩ := ha (z.toNat - 1) (by omega)
      simp only [Option.some.injEq, Addr.mk.injEq, and_true] at e2
      obtain ⟨rfl, rfl⟩ := e2
      have hw1 : b1 < wr.heap.size := Nat.lt_of_lt_of_le hb1 hbel.size
      have g1 := fun g : Gr wr => g.cell ((hbel.cell (p := ⟨b1, o1 + z.toNat * 2, none⟩) hb1).trans p1) hw1
      have g2 := fun g : Gr wr => g.cell ((hbel.cell (p := ⟨b1, o1 + z.toNat * 2 + 1, none⟩) hb1).trans p2) hw1
      have g3 := fun g : Gr wr => g.cell ((hbel.cell (p := ⟨b1, o1 + (z.toNat - 1) * 2, none⟩) hb1).trans q1) hw1
      have g4 := fun g : Gr wr => g.cell ((hbel.cell (p := ⟨b1, o1 + (z.toNat - 1) * 2 + 1, none⟩) hb1).trans q2) hw1
      change ∀ g : Gr wr, _ = some (Value.int .i64 (at_ l z.toNat).1) at g1
      change ∀ g : Gr wr, _ = some (Value.int .i64 (at_ l z.toNat).2) at g2
      change ∀ g : Gr wr, _ = some (Value.int .i64 (at_ l (z.toNat - 1)).1) at g3
      change ∀ g : Gr wr, _ = some (Value.int .i64 (at_ l (z.toNat - 1)).2) at g4
      clear p1 p2 q1 q2
      have hne := Gr.ne wr
      have hS := risTo_succ l z.toNat
      rw [hT.out] at hS
      have hF := fun h => risTo_false (l := l) (k := z.toNat) (n := l.length) (by omega) (by omega) h
      generalize at_ l z.toNat = x at *
      generalize at_ l (z.toNat - 1) = y at *
      have HS := hid hS
      have HF := hid hF
      clear hS hF
      have hcl := cmpC_lt y x
      cases hin : ltC y x
      · rw [hin] at hcl
        have hge : 0 ≤ cmpC y x := by simpa using hcl
        clear hcl
        go_wp2
        refine wp_region_gr (by kernel_rfl) (by kernel_rfl) ?_
        repeat (go_big_quiet_step (first | (go_at_call 125; exact Calls.gr _ (c_compareCells y x _))))
        refine wpQuiet_nil ?_
        rintro _ ⟨g, rfl⟩
        clear g1 g2 g3 g4
        go_wp2
        go_ret
        exact ⟨ret_bool (HF.out hin).symm, hbel.trans (g.below.mono hbel.size)⟩
      · rw [hin] at hcl
        have hge : cmpC y x < 0 := by simpa using hcl
        clear hcl
        go_wp2
        refine wp_region_gr (by kernel_rfl) (by kernel_rfl) ?_
        repeat (go_big_quiet_step (first | (go_at_call 125; exact Calls.gr _ (c_compareCells y x _))))
        refine wpQuiet_nil ?_
        rintro _ ⟨g, rfl⟩
        clear g1 g2 g3 g4
        go_wp2
        go_roundw
        case rel => exact ⟨z + 1, by omega, .inl (by omega), by go_num, (show _ = true by rw [show (z + 1).toNat = z.toNat + 1 by omega, HS.out, hin]; simp), hbel.trans (g.below.mono hbel.size)⟩
        case measure => simp [intOf]; omega
    · have hge : (l.length : Int) ≤ z := by omega
      go_wp2
      go_ret
      refine ⟨ret_bool ?_, hbel⟩
      rcases HK.out with h | h
      · have : l.length = z.toNat := by omega
        rw [this, hT.out]
      · have h1 : l.length = 0 ∨ l.length = 1 := by omega
        rcases h1 with h1 | h1 <;> rw [h1] <;> rfl

theorem good_false_reach {l : List Cl} {k : Nat} (hlt : k < l.length) (h : inR (at_ l k) = false) : good l = false := by
  simp [good, allTo_false hlt h]
theorem good_false_rise {l : List Cl} {k : Nat} (hlt : k < l.length) (h0 : 0 < k) (h : ltC (at_ l (k - 1)) (at_ l k) = false) : good l = false := by
  simp [good, risTo_false hlt h0 h]

theorem cell_new0 (w : World) (u v : Value) (t : TypeId) : (w.alloc (.cells #[u, v] t)).cell? ⟨w.heap.size, 0, none⟩ = some u := by unfold World.cell?; rw [heap_alloc_new]; rfl
theorem cell_new1 (w : World) (u v : Value) (t : TypeId) : (w.alloc (.cells #[u, v] t)).cell? ⟨w.heap.size, 1, none⟩ = some v := by unfold World.cell?; rw [heap_alloc_new]; rfl
theorem cell_old (w : World) (o : Obj) {b i : Nat} {v : Value} (h : w.cell? ⟨b, i, none⟩ = some v) (hb : b < w.heap.size) : (w.alloc o).cell? ⟨b, i, none⟩ = some v :=
  (((Below.refl _ _).alloc (Nat.le_refl _) o).cell (p := ⟨b, i, none⟩) hb).trans h

set_option maxHeartbeats 400000 in
theorem c_sGood (a : Option Addr) (l : List Cl) (ca : Nat) (w : World) (ha : Seg w a l) (hl : l.length ≤ 1048576) :
    Calls Try.prog 72 #[.slice a l.length ca] w fun e w' => e = .returned (.bool (good l)) ∧ Below w.heap.size w w' := by
  go_enter Try.func72, Try.ntmps72
  go_wp2
  go_loopw [7] (fun i wr => ∃ k : Nat, k ≤ l.length ∧ i = .int .i64 k ∧ Hid (allTo l k = true ∧ risTo l k = true) ∧ Below w.heap.size w wr) (fun i _ => l.length - (intOf i).toNat)
  case atStart => exact ⟨0, Nat.zero_le _, rfl, (⟨rfl, rfl⟩ : _ ∧ _), Below.refl _ _⟩
  case round =>
    obtain ⟨k, hk, rfl, hT, hbel⟩ := hrel
    by_cases hlt : k < l.length
    · obtain ⟨b1, o1, rfl, hb1, p1, p2⟩ := ha k hlt
      have g1 := (hbel.cell (p := ⟨b1, o1 + k * 2, none⟩) hb1).trans p1
      have g2 := (hbel.cell (p := ⟨b1, o1 + k * 2 + 1, none⟩) hb1).trans p2
      change _ = some (Value.int .i64 (at_ l k).1) at g1
      change _ = some (Value.int .i64 (at_ l k).2) at g2
      clear p1 p2
      have hw1 : b1 < wr.heap.size := Nat.lt_of_lt_of_le hb1 hbel.size
      have k0 : (0 : Int) ≤ (k : Int) := by omega
      have k1 : (k : Int) < (l.length : Int) := by omega
      have HG1 := hid (good_false_reach hlt)
      have HG2 := hid (good_false_rise hlt)
      have HA := hid (allTo_succ l k)
      have HR := hid (risTo_succ l k)
      have hprev : ∀ j, j < l.length → wr.cell? ⟨b1, o1 + j * 2, none⟩ = some (.int .i64 (at_ l j).1) ∧ wr.cell? ⟨b1, o1 + j * 2 + 1, none⟩ = some (.int .i64 (at_ l j).2) := by
        intro j hj
        obtain ⟨b2, o2, e2, hb2, q1, q2⟩ := ha j hj
        simp only [Option.some.injEq, Addr.mk.injEq, and_true] at e2
        obtain ⟨rfl, rfl⟩ := e2
        exact ⟨(hbel.cell (p := ⟨b1, _, none⟩) hb1).trans q1, (hbel.cell (p := ⟨b1, _, none⟩) hb1).trans q2⟩
      have HP := hid (hprev (k - 1) (by omega))
      clear hprev ha
      generalize at_ l k = x at *
      generalize at_ l (k - 1) = y at *
      have n0 := fun g : Gr (wr.alloc (.cells #[.int .i64 x.1, .int .i64 x.2] 36)) => g.cell (cell_new0 wr (.int .i64 x.1) (.int .i64 x.2) 36) (by simp)
      have n1 := fun g : Gr (wr.alloc (.cells #[.int .i64 x.1, .int .i64 x.2] 36)) => g.cell (cell_new1 wr (.int .i64 x.1) (.int .i64 x.2) 36) (by simp)
      have hne := Gr.ne (wr.alloc (.cells #[.int .i64 x.1, .int .i64 x.2] 36))
      cases hin : inR x
      · go_wp2
        refine wp_region_gr (by kernel_rfl) (by kernel_rfl) ?_
        repeat (go_big_quiet_step (first | (go_at_call 119; exact Calls.gr _ (c_l1There' x false hin _))))
        refine wpQuiet_nil ?_
        rintro _ ⟨g, rfl⟩
        clear n0 n1
        go_wp2
        go_ret
        exact ⟨ret_bool (HG1.out hin).symm, (hbel.alloc hbel.size _).trans (g.below.mono (by simp; have := hbel.size; omega))⟩
      · by_cases hk0 : 0 < k
        · have m0 := fun g : Gr (wr.alloc (.cells #[.int .i64 x.1, .int .i64 x.2] 36)) => g.cell (cell_old wr (.cells #[.int .i64 x.1, .int .i64 x.2] 36) HP.out.1 hw1) (by simp; omega)
          have m1 := fun g : Gr (wr.alloc (.cells #[.int .i64 x.1, .int .i64 x.2] 36)) => g.cell (cell_old wr (.cells #[.int .i64 x.1, .int .i64 x.2] 36) HP.out.2 hw1) (by simp; omega)
          cases hin2 : ltC y x
          · go_wp2
            refine wp_region_gr (by kernel_rfl) (by kernel_rfl) ?_
            repeat (go_big_quiet_step (first | (go_at_call 119; exact Calls.gr _ (c_l1There' x true hin _)) | (go_at_call 120; exact Calls.gr _ (c_l1Less' y x false hin2 _))))
            refine wpQuiet_nil ?_
            rintro _ ⟨g, rfl⟩
            clear n0 n1 m0 m1
            go_wp2
            go_ret
            exact ⟨ret_bool (HG2.out hk0 hin2).symm, (hbel.alloc hbel.size _).trans (g.below.mono (by simp; have := hbel.size; omega))⟩
          · go_wp2
            refine wp_region_gr (by kernel_rfl) (by kernel_rfl) ?_
            repeat (go_big_quiet_step (first | (go_at_call 119; exact Calls.gr _ (c_l1There' x true hin _)) | (go_at_call 120; exact Calls.gr _ (c_l1Less' y x true hin2 _))))
            refine wpQuiet_nil ?_
            rintro _ ⟨g, rfl⟩
            clear n0 n1 m0 m1
            go_wp2
            go_roundw
            case rel => exact ⟨k + 1, by omega, by go_num, (show _ ∧ _ from ⟨by rw [HA.out, hT.out.1, hin]; rfl, by rw [HR.out, hT.out.2, hin2]; simp⟩), (hbel.alloc hbel.size _).trans (g.below.mono (by simp; have := hbel.size; omega))⟩
            case measure => simp [intOf]; omega
        · have hk0' : decide ((0 : Int) < (k : Int)) = false := by simp; omega
          go_wp2
          refine wp_region_gr (by kernel_rfl) (by kernel_rfl) ?_
          repeat (go_big_quiet_step (first | (go_at_call 119; exact Calls.gr _ (c_l1There' x true hin _))))
          refine wpQuiet_nil ?_
          rintro _ ⟨g, rfl⟩
          clear n0 n1
          go_wp2
          go_roundw
          case rel => exact ⟨k + 1, by omega, by go_num, (show _ ∧ _ from ⟨by rw [HA.out, hT.out.1, hin]; rfl, by rw [HR.out, hT.out.2, show k = 0 by omega]; simp⟩), (hbel.alloc hbel.size _).trans (g.below.mono (by simp; have := hbel.size; omega))⟩
          case measure => simp [intOf]; omega
    · go_wp2
      go_ret
      have : k = l.length := by omega
      subst this
      exact ⟨ret_bool (by simp [good, hT.out.1, hT.out.2]; omega), hbel⟩

theorem c_allInReach' (a : Option Addr) (l : List Cl) (ca : Nat) (v : Bool) (h : allTo l l.length = v) (w : World) (ha : Seg w a l) (hl : l.length ≤ 1048576) :
    Calls Try.prog 116 #[.slice a l.length ca] w fun e w' => e = .returned (.bool v) ∧ Below w.heap.size w w' := by
  rw [← h]; exact c_allInReach a l ca w ha hl

set_option maxHeartbeats 400000 in
theorem c_iGood (a : Option Addr) (l : List Cl) (ca : Nat) (w : World) (ha : Seg w a l) (hl : l.length ≤ 1048576) :
    Calls Try.prog 66 #[.slice a l.length ca] w fun e w' => e = .returned (.bool (good l)) ∧ Below w.heap.size w w' := by
  by_cases h1 : l.length ≤ 120
  · cases h2 : allTo l l.length
    · go_enter Try.func66, Try.ntmps66
      go_wp2_with (go_at_call 116; refine (c_allInReach' a l ca false h2 _ ha hl).mono ?_; rintro e w1 ⟨rfl, hb1⟩)
      go_ret
      exact ⟨ret_bool (by simp [good, h2]), hb1⟩
    · go_enter Try.func66, Try.ntmps66
      go_wp2_with (first | (go_at_call 116; refine (c_allInReach' a l ca true h2 _ ha hl).mono ?_; rintro e w1 ⟨rfl, hb1⟩) | (go_at_call 117; refine (c_areRising a l ca _ (ha.below hb1) hl).mono ?_; rintro e w2 ⟨rfl, hb2⟩))
      go_ret
      exact ⟨ret_bool (by simp [good, h1, h2]), hb1.trans (hb2.mono hb1.size)⟩
  · go_enter Try.func66, Try.ntmps66
    go_wp2
    go_ret
    exact ⟨ret_bool (by simp [good, h1]), Below.refl _ _⟩

set_option maxHeartbeats 400000 in
theorem c_szCellS_no (a : Option Addr) (n ca : Nat) (left : Int) (w : World) (h0 : 0 ≤ left) (h1 : left ≤ 1048576) (hn : n ≤ 9223372036854775807) (h : left < n) :
    Calls Try.prog 36 #[.slice a n ca, .int .i64 left] w fun e w' => e = .returned (.int .i64 (-1)) ∧ w' = w := by
  have h' : left - (n : Int) < 0 := by omega
  go_enter Try.func36, Try.ntmps36
  go_wp2
  go_ret
  exact ⟨rfl, rfl⟩

set_option maxHeartbeats 400000 in
theorem c_szCellS (a : Option Addr) (n ca : Nat) (left : Int) (w : World) (h1 : left ≤ 1048576) (h : n ≤ left) :
    Calls Try.prog 36 #[.slice a n ca, .int .i64 left] w fun e w' => e = .returned (.int .i64 (left - n)) ∧ w' = w := by
  have h' : 0 ≤ left - (n : Int) := by omega
  go_enter Try.func36, Try.ntmps36
  go_wp2
  go_ret
  exact ⟨rfl, rfl⟩
end Go.Proofs.Ytgfdkolhldbehaa

namespace Go.Proofs.Ytgfdkolhldbehaa
open Go.RowKit
set_option linter.unusedVariables false

/-- Rising, at two places that are neighbours. -/
theorem ris_next {l : List Cl} {n : Nat} (h : risTo l n = true) {i : Nat} (hi : i + 1 < n) : ltC (at_ l i) (at_ l (i + 1)) = true := by
  simp only [risTo, List.all_eq_true, List.mem_range] at h
  simpa using h (i + 1) hi
theorem ltC_trans {a b c : Cl} (h1 : ltC a b = true) (h2 : ltC b c = true) : ltC a c = true := by
  simp [ltC] at *; omega
theorem ris_lt {l : List Cl} {n : Nat} (h : risTo l n = true) {i : Nat} : ∀ j, i < j → j < n → ltC (at_ l i) (at_ l j) = true
  | 0, h0, _ => absurd h0 (Nat.not_lt_zero _)
  | j + 1, h0, hj => by
    by_cases e : i = j
    · subst e; exact ris_next h hj
    · exact ltC_trans (ris_lt h j (by omega) (by omega)) (ris_next h hj)
theorem cmpC_neg (a b : Cl) : cmpC a b < 0 ↔ ltC a b = true := by
  have := cmpC_lt a b
  cases h : ltC a b
  · rw [h] at this; simp at this; simp; omega
  · rw [h] at this; simp at this; simp; omega
theorem cmpC_zero (a b : Cl) : cmpC a b = 0 ↔ a = b := by
  obtain ⟨x, y⟩ := a
  obtain ⟨u, v⟩ := b
  simp only [cmpC, cmpI, Prod.mk.injEq]
  by_cases h : y = v
  · simp only [h, if_true, and_true]; split
    · omega
    · split <;> omega
  · simp only [h, if_false, and_false, iff_false]; split
    · simp
    · split <;> omega
theorem ltC_irr (a : Cl) : ltC a a = false := by simp [ltC]
theorem mem_at {l : List Cl} {c : Cl} : c ∈ l ↔ ∃ t, t < l.length ∧ at_ l t = c := by
  constructor
  · intro h
    obtain ⟨t, ht, rfl⟩ := List.getElem_of_mem h
    exact ⟨t, ht, by simp [at_, ht]⟩
  · rintro ⟨t, ht, rfl⟩
    simp [at_, ht]
/-- What halving comes to. -/
theorem found_iff {l : List Cl} {c : Cl} {lo : Nat} (hr : risTo l l.length = true) (h1 : ∀ t, t < lo → cmpC (at_ l t) c < 0) (h2 : ∀ t, lo ≤ t → t < l.length → 0 ≤ cmpC (at_ l t) c) (hlo : lo < l.length) :
    decide (cmpC (at_ l lo) c = 0) = decide (c ∈ l) := by
  rw [decide_eq_decide, cmpC_zero, mem_at]
  constructor
  · intro h; exact ⟨lo, hlo, h⟩
  · rintro ⟨t, ht, rfl⟩
    rcases (show t < lo ∨ t = lo ∨ lo < t by omega) with h | h | h
    · have := h1 t h
      rw [(cmpC_zero _ _).2 rfl] at this; omega
    · rw [h]
    · have a1 := h2 lo (Nat.le_refl _) hlo
      have a2 := (cmpC_neg _ _).2 (ris_lt hr t h ht)
      omega
theorem notfound {l : List Cl} {c : Cl} (h1 : ∀ t, t < l.length → cmpC (at_ l t) c < 0) : decide (c ∈ l) = false := by
  rw [decide_eq_false_iff_not, mem_at]
  rintro ⟨t, ht, rfl⟩
  have := h1 t ht
  rw [(cmpC_zero _ _).2 rfl] at this; omega
theorem low_step {l : List Cl} {c : Cl} {m : Nat} (hr : risTo l l.length = true) (hm : m < l.length) (h : cmpC (at_ l m) c < 0) : ∀ t, t < m + 1 → cmpC (at_ l t) c < 0 := by
  intro t ht
  by_cases e : t = m
  · rw [e]; exact h
  · exact (cmpC_neg _ _).2 (ltC_trans (ris_lt hr m (by omega) hm) ((cmpC_neg _ _).1 h))
theorem high_step {l : List Cl} {c : Cl} {m : Nat} (hr : risTo l l.length = true) (h : 0 ≤ cmpC (at_ l m) c) : ∀ t, m ≤ t → t < l.length → 0 ≤ cmpC (at_ l t) c := by
  intro t h1 h2
  by_cases e : m = t
  · rw [← e]; exact h
  · by_cases hn : cmpC (at_ l t) c < 0
    · have := (cmpC_neg _ _).2 (ltC_trans (ris_lt (i := m) hr t (by omega) h2) ((cmpC_neg _ _).1 hn)); omega
    · omega

set_option maxHeartbeats 1000000 in
theorem c_search (a : Option Addr) (l : List Cl) (ca : Nat) (c : Cl) (w : World) (ha : Seg w a l) (hl : l.length ≤ 1048576) (hr : risTo l l.length = true) :
    Calls Try.prog 164 #[.slice a l.length ca, .agg #[.int .i64 c.1, .int .i64 c.2], .func (.func 125) #[] #[]] w fun e w' => (∃ i : Int, e = .returned (.tuple #[.int .i64 i, .bool (decide (c ∈ l))])) ∧ Below w.heap.size w w' := by
  have HR := hid hr
  clear hr
  go_enter Try.func164, Try.ntmps164
  go_wp2
  go_loopw [9, 10] (fun s9 s10 wr => ∃ lo hi : Nat, s9 = .int .i64 lo ∧ s10 = .int .i64 hi ∧ lo ≤ hi ∧ hi ≤ l.length ∧ Below (w.alloc (.cells #[.int .i64 c.1, .int .i64 c.2] 36)).heap.size (w.alloc (.cells #[.int .i64 c.1, .int .i64 c.2] 36)) wr ∧
    Hid ((∀ t, t < lo → cmpC (at_ l t) c < 0) ∧ (∀ t, hi ≤ t → t < l.length → 0 ≤ cmpC (at_ l t) c))) (fun s9 s10 _ => (intOf s10).toNat - (intOf s9).toNat)
  case atStart => exact ⟨0, l.length, rfl, rfl, Nat.zero_le _, Nat.le_refl _, Below.refl _ _, ⟨fun t ht => absurd ht (Nat.not_lt_zero _), fun t h1 h2 => by omega⟩⟩
  case round =>
    obtain ⟨lo, hi, rfl, rfl, hlh, hin, hbel, I⟩ := hrel
    by_cases hlt : lo < hi
    · obtain ⟨b1, o1, rfl, hb1, p1, p2⟩ := ha ((lo + hi) / 2) (by omega)
      have hsz : w.heap.size + 1 ≤ wr.heap.size := by have := hbel.size; simpa using this
      have hB : Below w.heap.size w wr := ((Below.refl _ _).alloc (Nat.le_refl _) _).trans (hbel.mono (by simp))
      have g1 := fun g : Gr wr => g.cell ((hB.cell (p := ⟨b1, o1 + (lo + hi) / 2 * 2, none⟩) hb1).trans p1) (by omega)
      have g2 := fun g : Gr wr => g.cell ((hB.cell (p := ⟨b1, o1 + (lo + hi) / 2 * 2 + 1, none⟩) hb1).trans p2) (by omega)
      have g3 := fun g : Gr wr => g.cell ((hbel.cell (p := ⟨w.heap.size, 0, none⟩) (by simp)).trans (cell_new0 w (.int .i64 c.1) (.int .i64 c.2) 36)) (by omega)
      have g4 := fun g : Gr wr => g.cell ((hbel.cell (p := ⟨w.heap.size, 1, none⟩) (by simp)).trans (cell_new1 w (.int .i64 c.1) (.int .i64 c.2) 36)) (by omega)
      change ∀ g : Gr wr, _ = some (Value.int .i64 (at_ l ((lo + hi) / 2)).1) at g1
      change ∀ g : Gr wr, _ = some (Value.int .i64 (at_ l ((lo + hi) / 2)).2) at g2
      clear p1 p2
      have HL := hid (low_step (l := l) (c := c) (m := (lo + hi) / 2) HR.out (by omega))
      have HH := hid (high_step (l := l) (c := c) (m := (lo + hi) / 2) HR.out)
      generalize at_ l ((lo + hi) / 2) = x at *
      have hne := Gr.ne wr
      by_cases hx : cmpC x c < 0
      · go_wp2
        refine wp_region_gr (by kernel_rfl) (by kernel_rfl) ?_
        repeat (go_big_quiet_step (first | (go_at_call 125; exact Calls.gr _ (c_compareCells x c _))))
        refine wpQuiet_nil ?_
        rintro _ ⟨g, rfl⟩
        clear g1 g2 g3 g4
        go_wp2
        go_roundw
        case rel => exact ⟨(lo + hi) / 2 + 1, hi, by go_num, rfl, by omega, hin, hbel.trans (g.below.mono hbel.size), ⟨HL.out hx, I.out.2⟩⟩
        case measure => simp [intOf]; omega
      · go_wp2
        refine wp_region_gr (by kernel_rfl) (by kernel_rfl) ?_
        repeat (go_big_quiet_step (first | (go_at_call 125; exact Calls.gr _ (c_compareCells x c _))))
        refine wpQuiet_nil ?_
        rintro _ ⟨g, rfl⟩
        clear g1 g2 g3 g4
        go_wp2
        go_roundw
        case rel => exact ⟨lo, (lo + hi) / 2, rfl, by go_num, by omega, by omega, hbel.trans (g.below.mono hbel.size), ⟨I.out.1, HH.out (by omega)⟩⟩
        case measure => simp [intOf]; omega
    · obtain rfl : lo = hi := by omega
      by_cases hlo : lo < l.length
      · obtain ⟨b1, o1, rfl, hb1, p1, p2⟩ := ha lo hlo
        have hsz : w.heap.size + 1 ≤ wr.heap.size := by have := hbel.size; simpa using this
        have hB : Below w.heap.size w wr := ((Below.refl _ _).alloc (Nat.le_refl _) _).trans (hbel.mono (by simp))
        have g1 := fun g : Gr wr => g.cell ((hB.cell (p := ⟨b1, o1 + lo * 2, none⟩) hb1).trans p1) (by omega)
        have g2 := fun g : Gr wr => g.cell ((hB.cell (p := ⟨b1, o1 + lo * 2 + 1, none⟩) hb1).trans p2) (by omega)
        have g3 := fun g : Gr wr => g.cell ((hbel.cell (p := ⟨w.heap.size, 0, none⟩) (by simp)).trans (cell_new0 w (.int .i64 c.1) (.int .i64 c.2) 36)) (by omega)
        have g4 := fun g : Gr wr => g.cell ((hbel.cell (p := ⟨w.heap.size, 1, none⟩) (by simp)).trans (cell_new1 w (.int .i64 c.1) (.int .i64 c.2) 36)) (by omega)
        change ∀ g : Gr wr, _ = some (Value.int .i64 (at_ l lo).1) at g1
        change ∀ g : Gr wr, _ = some (Value.int .i64 (at_ l lo).2) at g2
        clear p1 p2
        have HF := hid (found_iff HR.out I.out.1 I.out.2 hlo)
        have hne := Gr.ne wr
        generalize at_ l lo = x at *
        go_wp2
        refine wp_region_gr (by kernel_rfl) (by kernel_rfl) ?_
        repeat (go_big_quiet_step (first | (go_at_call 125; exact Calls.gr _ (c_compareCells x c _))))
        refine wpQuiet_nil ?_
        rintro _ ⟨g, rfl⟩
        clear g1 g2 g3 g4
        go_wp2
        go_ret2
        exact ⟨⟨lo, ret_two rfl (vbool (by rw [← HF.out]; rfl))⟩, hB.trans (g.below.mono hB.size)⟩
      · have hlo' : decide ((lo : Int) < (l.length : Int)) = false := by simp; omega
        have hne := Gr.ne wr
        go_wp2
        refine wp_region_gr (by kernel_rfl) (by kernel_rfl) ?_
        repeat (go_big_quiet_step (fail))
        refine wpQuiet_nil ?_
        rintro _ ⟨g, rfl⟩
        go_wp2
        go_ret2
        have hB : Below w.heap.size w wr := ((Below.refl _ _).alloc (Nat.le_refl _) _).trans (hbel.mono (by simp))
        exact ⟨⟨lo, ret_two rfl (vbool (notfound (fun t ht => I.out.1 t (by omega))).symm)⟩, hB.trans (g.below.mono hB.size)⟩

set_option maxHeartbeats 400000 in
theorem c_hasCell (a : Option Addr) (l : List Cl) (ca : Nat) (c : Cl) (w : World) (ha : Seg w a l) (hl : l.length ≤ 1048576) (hr : risTo l l.length = true) :
    Calls Try.prog 144 #[.slice a l.length ca, .agg #[.int .i64 c.1, .int .i64 c.2]] w fun e w' => e = .returned (.bool (decide (c ∈ l))) ∧ Below w.heap.size w w' := by
  have hb0 : Below w.heap.size w (w.alloc (.cells #[.int .i64 c.1, .int .i64 c.2] 36)) := (Below.refl _ _).alloc (Nat.le_refl _) _
  have HC := hid (c_search a l ca c _ (ha.below hb0) hl hr)
  clear hr ha
  go_enter Try.func144, Try.ntmps144
  go_wp2_with fail
  refine HC.out.mono ?_
  rintro e w1 ⟨⟨i, rfl⟩, hb1⟩
  go_wp2
  go_ret
  exact ⟨rfl, hb0.trans (hb1.mono hb0.size)⟩

/-- Is none of the first k the cell? -/
theorem not_mem_to {l : List Cl} {c : Cl} (h : ∀ t, t < l.length → at_ l t ≠ c) : decide (c ∈ l) = false := by
  rw [decide_eq_false_iff_not, mem_at]
  rintro ⟨t, ht, e⟩
  exact h t ht e

set_option maxHeartbeats 400000 in
theorem c_l1Alive (a : Option Addr) (l : List Cl) (ca : Nat) (c : Cl) (w : World) (ha : Seg w a l) (hl : l.length ≤ 1048576) :
    Calls Try.prog 75 #[.slice a l.length ca, .agg #[.int .i64 c.1, .int .i64 c.2]] w fun e w' => e = .returned (.bool (decide (c ∈ l))) ∧ Below w.heap.size w w' := by
  go_enter Try.func75, Try.ntmps75
  go_wp2
  go_loopw [9] (fun i wr => ∃ k : Nat, k ≤ l.length ∧ i = .int .i64 k ∧ Hid (∀ t, t < k → at_ l t ≠ c) ∧ Below (w.alloc (.cells #[.int .i64 c.1, .int .i64 c.2] 36)).heap.size (w.alloc (.cells #[.int .i64 c.1, .int .i64 c.2] 36)) wr) (fun i _ => l.length - (intOf i).toNat)
  case atStart => exact ⟨0, Nat.zero_le _, rfl, (fun t ht => absurd ht (Nat.not_lt_zero _)), Below.refl _ _⟩
  case round =>
    obtain ⟨k, hk, rfl, hT, hbel⟩ := hrel
    have hB : Below w.heap.size w wr := ((Below.refl _ _).alloc (Nat.le_refl _) _).trans (hbel.mono (by simp))
    by_cases hlt : k < l.length
    · obtain ⟨b1, o1, rfl, hb1, p1, p2⟩ := ha k hlt
      have g1 := (hB.cell (p := ⟨b1, o1 + k * 2, none⟩) hb1).trans p1
      have g2 := (hB.cell (p := ⟨b1, o1 + k * 2 + 1, none⟩) hb1).trans p2
      change _ = some (Value.int .i64 (at_ l k).1) at g1
      change _ = some (Value.int .i64 (at_ l k).2) at g2
      have g3 := (hbel.cell (p := ⟨w.heap.size, 0, none⟩) (by simp)).trans (cell_new0 w (.int .i64 c.1) (.int .i64 c.2) 36)
      have g4 := (hbel.cell (p := ⟨w.heap.size, 1, none⟩) (by simp)).trans (cell_new1 w (.int .i64 c.1) (.int .i64 c.2) 36)
      have hsz : w.heap.size < wr.heap.size := by have := hbel.size; simp at this; omega
      clear p1 p2
      have k0 : (0 : Int) ≤ (k : Int) := by omega
      have k1 : (k : Int) < (l.length : Int) := by omega
      have HM := hid (fun e : at_ l k = c => mem_at.2 ⟨k, hlt, e⟩)
      have HN := hid (show at_ l k ≠ c → ∀ t, t < k + 1 → at_ l t ≠ c from fun hn t ht => by
        by_cases e : t = k
        · rw [e]; exact hn
        · exact hT.out t (by omega))
      generalize at_ l k = x at *
      by_cases h1 : x.1 = c.1
      · by_cases h2 : x.2 = c.2
        · go_wp2
          go_ret
          exact ⟨ret_bool (by simp [HM.out (Prod.ext h1 h2)]), hB.alloc hB.size _⟩
        · have hn : x ≠ c := fun e => h2 (by rw [e])
          have HN' := hid (HN.out hn)
          clear hn HN HM
          go_wp2
          go_roundw
          case rel => exact ⟨k + 1, by omega, by go_num, HN'.out, hbel.alloc hbel.size _⟩
          case measure => simp [intOf]; omega
      · have hn : x ≠ c := fun e => h1 (by rw [e])
        have HN' := hid (HN.out hn)
        clear hn HN HM
        go_wp2
        go_roundw
        case rel => exact ⟨k + 1, by omega, by go_num, HN'.out, hbel.alloc hbel.size _⟩
        case measure => simp [intOf]; omega
    · go_wp2
      go_ret
      exact ⟨ret_bool (not_mem_to (fun t ht => hT.out t (by omega))).symm, hB⟩

/-- What IsAlive answers. -/
def aliveV (l : List Cl) (c : Cl) : Bool × Bool := if good l && inR c then (decide (c ∈ l), true) else (false, false)
theorem good_ris {l : List Cl} (h : good l = true) : risTo l l.length = true := by simp [good] at h; exact h.2

theorem inR_bd {c : Cl} (h : inR c = true) : -41 ≤ c.1 ∧ c.1 ≤ 41 ∧ -41 ≤ c.2 ∧ c.2 ≤ 41 := by
  simp [inR] at h; omega
theorem good_in {l : List Cl} (h : good l = true) : ∀ i, i < l.length → inR (at_ l i) = true := by
  simp [good, allTo] at h
  exact h.1.2

theorem c_sGood' (a : Option Addr) (l : List Cl) (ca : Nat) (v : Bool) (h : good l = v) (w : World) (ha : Seg w a l) (hl : l.length ≤ 1048576) :
    Calls Try.prog 72 #[.slice a l.length ca] w fun e w' => e = .returned (.bool v) ∧ Below w.heap.size w w' := by
  rw [← h]; exact c_sGood a l ca w ha hl
theorem c_iGood' (a : Option Addr) (l : List Cl) (ca : Nat) (v : Bool) (h : good l = v) (w : World) (ha : Seg w a l) (hl : l.length ≤ 1048576) :
    Calls Try.prog 66 #[.slice a l.length ca] w fun e w' => e = .returned (.bool v) ∧ Below w.heap.size w w' := by
  rw [← h]; exact c_iGood a l ca w ha hl
theorem c_inReach' (c : Cl) (v : Bool) (h : inR c = v) (w : World) :
    Calls Try.prog 140 #[.agg #[.int .i64 c.1, .int .i64 c.2]] w fun e w' => e = .returned (.bool v) ∧ Below w.heap.size w w' := by
  rw [← h]; exact c_inReach c w

end Go.Proofs.Ytgfdkolhldbehaa

namespace Go.Proofs.Ytgfdkolhldbehaa
open Go.RowKit Go.ChangeShapes Go.WideShapes Go.ChangeAt Go.Deep Go.Joins

theorem own : ownKnob Try.prog.godebug = none := by kernel_rfl
theorem laidOut : laidOutB Try.prog = true := by kernel_rfl
theorem cells_Cell : Try.prog.cellsOf 106 = 2 := by kernel_rfl
theorem cells_int : Try.prog.cellsOf 3 = 1 := by kernel_rfl

theorem lt_of_cell {w : World} {p : Addr} {v : Value} (h : w.cell? p = some v) : p.block < w.heap.size := by
  unfold World.cell? at h
  split at h
  · rename_i hb
    exact (Array.getElem?_eq_some_iff.1 hb).1
  · cases h

theorem und_Cell : ∃ f0 f1 : Field, Try.prog.underlying 106 = some (.struct #[f0, f1]) ∧ f0.offset = 0 ∧ f1.offset = 1 ∧ f0.type = 3 ∧ f1.type = 3 :=
  ⟨_, _, Try.underlying106, rfl, rfl, rfl, rfl⟩

/-- A slice of cells that came in. -/
theorem open_cells {H : Type} {enc : TypeId × Value → H} {W : World} {base fuel : Nat} {spare : Nat → Bool} {held : Bool} {a : Option Addr} {len cap : Nat} {x : DataW H × List MemPlace}
    (h : DataW.trod enc Try.prog W base spare held fuel 51 [.slice a len cap] = some x) : ∃ l : List Cl, l.length = len ∧ l.length ≤ maxLen ∧ Seg W a l := by
  obtain ⟨f0, f1, he, o0, o1, t0, t1⟩ := und_Cell
  rcases open_slice_pairs Try.underlying51 he cells_Cell o0 o1 (by rw [t0]; exact cells_int) (by rw [t1]; exact cells_int) h with ⟨hcs, _⟩ | ⟨ad, len', cap', m, n, V0, V1, D0, D1, P0, P1, hcs, _, hl, hm, hmm, _, hc⟩
  · simp at hcs
    obtain ⟨rfl, rfl, rfl⟩ := hcs
    exact ⟨[], rfl, by simp [maxLen], fun i hi => by simp at hi⟩
  · simp at hcs
    obtain ⟨rfl, rfl, rfl⟩ := hcs
    have hlm : len ≤ m := by rw [hmm]; split <;> omega
    have each : ∀ i, i < len → ∃ c : Cl, V0 i = .int .i64 c.1 ∧ V1 i = .int .i64 c.2 := by
      intro i hi
      obtain ⟨_, _, r0, r1⟩ := hc i (by omega)
      rw [t0] at r0
      rw [t1] at r1
      obtain ⟨n0, e0, _⟩ := DataW.trod_int Try.underlying3 r0
      obtain ⟨n1, e1, _⟩ := DataW.trod_int Try.underlying3 r1
      simp at e0 e1
      exact ⟨(n0, n1), e0, e1⟩
    obtain ⟨q, hq⟩ := choose_lt each
    refine ⟨(List.range len).map q, by simp, by simp; omega, fun i hi => ?_⟩
    simp at hi
    obtain ⟨c0, c1, _, _⟩ := hc i (by omega)
    obtain ⟨c00, _, _, _⟩ := hc 0 (by omega)
    obtain ⟨b, o, spot⟩ := ad
    have hspot : spot = none := by simpa [Addr.add] using World.cell?_spot c00
    subst hspot
    rw [add_plain] at c0 c1
    have hlt := lt_of_cell c0
    refine ⟨b, o, rfl, hlt, ?_, ?_⟩
    · rw [c0, (hq i hi).1]; simp [hi]
    · rw [show o + i * 2 + 1 = o + (i * 2 + 1) by omega, c1, (hq i hi).2]; simp [hi]

set_option maxRecDepth 100000 in
/-- A cell that came in by value. -/
theorem open_cell {H : Type} {enc : TypeId × Value → H} {W : World} {base base' : Nat} {spare : Nat → Bool} {held : Bool} {v : Value} {d : DataW H} {p : List MemPlace}
    (hval : Value.okWide Try.prog W .any base' 106 v) (h : DataW.Trod enc Try.prog W base spare held 106 v d p) : ∃ c : Cl, v = .agg #[.int .i64 c.1, .int .i64 c.2] := by
  obtain ⟨c0, c1, y0, y1, m, rfl, _, _, hy0, hy1⟩ := open_agg2 Try.underlying106 (by kernel_rfl) cells_Cell hval h
  obtain ⟨x, e0, _, _⟩ := DataW.trod_int Try.underlying3 hy0
  obtain ⟨y, e1, _, _⟩ := DataW.trod_int Try.underlying3 hy1
  simp at e0 e1
  subst e0 e1
  exact ⟨(x, y), rfl⟩
set_option maxRecDepth 100000 in
/-- A number that came in. -/
theorem open_num {H : Type} {enc : TypeId × Value → H} {W : World} {base base' : Nat} {spare : Nat → Bool} {held : Bool} {v : Value} {d : DataW H} {p : List MemPlace}
    (hval : Value.okWide Try.prog W .any base' 3 v) (h : DataW.Trod enc Try.prog W base spare held 3 v d p) : ∃ n : Int, v = .int .i64 n ∧ (Lit.int .i64 n).wf = true := by
  obtain ⟨n, rfl, _, _, wn⟩ := open_int Try.underlying3 hval h
  exact ⟨n, rfl, wn⟩

end Go.Proofs.Ytgfdkolhldbehaa

namespace Go.Proofs.Ytgfdkolhldbehaa
open Go.RowKit
set_option linter.unusedVariables false

/-- Cells, one value behind the other. -/
def flat (l : List Cl) : List Value := l.flatMap fun c => [.int .i64 c.1, .int .i64 c.2]
theorem flat_length (l : List Cl) : (flat l).length = l.length * 2 := by
  induction l with
  | nil => rfl
  | cons c r ih => simp only [flat, List.flatMap_cons, List.length_append, List.length_cons, List.length_nil] at *; omega
theorem flat_append (l m : List Cl) : flat (l ++ m) = flat l ++ flat m := by simp [flat]
theorem flat_cons (c : Cl) (l : List Cl) : flat (c :: l) = .int .i64 c.1 :: .int .i64 c.2 :: flat l := by simp [flat]
theorem flat_even {l : List Cl} {i : Nat} (h : i < l.length) : (flat l)[i * 2]? = some (.int .i64 (at_ l i).1) := by
  induction l generalizing i with
  | nil => simp at h
  | cons c r ih =>
    rw [flat_cons]
    cases i with
    | zero => simp [at_]
    | succ i =>
      rw [show (i + 1) * 2 = i * 2 + 1 + 1 by omega, List.getElem?_cons_succ, List.getElem?_cons_succ, ih (by simpa using h)]
      simp [at_]
theorem flat_odd {l : List Cl} {i : Nat} (h : i < l.length) : (flat l)[i * 2 + 1]? = some (.int .i64 (at_ l i).2) := by
  induction l generalizing i with
  | nil => simp at h
  | cons c r ih =>
    rw [flat_cons]
    cases i with
    | zero => simp [at_]
    | succ i =>
      rw [show (i + 1) * 2 + 1 = i * 2 + 1 + 1 + 1 by omega, List.getElem?_cons_succ, List.getElem?_cons_succ, ih (by simpa using h)]
      simp [at_]
theorem flat_one (l : List Cl) : ∀ u ∈ flat l, u.oneCell' = true := by
  intro u hu
  simp only [flat, List.mem_flatMap, List.mem_cons, List.not_mem_nil, or_false] at hu
  obtain ⟨c, _, rfl | rfl⟩ := hu <;> rfl
/-- Setting two values sets one cell. -/
theorem flat_set (l : List Cl) (i : Nat) (c : Cl) (h : i < l.length) : ((flat l).set (i * 2) (.int .i64 c.1)).set (i * 2 + 1) (.int .i64 c.2) = flat (l.set i c) := by
  induction l generalizing i with
  | nil => simp at h
  | cons d r ih =>
    cases i with
    | zero => simp [flat_cons]
    | succ i =>
      rw [flat_cons, show (i + 1) * 2 = i * 2 + 1 + 1 by omega, List.set_cons_succ, List.set_cons_succ, List.set_cons_succ, List.set_cons_succ, ih i (by simpa using h), List.set_cons_succ, flat_cons]

/-- The slice v owns the cells l, among the blocks from base on. -/
def OwnS (w : World) (base : Nat) (v : Value) (l : List Cl) : Prop := w.ownsRow base 36 2 v l.length (flat l)

theorem OwnS.nil (w : World) (base : Nat) : OwnS w base (.slice none 0 0) [] := World.ownsRow_nil w base 36 2
theorem OwnS.form {w : World} {base : Nat} {v : Value} {l : List Cl} (h : OwnS w base v l) : ∃ a cap, v = .slice a l.length cap ∧ Seg w a l := by
  have h0 := h
  rcases h.2 with ⟨rfl, hn⟩ | ⟨g, cap, cur, rfl, hb, hg, hcap, hm, hs, ht⟩
  · exact ⟨none, 0, by rw [hn], fun i hi => by omega⟩
  · refine ⟨some ⟨g, 0, none⟩, cap, rfl, fun i hi => ⟨g, 0, rfl, (Array.getElem?_eq_some_iff.1 hg).1, ?_, ?_⟩⟩
    · have := World.ownsRow.cellAt h0 (i * 2) (by omega)
      rw [flat_even hi] at this
      rw [show 0 + i * 2 = i * 2 by omega]
      exact this
    · have := World.ownsRow.cellAt h0 (i * 2 + 1) (by omega)
      rw [flat_odd hi] at this
      rw [show 0 + i * 2 + 1 = i * 2 + 1 by omega]
      exact this
theorem grown_of_below {w w' : World} (h : Below w.heap.size w w') (row : Option Nat) : w.grownBy w' row := ⟨h.os, h.tape, h.output, h.size, fun k hk _ => h.block k hk⟩
theorem OwnS.below {w w' : World} {base : Nat} {v : Value} {l : List Cl} (h : OwnS w base v l) (hb : Below w.heap.size w w') : OwnS w' base v l :=
  World.ownsRow.kept h (grown_of_below hb none) (by cases v.ownBlock <;> simp)
theorem OwnS.lt {w : World} {base : Nat} {v : Value} {l : List Cl} (h : OwnS w base v l) : ∀ k, v.ownBlock = some k → base ≤ k ∧ k < w.heap.size := World.ownsRow.lt h
theorem OwnS.mono {w : World} {base base' : Nat} {v : Value} {l : List Cl} (h : OwnS w base v l) (hb : base' ≤ base) : OwnS w base' v l := World.ownsRow.mono h hb

theorem flat_ext {l : List Cl} {xs : List Value} (hx : xs.length = l.length * 2) (h : ∀ i, i < l.length → xs[i * 2]? = some (.int .i64 (at_ l i).1) ∧ xs[i * 2 + 1]? = some (.int .i64 (at_ l i).2)) : xs = flat l := by
  apply List.ext_getElem?
  intro j
  by_cases hj : j < l.length * 2
  · have hi : j / 2 < l.length := by omega
    rcases (show j = j / 2 * 2 ∨ j = j / 2 * 2 + 1 by omega) with e | e
    · rw [e, (h _ hi).1, flat_even hi]
    · rw [e, (h _ hi).2, flat_odd hi]
  · rw [List.getElem?_eq_none (by omega), List.getElem?_eq_none (by rw [flat_length]; omega)]

/-- A row that was made whole is owned. -/
theorem Row.own {w : World} {g : Nat} {l : List Cl} (h : Row w g l) (hl : l.length ≤ 1048576) : OwnS w g (.slice (some ⟨g, 0, none⟩) l.length l.length) l := by
  obtain ⟨c, hb, hn, hc⟩ := h
  refine ⟨flat_length l, .inr ⟨g, l.length, c, rfl, Nat.le_refl _, hb, Nat.le_refl _, by unfold maxLen; omega, hn, ?_⟩⟩
  have hcl : c.toList.length = l.length * 2 := by simpa using hn
  refine flat_ext (by rw [List.length_take, hcl]; omega) fun i hi => ?_
  have e0 := hc (i * 2) (by omega)
  have e1 := hc (i * 2 + 1) (by omega)
  rw [List.getElem?_take_of_lt (by omega), List.getElem?_take_of_lt (by omega), Array.getElem?_toList, Array.getElem?_toList, e0, e1]
  have m0 : (i * 2) % 2 = 0 := by omega
  have m1 : (i * 2 + 1) % 2 = 1 := by omega
  have d0 : (i * 2) / 2 = i := by omega
  have d1 : (i * 2 + 1) / 2 = i := by omega
  simp [m0, m1, d0, d1, at_]

/-- Marks. -/
def marks (k : Int) (n : Nat) : List Cl := (List.range n).map fun i : Nat => (k + 2 * (i : Int), k + 2 * (i : Int) + 1)
theorem marks_length (k : Int) (n : Nat) : (marks k n).length = n := by simp [marks]
theorem marks_at {k : Int} {n i : Nat} (h : i < n) : at_ (marks k n) i = (k + 2 * (i : Int), k + 2 * (i : Int) + 1) := by simp [at_, marks, h]
/-- Cells of which the first i are marked. -/
def markTo (l : List Cl) (k : Int) (i : Nat) : List Cl := marks k i ++ l.drop i
theorem markTo_length {l : List Cl} {k : Int} {i : Nat} (h : i ≤ l.length) : (markTo l k i).length = l.length := by simp [markTo, marks_length]; omega
theorem markTo_succ {l : List Cl} {k : Int} {i : Nat} (h : i < l.length) : (markTo l k i).set i (k + 2 * (i : Int), k + 2 * (i : Int) + 1) = markTo l k (i + 1) := by
  unfold markTo
  rw [List.set_append_right _ _ (by rw [marks_length]; exact Nat.le_refl _), marks_length, Nat.sub_self]
  obtain ⟨x, r, e⟩ : ∃ x r, l.drop i = x :: r := by
    cases hd : l.drop i with
    | nil => have := congrArg List.length hd; simp at this; omega
    | cons x r => exact ⟨x, r, rfl⟩
  have e2 : l.drop (i + 1) = r := by rw [← List.drop_drop, e]; rfl
  rw [e, e2]
  simp [marks, List.range_succ]
theorem markTo_all (l : List Cl) (k : Int) : markTo l k l.length = marks k l.length := by simp [markTo]


theorem c_mark_nil (ca : Nat) (a : Option Addr) (k : Int) (w : World) :
    Calls Try.prog 39 #[.slice a 0 ca, .int .i64 k] w fun e w' => e = .returned (.int .i64 k) ∧ w' = w := by
  go_enter Try.func39, Try.ntmps39
  go_wp2
  refine wp_loop_rounds 1 ?_
  rw [rounds_succ]
  go_wp2
  go_ret
  exact ⟨rfl, rfl⟩

theorem grown_trans {a b c : World} {row : Option Nat} (h : a.grownBy b row) (k : b.grownBy c row) : a.grownBy c row :=
  ⟨k.os.trans h.os, k.tape.trans h.tape, k.output.trans h.output, Nat.le_trans h.size k.size, fun i hi hn => (k.block i (Nat.lt_of_lt_of_le hi h.size) hn).trans (h.block i hi hn)⟩
theorem grown_refl (a : World) (row : Option Nat) : a.grownBy a row := ⟨rfl, rfl, rfl, Nat.le_refl _, fun _ _ _ => rfl⟩

theorem mark_step {W : World} {base g ca : Nat} {l : List Cl} {k : Int} {i : Nat} (h : OwnS W base (.slice (some ⟨g, 0, none⟩) l.length ca) (markTo l k i)) (hi : i < l.length) :
    OwnS ((W.setCell ⟨g, i * 2, none⟩ (.int .i64 (k + 2 * (i : Int)))).setCell ⟨g, i * 2 + 1, none⟩ (.int .i64 (k + 2 * (i : Int) + 1))) base (.slice (some ⟨g, 0, none⟩) l.length ca) (markTo l k (i + 1)) ∧
    W.grownBy ((W.setCell ⟨g, i * 2, none⟩ (.int .i64 (k + 2 * (i : Int)))).setCell ⟨g, i * 2 + 1, none⟩ (.int .i64 (k + 2 * (i : Int) + 1))) (some g) := by
  unfold OwnS at h ⊢
  rw [markTo_length (by omega)] at h ⊢
  obtain ⟨h1, g1⟩ := World.ownsRow.stored h (i * 2) (.int .i64 (k + 2 * (i : Int)))
  obtain ⟨h2, g2⟩ := World.ownsRow.stored h1 (i * 2 + 1) (.int .i64 (k + 2 * (i : Int) + 1))
  refine ⟨?_, grown_trans g1 g2⟩
  rw [← markTo_succ hi, ← flat_set _ _ _ (by rw [markTo_length (by omega)]; exact hi)]
  exact h2

set_option maxHeartbeats 400000 in
theorem c_mark_some (g ca base : Nat) (l : List Cl) (k : Int) (w : World) (h : OwnS w base (.slice (some ⟨g, 0, none⟩) l.length ca) l) (hl : l.length ≤ 1048576) (k0 : 0 ≤ k) (k1 : k ≤ 16777216) :
    Calls Try.prog 39 #[.slice (some ⟨g, 0, none⟩) l.length ca, .int .i64 k] w fun e w' => e = .returned (.int .i64 (k + 2 * (l.length : Int))) ∧ OwnS w' base (.slice (some ⟨g, 0, none⟩) l.length ca) (marks k l.length) ∧ w.grownBy w' (some g) := by
  have H := hid h
  clear h
  go_enter Try.func39, Try.ntmps39
  go_wp2
  go_loopw [1, 5] (fun s i wr => ∃ j : Nat, j ≤ l.length ∧ i = .int .i64 j ∧ s = .int .i64 (k + 2 * (j : Int)) ∧ OwnS wr base (.slice (some ⟨g, 0, none⟩) l.length ca) (markTo l k j) ∧ w.grownBy wr (some g)) (fun _ i _ => l.length - (intOf i).toNat)
  case atStart => exact ⟨0, Nat.zero_le _, rfl, by simp, by simpa [markTo, marks] using H.out, grown_refl _ _⟩
  case round =>
    clear H
    obtain ⟨j, hj, rfl, rfl, hO, hG⟩ := hrel
    by_cases hlt : j < l.length
    · have hlen := markTo_length (l := l) (k := k) (i := j) (by omega)
      have hO' := hO
      unfold OwnS at hO'
      rw [hlen] at hO'
      have e0 := World.ownsRow.cellAt hO' (j * 2) (by omega)
      have e1 := World.ownsRow.cellAt hO' (j * 2 + 1) (by omega)
      rw [flat_even (by omega)] at e0
      rw [flat_odd (by omega)] at e1
      have f0 := World.ownsRow.frozenAt hO' (j * 2)
      have f1 := World.ownsRow.frozenAt hO' (j * 2 + 1)
      have R := hid (mark_step hO hlt)
      have HG := hid hG
      clear hO hO' hG hlen
      have j0 : (0 : Int) ≤ (j : Int) := by omega
      have j1 : (j : Int) < (l.length : Int) := by omega
      go_wp2
      go_roundw
      case rel => exact ⟨j + 1, by omega, by go_num, by go_num, R.out.1, grown_trans HG.out R.out.2⟩
      case measure => simp [intOf]; omega
    · go_wp2
      go_ret
      obtain rfl : j = l.length := by omega
      rw [markTo_all] at hO
      exact ⟨rfl, hO, hG⟩

/-- Marking, whatever slice. -/
theorem c_mark (a : Option Addr) (ca base : Nat) (l : List Cl) (k : Int) (w : World) (h : OwnS w base (.slice a l.length ca) l) (hl : l.length ≤ 1048576) (k0 : 0 ≤ k) (k1 : k ≤ 16777216) :
    Calls Try.prog 39 #[.slice a l.length ca, .int .i64 k] w fun e w' => e = .returned (.int .i64 (k + 2 * (l.length : Int))) ∧ OwnS w' base (.slice a l.length ca) (marks k l.length) ∧ w.grownBy w' ((Value.slice a l.length ca).ownBlock) := by
  rcases h.2 with ⟨e, hn⟩ | ⟨g, cap, cur, e, _⟩
  · have hl0 : l = [] := List.eq_nil_of_length_eq_zero hn
    subst hl0
    simp only [List.length_nil, Value.slice.injEq] at e ⊢
    refine (c_mark_nil ca a k w).mono fun e w' ⟨he, hw⟩ => ⟨by rw [he]; simp, ?_, by rw [hw]; exact grown_refl _ _⟩
    rw [hw]; exact h
  · simp only [Value.slice.injEq, true_and] at e
    obtain ⟨rfl, rfl⟩ := e
    exact c_mark_some g ca base l k w h hl k0 k1

set_option maxHeartbeats 400000 in
/-- What was marked is found so. -/
theorem c_held (a : Option Addr) (ca n : Nat) (k : Int) (w : World) (ha : Seg w a (marks k n)) (hn : n ≤ 1048576) (k0 : 0 ≤ k) (k1 : k ≤ 16777216) :
    Calls Try.prog 40 #[.slice a n ca, .int .i64 k] w fun e w' => e = .returned (.int .i64 (k + 2 * (n : Int))) ∧ w' = w := by
  go_enter Try.func40, Try.ntmps40
  go_wp2
  go_loop [1, 5] (fun s i => ∃ j : Nat, j ≤ n ∧ i = .int .i64 j ∧ s = .int .i64 (k + 2 * (j : Int))) (fun _ i => n - (intOf i).toNat)
  case atStart => exact ⟨0, Nat.zero_le _, rfl, by simp⟩
  case round =>
    obtain ⟨j, hj, rfl, rfl⟩ := hrel
    by_cases hlt : j < n
    · obtain ⟨b1, o1, rfl, hb1, p1, p2⟩ := ha j (by rw [marks_length]; exact hlt)
      have em := marks_at (k := k) hlt
      unfold at_ at em
      rw [em] at p1 p2
      clear em
      have j0 : (0 : Int) ≤ (j : Int) := by omega
      have j1 : (j : Int) < (n : Int) := by omega
      have x1 : ((k + 2 * (j : Int)) != (k + 2 * (j : Int))) = false := by simp
      have x2 : ((k + 2 * (j : Int) + 1) != (k + 2 * (j : Int) + 1)) = false := by simp
      go_wp2
      go_round
      case rel => exact ⟨j + 1, by omega, by go_num, by go_num⟩
      case measure => simp [intOf]; omega
    · go_wp2
      go_ret
      obtain rfl : j = n := by omega
      exact ⟨rfl, rfl⟩

end Go.Proofs.Ytgfdkolhldbehaa

namespace Go.Proofs.Ytgfdkolhldbehaa
open Go.RowKit
set_option linter.unusedVariables false

theorem take_snoc' {m : List Cl} {j : Nat} (h : j < m.length) : m.take (j + 1) = m.take j ++ [at_ m j] := by
  rw [List.take_succ_eq_append_getElem h]; simp [at_, h]

theorem seg_news {w : World} {ad : Addr} {m : List Cl} (h : Seg w (some ad) m) : ∀ j u, (flat m)[j]? = some u → w.cell? (ad.add j) = some u := by
  intro j u hu
  have hj : j < m.length * 2 := by rw [← flat_length]; exact (List.getElem?_eq_some_iff.1 hu).1
  have hi : j / 2 < m.length := by omega
  obtain ⟨b, o, e, hb, h0, h1⟩ := h (j / 2) hi
  simp only [Option.some.injEq] at e
  subst e
  have hadd : (⟨b, o, none⟩ : Addr).add j = ⟨b, o + j, none⟩ := by unfold Addr.add; split <;> simp_all
  rw [hadd]
  rcases (show j = j / 2 * 2 ∨ j = j / 2 * 2 + 1 by omega) with e | e
  · rw [e, flat_even hi] at hu
    rw [e, h0, ← hu]; rfl
  · rw [e, flat_odd hi] at hu
    rw [e, show o + (j / 2 * 2 + 1) = o + j / 2 * 2 + 1 by omega, h1, ← hu]; rfl

theorem wpList_app {w : World} {ops : Array Oper} {rest : List Oper} {o : Oper} {a : Act} {Q : Exit → Act → World → Prop} (hgd : o.guard = none) (s x : Operand)
    (ho : o.op = .call { callee := .builtin .append, args := #[s, x], argTypes := #[23, 23] })
    (base : Nat) (v : Value) (l m : List Cl) (ad : Option Addr) (k : Nat) (hs : a.eval s = v) (hown : OwnS w base v l) (hx : a.eval x = .slice ad m.length k) (hseg : Seg w ad m) (hk : ad = none → k = 0) (hlen : l.length + m.length ≤ 4194304) (hbase : base ≤ w.heap.size)
    (h : ∀ v' w', OwnS w' base v' (l ++ m) → w.grownBy w' v.ownBlock → wpList Try.prog ops Q rest (a.put o.dst v') w') : wpList Try.prog ops Q (o :: rest) a w := by
  obtain ⟨i, hi, hz, hsz, hb⟩ := info_parts info_Cell
  cases ad with
  | none =>
    have hm : m = [] := by
      cases m with
      | nil => rfl
      | cons c r => obtain ⟨b, o, e, _⟩ := hseg 0 (by simp); cases e
    subst hm
    have hx' : a.eval x = .slice none 0 0 := by rw [hx, hk rfl]; rfl
    refine wpList_append_own_none hgd s x 23 ho base 36 i 2 Try.underlying23 hi v l.length (flat l) hs hown hx' ?_
    exact h v w (by simpa using hown) (grown_refl _ _)
  | some ad =>
    refine wpList_append_own w hgd s x 23 ho base 36 i _ 2 16 Try.underlying23 hi hz hsz hb rfl (by omega) v l.length (flat l) hs hown ad m.length k (flat m) hx (flat_length m) (seg_news hseg) (flat_one m)
      (by unfold maxLen; omega) (by omega) hbase ?_
    intro v' w' h1 h2 _
    refine h v' w' ?_ h2
    unfold OwnS
    rw [flat_append, List.length_append]
    exact h1

/-- What was built in the call's own memory is below as it was. -/
theorem below_grown {w W W' : World} {v : Value} {l : List Cl} (hB : Below w.heap.size w W) (hown : OwnS W w.heap.size v l) (hg : W.grownBy W' v.ownBlock) : Below w.heap.size w W' :=
  hB.grown hg hB.size fun k hk => (hown.lt k hk).1

theorem seg_block {w : World} {B : Nat} {c : Cl} {fr : Nat × Nat} (hb : w.heap[B]? = some (.cells #[.int .i64 c.1, .int .i64 c.2] 36 fr)) : Seg w (some ⟨B, 0, none⟩) [c] := by
  intro i hi
  have h0 : i = 0 := by simpa using hi
  subst h0
  refine ⟨B, 0, rfl, (Array.getElem?_eq_some_iff.1 hb).1, ?_, ?_⟩
  · unfold World.cell?; rw [hb]; rfl
  · unfold World.cell?; rw [hb]; rfl

theorem slice_empty_build (w : World) : OwnS (w.alloc (.cells #[] 36)) w.heap.size (.slice (some ⟨w.heap.size, 0, none⟩) 0 0) [] :=
  ⟨rfl, .inr ⟨w.heap.size, 0, #[], rfl, Nat.le_refl _, heap_alloc_new w _, Nat.le_refl _, by simp [maxLen], rfl, rfl⟩⟩

theorem good_le {l : List Cl} (h : good l = true) : l.length ≤ 120 := by simp [good] at h; exact h.1.1
/-- Cells that are told, if they are good. -/
def tellV (l : List Cl) : List Cl := if good l then l else []

set_option maxHeartbeats 400000 in
theorem c_l1Tell (a : Option Addr) (l : List Cl) (ca : Nat) (w : World) (ha : Seg w a l) (hl : l.length ≤ 1048576) (hca : a = none → ca = 0) :
    Calls Try.prog 86 #[.slice a l.length ca] w fun e w' => ∃ v, e = .returned (.tuple #[v, .bool (good l)]) ∧ OwnS w' w.heap.size v (tellV l) ∧ Below w.heap.size w w' := by
  cases hg : good l
  · have HC := hid (c_sGood' a l ca false hg _ ha hl)
    have HV : Hid (tellV l = []) := by simp [Hid, tellV, hg]
    clear ha
    go_enter Try.func86, Try.ntmps86
    go_wp2_with fail
    refine HC.out.mono ?_
    rintro e w1 ⟨rfl, hb1⟩
    go_wp2
    go_ret2
    exact ⟨_, rfl, by rw [HV.out]; exact OwnS.nil _ _, hb1⟩
  · have HC := hid (c_sGood' a l ca true hg _ ha hl)
    have HV : Hid (tellV l = l) := by simp [Hid, tellV, hg]
    go_enter Try.func86, Try.ntmps86
    go_wp2_with fail
    refine HC.out.mono ?_
    rintro e w1 ⟨rfl, hb1⟩
    have HS := hid ((ha.below hb1).below ((Below.refl w1.heap.size w1).alloc (Nat.le_refl _) (.cells #[] 36)))
    have HO := hid ((slice_empty_build w1).mono hb1.size)
    have HB := hid (hb1.alloc hb1.size (.cells #[] 36))
    clear HC ha
    go_wp2_with (at_builtin; refine wpList_app rfl _ _ rfl w.heap.size _ [] l a ca rfl HO.out rfl HS.out hca (by simp; omega) HB.out.size ?_; intro v' w2 hO hG)
    go_ret2
    exact ⟨_, rfl, by rw [HV.out]; simpa using hO, below_grown HB.out HO.out hG⟩

theorem OwnS.seg {w : World} {base n ca : Nat} {a : Option Addr} {l : List Cl} (h : OwnS w base (.slice a n ca) l) : Seg w a l := by
  obtain ⟨a', ca', e, hs⟩ := h.form
  simp only [Value.slice.injEq] at e
  rw [e.1]; exact hs
theorem OwnS.cap0 {w : World} {base n ca : Nat} {a : Option Addr} {l : List Cl} (h : OwnS w base (.slice a n ca) l) : a = none → ca = 0 := by
  intro e
  subst e
  rcases h.2 with ⟨e, _⟩ | ⟨g, cap, cur, e, _⟩ <;> simp at e
  exact e.2
theorem own_keep {W W' : World} {base : Nat} {v : Value} {l : List Cl} {row : Option Nat} (h : OwnS W base v l) (hg : W.grownBy W' row) (hne : ∀ k, v.ownBlock = some k → row ≠ some k) : OwnS W' base v l := by
  refine World.ownsRow.kept h hg ?_
  cases e : v.ownBlock with
  | none => exact .inl rfl
  | some k => exact .inr fun e2 => hne k e e2.symm
theorem below_row {w W W' : World} {row : Option Nat} (hB : Below w.heap.size w W) (hg : W.grownBy W' row) (h : ∀ k, row = some k → w.heap.size ≤ k) : Below w.heap.size w W' :=
  hB.grown hg hB.size h

theorem wpList_app' {w : World} {ops : Array Oper} {rest : List Oper} {o : Oper} {a : Act} {Q : Exit → Act → World → Prop} (hgd : o.guard = none) (s x : Operand)
    (ho : o.op = .call { callee := .builtin .append, args := #[s, x], argTypes := #[23, 23] })
    (base : Nat) (v : Value) (l m : List Cl) (ad : Option Addr) (n k : Nat) (hs : a.eval s = v) (hown : OwnS w base v l) (hx : a.eval x = .slice ad n k) (hn : m.length = n) (hseg : Seg w ad m) (hk : ad = none → k = 0) (hlen : l.length + m.length ≤ 4194304) (hbase : base ≤ w.heap.size)
    (h : ∀ v' w', OwnS w' base v' (l ++ m) → w.grownBy w' v.ownBlock → wpList Try.prog ops Q rest (a.put o.dst v') w') : wpList Try.prog ops Q (o :: rest) a w := by
  subst hn
  exact wpList_app hgd s x ho base v l m ad k hs hown hx hseg hk hlen hbase h

end Go.Proofs.Ytgfdkolhldbehaa
