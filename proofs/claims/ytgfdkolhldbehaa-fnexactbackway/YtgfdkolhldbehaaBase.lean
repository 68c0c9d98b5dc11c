/- Rows of cells in memory: a slice that holds a list of cells, and what keeps it. -/
import Derived.Test.YtgfdkolhldbehaaLeaf
import Derived.Deep.OwnRows
import Derived.BigQuiet
namespace Go.Proofs.Ytgfdkolhldbehaa
open Go.RowKit

/-- The cells l lie where the slice's address a leads to, below the heap's end. -/
def Seg (w : World) (a : Option Addr) (l : List (Int × Int)) : Prop :=
  ∀ i, i < l.length → ∃ b o, a = some ⟨b, o, none⟩ ∧ b < w.heap.size ∧ w.cell? ⟨b, o + i * 2, none⟩ = some (.int .i64 (l.getD i (0, 0)).1) ∧ w.cell? ⟨b, o + i * 2 + 1, none⟩ = some (.int .i64 (l.getD i (0, 0)).2)

theorem Seg.below {w w' : World} {a : Option Addr} {l : List (Int × Int)} (h : Seg w a l) (hb : Below w.heap.size w w') : Seg w' a l := by
  intro i hi
  obtain ⟨b, o, rfl, hlt, h1, h2⟩ := h i hi
  exact ⟨b, o, rfl, Nat.lt_of_lt_of_le hlt hb.size, (hb.cell (p := ⟨b, _, none⟩) hlt).trans h1, (hb.cell (p := ⟨b, _, none⟩) hlt).trans h2⟩

/-- The slice v owns, among the blocks from base on, the cells l: they lie at the head of block g. -/
def Row (w : World) (g : Nat) (l : List (Int × Int)) : Prop :=
  w.rowIs g 36 (l.length * 2) (fun j => .int .i64 (if j % 2 = 0 then (l.getD (j / 2) (0, 0)).1 else (l.getD (j / 2) (0, 0)).2))

theorem Row.seg {w : World} {g : Nat} {l : List (Int × Int)} (h : Row w g l) : Seg w (some ⟨g, 0, none⟩) l := by
  intro i hi
  refine ⟨g, 0, rfl, h.lt, ?_, ?_⟩
  · have := h.cell (i := i * 2) (by omega)
    simpa using this
  · have := h.cell (i := i * 2 + 1) (by omega)
    rw [show 0 + i * 2 + 1 = i * 2 + 1 by omega, this]
    have e1 : (i * 2 + 1) % 2 = 1 := by omega
    have e2 : (i * 2 + 1) / 2 = i := by omega
    simp [e1, e2]

theorem Row.below {w w' : World} {g : Nat} {l : List (Int × Int)} (h : Row w g l) (hb : Below w.heap.size w w') : Row w' g l := h.of_block (hb.block _ h.lt)

theorem hid {p : Prop} (h : p) : Hid p := h
theorem ofDrew {w w' : World} (h : Below w.drew.heap.size w.drew w') : Below w.heap.size w w' := ⟨h.os, h.tape, h.output, h.size, h.block⟩
/-- Two stretches, one behind the other. -/
theorem Below.then {a b c : World} {B : Nat} (h : Below B a b) (k : Below b.heap.size b c) (hB : B ≤ b.heap.size) : Below B a c := h.trans (k.mono hB)

/-- Cells and marks below the heap's end are as they were: two rules for a walk. -/
theorem bcell {W w1 : World} (hb : Below W.heap.size W w1) : (∀ b o, b < W.heap.size → w1.cell? ⟨b, o, none⟩ = W.cell? ⟨b, o, none⟩) ∧ (∀ b o, b < W.heap.size → w1.frozen? ⟨b, o, none⟩ = W.frozen? ⟨b, o, none⟩) :=
  ⟨fun b o h => hb.cell (p := ⟨b, o, none⟩) h, fun b o h => hb.frozen (p := ⟨b, o, none⟩) h⟩

/-- A world that has grown out of W: all that was there is as it was. -/
structure Gr (W : World) where
  val : World
  below : Below W.heap.size W val

theorem Gr.ne (W : World) : Nonempty (Gr W) := ⟨⟨W, Below.refl _ _⟩⟩
/-- A region that draws its order and in which nothing old is written is walked once, in the order of the text, in every world that has grown out of the one at hand. -/
theorem wp_region_gr {P : Program} {id : Nat} {Q : Exit → Act → World → Prop} {a : Act} {w : World} {l : List Oper} (hm : P.follows .mixedOrders = true) (hB : Region.lexB .any l.toArray = true)
    (h : wpQuiet P l.toArray (fun w' => ∃ g : Gr w, w' = g.val) (fun a' => ∀ w', (∃ g : Gr w, w' = g.val) → Q .normal a' w') l a) : (Code.region id l.toArray true).wp P Q a w :=
  wp_region_quiet (C := fun w' => ∃ g : Gr w, w' = g.val) hm hB ⟨⟨w.drew, (Below.refl _ _).drew⟩, rfl⟩ (by simpa using h)

theorem Calls.gr {P : Program} {f : FuncId} {args : Array Value} {W : World} {v : Value} (g : Gr W)
    (h : Calls P f args g.val fun e w' => e = .returned v ∧ Below g.val.heap.size g.val w') : Calls P f args g.val fun e w'' => e = .returned v ∧ ∃ g' : Gr W, w'' = g'.val :=
  h.mono fun _ w'' ⟨he, hb⟩ => ⟨he, ⟨w'', g.below.trans (hb.mono g.below.size)⟩, rfl⟩

theorem Gr.cell {W : World} (g : Gr W) {b o : Nat} {v : Value} (h : W.cell? ⟨b, o, none⟩ = some v) (hb : b < W.heap.size) : g.val.cell? ⟨b, o, none⟩ = some v :=
  (g.below.cell (p := ⟨b, o, none⟩) hb).trans h

/-- A cell's box at the heap's end of w, kept in all that has grown out of w. -/
def BoxIn (w W : World) (c : Int × Int) : Prop :=
  W.cell? ⟨w.heap.size, 0, none⟩ = some (.int .i64 c.1) ∧ W.cell? ⟨w.heap.size, 1, none⟩ = some (.int .i64 c.2) ∧ w.heap.size < W.heap.size ∧ Below w.heap.size w W
theorem BoxIn.step {w W W' : World} {c : Int × Int} (h : BoxIn w W c) (hb : Below W.heap.size W W') : BoxIn w W' c :=
  ⟨(hb.cell (p := ⟨w.heap.size, 0, none⟩) h.2.2.1).trans h.1, (hb.cell (p := ⟨w.heap.size, 1, none⟩) h.2.2.1).trans h.2.1, Nat.lt_of_lt_of_le h.2.2.1 hb.size, h.2.2.2.trans (hb.mono h.2.2.2.size)⟩
theorem BoxIn.below {w W : World} {c : Int × Int} (h : BoxIn w W c) : Below w.heap.size w W := h.2.2.2
theorem BoxIn.drew {w W : World} {c : Int × Int} (h : BoxIn w W c) : BoxIn w W.drew c := h.step ((Below.refl _ _).drew)
theorem BoxIn.new (w : World) (c : Int × Int) (t : TypeId) : BoxIn w (w.alloc (.cells #[.int .i64 c.1, .int .i64 c.2] t)) c := by
  refine ⟨?_, ?_, by simp, (Below.refl _ _).alloc (Nat.le_refl _) _⟩
  · unfold World.cell?; rw [heap_alloc_new]; rfl
  · unfold World.cell?; rw [heap_alloc_new]; rfl

end Go.Proofs.Ytgfdkolhldbehaa
