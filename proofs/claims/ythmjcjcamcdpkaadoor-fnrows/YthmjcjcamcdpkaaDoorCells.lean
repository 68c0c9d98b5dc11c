/- The cursor's cells. -/
import Derived.Test.YthmjcjcamcdpkaaDoorKnown
import Derived.Test.YthmjcjcamcdpkaaDoorSortS
namespace Go.Proofs.YthmjcjcamcdpkaaDoor
open Go.RowKit
set_option linter.unusedVariables false

theorem CurAt.more {w : World} {base b n : Nat} {A A' : Int} (h : CurAt w base b n A) (hA : A ≤ A') : CurAt w base b n A' := by
  obtain ⟨a, cap, t, sd, e1, e2, e3, e4, e5, e6, e7, e8, e9, e10⟩ := h
  exact ⟨a, cap, t, sd, e1, e2, e3, e4, e5, e6, e7, e8, by omega, e10⟩
theorem CurAt.lt {w : World} {base b n : Nat} {A : Int} (h : CurAt w base b n A) : base ≤ b ∧ b < w.heap.size := by
  obtain ⟨a, cap, t, sd, e1, e2, _⟩ := h
  exact ⟨e2, e1⟩
/-- What is written behind a world's blocks leaves these as they were. -/
theorem grown_over {w W W' : World} {r row : Option Nat} (h : w.grownBy W r) (k : W.grownBy W' row) (hk : ∀ j, row = some j → w.heap.size ≤ j) : w.grownBy W' r :=
  ⟨k.os.trans h.os, k.tape.trans h.tape, k.output.trans h.output, Nat.le_trans h.size k.size, fun i hi hn => (k.block i (Nat.lt_of_lt_of_le hi h.size) (fun e => by have := hk i e.symm; omega)).trans (h.block i hi hn)⟩
theorem own_set0 {W : World} {base g ca : Nat} {l : List Cl} (c : Cl) (h : OwnS W base (.slice (some ⟨g, 0, none⟩) l.length ca) l) (hl : 0 < l.length) :
    OwnS ((W.setCell ⟨g, 0, none⟩ (.int .i64 c.1)).setCell ⟨g, 1, none⟩ (.int .i64 c.2)) base (.slice (some ⟨g, 0, none⟩) l.length ca) (l.set 0 c) ∧ W.grownBy ((W.setCell ⟨g, 0, none⟩ (.int .i64 c.1)).setCell ⟨g, 1, none⟩ (.int .i64 c.2)) (some g) := by
  unfold OwnS at h ⊢
  obtain ⟨h1, g1⟩ := World.ownsRow.stored h 0 (.int .i64 c.1)
  obtain ⟨h2, g2⟩ := World.ownsRow.stored h1 1 (.int .i64 c.2)
  refine ⟨?_, grown_trans g1 g2⟩
  rw [← flat_set _ _ _ hl, List.length_set]
  exact h2
theorem iseg_new (w : World) (L : List Int) (cs : Array Value) (t : TypeId) (h : cs = (L.map (Value.int .i64)).toArray) : ISeg (w.alloc (.cells cs t)) w.heap.size 0 L := by
  subst h
  intro i hi
  unfold World.cell?
  rw [heap_alloc_new]
  simp [hi]

/-- What stands while cells runs. -/
structure CU (w W : World) (base b n : Nat) (A : Int) (v : Value) (l : List Cl) : Prop where
  own : OwnS W w.heap.size v l
  cur : CurAt W base b n A
  gr : w.grownBy W (some b)
  bl : b < w.heap.size
section
variable {w W W' : World} {base b n : Nat} {A A' : Int} {v v' : Value} {l l' : List Cl}
theorem CU.cur' (h : CU w W base b n A v l) (hc : CurAt W' base b n A') (hg : W.grownBy W' (some b)) : CU w W' base b n A' v l :=
  ⟨own_keep h.own hg (fun k hk e => by have := (h.own.lt k hk).1; have := h.bl; simp only [Option.some.injEq] at e; omega), hc, grown_trans h.gr hg, h.bl⟩
theorem CU.app (h : CU w W base b n A v l) (ho : OwnS W' w.heap.size v' l') (hg : W.grownBy W' v.ownBlock) : CU w W' base b n A v' l' :=
  ⟨ho, h.cur.kept hg (fun e => by have := (h.own.lt b e.symm).1; have := h.bl; omega) (fun k e => by have := (h.own.lt k e).1; have := h.bl; have := h.cur.lt; omega), grown_over h.gr hg (fun k e => (h.own.lt k e).1), h.bl⟩
theorem CU.alloc (h : CU w W base b n A v l) (o : Obj) : CU w (W.alloc o) base b n A v l :=
  ⟨own_keep h.own (World.grownBy_alloc W o none) (fun k _ e => by cases e), h.cur.kept (World.grownBy_alloc W o none) (by simp) (fun k e => by cases e), grown_over h.gr (World.grownBy_alloc W o none) (fun k e => by cases e), h.bl⟩
theorem CU.below (h : CU w W base b n A v l) (hb : Below W.heap.size W W') : CU w W' base b n A v l :=
  ⟨h.own.below hb, h.cur.kept (grown_of_below hb none) (by simp) (fun k e => by cases e), grown_over h.gr (grown_of_below hb none) (fun k e => by cases e), h.bl⟩
theorem CU.more (h : CU w W base b n A v l) (hA : A ≤ A') : CU w W base b n A' v l := ⟨h.own, h.cur.more hA, h.gr, h.bl⟩
end

theorem small_snoc {l : List Cl} {c : Cl} (h : Small l) (hc : -100 ≤ c.1 ∧ c.1 ≤ 100 ∧ -100 ≤ c.2 ∧ c.2 ≤ 100) : Small (l ++ [c]) := by
  intro d hd
  rcases List.mem_append.1 hd with h1 | h1
  · exact h d h1
  · rw [List.mem_singleton.1 h1]; exact hc
theorem small_set {l : List Cl} {c : Cl} (h : Small l) (hc : -100 ≤ c.1 ∧ c.1 ≤ 100 ∧ -100 ≤ c.2 ∧ c.2 ≤ 100) : Small (l.set 0 c) := by
  intro d hd
  rcases List.mem_or_eq_of_mem_set hd with h1 | h1
  · exact h d h1
  · rw [h1]; exact hc

end Go.Proofs.YthmjcjcamcdpkaaDoor
