/- Texts of this seat, one behind the other: Box. -/
import Derived.Test.YtgfdkolhldbehaaLa
import Derived.Laws.NewDeep
namespace Go.Proofs.Ytgfdkolhldbehaa
open Go.RowKit
set_option linter.unusedVariables false

theorem c_l1Least (a b : Int) (w : World) : Calls Try.prog 103 #[.int .i64 a, .int .i64 b] w fun e w' => e = .returned (.int .i64 (if b < a then b else a)) ∧ w' = w := by
  by_cases h : a < b
  all_goals
    have e : (if b < a then b else a) = if a < b then a else b := by (repeat' split) <;> omega
    go_enter Try.func103, Try.ntmps103
    go_wp2
    go_ret
    first | (rw [e]; simp [h]) | simp
theorem c_l1Most (a b : Int) (w : World) : Calls Try.prog 139 #[.int .i64 a, .int .i64 b] w fun e w' => e = .returned (.int .i64 (if a < b then b else a)) ∧ w' = w := by
  by_cases h : b < a
  all_goals
    have e : (if a < b then b else a) = if b < a then a else b := by (repeat' split) <;> omega
    go_enter Try.func139, Try.ntmps139
    go_wp2
    go_ret
    first | (rw [e]; simp [h]) | simp

/-- The least of two corners, and the greatest. -/
def loC (a b : Cl) : Cl := (if b.1 < a.1 then b.1 else a.1, if b.2 < a.2 then b.2 else a.2)
def hiC (a b : Cl) : Cl := (if a.1 < b.1 then b.1 else a.1, if a.2 < b.2 then b.2 else a.2)
/-- The corners of the first k. -/
def loTo (l : List Cl) (k : Nat) : Cl := (l.take k).foldl loC (at_ l 0)
def hiTo (l : List Cl) (k : Nat) : Cl := (l.take k).foldl hiC (at_ l 0)
theorem loTo_succ {l : List Cl} {k : Nat} (h : k < l.length) : loTo l (k + 1) = loC (loTo l k) (at_ l k) := by
  unfold loTo
  rw [List.take_succ_eq_append_getElem h, List.foldl_append]
  simp [at_, h]
theorem hiTo_succ {l : List Cl} {k : Nat} (h : k < l.length) : hiTo l (k + 1) = hiC (hiTo l k) (at_ l k) := by
  unfold hiTo
  rw [List.take_succ_eq_append_getElem h, List.foldl_append]
  simp [at_, h]
/-- What BoxOf answers. -/
def boxOk (l : List Cl) : Bool := good l && decide (l.length ≠ 0)
def boxLo (l : List Cl) : Cl := if boxOk l then loTo l l.length else (0, 0)
def boxHi (l : List Cl) : Cl := if boxOk l then hiTo l l.length else (0, 0)

/-- A box of a cell that may be written, in block b. -/
def BoxAt (w : World) (b : Nat) (c : Cl) : Prop :=
  w.cell? ⟨b, 0, none⟩ = some (.int .i64 c.1) ∧ w.cell? ⟨b, 1, none⟩ = some (.int .i64 c.2) ∧ w.frozen? ⟨b, 0, none⟩ = false ∧ w.frozen? ⟨b, 1, none⟩ = false ∧ b < w.heap.size
theorem BoxAt.below {w w' : World} {b n : Nat} {c : Cl} (h : BoxAt w b c) (hb : Below n w w') (hn : b < n) : BoxAt w' b c :=
  ⟨(hb.cell (p := ⟨b, 0, none⟩) hn).trans h.1, (hb.cell (p := ⟨b, 1, none⟩) hn).trans h.2.1, (hb.frozen (p := ⟨b, 0, none⟩) hn).trans h.2.2.1, (hb.frozen (p := ⟨b, 1, none⟩) hn).trans h.2.2.2.1, Nat.lt_of_lt_of_le h.2.2.2.2 hb.size⟩
theorem BoxAt.new (w : World) (c : Cl) : BoxAt (w.alloc (.cells #[.int .i64 c.1, .int .i64 c.2] 36)) w.heap.size c := by
  refine ⟨cell_new0 _ _ _ _, cell_new1 _ _ _ _, ?_, ?_, by simp⟩
  · simp [go_sem]
  · simp [go_sem]
theorem BoxAt.alloc {w : World} {b : Nat} {c : Cl} (h : BoxAt w b c) (o : Obj) : BoxAt (w.alloc o) b c := h.below ((Below.refl w.heap.size w).alloc (Nat.le_refl _) o) h.2.2.2.2
theorem BoxAt.drew {w : World} {b : Nat} {c : Cl} (h : BoxAt w b c) : BoxAt w.drew b c := h.below ((Below.refl w.heap.size w).drew) h.2.2.2.2
theorem BoxAt.other {w : World} {b p o : Nat} {c : Cl} {v : Value} (h : BoxAt w b c) (hne : b ≠ p) : BoxAt (w.setCell ⟨p, o, none⟩ v) b c := by
  obtain ⟨h1, h2, h3, h4, h5⟩ := h
  have e : (w.setCell ⟨p, o, none⟩ v).heap[b]? = w.heap[b]? := Below.heap_setCell _ _ _ _ hne
  refine ⟨?_, ?_, ?_, ?_, by simpa using h5⟩
  · unfold World.cell? at *; rw [e]; exact h1
  · unfold World.cell? at *; rw [e]; exact h2
  · unfold World.frozen? at *; rw [e]; exact h3
  · unfold World.frozen? at *; rw [e]; exact h4

theorem BoxAt.set2 {w : World} {b : Nat} {c : Cl} (h : BoxAt w b c) (x y : Int) : BoxAt ((w.setCell ⟨b, 0, none⟩ (.int .i64 x)).setCell ⟨b, 1, none⟩ (.int .i64 y)) b (x, y) := by
  obtain ⟨h1, h2, h3, h4, h5⟩ := h
  refine ⟨?_, ?_, by simpa using h3, by simpa using h4, by simpa using h5⟩
  · rw [World.cell?_setCell_other _ _ _ _ (by simp)]; exact World.cell?_setCell_same _ _ _ h1
  · have h2' := (World.cell?_setCell_other w ⟨b, 0, none⟩ ⟨b, 1, none⟩ (.int .i64 x) (by simp)).trans h2
    exact World.cell?_setCell_same _ _ _ h2'

set_option maxHeartbeats 4000000 in
theorem c_iBox_bad (a : Option Addr) (l : List Cl) (ca : Nat) (w : World) (ha : Seg w a l) (hl : l.length ≤ 1048576) (hg : good l = false) :
    Calls Try.prog 118 #[.slice a l.length ca] w fun e w' => e = .returned (.tuple #[.agg #[.int .i64 (boxLo l).1, .int .i64 (boxLo l).2], .agg #[.int .i64 (boxHi l).1, .int .i64 (boxHi l).2], .bool (boxOk l)]) ∧ Below w.heap.size w w' := by
  have HB0 := hid (((Below.refl w.heap.size w).alloc (Nat.le_refl _) (.cells #[.int .i64 0, .int .i64 0] 36)).alloc (by simp) (.cells #[.int .i64 0, .int .i64 0] 36))
  have HX0 := hid ((BoxAt.new w (0, 0)).alloc (.cells #[.int .i64 0, .int .i64 0] 36))
  have HX1 := hid (BoxAt.new (w.alloc (.cells #[.int .i64 0, .int .i64 0] 36)) (0, 0))
  have hz1 : (w.alloc (.cells #[.int .i64 0, .int .i64 0] 36)).heap.size = w.heap.size + 1 := by simp
  rw [hz1] at HX1
  have HA := hid ha
  clear ha hz1
  have HV : Hid (boxLo l = (0, 0) ∧ boxHi l = (0, 0) ∧ boxOk l = false) := by simp [Hid, boxLo, boxHi, boxOk, hg]
  go_enter Try.func118, Try.ntmps118
  go_wp2_with fail
  refine (c_iGood' a l ca false hg _ (HA.out.below HB0.out) hl).mono ?_
  rintro e w1 ⟨rfl, hb1⟩
  obtain ⟨f1, f2, f3, f4, f5⟩ := HX0.out.below hb1 (by simp; omega)
  obtain ⟨f6, f7, f8, f9, f10⟩ := HX1.out.below hb1 (by simp)
  have HB1 := hid (HB0.out.trans (hb1.mono HB0.out.size))
  clear hb1 HX0 HX1 HB0
  go_wp2
  refine bodyPost_ret (v := .tuple #[.agg #[.int .i64 0, .int .i64 0], .agg #[.int .i64 0, .int .i64 0], .bool false]) (by simp [results, Try.results118, go_sem, f1, f2, f6, f7]) rfl ⟨by rw [HV.out.1, HV.out.2.1, HV.out.2.2], ?_⟩
  exact (((HB1.out.setCell (Nat.le_refl _) _).setCell (Nat.le_refl _) _).setCell (Nat.le_succ _) _).setCell (Nat.le_succ _) _

set_option maxHeartbeats 4000000 in
theorem c_iBox_empty (a : Option Addr) (ca : Nat) (w : World) :
    Calls Try.prog 118 #[.slice a 0 ca] w fun e w' => e = .returned (.tuple #[.agg #[.int .i64 (boxLo []).1, .int .i64 (boxLo []).2], .agg #[.int .i64 (boxHi []).1, .int .i64 (boxHi []).2], .bool (boxOk [])]) ∧ Below w.heap.size w w' := by
  have HB0 := hid (((Below.refl w.heap.size w).alloc (Nat.le_refl _) (.cells #[.int .i64 0, .int .i64 0] 36)).alloc (by simp) (.cells #[.int .i64 0, .int .i64 0] 36))
  have HX0 := hid ((BoxAt.new w (0, 0)).alloc (.cells #[.int .i64 0, .int .i64 0] 36))
  have HX1 := hid (BoxAt.new (w.alloc (.cells #[.int .i64 0, .int .i64 0] 36)) (0, 0))
  have hz1 : (w.alloc (.cells #[.int .i64 0, .int .i64 0] 36)).heap.size = w.heap.size + 1 := by simp
  rw [hz1] at HX1
  have HA : ∀ W : World, Hid (Seg W a []) := fun W i hi => absurd hi (Nat.not_lt_zero _)
  clear hz1
  have HV : Hid (boxLo [] = (0, 0) ∧ boxHi [] = (0, 0) ∧ boxOk [] = false) := ⟨rfl, rfl, rfl⟩
  go_enter Try.func118, Try.ntmps118
  go_wp2_with fail
  refine (c_iGood' a [] ca true rfl _ (HA _).out (by simp)).mono ?_
  rintro e w1 ⟨rfl, hb1⟩
  obtain ⟨f1, f2, f3, f4, f5⟩ := HX0.out.below hb1 (by simp; omega)
  obtain ⟨f6, f7, f8, f9, f10⟩ := HX1.out.below hb1 (by simp)
  have HB1 := hid (HB0.out.trans (hb1.mono HB0.out.size))
  clear hb1 HX0 HX1 HB0
  go_wp2
  refine bodyPost_ret (v := .tuple #[.agg #[.int .i64 0, .int .i64 0], .agg #[.int .i64 0, .int .i64 0], .bool false]) (by simp [results, Try.results118, go_sem, f1, f2, f6, f7]) rfl ⟨by rw [HV.out.1, HV.out.2.1, HV.out.2.2], ?_⟩
  exact (((HB1.out.setCell (Nat.le_refl _) _).setCell (Nat.le_refl _) _).setCell (Nat.le_succ _) _).setCell (Nat.le_succ _) _

end Go.Proofs.Ytgfdkolhldbehaa
