/- Texts of this seat, one behind the other: Quad, QuadT, QuadZ, QuadG. -/
import Derived.Test.YtgppcocfnbalfaaDoorKa
import Derived.ChangeSlices
import Derived.ChangeSame
namespace Go.Proofs.YtgppcocfnbalfaaDoor
open Go.RowKit
set_option linter.unusedVariables false
attribute [local go_sem ↓] Go.wp_at_zero Go.wp_at_succ

/-- A quad: its level and its kids. -/
abbrev Qd := Int × List Int
def qa (F : List Qd) (i : Nat) : Qd := F.getD i (0, [])
def ia (l : List Int) (i : Nat) : Int := l.getD i 0
/-- The numbers of a slice. -/
def ISeg (w : World) (a : Option Addr) (l : List Int) : Prop :=
  ∀ i, i < l.length → ∃ b o, a = some ⟨b, o, none⟩ ∧ b < w.heap.size ∧ w.cell? ⟨b, o + i, none⟩ = some (.int .i64 (ia l i))
theorem ISeg.below {w w' : World} {a : Option Addr} {l : List Int} (h : ISeg w a l) (hb : Below w.heap.size w w') : ISeg w' a l := by
  intro i hi
  obtain ⟨b, o, rfl, hlt, h1⟩ := h i hi
  exact ⟨b, o, rfl, Nat.lt_of_lt_of_le hlt hb.size, (hb.cell (p := ⟨b, _, none⟩) hlt).trans h1⟩
/-- The quads of a slice. -/
def QSeg (w : World) (a : Option Addr) (F : List Qd) : Prop :=
  ∀ i, i < F.length → ∃ b o ak ck, a = some ⟨b, o, none⟩ ∧ b < w.heap.size ∧ w.cell? ⟨b, o + i * 2, none⟩ = some (.int .i64 (qa F i).1) ∧ w.cell? ⟨b, o + i * 2 + 1, none⟩ = some (.slice ak (qa F i).2.length ck) ∧ ISeg w ak (qa F i).2 ∧ (qa F i).2.length ≤ ck
theorem QSeg.below {w w' : World} {a : Option Addr} {F : List Qd} (h : QSeg w a F) (hb : Below w.heap.size w w') : QSeg w' a F := by
  intro i hi
  obtain ⟨b, o, ak, ck, rfl, hlt, h1, h2, h3, h4⟩ := h i hi
  exact ⟨b, o, ak, ck, rfl, Nat.lt_of_lt_of_le hlt hb.size, (hb.cell (p := ⟨b, _, none⟩) hlt).trans h1, (hb.cell (p := ⟨b, _, none⟩) hlt).trans h2, h3.below hb, h4⟩
/-- The kids of each quad are at most so many. -/
def KidsLe (F : List Qd) : Prop := ∀ i, i < F.length → (qa F i).2.length ≤ 1048576

theorem ia_take {l m : List Int} {k : Nat} (h1 : k < l.length) (h2 : k < m.length) (ht : l.take k = m.take k) (h : ia l k = ia m k) : l.take (k + 1) = m.take (k + 1) := by
  rw [List.take_succ_eq_append_getElem h1, List.take_succ_eq_append_getElem h2, ht]
  simp [ia, h1, h2] at h
  rw [h]
theorem qa_take {l m : List Qd} {k : Nat} (h1 : k < l.length) (h2 : k < m.length) (ht : l.take k = m.take k) (h : qa l k = qa m k) : l.take (k + 1) = m.take (k + 1) := by
  rw [List.take_succ_eq_append_getElem h1, List.take_succ_eq_append_getElem h2, ht]
  simp [qa, h1, h2] at h
  rw [h]

end Go.Proofs.YtgppcocfnbalfaaDoor

namespace Go.Proofs.YtgppcocfnbalfaaDoor
open Go.RowKit
set_option linter.unusedVariables false
attribute [local go_sem ↓] Go.wp_at_zero Go.wp_at_succ

theorem info_int : (Tryd.prog.info? 3).map (fun i => (i.zero, i.size, i.bytes)) = some (some (.int .i64 0), 1, 8) := by kernel_rfl
theorem make_Ints (n : Nat) (hn : n ≤ 1048576) (w : World) :
    (Instr.makeSlice 34 (.int .i64 (n : Int)) (.int .i64 (n : Int))).run Tryd.prog w = .ok (.slice (some ⟨w.heap.size, 0, none⟩) n n) (w.alloc (.cells (madeCells #[.int .i64 0] n) 3)) := by
  obtain ⟨i, hi, hz, hs, hb⟩ := info_parts info_int
  have := run_make (P := Tryd.prog) w 34 3 i _ Tryd.underlying34 hi hz .i64 .i64 n n (by omega) (Int.le_refl _) (by rw [hb]; omega) (by omega)
  simpa [hs, Value.cells] using this
/-- The numbers l are all of block g. -/
def IRow (w : World) (g : Nat) (l : List Int) : Prop := w.rowIs g 3 l.length (fun j => .int .i64 (ia l j))
theorem IRow.seg {w : World} {g : Nat} {l : List Int} (h : IRow w g l) : ISeg w (some ⟨g, 0, none⟩) l := by
  intro i hi
  refine ⟨g, 0, rfl, h.lt, ?_⟩
  have := World.rowIs.cell h (i := i) hi
  simpa using this
theorem IRow.below {w w' : World} {g : Nat} {l : List Int} (h : IRow w g l) (hb : Below w.heap.size w w') : IRow w' g l := h.of_block (hb.block _ h.lt)
def intTo (l : List Int) (k j : Nat) : Value := .int .i64 (if j < k then ia l j else 0)

theorem two_row {w : World} {g : Nat} {t : TypeId} {u v : Value} (h : w.heap[g]? = some (.cells #[u, v] t)) : w.rowIs g t 2 (fun j => if j = 0 then u else v) := by
  refine ⟨_, h, rfl, fun i hi => ?_⟩
  rcases (show i = 0 ∨ i = 1 by omega) with rfl | rfl <;> rfl
theorem one_row {w : World} {g : Nat} {t : TypeId} {u : Value} (h : w.heap[g]? = some (.cells #[u] t)) : w.rowIs g t 1 (fun _ => u) := by
  refine ⟨_, h, rfl, fun i hi => ?_⟩
  have e : i = 0 := by omega
  subst e; rfl
theorem alloc_lt_of {w : World} {o : Obj} {g : Nat} (h : g < w.heap.size) : g < (w.alloc o).heap.size := by simp; omega

/-- What stands in a row of quads of which the first k are laid, kid i's in block ks i. -/
def quadTo (F : List Qd) (ks : Nat → Nat) (k j : Nat) : Value :=
  if j % 2 = 0 then .int .i64 (if j / 2 < k then (qa F (j / 2)).1 else 0) else (if j / 2 < k then .slice (some ⟨ks (j / 2), 0, none⟩) (qa F (j / 2)).2.length (qa F (j / 2)).2.length else .slice none 0 0)
theorem quadTo_even (F : List Qd) (ks : Nat → Nat) (k i : Nat) : quadTo F ks k (i * 2) = .int .i64 (if i < k then (qa F i).1 else 0) := by
  simp [quadTo]
theorem quadTo_odd (F : List Qd) (ks : Nat → Nat) (k i : Nat) : quadTo F ks k (i * 2 + 1) = (if i < k then .slice (some ⟨ks i, 0, none⟩) (qa F i).2.length (qa F i).2.length else .slice none 0 0) := by
  have e1 : (i * 2 + 1) % 2 = 1 := by omega
  have e2 : (i * 2 + 1) / 2 = i := by omega
  simp [quadTo, e1, e2]
end Go.Proofs.YtgppcocfnbalfaaDoor

namespace Go.Proofs.YtgppcocfnbalfaaDoor
open Go.RowKit Go.ChangeShapes Go.WideShapes Go.ChangeAt Go.Deep Go.Joins
set_option linter.unusedVariables false
attribute [local go_sem ↓] Go.wp_at_zero Go.wp_at_succ

theorem cells_Ints : Tryd.prog.cellsOf 34 = 1 := by kernel_rfl
/-- A slice of numbers that came in. -/
theorem open_nums {H : Type} {enc : TypeId × Value → H} {W : World} {base fuel : Nat} {spare : Nat → Bool} {held : Bool} {v : Value} {x : DataW H × List MemPlace}
    (h : DataW.trod enc Tryd.prog W base spare held fuel 34 [v] = some x) : ∃ (a : Option Addr) (l : List Int) (cap : Nat), v = .slice a l.length cap ∧ l.length ≤ maxLen ∧ l.length ≤ cap ∧ ISeg W a l := by
  rcases open_ints Tryd.underlying34 Tryd.underlying3 cells_int h with ⟨hcs, _⟩ | ⟨ad, len', cap', zs, hcs, _, hl, hm, hz, _, hc, hw⟩
  · simp at hcs
    exact ⟨none, [], 0, hcs, by simp [maxLen], by simp, fun i hi => by simp at hi⟩
  · simp at hcs
    have hlm : len' ≤ zs.length := by rw [hz]; split <;> omega
    refine ⟨some ad, zs.take len', cap', by rw [hcs]; simp; omega, by simp; omega, by simp; omega, fun i hi => ?_⟩
    have hi' : i < len' := by simp at hi; omega
    have c0 := hc i (by omega)
    have c00 := hc 0 (by omega)
    obtain ⟨b, o, spot⟩ := ad
    have hspot : spot = none := by simpa [Addr.add] using World.cell?_spot c00
    subst hspot
    rw [add_plain] at c0
    have hlt := lt_of_cell c0
    have hget : ia (zs.take len') i = zs.getD i 0 := by
      unfold ia
      rw [List.getD_eq_getElem?_getD, List.getD_eq_getElem?_getD, List.getElem?_take_of_lt hi']
    exact ⟨b, o, rfl, hlt, by rw [hget]; exact c0⟩

/-- How many kids the first k quads have. -/
def kidTo (F : List Qd) : Nat → Nat
  | 0 => 0
  | k + 1 => kidTo F k + (qa F k).2.length
theorem kidTo_mono (F : List Qd) {j k : Nat} (h : j ≤ k) : kidTo F j ≤ kidTo F k := by
  induction k with
  | zero => have : j = 0 := by omega
            subst this; exact Nat.le_refl _
  | succ k ih =>
    by_cases e : j = k + 1
    · rw [e]; exact Nat.le_refl _
    · have := ih (by omega)
      simp only [kidTo]; omega
def totQ (F : List Qd) : Nat := F.length + kidTo F F.length
def leftQ (F : List Qd) : Int := if totQ F ≤ 1048576 then 1048576 - (totQ F : Int) else -1
theorem totQ_kids {F : List Qd} (h : totQ F ≤ 1048576) : KidsLe F ∧ F.length ≤ 1048576 := by
  unfold totQ at h
  refine ⟨fun i hi => ?_, by omega⟩
  have := kidTo_mono F (show i + 1 ≤ F.length by omega)
  simp only [kidTo] at this
  omega

end Go.Proofs.YtgppcocfnbalfaaDoor

namespace Go.Proofs.YtgppcocfnbalfaaDoor
open Go.RowKit
set_option linter.unusedVariables false
attribute [local go_sem ↓] Go.wp_at_zero Go.wp_at_succ

/-- A thing holds at all numbers below k. -/
def allB (p : Nat → Bool) (k : Nat) : Bool := (List.range k).all p
theorem allB_succ (p : Nat → Bool) (k : Nat) : allB p (k + 1) = (allB p k && p k) := by simp [allB, List.range_succ]
theorem allB_iff {p : Nat → Bool} {k : Nat} : allB p k = true ↔ ∀ i, i < k → p i = true := by simp [allB]
theorem allB_false {p : Nat → Bool} {k n : Nat} (hk : k < n) (h : p k = false) : allB p n = false := by
  cases e : allB p n
  · rfl
  · have := allB_iff.1 e k hk
    rw [h] at this; cases this
def inB (lo hi x : Int) : Bool := decide (lo ≤ x) && decide (x ≤ hi)
def allIn (l : List Int) (lo hi : Int) : Bool := allB (fun i => inB lo hi (ia l i)) l.length
def levB (F : List Qd) (l : List Int) (v : Int) : Bool := allB (fun i => decide ((qa F (ia l i).toNat).1 = v)) l.length
def newB (F : List Qd) (i : Nat) : Bool := allB (fun j => !decide ((qa F j).2 = (qa F i).2)) i
/-- Is quad i as the quads ahead of it ask? -/
def fineQ (F : List Qd) (i : Nat) : Bool :=
  if i < 2 then decide ((qa F i).1 = 0) && decide ((qa F i).2.length = 0)
  else decide ((qa F i).2.length = 4) && allIn (qa F i).2 0 ((i : Int) - 1) && inB 1 5 (qa F i).1 && levB F (qa F i).2 ((qa F i).1 - 1) && newB F i
/-- Is the forest good? -/
def goodF (F : List Qd) : Bool := inB 2 400 (F.length : Int) && allB (fineQ F) F.length
theorem goodF_no {F : List Qd} {k : Nat} (hk : k < F.length) (h : fineQ F k = false) : goodF F = false := by
  simp [goodF, allB_false hk h]

theorem c_l1In' (n lo hi : Int) (v : Bool) (h : inB lo hi n = v) (w : World) :
    Calls Tryd.prog 28 #[.int .i64 n, .int .i64 lo, .int .i64 hi] w fun e w' => e = .returned (.bool v) ∧ w' = w := by
  rw [← h]; exact c_l1In n lo hi w

/-- A value's box of one cell at the heap's end of w, kept in all that has grown out of w. -/
def Box1 (w W : World) (v : Value) : Prop := W.cell? ⟨w.heap.size, 0, none⟩ = some v ∧ w.heap.size < W.heap.size ∧ Below w.heap.size w W
theorem Box1.step {w W W' : World} {v : Value} (h : Box1 w W v) (hb : Below W.heap.size W W') : Box1 w W' v :=
  ⟨(hb.cell (p := ⟨w.heap.size, 0, none⟩) h.2.1).trans h.1, Nat.lt_of_lt_of_le h.2.1 hb.size, h.2.2.trans (hb.mono h.2.2.size)⟩
theorem Box1.new (w : World) (v : Value) (t : TypeId) : Box1 w (w.alloc (.cells #[v] t)) v := by
  refine ⟨?_, by simp, (Below.refl _ _).alloc (Nat.le_refl _) _⟩
  unfold World.cell?; rw [heap_alloc_new]; rfl
/-- A quad's box at the heap's end of w. -/
def Box2 (w W : World) (u v : Value) : Prop := W.cell? ⟨w.heap.size, 0, none⟩ = some u ∧ W.cell? ⟨w.heap.size, 1, none⟩ = some v ∧ w.heap.size < W.heap.size ∧ Below w.heap.size w W
theorem Box2.step {w W W' : World} {u v : Value} (h : Box2 w W u v) (hb : Below W.heap.size W W') : Box2 w W' u v :=
  ⟨(hb.cell (p := ⟨w.heap.size, 0, none⟩) h.2.2.1).trans h.1, (hb.cell (p := ⟨w.heap.size, 1, none⟩) h.2.2.1).trans h.2.1, Nat.lt_of_lt_of_le h.2.2.1 hb.size, h.2.2.2.trans (hb.mono h.2.2.2.size)⟩
theorem Box2.new (w : World) (u v : Value) (t : TypeId) : Box2 w (w.alloc (.cells #[u, v] t)) u v := by
  refine ⟨cell_new0 _ _ _ _, cell_new1 _ _ _ _, by simp, (Below.refl _ _).alloc (Nat.le_refl _) _⟩

theorem fine_low {F : List Qd} {k : Nat} (h : k < 2) (h1 : (qa F k).1 = 0) (h2 : (qa F k).2.length = 0) : fineQ F k = true := by
  simp [fineQ, h, h1, h2]
theorem fine_low_lev {F : List Qd} {k : Nat} (h : k < 2) (h1 : ¬ (qa F k).1 = 0) : fineQ F k = false := by simp [fineQ, h, h1]
theorem fine_low_kids {F : List Qd} {k : Nat} (h : k < 2) (h1 : ¬ (qa F k).2.length = 0) : fineQ F k = false := by
  unfold fineQ
  rw [if_pos h, decide_eq_false h1, Bool.and_false]
theorem fine_len {F : List Qd} {k : Nat} (h : ¬ k < 2) (h1 : ¬ (qa F k).2.length = 4) : fineQ F k = false := by
  unfold fineQ
  rw [if_neg h, decide_eq_false h1]; simp
theorem fine_in {F : List Qd} {k : Nat} (h : ¬ k < 2) (h1 : allIn (qa F k).2 0 ((k : Int) - 1) = false) : fineQ F k = false := by
  unfold fineQ
  rw [if_neg h, h1]; simp
theorem fine_lev {F : List Qd} {k : Nat} (h : ¬ k < 2) (h1 : inB 1 5 (qa F k).1 = false) : fineQ F k = false := by
  unfold fineQ
  rw [if_neg h, h1]; simp
theorem fine_levs {F : List Qd} {k : Nat} (h : ¬ k < 2) (h1 : levB F (qa F k).2 ((qa F k).1 - 1) = false) : fineQ F k = false := by
  unfold fineQ
  rw [if_neg h, h1]; simp
theorem fine_new {F : List Qd} {k : Nat} (h : ¬ k < 2) (h1 : newB F k = false) : fineQ F k = false := by
  unfold fineQ
  rw [if_neg h, h1]; simp
theorem fine_yes {F : List Qd} {k : Nat} (h : ¬ k < 2) (h1 : (qa F k).2.length = 4) (h2 : allIn (qa F k).2 0 ((k : Int) - 1) = true) (h3 : inB 1 5 (qa F k).1 = true) (h4 : levB F (qa F k).2 ((qa F k).1 - 1) = true) (h5 : newB F k = true) : fineQ F k = true := by
  unfold fineQ
  rw [if_neg h, h2, h3, h4, h5, decide_eq_true h1]; rfl
theorem inB_bd {lo hi x : Int} (h : inB lo hi x = true) : lo ≤ x ∧ x ≤ hi := by simpa [inB] using h

end Go.Proofs.YtgppcocfnbalfaaDoor
