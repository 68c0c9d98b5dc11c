/- Texts of this seat, one behind the other: Quad, QuadT, QuadZ, QuadG, FMem, FHeld, LawX. -/
import Derived.Test.YtgfdkolhldbehaaLa
import Derived.ChangeSlices
import Derived.ChangeSame
namespace Go.Proofs.Ytgfdkolhldbehaa
open Go.RowKit
set_option linter.unusedVariables false
attribute [local go_sem ↓] Go.wp_at_zero Go.wp_at_succ

/-- A quad: its level and its kids. -/
abbrev Qd := Int × List Int
def qa (F : List Qd) (i : Nat) : Qd := F.getD i (0, [])
def ia (l : List Int) (i : Nat) : Int := l.getD i 0
/-- The numbers of a slice. -/
def ISeg (w : World) (a : Option Addr) (l : List Int) : Prop :=
  ∀ i, i < l.length → ∃ b o, a = some ⟨b, o, none⟩ ∧ b < w.heap.size ∧ w.cell? ⟨b, o + i, none⟩ = some (.int .i64 (ia l i))
theorem ISeg.below {w w' : World} {a : Option Addr} {l : List Int} (h : ISeg w a l) (hb : Below w.heap.size w w') : ISeg w' a l := by
  intro i hi
  obtain ⟨b, o, rfl, hlt, h1⟩ := h i hi
  exact ⟨b, o, rfl, Nat.lt_of_lt_of_le hlt hb.size, (hb.cell (p := ⟨b, _, none⟩) hlt).trans h1⟩
/-- The quads of a slice. -/
def QSeg (w : World) (a : Option Addr) (F : List Qd) : Prop :=
  ∀ i, i < F.length → ∃ b o ak ck, a = some ⟨b, o, none⟩ ∧ b < w.heap.size ∧ w.cell? ⟨b, o + i * 2, none⟩ = some (.int .i64 (qa F i).1) ∧ w.cell? ⟨b, o + i * 2 + 1, none⟩ = some (.slice ak (qa F i).2.length ck) ∧ ISeg w ak (qa F i).2 ∧ (qa F i).2.length ≤ ck
theorem QSeg.below {w w' : World} {a : Option Addr} {F : List Qd} (h : QSeg w a F) (hb : Below w.heap.size w w') : QSeg w' a F := by
  intro i hi
  obtain ⟨b, o, ak, ck, rfl, hlt, h1, h2, h3, h4⟩ := h i hi
  exact ⟨b, o, ak, ck, rfl, Nat.lt_of_lt_of_le hlt hb.size, (hb.cell (p := ⟨b, _, none⟩) hlt).trans h1, (hb.cell (p := ⟨b, _, none⟩) hlt).trans h2, h3.below hb, h4⟩
/-- The kids of each quad are at most so many. -/
def KidsLe (F : List Qd) : Prop := ∀ i, i < F.length → (qa F i).2.length ≤ 1048576

theorem ia_take {l m : List Int} {k : Nat} (h1 : k < l.length) (h2 : k < m.length) (ht : l.take k = m.take k) (h : ia l k = ia m k) : l.take (k + 1) = m.take (k + 1) := by
  rw [List.take_succ_eq_append_getElem h1, List.take_succ_eq_append_getElem h2, ht]
  simp [ia, h1, h2] at h
  rw [h]
theorem qa_take {l m : List Qd} {k : Nat} (h1 : k < l.length) (h2 : k < m.length) (ht : l.take k = m.take k) (h : qa l k = qa m k) : l.take (k + 1) = m.take (k + 1) := by
  rw [List.take_succ_eq_append_getElem h1, List.take_succ_eq_append_getElem h2, ht]
  simp [qa, h1, h2] at h
  rw [h]

set_option maxHeartbeats 400000 in
theorem c_eqIntS (a b : Option Addr) (l m : List Int) (ca cb : Nat) (w : World) (ha : ISeg w a l) (hb : ISeg w b m) (hl : l.length ≤ 1048576) (hm : m.length ≤ 1048576) :
    Calls Try.prog 50 #[.slice a l.length ca, .slice b m.length cb] w fun e w' => e = .returned (.bool (decide (l = m))) ∧ Below w.heap.size w w' := by
  by_cases hlm : l.length = m.length
  · have hlm' : ((l.length : Int) != (m.length : Int)) = false := by simp [hlm]
    have HLM : Hid (l.length = m.length) := hlm
    have hle : l.length ≤ m.length := by omega
    clear hlm
    go_enter Try.func50, Try.ntmps50
    go_wp2
    go_loopw [5] (fun i wr => ∃ k : Nat, k ≤ l.length ∧ i = .int .i64 k ∧ Hid (l.take k = m.take k) ∧ Below w.heap.size w wr) (fun i _ => l.length - (intOf i).toNat)
    case atStart => exact ⟨0, Nat.zero_le _, rfl, (rfl : _ = _), Below.refl _ _⟩
    case round =>
      obtain ⟨k, hk, rfl, ht, hbel⟩ := hrel
      by_cases hlt : k < l.length
      · obtain ⟨b1, o1, rfl, hb1, p1⟩ := (ha k hlt)
        obtain ⟨b2, o2, rfl, hb2, q1⟩ := (hb k (by omega))
        have g1 := (hbel.cell (p := ⟨b1, o1 + k, none⟩) hb1).trans p1
        have g3 := (hbel.cell (p := ⟨b2, o2 + k, none⟩) hb2).trans q1
        clear p1 q1
        have k0 : (0 : Int) ≤ (k : Int) := by omega
        have k1 : (k : Int) < (l.length : Int) := by omega
        have k2 : (k : Int) < (m.length : Int) := by omega
        by_cases hxy : ia l k = ia m k
        · have hd : (ia l k != ia m k) = false := by simp [hxy]
          have HXY := hid (hxy)
          clear hxy
          go_wp2
          go_region
          go_wp2
          go_roundw
          case rel => exact ⟨k + 1, by omega, by go_num, ia_take hlt (by omega) ht.out HXY.out, hbel.drew⟩
          case measure => simp [intOf]; omega
        · have hd : (ia l k != ia m k) = true := by simp [hxy]
          have HXY := hid (hxy)
          clear hxy
          go_wp2
          go_region
          go_wp2
          go_ret
          exact ⟨ret_bool (by simp; intro e; subst e; exact HXY.out rfl), hbel.drew⟩
      · go_wp2
        go_ret
        have e1 : l.take k = l := List.take_of_length_le (by omega)
        have e2 : m.take k = m := List.take_of_length_le (by have := HLM.out; omega)
        have e3 := ht.out
        rw [e1, e2] at e3
        exact ⟨ret_bool (by simp [e3]), hbel⟩
  · have hlm' : ((l.length : Int) != (m.length : Int)) = true := by simp; omega
    go_enter Try.func50, Try.ntmps50
    go_wp2
    go_ret
    exact ⟨ret_bool (by simp; intro e; exact hlm (by rw [e])), Below.refl _ _⟩

end Go.Proofs.Ytgfdkolhldbehaa

namespace Go.Proofs.Ytgfdkolhldbehaa
open Go.RowKit
set_option linter.unusedVariables false
attribute [local go_sem ↓] Go.wp_at_zero Go.wp_at_succ

theorem info_int : (Try.prog.info? 3).map (fun i => (i.zero, i.size, i.bytes)) = some (some (.int .i64 0), 1, 8) := by kernel_rfl
theorem make_Ints (n : Nat) (hn : n ≤ 1048576) (w : World) :
    (Instr.makeSlice 61 (.int .i64 (n : Int)) (.int .i64 (n : Int))).run Try.prog w = .ok (.slice (some ⟨w.heap.size, 0, none⟩) n n) (w.alloc (.cells (madeCells #[.int .i64 0] n) 3)) := by
  obtain ⟨i, hi, hz, hs, hb⟩ := info_parts info_int
  have := run_make (P := Try.prog) w 61 3 i _ Try.underlying61 hi hz .i64 .i64 n n (by omega) (Int.le_refl _) (by rw [hb]; omega) (by omega)
  simpa [hs, Value.cells] using this
/-- The numbers l are all of block g. -/
def IRow (w : World) (g : Nat) (l : List Int) : Prop := w.rowIs g 3 l.length (fun j => .int .i64 (ia l j))
theorem IRow.seg {w : World} {g : Nat} {l : List Int} (h : IRow w g l) : ISeg w (some ⟨g, 0, none⟩) l := by
  intro i hi
  refine ⟨g, 0, rfl, h.lt, ?_⟩
  have := World.rowIs.cell h (i := i) hi
  simpa using this
theorem IRow.below {w w' : World} {g : Nat} {l : List Int} (h : IRow w g l) (hb : Below w.heap.size w w') : IRow w' g l := h.of_block (hb.block _ h.lt)
def intTo (l : List Int) (k j : Nat) : Value := .int .i64 (if j < k then ia l j else 0)

theorem two_row {w : World} {g : Nat} {t : TypeId} {u v : Value} (h : w.heap[g]? = some (.cells #[u, v] t)) : w.rowIs g t 2 (fun j => if j = 0 then u else v) := by
  refine ⟨_, h, rfl, fun i hi => ?_⟩
  rcases (show i = 0 ∨ i = 1 by omega) with rfl | rfl <;> rfl
theorem one_row {w : World} {g : Nat} {t : TypeId} {u : Value} (h : w.heap[g]? = some (.cells #[u] t)) : w.rowIs g t 1 (fun _ => u) := by
  refine ⟨_, h, rfl, fun i hi => ?_⟩
  have e : i = 0 := by omega
  subst e; rfl
theorem alloc_lt_of {w : World} {o : Obj} {g : Nat} (h : g < w.heap.size) : g < (w.alloc o).heap.size := by simp; omega

/-- What stands in a row of quads of which the first k are laid, kid i's in block ks i. -/
def quadTo (F : List Qd) (ks : Nat → Nat) (k j : Nat) : Value :=
  if j % 2 = 0 then .int .i64 (if j / 2 < k then (qa F (j / 2)).1 else 0) else (if j / 2 < k then .slice (some ⟨ks (j / 2), 0, none⟩) (qa F (j / 2)).2.length (qa F (j / 2)).2.length else .slice none 0 0)
theorem quadTo_even (F : List Qd) (ks : Nat → Nat) (k i : Nat) : quadTo F ks k (i * 2) = .int .i64 (if i < k then (qa F i).1 else 0) := by
  simp [quadTo]
theorem quadTo_odd (F : List Qd) (ks : Nat → Nat) (k i : Nat) : quadTo F ks k (i * 2 + 1) = (if i < k then .slice (some ⟨ks i, 0, none⟩) (qa F i).2.length (qa F i).2.length else .slice none 0 0) := by
  have e1 : (i * 2 + 1) % 2 = 1 := by omega
  have e2 : (i * 2 + 1) / 2 = i := by omega
  simp [quadTo, e1, e2]
end Go.Proofs.Ytgfdkolhldbehaa

namespace Go.Proofs.Ytgfdkolhldbehaa
open Go.RowKit Go.ChangeShapes Go.WideShapes Go.ChangeAt Go.Deep Go.Joins
set_option linter.unusedVariables false
attribute [local go_sem ↓] Go.wp_at_zero Go.wp_at_succ

theorem cells_Ints : Try.prog.cellsOf 61 = 1 := by kernel_rfl
/-- A slice of numbers that came in. -/
theorem open_nums {H : Type} {enc : TypeId × Value → H} {W : World} {base fuel : Nat} {spare : Nat → Bool} {held : Bool} {v : Value} {x : DataW H × List MemPlace}
    (h : DataW.trod enc Try.prog W base spare held fuel 61 [v] = some x) : ∃ (a : Option Addr) (l : List Int) (cap : Nat), v = .slice a l.length cap ∧ l.length ≤ maxLen ∧ l.length ≤ cap ∧ ISeg W a l := by
  rcases open_ints Try.underlying61 Try.underlying3 cells_int h with ⟨hcs, _⟩ | ⟨ad, len', cap', zs, hcs, _, hl, hm, hz, _, hc, hw⟩
  · simp at hcs
    exact ⟨none, [], 0, hcs, by simp [maxLen], by simp, fun i hi => by simp at hi⟩
  · simp at hcs
    have hlm : len' ≤ zs.length := by rw [hz]; split <;> omega
    refine ⟨some ad, zs.take len', cap', by rw [hcs]; simp; omega, by simp; omega, by simp; omega, fun i hi => ?_⟩
    have hi' : i < len' := by simp at hi; omega
    have c0 := hc i (by omega)
    have c00 := hc 0 (by omega)
    obtain ⟨b, o, spot⟩ := ad
    have hspot : spot = none := by simpa [Addr.add] using World.cell?_spot c00
    subst hspot
    rw [add_plain] at c0
    have hlt := lt_of_cell c0
    have hget : ia (zs.take len') i = zs.getD i 0 := by
      unfold ia
      rw [List.getD_eq_getElem?_getD, List.getD_eq_getElem?_getD, List.getElem?_take_of_lt hi']
    exact ⟨b, o, rfl, hlt, by rw [hget]; exact c0⟩

/-- How many kids the first k quads have. -/
def kidTo (F : List Qd) : Nat → Nat
  | 0 => 0
  | k + 1 => kidTo F k + (qa F k).2.length
theorem kidTo_mono (F : List Qd) {j k : Nat} (h : j ≤ k) : kidTo F j ≤ kidTo F k := by
  induction k with
  | zero => have : j = 0 := by omega
            subst this; exact Nat.le_refl _
  | succ k ih =>
    by_cases e : j = k + 1
    · rw [e]; exact Nat.le_refl _
    · have := ih (by omega)
      simp only [kidTo]; omega
def totQ (F : List Qd) : Nat := F.length + kidTo F F.length
def leftQ (F : List Qd) : Int := if totQ F ≤ 1048576 then 1048576 - (totQ F : Int) else -1
theorem totQ_kids {F : List Qd} (h : totQ F ≤ 1048576) : KidsLe F ∧ F.length ≤ 1048576 := by
  unfold totQ at h
  refine ⟨fun i hi => ?_, by omega⟩
  have := kidTo_mono F (show i + 1 ≤ F.length by omega)
  simp only [kidTo] at this
  omega

end Go.Proofs.Ytgfdkolhldbehaa

namespace Go.Proofs.Ytgfdkolhldbehaa
open Go.RowKit
set_option linter.unusedVariables false
attribute [local go_sem ↓] Go.wp_at_zero Go.wp_at_succ

/-- A thing holds at all numbers below k. -/
def allB (p : Nat → Bool) (k : Nat) : Bool := (List.range k).all p
theorem allB_succ (p : Nat → Bool) (k : Nat) : allB p (k + 1) = (allB p k && p k) := by simp [allB, List.range_succ]
theorem allB_iff {p : Nat → Bool} {k : Nat} : allB p k = true ↔ ∀ i, i < k → p i = true := by simp [allB]
theorem allB_false {p : Nat → Bool} {k n : Nat} (hk : k < n) (h : p k = false) : allB p n = false := by
  cases e : allB p n
  · rfl
  · have := allB_iff.1 e k hk
    rw [h] at this; cases this
def inB (lo hi x : Int) : Bool := decide (lo ≤ x) && decide (x ≤ hi)
def allIn (l : List Int) (lo hi : Int) : Bool := allB (fun i => inB lo hi (ia l i)) l.length
def levB (F : List Qd) (l : List Int) (v : Int) : Bool := allB (fun i => decide ((qa F (ia l i).toNat).1 = v)) l.length
def newB (F : List Qd) (i : Nat) : Bool := allB (fun j => !decide ((qa F j).2 = (qa F i).2)) i
/-- Is quad i as the quads ahead of it ask? -/
def fineQ (F : List Qd) (i : Nat) : Bool :=
  if i < 2 then decide ((qa F i).1 = 0) && decide ((qa F i).2.length = 0)
  else decide ((qa F i).2.length = 4) && allIn (qa F i).2 0 ((i : Int) - 1) && inB 1 5 (qa F i).1 && levB F (qa F i).2 ((qa F i).1 - 1) && newB F i
/-- Is the forest good? -/
def goodF (F : List Qd) : Bool := inB 2 400 (F.length : Int) && allB (fineQ F) F.length
theorem goodF_no {F : List Qd} {k : Nat} (hk : k < F.length) (h : fineQ F k = false) : goodF F = false := by
  simp [goodF, allB_false hk h]

theorem c_l1In' (n lo hi : Int) (v : Bool) (h : inB lo hi n = v) (w : World) :
    Calls Try.prog 102 #[.int .i64 n, .int .i64 lo, .int .i64 hi] w fun e w' => e = .returned (.bool v) ∧ w' = w := by
  rw [← h]; exact c_l1In n lo hi w

/-- A value's box of one cell at the heap's end of w, kept in all that has grown out of w. -/
def Box1 (w W : World) (v : Value) : Prop := W.cell? ⟨w.heap.size, 0, none⟩ = some v ∧ w.heap.size < W.heap.size ∧ Below w.heap.size w W
theorem Box1.step {w W W' : World} {v : Value} (h : Box1 w W v) (hb : Below W.heap.size W W') : Box1 w W' v :=
  ⟨(hb.cell (p := ⟨w.heap.size, 0, none⟩) h.2.1).trans h.1, Nat.lt_of_lt_of_le h.2.1 hb.size, h.2.2.trans (hb.mono h.2.2.size)⟩
theorem Box1.new (w : World) (v : Value) (t : TypeId) : Box1 w (w.alloc (.cells #[v] t)) v := by
  refine ⟨?_, by simp, (Below.refl _ _).alloc (Nat.le_refl _) _⟩
  unfold World.cell?; rw [heap_alloc_new]; rfl
/-- A quad's box at the heap's end of w. -/
def Box2 (w W : World) (u v : Value) : Prop := W.cell? ⟨w.heap.size, 0, none⟩ = some u ∧ W.cell? ⟨w.heap.size, 1, none⟩ = some v ∧ w.heap.size < W.heap.size ∧ Below w.heap.size w W
theorem Box2.step {w W W' : World} {u v : Value} (h : Box2 w W u v) (hb : Below W.heap.size W W') : Box2 w W' u v :=
  ⟨(hb.cell (p := ⟨w.heap.size, 0, none⟩) h.2.2.1).trans h.1, (hb.cell (p := ⟨w.heap.size, 1, none⟩) h.2.2.1).trans h.2.1, Nat.lt_of_lt_of_le h.2.2.1 hb.size, h.2.2.2.trans (hb.mono h.2.2.2.size)⟩
theorem Box2.new (w : World) (u v : Value) (t : TypeId) : Box2 w (w.alloc (.cells #[u, v] t)) u v := by
  refine ⟨cell_new0 _ _ _ _, cell_new1 _ _ _ _, by simp, (Below.refl _ _).alloc (Nat.le_refl _) _⟩

theorem fine_low {F : List Qd} {k : Nat} (h : k < 2) (h1 : (qa F k).1 = 0) (h2 : (qa F k).2.length = 0) : fineQ F k = true := by
  simp [fineQ, h, h1, h2]
theorem fine_low_lev {F : List Qd} {k : Nat} (h : k < 2) (h1 : ¬ (qa F k).1 = 0) : fineQ F k = false := by simp [fineQ, h, h1]
theorem fine_low_kids {F : List Qd} {k : Nat} (h : k < 2) (h1 : ¬ (qa F k).2.length = 0) : fineQ F k = false := by
  unfold fineQ
  rw [if_pos h, decide_eq_false h1, Bool.and_false]
theorem fine_len {F : List Qd} {k : Nat} (h : ¬ k < 2) (h1 : ¬ (qa F k).2.length = 4) : fineQ F k = false := by
  unfold fineQ
  rw [if_neg h, decide_eq_false h1]; simp
theorem fine_in {F : List Qd} {k : Nat} (h : ¬ k < 2) (h1 : allIn (qa F k).2 0 ((k : Int) - 1) = false) : fineQ F k = false := by
  unfold fineQ
  rw [if_neg h, h1]; simp
theorem fine_lev {F : List Qd} {k : Nat} (h : ¬ k < 2) (h1 : inB 1 5 (qa F k).1 = false) : fineQ F k = false := by
  unfold fineQ
  rw [if_neg h, h1]; simp
theorem fine_levs {F : List Qd} {k : Nat} (h : ¬ k < 2) (h1 : levB F (qa F k).2 ((qa F k).1 - 1) = false) : fineQ F k = false := by
  unfold fineQ
  rw [if_neg h, h1]; simp
theorem fine_new {F : List Qd} {k : Nat} (h : ¬ k < 2) (h1 : newB F k = false) : fineQ F k = false := by
  unfold fineQ
  rw [if_neg h, h1]; simp
theorem fine_yes {F : List Qd} {k : Nat} (h : ¬ k < 2) (h1 : (qa F k).2.length = 4) (h2 : allIn (qa F k).2 0 ((k : Int) - 1) = true) (h3 : inB 1 5 (qa F k).1 = true) (h4 : levB F (qa F k).2 ((qa F k).1 - 1) = true) (h5 : newB F k = true) : fineQ F k = true := by
  unfold fineQ
  rw [if_neg h, h2, h3, h4, h5, decide_eq_true h1]; rfl
theorem inB_bd {lo hi x : Int} (h : inB lo hi x = true) : lo ≤ x ∧ x ≤ hi := by simpa [inB] using h

end Go.Proofs.Ytgfdkolhldbehaa

namespace Go.Proofs.Ytgfdkolhldbehaa
open Go.RowKit
set_option linter.unusedVariables false
set_option linter.unusedSimpArgs false
attribute [local go_sem ↓] Go.wp_at_zero Go.wp_at_succ

/-- A cell that holds v and may be written. -/
def WC (w : World) (b o : Nat) (v : Value) : Prop := w.cell? ⟨b, o, none⟩ = some v ∧ w.frozen? ⟨b, o, none⟩ = false ∧ b < w.heap.size
theorem WC.of_block {w w' : World} {b o : Nat} {v : Value} (h : WC w b o v) (hb : w'.heap[b]? = w.heap[b]?) (hs : w.heap.size ≤ w'.heap.size) : WC w' b o v :=
  ⟨(World.cell?_of_block (a := ⟨b, o, none⟩) hb).trans h.1, (World.frozen?_of_block (a := ⟨b, o, none⟩) hb).trans h.2.1, Nat.lt_of_lt_of_le h.2.2 hs⟩
theorem WC.set {w : World} {b o : Nat} {v : Value} (h : WC w b o v) (u : Value) : WC (w.setCell ⟨b, o, none⟩ u) b o u :=
  ⟨World.cell?_setCell_same w _ _ h.1, by rw [World.frozen?_setCell]; exact h.2.1, by simpa using h.2.2⟩
theorem WC.other {w : World} {b o : Nat} {v : Value} (h : WC w b o v) {b' o' : Nat} (hne : b ≠ b' ∨ o ≠ o') (u : Value) : WC (w.setCell ⟨b', o', none⟩ u) b o v := by
  refine ⟨?_, by rw [World.frozen?_setCell]; exact h.2.1, by simpa using h.2.2⟩
  rw [World.cell?_setCell_other w _ _ _ (by intro e; have h1 := congrArg Addr.off e; have h2 := congrArg Addr.block e; dsimp only at h1 h2; omega)]
  exact h.1

/-- From w to w' only blocks from lo on and ahead of hi have changed, and new ones have come. -/
structure Grew (w w' : World) (lo hi : Nat) : Prop where
  os : w'.os = w.os
  tape : w'.tape = w.tape
  output : w'.output = w.output
  size : w.heap.size ≤ w'.heap.size
  block : ∀ k, k < w.heap.size → k < lo ∨ hi ≤ k → w'.heap[k]? = w.heap[k]?
theorem Grew.refl (w : World) (lo hi : Nat) : Grew w w lo hi := ⟨rfl, rfl, rfl, Nat.le_refl _, fun _ _ _ => rfl⟩
theorem Grew.trans {a b c : World} {lo hi : Nat} (h : Grew a b lo hi) (k : Grew b c lo hi) : Grew a c lo hi :=
  ⟨k.os.trans h.os, k.tape.trans h.tape, k.output.trans h.output, Nat.le_trans h.size k.size, fun i hi hn => (k.block i (Nat.lt_of_lt_of_le hi h.size) hn).trans (h.block i hi hn)⟩
theorem Grew.of_below {w w' : World} (h : Below w.heap.size w w') (lo hi : Nat) : Grew w w' lo hi := ⟨h.os, h.tape, h.output, h.size, fun k hk _ => h.block k hk⟩
theorem Grew.of_grown {w w' : World} {g : Nat} (h : w.grownBy w' (some g)) {lo hi : Nat} (h1 : lo ≤ g) (h2 : g < hi) : Grew w w' lo hi :=
  ⟨h.os, h.tape, h.output, h.size, fun k hk hn => h.block k hk (by simp only [ne_eq, Option.some.injEq]; omega)⟩
theorem Grew.set {w w' : World} {lo hi : Nat} (h : Grew w w' lo hi) {b o : Nat} (h1 : lo ≤ b) (h2 : b < hi) (u : Value) : Grew w (w'.setCell ⟨b, o, none⟩ u) lo hi :=
  ⟨h.os, h.tape, h.output, by simpa using h.size, fun k hk hn => (Below.heap_setCell w' ⟨b, o, none⟩ u k (by dsimp only; omega)).trans (h.block k hk hn)⟩
theorem Grew.wide {w w' : World} {lo hi lo' hi' : Nat} (h : Grew w w' lo hi) (h1 : lo' ≤ lo) (h2 : hi ≤ hi') : Grew w w' lo' hi' :=
  ⟨h.os, h.tape, h.output, h.size, fun k hk hn => h.block k hk (by omega)⟩
/-- What lay below lo is as it was. -/
theorem Grew.below {W w w' : World} {lo hi : Nat} (h : Grew w w' lo hi) (hB : Below W.heap.size W w) (hl : W.heap.size ≤ lo) : Below W.heap.size W w' :=
  ⟨h.os.trans hB.os, h.tape.trans hB.tape, h.output.trans hB.output, Nat.le_trans hB.size h.size, fun k hk => (h.block k (Nat.lt_of_lt_of_le hk hB.size) (.inl (Nat.lt_of_lt_of_le hk hl))).trans (hB.block k hk)⟩

/-- N quads in block g, the kids of quad i in block ks i (where it has any): all of these blocks from lo on and ahead of hi, no two the same. -/
structure FMem (w : World) (lo hi N g : Nat) (ks ns : Nat → Nat) (lv : Nat → Int) (kd : Nat → Nat → Int) : Prop where
  low : lo ≤ g ∧ g < hi ∧ hi ≤ w.heap.size
  lev : ∀ i, i < N → WC w g (i * 2) (.int .i64 (lv i))
  sl : ∀ i, i < N → ∃ ak ck, w.cell? ⟨g, i * 2 + 1, none⟩ = some (.slice ak (ns i) ck) ∧ ns i ≤ ck ∧ (0 < ns i → ak = some ⟨ks i, 0, none⟩)
  kid : ∀ i, i < N → ∀ j, j < ns i → WC w (ks i) j (.int .i64 (kd i j))
  klow : ∀ i, i < N → 0 < ns i → lo ≤ ks i ∧ ks i < hi ∧ ks i ≠ g
  dis : ∀ i j, i < N → j < N → i ≠ j → 0 < ns i → 0 < ns j → ks i ≠ ks j
theorem FMem.congr {w : World} {lo hi N g : Nat} {ks ns : Nat → Nat} {lv lv' : Nat → Int} {kd kd' : Nat → Nat → Int} (h : FMem w lo hi N g ks ns lv kd) (h1 : ∀ i, i < N → lv i = lv' i) (h2 : ∀ i, i < N → ∀ j, j < ns i → kd i j = kd' i j) : FMem w lo hi N g ks ns lv' kd' :=
  ⟨h.low, fun i hi => by rw [← h1 i hi]; exact h.lev i hi, h.sl, fun i hi j hj => by rw [← h2 i hi j hj]; exact h.kid i hi j hj, h.klow, h.dis⟩
theorem FMem.kept {w w' : World} {lo hi N g lo' hi' : Nat} {ks ns : Nat → Nat} {lv : Nat → Int} {kd : Nat → Nat → Int} (h : FMem w lo hi N g ks ns lv kd) (hg : Grew w w' lo' hi') (hd : hi ≤ lo' ∨ hi' ≤ lo) : FMem w' lo hi N g ks ns lv kd := by
  have hb : ∀ k, lo ≤ k → k < hi → w'.heap[k]? = w.heap[k]? := fun k h1 h2 => hg.block k (Nat.lt_of_lt_of_le h2 h.low.2.2) (by omega)
  refine ⟨⟨h.low.1, h.low.2.1, Nat.le_trans h.low.2.2 hg.size⟩, fun i hi => (h.lev i hi).of_block (hb _ h.low.1 h.low.2.1) hg.size, fun i hi => ?_, fun i hi j hj => ?_, h.klow, h.dis⟩
  · obtain ⟨ak, ck, h1, h2⟩ := h.sl i hi
    exact ⟨ak, ck, (World.cell?_of_block (a := ⟨g, i * 2 + 1, none⟩) (hb _ h.low.1 h.low.2.1)).trans h1, h2⟩
  · have hk := h.klow i hi (by omega)
    exact (h.kid i hi j hj).of_block (hb _ hk.1 hk.2.1) hg.size
theorem FMem.below {w w' : World} {lo hi N g : Nat} {ks ns : Nat → Nat} {lv : Nat → Int} {kd : Nat → Nat → Int} (h : FMem w lo hi N g ks ns lv kd) (hb : Below w.heap.size w w') : FMem w' lo hi N g ks ns lv kd :=
  h.kept (Grew.of_below hb 0 0) (by omega)
theorem FMem.wide {w : World} {lo hi lo' hi' N g : Nat} {ks ns : Nat → Nat} {lv : Nat → Int} {kd : Nat → Nat → Int} (h : FMem w lo hi N g ks ns lv kd) (h1 : lo' ≤ lo) (h2 : hi ≤ hi') (h3 : hi' ≤ w.heap.size) : FMem w lo' hi' N g ks ns lv kd :=
  ⟨by have := h.low; omega, h.lev, h.sl, h.kid, fun i hi hn => by have := h.klow i hi hn; omega, h.dis⟩
/-- A level is written. -/
theorem FMem.setLev {w : World} {lo hi N g : Nat} {ks ns : Nat → Nat} {lv : Nat → Int} {kd : Nat → Nat → Int} (h : FMem w lo hi N g ks ns lv kd) {i : Nat} (hi' : i < N) (v : Int) :
    FMem (w.setCell ⟨g, i * 2, none⟩ (.int .i64 v)) lo hi N g ks ns (fun j => if j = i then v else lv j) kd := by
  refine ⟨by simpa using h.low, fun j hj => ?_, fun j hj => ?_, fun j hj c hc => ?_, h.klow, h.dis⟩
  · by_cases e : j = i
    · subst e; simp only [if_true]; exact (h.lev j hj).set _
    · simp only [if_neg e]; exact (h.lev j hj).other (.inr (by omega)) _
  · obtain ⟨ak, ck, h1, h2⟩ := h.sl j hj
    exact ⟨ak, ck, by rw [World.cell?_setCell_other w _ _ _ (by intro e; have h1 := congrArg Addr.off e; have h2 := congrArg Addr.block e; dsimp only at h1 h2; omega)]; exact h1, h2⟩
  · have := h.klow j hj (by omega)
    exact (h.kid j hj c hc).other (.inl this.2.2) _
/-- The kids of one quad are written. -/
theorem FMem.setKids {w w' : World} {lo hi N g : Nat} {ks ns : Nat → Nat} {lv : Nat → Int} {kd : Nat → Nat → Int} (h : FMem w lo hi N g ks ns lv kd) {i : Nat} (hi' : i < N) {f : Nat → Int} (hg : 0 < ns i → Grew w w' (ks i) (ks i + 1)) (h0 : ns i = 0 → w' = w) (hk : ∀ j, j < ns i → WC w' (ks i) j (.int .i64 (f j))) :
    FMem w' lo hi N g ks ns lv (fun j c => if j = i then f c else kd j c) := by
  rcases Nat.eq_zero_or_pos (ns i) with e0 | e0
  · have := h0 e0
    subst this
    refine h.congr (fun _ _ => rfl) fun j hj c hc => ?_
    rw [if_neg (by intro e; subst e; omega)]
  · have hG := hg e0
    have hb : ∀ k, k < w.heap.size → k ≠ ks i → w'.heap[k]? = w.heap[k]? := fun k h1 h2 => hG.block k h1 (by omega)
    have hgs : g < w.heap.size := by have := h.low; omega
    have hgi := (h.klow i hi' e0).2.2
    refine ⟨⟨h.low.1, h.low.2.1, Nat.le_trans h.low.2.2 hG.size⟩, fun j hj => (h.lev j hj).of_block (hb g hgs (Ne.symm hgi)) hG.size, fun j hj => ?_, fun j hj c hc => ?_, h.klow, h.dis⟩
    · obtain ⟨ak, ck, h1, h2⟩ := h.sl j hj
      exact ⟨ak, ck, (World.cell?_of_block (a := ⟨g, j * 2 + 1, none⟩) (hb g hgs (Ne.symm hgi))).trans h1, h2⟩
    · by_cases e : j = i
      · subst e; rw [if_pos rfl]; exact hk c hc
      · rw [if_neg e]
        have := h.klow j hj (by omega)
        exact (h.kid j hj c hc).of_block (hb _ (by have := h.low; omega) (h.dis j i hj hi' e (by omega) e0)) hG.size

def nsF (F : List Qd) (i : Nat) : Nat := (qa F i).2.length
def lvF (F : List Qd) (i : Nat) : Int := (qa F i).1
def kdF (F : List Qd) (i j : Nat) : Int := ia (qa F i).2 j
theorem FMem.seg {w : World} {lo hi g : Nat} {ks : Nat → Nat} {F : List Qd} (h : FMem w lo hi F.length g ks (nsF F) (lvF F) (kdF F)) : QSeg w (some ⟨g, 0, none⟩) F := by
  intro i hi
  obtain ⟨ak, ck, h1, h2, h3⟩ := h.sl i hi
  refine ⟨g, 0, ak, ck, rfl, by have := h.low; omega, by have := (h.lev i hi).1; rw [Nat.zero_add]; exact this, by rw [Nat.zero_add]; exact h1, fun j hj => ?_, h2⟩
  have hk := h.kid i hi j hj
  exact ⟨ks i, 0, h3 (by unfold nsF; omega), hk.2.2, by rw [Nat.zero_add]; exact hk.1⟩
/-- The slice v is a forest F of its own memory, all of it in blocks from lo on and ahead of hi. -/
def FOwn (w : World) (lo hi : Nat) (v : Value) (F : List Qd) : Prop :=
  (v = .slice none 0 0 ∧ F = []) ∨ ∃ g cap ks, v = .slice (some ⟨g, 0, none⟩) F.length cap ∧ F.length ≤ cap ∧ cap ≤ 9223372036854775807 ∧ FMem w lo hi F.length g ks (nsF F) (lvF F) (kdF F)
theorem FOwn.form {w : World} {lo hi : Nat} {v : Value} {F : List Qd} (h : FOwn w lo hi v F) : ∃ a cap, v = .slice a F.length cap ∧ F.length ≤ cap ∧ cap ≤ 9223372036854775807 ∧ QSeg w a F := by
  rcases h with ⟨rfl, rfl⟩ | ⟨g, cap, ks, rfl, h1, h2, h3⟩
  · exact ⟨none, 0, rfl, by simp, by omega, fun i hi => by simp at hi⟩
  · exact ⟨_, cap, rfl, h1, h2, h3.seg⟩
theorem FOwn.kept {w w' : World} {lo hi lo' hi' : Nat} {v : Value} {F : List Qd} (h : FOwn w lo hi v F) (hg : Grew w w' lo' hi') (hd : hi ≤ lo' ∨ hi' ≤ lo) : FOwn w' lo hi v F := by
  rcases h with h | ⟨g, cap, ks, h0, h1, h2, h3⟩
  · exact .inl h
  · exact .inr ⟨g, cap, ks, h0, h1, h2, h3.kept hg hd⟩
theorem FOwn.below {w w' : World} {lo hi : Nat} {v : Value} {F : List Qd} (h : FOwn w lo hi v F) (hb : Below w.heap.size w w') : FOwn w' lo hi v F := h.kept (Grew.of_below hb 0 0) (by omega)
theorem FOwn.wide {w : World} {lo hi lo' hi' : Nat} {v : Value} {F : List Qd} (h : FOwn w lo hi v F) (h1 : lo' ≤ lo) (h2 : hi ≤ hi') (h3 : hi' ≤ w.heap.size) : FOwn w lo' hi' v F := by
  rcases h with h | ⟨g, cap, ks, k0, k1, k2, k3⟩
  · exact .inl h
  · exact .inr ⟨g, cap, ks, k0, k1, k2, k3.wide h1 h2 h3⟩
set_option maxHeartbeats 400000 in
theorem c_markInts0 (a : Option Addr) (ca : Nat) (k : Int) (w : World) : Calls Try.prog 51 #[.slice a 0 ca, .int .i64 k] w fun e w' => e = .returned (.int .i64 k) ∧ w' = w := by
  go_enter Try.func51, Try.ntmps51
  go_wp2
  go_loopw [1, 5] (fun s i wr => s = .int .i64 k ∧ i = .int .i64 0 ∧ wr = w) (fun _ _ _ => 0)
  case atStart => exact ⟨rfl, rfl, rfl⟩
  case round =>
    obtain ⟨rfl, rfl, rfl⟩ := hrel
    go_wp2
    go_ret
    exact ⟨rfl, rfl⟩
set_option maxHeartbeats 400000 in
theorem c_markInts (b n ca : Nat) (f : Nat → Int) (k : Int) (w : World) (h : ∀ j, j < n → WC w b j (.int .i64 (f j))) (hn : n ≤ 16777216) (k0 : 0 ≤ k) (k1 : k ≤ 16777216) :
    Calls Try.prog 51 #[.slice (some ⟨b, 0, none⟩) n ca, .int .i64 k] w fun e w' => e = .returned (.int .i64 (k + (n : Int))) ∧ (∀ j, j < n → WC w' b j (.int .i64 (k + (j : Int)))) ∧ Grew w w' b (b + 1) := by
  have H := hid h
  clear h
  go_enter Try.func51, Try.ntmps51
  go_wp2
  go_loopw [1, 5] (fun s i wr => ∃ j : Nat, j ≤ n ∧ s = .int .i64 (k + (j : Int)) ∧ i = .int .i64 j ∧ Hid (∀ c, c < n → WC wr b c (.int .i64 (if c < j then k + (c : Int) else f c))) ∧ Hid (Grew w wr b (b + 1))) (fun _ i _ => n - (intOf i).toNat)
  case atStart => exact ⟨0, by omega, by simp, rfl, (fun c hc => by simpa using H.out c hc), Grew.refl _ _ _⟩
  case round =>
    clear H
    obtain ⟨j, hj, rfl, rfl, HW, HG⟩ := hrel
    by_cases hlt : j < n
    · have j0 : (0 : Int) ≤ (j : Int) := by omega
      have j1 : (j : Int) < (n : Int) := by omega
      have c0 := (HW.out j hlt).1
      have f0 := (HW.out j hlt).2.1
      have HW2 : Hid (∀ c, c < n → WC (wr.setCell ⟨b, j, none⟩ (.int .i64 (k + (j : Int)))) b c (.int .i64 (if c < j + 1 then k + (c : Int) else f c))) := by
        intro c hc
        by_cases e : c = j
        · subst e; rw [if_pos (by omega)]; exact (HW.out c hc).set _
        · have e2 : (c < j + 1) = (c < j) := by apply propext; omega
          simp only [e2]
          exact (HW.out c hc).other (.inr e) _
      have HG2 := hid (HG.out.set (b := b) (o := j) (Nat.le_refl _) (by omega) (.int .i64 (k + (j : Int))))
      go_wp2
      go_roundw
      case rel => exact ⟨j + 1, by omega, by go_num, by go_num, HW2.out, HG2.out⟩
      case measure => simp [intOf]; omega
    · go_wp2
      go_ret
      obtain rfl : j = n := by omega
      exact ⟨rfl, fun c hc => by have := HW.out c hc; rw [if_pos hc] at this; exact this, HG.out⟩

/-- The mark of quad i. -/
def posF (ns : Nat → Nat) : Nat → Nat
  | 0 => 1
  | i + 1 => posF ns i + 1 + ns i
theorem posF_mono (ns : Nat → Nat) {i j : Nat} (h : i ≤ j) : posF ns i ≤ posF ns j := by
  induction j with
  | zero => have : i = 0 := by omega
            subst this; exact Nat.le_refl _
  | succ j ih =>
    by_cases e : i = j + 1
    · rw [e]; exact Nat.le_refl _
    · have := ih (by omega)
      simp only [posF]; omega
theorem posF_le (ns : Nat → Nat) (i : Nat) : i ≤ posF ns i := by
  induction i with
  | zero => simp
  | succ i ih => simp only [posF]; omega
/-- A forest of marks. -/
def markF (F : List Qd) : List Qd := (List.range F.length).map fun i => ((posF (nsF F) i : Int), (List.range (nsF F i)).map fun j : Nat => (posF (nsF F) i : Int) + 1 + (j : Int))
theorem markF_length (F : List Qd) : (markF F).length = F.length := by simp [markF]
theorem markF_at (F : List Qd) {i : Nat} (h : i < F.length) : qa (markF F) i = ((posF (nsF F) i : Int), (List.range (nsF F i)).map fun j : Nat => (posF (nsF F) i : Int) + 1 + (j : Int)) := by
  simp [qa, markF, h]
theorem markF_ns (F : List Qd) {i : Nat} (h : i < F.length) : nsF (markF F) i = nsF F i := by
  unfold nsF; rw [markF_at F h]; simp [nsF]
theorem FMem.mono_ns {w : World} {lo hi N g : Nat} {ks ns ns' : Nat → Nat} {lv : Nat → Int} {kd : Nat → Nat → Int} (h : FMem w lo hi N g ks ns lv kd) (he : ∀ i, i < N → ns i = ns' i) : FMem w lo hi N g ks ns' lv kd :=
  ⟨h.low, h.lev, fun i hi => by rw [← he i hi]; exact h.sl i hi, fun i hi j hj => h.kid i hi j (by rw [he i hi]; exact hj), fun i hi hn => h.klow i hi (by rw [he i hi]; exact hn), fun i j hi hj hne h1 h2 => h.dis i j hi hj hne (by rw [he i hi]; exact h1) (by rw [he j hj]; exact h2)⟩
theorem FMem.marked {w : World} {lo hi g : Nat} {ks : Nat → Nat} {F : List Qd} (h : FMem w lo hi F.length g ks (nsF F) (fun i => (posF (nsF F) i : Int)) (fun i j => (posF (nsF F) i : Int) + 1 + (j : Int))) : FMem w lo hi (markF F).length g ks (nsF (markF F)) (lvF (markF F)) (kdF (markF F)) := by
  rw [markF_length]
  refine (h.congr (fun i hi => ?_) (fun i hi j hj => ?_)).mono_ns fun i hi => (markF_ns F hi).symm
  · unfold lvF; rw [markF_at F hi]
  · unfold kdF; rw [markF_at F hi]; simp [ia, hj]

end Go.Proofs.Ytgfdkolhldbehaa

namespace Go.Proofs.Ytgfdkolhldbehaa
open Go.RowKit
set_option linter.unusedVariables false
set_option linter.unusedSimpArgs false
attribute [local go_sem ↓] Go.wp_at_zero Go.wp_at_succ

/-- Marks of kids. -/
def marksI (k : Int) (n : Nat) : List Int := (List.range n).map fun j : Nat => k + (j : Int)
theorem marksI_length (k : Int) (n : Nat) : (marksI k n).length = n := by simp [marksI]
theorem marksI_at (k : Int) {n j : Nat} (h : j < n) : ia (marksI k n) j = k + (j : Int) := by simp [ia, marksI, h]

set_option maxHeartbeats 400000 in
theorem c_heldInts (a : Option Addr) (n ca : Nat) (k : Int) (w : World) (h : ISeg w a (marksI k n)) (hn : n ≤ 16777216) (k0 : 0 ≤ k) (k1 : k ≤ 16777216) :
    Calls Try.prog 52 #[.slice a n ca, .int .i64 k] w fun e w' => e = .returned (.int .i64 (k + (n : Int))) ∧ w' = w := by
  have H := hid h
  clear h
  go_enter Try.func52, Try.ntmps52
  go_wp2
  go_loopw [1, 5] (fun s i wr => ∃ j : Nat, j ≤ n ∧ s = .int .i64 (k + (j : Int)) ∧ i = .int .i64 j ∧ wr = w) (fun _ i _ => n - (intOf i).toNat)
  case atStart => exact ⟨0, by omega, by simp, rfl, rfl⟩
  case round =>
    obtain ⟨j, hj, rfl, rfl, rfl⟩ := hrel
    by_cases hlt : j < n
    · have j0 : (0 : Int) ≤ (j : Int) := by omega
      have j1 : (j : Int) < (n : Int) := by omega
      obtain ⟨b1, o1, rfl, hb1, p1⟩ := H.out j (by rw [marksI_length]; exact hlt)
      rw [marksI_at k hlt] at p1
      have d0 : (k + (j : Int) != k + (j : Int)) = false := by simp
      go_wp2
      go_roundw
      case rel => exact ⟨j + 1, by omega, by go_num, by go_num, by first | rfl | trivial⟩
      case measure => simp [intOf]; omega
    · go_wp2
      go_ret
      obtain rfl : j = n := by omega
      exact ⟨rfl, rfl⟩

end Go.Proofs.Ytgfdkolhldbehaa

namespace Go.Proofs.Ytgfdkolhldbehaa
open Go.RowKit
set_option linter.unusedVariables false
set_option linter.unusedSimpArgs false
attribute [local go_sem ↓] Go.wp_at_zero Go.wp_at_succ

/-- A fact of the blocks from lo on and ahead of hi: what changes elsewhere leaves it alone. -/
def Kpt (P : World → Prop) (lo hi : Nat) : Prop := ∀ W W' lo' hi', P W → Grew W W' lo' hi' → hi ≤ lo' ∨ hi' ≤ lo → P W'
theorem Kpt.below {P : World → Prop} {lo hi : Nat} (h : Kpt P lo hi) {W W' : World} (hp : P W) (hb : Below W.heap.size W W') : P W' := h W W' 0 0 hp (Grew.of_below hb 0 0) (by omega)

/-- Cells in memory of the call's own. -/
def OwnR (w : World) (lo hi : Nat) (v : Value) (l : List Cl) : Prop := OwnS w lo v l ∧ (∀ k, v.ownBlock = some k → k < hi) ∧ hi ≤ w.heap.size
theorem OwnR.of {w : World} {lo : Nat} {v : Value} {l : List Cl} (h : OwnS w lo v l) : OwnR w lo w.heap.size v l := ⟨h, fun k hk => (h.lt k hk).2, Nat.le_refl _⟩
theorem OwnR.kpt (lo hi : Nat) (v : Value) (l : List Cl) : Kpt (fun W => OwnR W lo hi v l) lo hi := by
  rintro W W' lo' hi' ⟨h, hh, hs⟩ hg hd
  refine ⟨?_, hh, Nat.le_trans hs hg.size⟩
  rcases h.2 with hn | ⟨g, cap, cur, rfl, hb, hblk, r⟩
  · exact ⟨h.1, .inl hn⟩
  · have := hh g rfl
    exact ⟨h.1, .inr ⟨g, cap, cur, rfl, hb, (hg.block g (by omega) (by omega)).trans hblk, r⟩⟩
/-- Numbers in memory of the call's own. -/
def IOwn (w : World) (lo hi : Nat) (v : Value) (l : List Int) : Prop :=
  (v = .slice none 0 0 ∧ l = []) ∨ ∃ g cap, v = .slice (some ⟨g, 0, none⟩) l.length cap ∧ l.length ≤ cap ∧ lo ≤ g ∧ g < hi ∧ hi ≤ w.heap.size ∧ ∀ j, j < l.length → WC w g j (.int .i64 (ia l j))
theorem IOwn.kpt (lo hi : Nat) (v : Value) (l : List Int) : Kpt (fun W => IOwn W lo hi v l) lo hi := by
  rintro W W' lo' hi' h hg hd
  rcases h with h | ⟨g, cap, h1, h2, h3, h4, h5, h6⟩
  · exact .inl h
  · exact .inr ⟨g, cap, h1, h2, h3, h4, Nat.le_trans h5 hg.size, fun j hj => (h6 j hj).of_block (hg.block g (by omega) (by omega)) hg.size⟩
theorem IOwn.form {w : World} {lo hi : Nat} {v : Value} {l : List Int} (h : IOwn w lo hi v l) : ∃ a cap, v = .slice a l.length cap ∧ ISeg w a l := by
  rcases h with ⟨rfl, rfl⟩ | ⟨g, cap, rfl, h2, h3, h4, h5, h6⟩
  · exact ⟨none, 0, rfl, fun i hi => by simp at hi⟩
  · exact ⟨_, cap, rfl, fun i hi => ⟨g, 0, rfl, (h6 i hi).2.2, by rw [Nat.zero_add]; exact (h6 i hi).1⟩⟩
theorem IRow.own {w : World} {g : Nat} {l : List Int} (h : IRow w g l) : IOwn w g w.heap.size (.slice (some ⟨g, 0, none⟩) l.length l.length) l :=
  .inr ⟨g, l.length, rfl, Nat.le_refl _, Nat.le_refl _, World.rowIs.lt h, Nat.le_refl _, fun j hj => ⟨World.rowIs.cell h hj, World.rowIs.frozen h _, World.rowIs.lt h⟩⟩
theorem FOwn.kpt (lo hi : Nat) (v : Value) (F : List Qd) : Kpt (fun W => FOwn W lo hi v F) lo hi := fun _ _ _ _ h hg hd => h.kept hg hd
/-- A forest in a variable: its box is block b, behind all of its memory. -/
def PF (w : World) (lo b : Nat) (v : Value) (F : List Qd) : Prop := FOwn w lo b v F ∧ w.cell? ⟨b, 0, none⟩ = some v ∧ b < w.heap.size ∧ lo ≤ b
theorem PF.kpt (lo b : Nat) (v : Value) (F : List Qd) : Kpt (fun W => PF W lo b v F) lo (b + 1) := by
  rintro W W' lo' hi' ⟨h1, h2, h3, h4⟩ hg hd
  exact ⟨h1.kept hg (by omega), (World.cell?_of_block (a := ⟨b, 0, none⟩) (hg.block b h3 (by omega))).trans h2, Nat.lt_of_lt_of_le h3 hg.size, h4⟩
theorem PF.mark {W W' : World} {lo b : Nat} {v : Value} {F F' : List Qd} (h : PF W lo b v F) (hg : Grew W W' lo b) (h' : FOwn W' lo b v F') : PF W' lo b v F' :=
  ⟨h', (World.cell?_of_block (a := ⟨b, 0, none⟩) (hg.block b h.2.2.1 (.inr (Nat.le_refl _)))).trans h.2.1, Nat.lt_of_lt_of_le h.2.2.1 hg.size, h.2.2.2⟩
theorem PF.new {w : World} {lo : Nat} {v : Value} {F : List Qd} (h : FOwn w lo w.heap.size v F) (hl : lo ≤ w.heap.size) (t : TypeId) : PF (w.alloc (.cells #[v] t)) lo w.heap.size v F := by
  have hb := (Below.refl w.heap.size w).alloc (Nat.le_refl _) (.cells #[v] t)
  refine ⟨h.below hb, ?_, by simp, hl⟩
  unfold World.cell?; rw [heap_alloc_new]; rfl

/-- What stands while a law is walked: the argument's box; what the specification told (PW), what was handed to the program (PX), what it told (PG), each in blocks of its own. -/
structure LL (w W : World) (av : Value) (lw hw lx hx lg hg : Nat) (PW PX PG : World → Prop) : Prop where
  box : W.cell? ⟨w.heap.size, 0, none⟩ = some av
  pw : PW W
  px : PX W
  pg : PG W
  kw : Kpt PW lw hw
  kx : Kpt PX lx hx
  kg : Kpt PG lg hg
  bel : Below w.heap.size w W
  lt : w.heap.size < W.heap.size
  ord : w.heap.size < lw ∧ lw ≤ hw ∧ hw ≤ lx ∧ lx ≤ hx ∧ hx ≤ lg ∧ lg ≤ hg
theorem LL.below {w W W' : World} {av : Value} {lw hw lx hx lg hg : Nat} {PW PX PG : World → Prop} (h : LL w W av lw hw lx hx lg hg PW PX PG) (hb : Below W.heap.size W W') : LL w W' av lw hw lx hx lg hg PW PX PG :=
  ⟨(hb.cell (p := ⟨w.heap.size, 0, none⟩) h.lt).trans h.box, h.kw.below h.pw hb, h.kx.below h.px hb, h.kg.below h.pg hb, h.kw, h.kx, h.kg, h.bel.trans (hb.mono h.bel.size), Nat.lt_of_lt_of_le h.lt hb.size, h.ord⟩
theorem LL.markX {w W W' : World} {av : Value} {lw hw lx hx lg hg lo hi : Nat} {PW PX PX' PG : World → Prop} (h : LL w W av lw hw lx hx lg hg PW PX PG) (hG : Grew W W' lo hi) (h1 : lx ≤ lo) (h2 : hi ≤ hx) (hp : PX' W') (hk : Kpt PX' lx hx) : LL w W' av lw hw lx hx lg hg PW PX' PG := by
  have ho := h.ord
  exact ⟨(World.cell?_of_block (a := ⟨w.heap.size, 0, none⟩) (hG.block w.heap.size h.lt (by omega))).trans h.box, h.kw _ _ _ _ h.pw hG (by omega), hp, h.kg _ _ _ _ h.pg hG (by omega), h.kw, hk, h.kg, hG.below h.bel (by omega), Nat.lt_of_lt_of_le h.lt hG.size, ho⟩
theorem LL.markG {w W W' : World} {av : Value} {lw hw lx hx lg hg lo hi : Nat} {PW PX PG PG' : World → Prop} (h : LL w W av lw hw lx hx lg hg PW PX PG) (hG : Grew W W' lo hi) (h1 : lg ≤ lo) (h2 : hi ≤ hg) (hp : PG' W') (hk : Kpt PG' lg hg) : LL w W' av lw hw lx hx lg hg PW PX PG' := by
  have ho := h.ord
  exact ⟨(World.cell?_of_block (a := ⟨w.heap.size, 0, none⟩) (hG.block w.heap.size h.lt (by omega))).trans h.box, h.kw _ _ _ _ h.pw hG (by omega), h.kx _ _ _ _ h.px hG (by omega), hp, h.kw, h.kx, hk, hG.below h.bel (by omega), Nat.lt_of_lt_of_le h.lt hG.size, ho⟩

theorem c_eqCells' (v u : Value) (l : List Cl) (w : World) {lo hi lo' hi' : Nat} (h1 : OwnR w lo hi v l) (h2 : OwnR w lo' hi' u l) (hl : l.length ≤ 1048576) :
    Calls Try.prog 38 #[v, u] w fun e w' => e = .returned (.bool true) ∧ Below w.heap.size w w' := by
  obtain ⟨a, ca, rfl, ha⟩ := h1.1.form
  obtain ⟨b, cb, rfl, hb⟩ := h2.1.form
  have := c_eqCellS a b l l ca cb w ha hb hl hl
  simpa using this
theorem c_eqInts' (v u : Value) (l : List Int) (w : World) {lo hi lo' hi' : Nat} (h1 : IOwn w lo hi v l) (h2 : IOwn w lo' hi' u l) (hl : l.length ≤ 1048576) :
    Calls Try.prog 50 #[v, u] w fun e w' => e = .returned (.bool true) ∧ Below w.heap.size w w' := by
  obtain ⟨a, ca, rfl, ha⟩ := h1.form
  obtain ⟨b, cb, rfl, hb⟩ := h2.form
  have := c_eqIntS a b l l ca cb w ha hb hl hl
  simpa using this
theorem c_markCells' (v : Value) (l : List Cl) (w : World) {lo hi : Nat} (h : OwnR w lo hi v l) (hl : l.length ≤ 1048576) :
    Calls Try.prog 39 #[v, .int .i64 1] w fun e w' => e = .returned (.int .i64 (1 + 2 * (l.length : Int))) ∧ OwnR w' lo hi v (marks 1 l.length) ∧ Grew w w' lo hi := by
  obtain ⟨a, ca, rfl, _⟩ := h.1.form
  refine (c_mark a ca lo l 1 w h.1 hl (by omega) (by omega)).mono ?_
  rintro e w' ⟨rfl, hO, hg⟩
  refine ⟨rfl, ⟨hO, h.2.1, Nat.le_trans h.2.2 hg.size⟩, ⟨hg.os, hg.tape, hg.output, hg.size, fun k hk hn => hg.block k hk ?_⟩⟩
  intro e
  have h1 := (h.1.lt k e.symm).1
  have h2 := h.2.1 k e.symm
  omega
theorem c_heldCells' (v : Value) (n : Nat) (w : World) {lo hi : Nat} (h : OwnR w lo hi v (marks 1 n)) (hn : n ≤ 1048576) :
    Calls Try.prog 40 #[v, .int .i64 1] w fun e w' => e = .returned (.int .i64 (1 + 2 * (n : Int))) ∧ Below w.heap.size w w' := by
  obtain ⟨a, ca, rfl, hs⟩ := h.1.form
  rw [marks_length]
  exact (c_held a ca n 1 w hs hn (by omega) (by omega)).mono fun e w' ⟨h1, h2⟩ => ⟨h1, by rw [h2]; exact Below.refl _ _⟩
theorem c_markInts' (v : Value) (l : List Int) (k : Int) (w : World) {lo hi : Nat} (h : IOwn w lo hi v l) (hl : l.length ≤ 1048576) (k0 : 0 ≤ k) (k1 : k ≤ 16777216) :
    Calls Try.prog 51 #[v, .int .i64 k] w fun e w' => e = .returned (.int .i64 (k + (l.length : Int))) ∧ IOwn w' lo hi v (marksI k l.length) ∧ Grew w w' lo hi := by
  rcases h with ⟨rfl, rfl⟩ | ⟨g, cap, rfl, h2, h3, h4, h5, h6⟩
  · refine (c_markInts0 none 0 k w).mono ?_
    rintro e w' ⟨rfl, rfl⟩
    exact ⟨by simp, .inl ⟨rfl, rfl⟩, Grew.refl _ _ _⟩
  · refine (c_markInts g l.length cap (ia l) k w h6 (by omega) k0 k1).mono ?_
    rintro e w' ⟨rfl, hW, hG⟩
    refine ⟨rfl, .inr ⟨g, cap, by rw [marksI_length], by rw [marksI_length]; exact h2, h3, h4, Nat.le_trans h5 hG.size, fun j hj => ?_⟩, hG.wide h3 h4⟩
    rw [marksI_length] at hj
    rw [marksI_at k hj]
    exact hW j hj
theorem c_heldInts' (v : Value) (n : Nat) (w : World) {lo hi : Nat} (h : IOwn w lo hi v (marksI 1 n)) (hn : n ≤ 1048576) :
    Calls Try.prog 52 #[v, .int .i64 1] w fun e w' => e = .returned (.int .i64 (1 + (n : Int))) ∧ Below w.heap.size w w' := by
  obtain ⟨a, ca, rfl, hs⟩ := h.form
  rw [marksI_length]
  exact (c_heldInts a n ca 1 w hs (by omega) (by omega) (by omega)).mono fun e w' ⟨h1, h2⟩ => ⟨h1, by rw [h2]; exact Below.refl _ _⟩
theorem posF_tot {F : List Qd} : posF (nsF F) F.length = 1 + totQ F := by
  have : ∀ n, posF (nsF F) n = 1 + n + kidTo F n := by
    intro n
    induction n with
    | zero => rfl
    | succ n ih => simp only [posF, kidTo, ih, nsF]; omega
  rw [this]; unfold totQ; omega

end Go.Proofs.Ytgfdkolhldbehaa
