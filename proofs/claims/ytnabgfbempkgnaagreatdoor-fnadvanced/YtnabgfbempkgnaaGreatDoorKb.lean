/- Texts of this seat, one behind the other: Quad, QuadT, QuadZ, QuadG, Four, Grove, GroveJ, GroveN. -/
import Derived.Test.YtnabgfbempkgnaaGreatDoorKa
import Derived.ChangeSlices
import Derived.ChangeSame
import Derived.Maps.Own
import Derived.Maps.OwnOps
import Derived.Maps.Views
import Derived.DeepKeys4
import Derived.WideKeyEntry
import Derived.BigRegion
import Derived.Deep.RegionLaw
import Derived.Deep.DeepCutAuto
import Derived.OneCell
import Derived.Laws.AppendOwnNone
namespace Go.Proofs.YtnabgfbempkgnaaGreatDoor
open Go.RowKit
set_option linter.unusedVariables false
attribute [local go_sem ↓] Go.wp_at_zero Go.wp_at_succ

/-- A quad: its level and its kids. -/
abbrev Qd := Int × List Int
def qa (F : List Qd) (i : Nat) : Qd := F.getD i (0, [])
def ia (l : List Int) (i : Nat) : Int := l.getD i 0
/-- The numbers of a slice. -/
def ISeg (w : World) (a : Option Addr) (l : List Int) : Prop :=
  ∀ i, i < l.length → ∃ b o, a = some ⟨b, o, none⟩ ∧ b < w.heap.size ∧ w.cell? ⟨b, o + i, none⟩ = some (.int .i64 (ia l i))
theorem ISeg.below {w w' : World} {a : Option Addr} {l : List Int} (h : ISeg w a l) (hb : Below w.heap.size w w') : ISeg w' a l := by
  intro i hi
  obtain ⟨b, o, rfl, hlt, h1⟩ := h i hi
  exact ⟨b, o, rfl, Nat.lt_of_lt_of_le hlt hb.size, (hb.cell (p := ⟨b, _, none⟩) hlt).trans h1⟩
/-- The quads of a slice. -/
def QSeg (w : World) (a : Option Addr) (F : List Qd) : Prop :=
  ∀ i, i < F.length → ∃ b o ak ck, a = some ⟨b, o, none⟩ ∧ b < w.heap.size ∧ w.cell? ⟨b, o + i * 2, none⟩ = some (.int .i64 (qa F i).1) ∧ w.cell? ⟨b, o + i * 2 + 1, none⟩ = some (.slice ak (qa F i).2.length ck) ∧ ISeg w ak (qa F i).2 ∧ (qa F i).2.length ≤ ck
theorem QSeg.below {w w' : World} {a : Option Addr} {F : List Qd} (h : QSeg w a F) (hb : Below w.heap.size w w') : QSeg w' a F := by
  intro i hi
  obtain ⟨b, o, ak, ck, rfl, hlt, h1, h2, h3, h4⟩ := h i hi
  exact ⟨b, o, ak, ck, rfl, Nat.lt_of_lt_of_le hlt hb.size, (hb.cell (p := ⟨b, _, none⟩) hlt).trans h1, (hb.cell (p := ⟨b, _, none⟩) hlt).trans h2, h3.below hb, h4⟩
/-- The kids of each quad are at most so many. -/
def KidsLe (F : List Qd) : Prop := ∀ i, i < F.length → (qa F i).2.length ≤ 1048576

theorem ia_take {l m : List Int} {k : Nat} (h1 : k < l.length) (h2 : k < m.length) (ht : l.take k = m.take k) (h : ia l k = ia m k) : l.take (k + 1) = m.take (k + 1) := by
  rw [List.take_succ_eq_append_getElem h1, List.take_succ_eq_append_getElem h2, ht]
  simp [ia, h1, h2] at h
  rw [h]
theorem qa_take {l m : List Qd} {k : Nat} (h1 : k < l.length) (h2 : k < m.length) (ht : l.take k = m.take k) (h : qa l k = qa m k) : l.take (k + 1) = m.take (k + 1) := by
  rw [List.take_succ_eq_append_getElem h1, List.take_succ_eq_append_getElem h2, ht]
  simp [qa, h1, h2] at h
  rw [h]

set_option maxHeartbeats 400000 in
theorem c_l3Same (a b : Option Addr) (l m : List Int) (ca cb : Nat) (w : World) (ha : ISeg w a l) (hb : ISeg w b m) (hl : l.length ≤ 1048576) (hm : m.length ≤ 1048576) :
    Calls Tryz.prog 83 #[.slice a l.length ca, .slice b m.length cb] w fun e w' => e = .returned (.bool (decide (l = m))) ∧ Below w.heap.size w w' := by
  by_cases hlm : l.length = m.length
  · have hlm' : ((l.length : Int) != (m.length : Int)) = false := by simp [hlm]
    have HLM : Hid (l.length = m.length) := hlm
    have hle : l.length ≤ m.length := by omega
    clear hlm
    go_enter Tryz.func83, Tryz.ntmps83
    go_wp2
    go_loopw [13] (fun i wr => ∃ k : Nat, k ≤ l.length ∧ i = .int .i64 k ∧ Hid (l.take k = m.take k) ∧ Below w.heap.size w wr) (fun i _ => l.length - (intOf i).toNat)
    case atStart => exact ⟨0, Nat.zero_le _, rfl, (rfl : _ = _), Below.refl _ _⟩
    case round =>
      obtain ⟨k, hk, rfl, ht, hbel⟩ := hrel
      by_cases hlt : k < l.length
      · obtain ⟨b1, o1, rfl, hb1, p1⟩ := (ha k hlt)
        obtain ⟨b2, o2, rfl, hb2, q1⟩ := (hb k (by omega))
        have g1 := (hbel.cell (p := ⟨b1, o1 + k, none⟩) hb1).trans p1
        have g3 := (hbel.cell (p := ⟨b2, o2 + k, none⟩) hb2).trans q1
        clear p1 q1
        have k0 : (0 : Int) ≤ (k : Int) := by omega
        have k1 : (k : Int) < (l.length : Int) := by omega
        have k2 : (k : Int) < (m.length : Int) := by omega
        by_cases hxy : ia l k = ia m k
        · have hd : (ia l k != ia m k) = false := by simp [hxy]
          have HXY := hid (hxy)
          clear hxy
          go_wp2
          go_region
          go_wp2
          go_roundw
          case rel => exact ⟨k + 1, by omega, by go_num, ia_take hlt (by omega) ht.out HXY.out, hbel.drew⟩
          case measure => simp [intOf]; omega
        · have hd : (ia l k != ia m k) = true := by simp [hxy]
          have HXY := hid (hxy)
          clear hxy
          go_wp2
          go_region
          go_wp2
          go_ret
          exact ⟨ret_bool (by simp; intro e; subst e; exact HXY.out rfl), hbel.drew⟩
      · go_wp2
        go_ret
        have e1 : l.take k = l := List.take_of_length_le (by omega)
        have e2 : m.take k = m := List.take_of_length_le (by have := HLM.out; omega)
        have e3 := ht.out
        rw [e1, e2] at e3
        exact ⟨ret_bool (by simp [e3]), hbel⟩
  · have hlm' : ((l.length : Int) != (m.length : Int)) = true := by simp; omega
    go_enter Tryz.func83, Tryz.ntmps83
    go_wp2
    go_ret
    exact ⟨ret_bool (by simp; intro e; exact hlm (by rw [e])), Below.refl _ _⟩

end Go.Proofs.YtnabgfbempkgnaaGreatDoor

namespace Go.Proofs.YtnabgfbempkgnaaGreatDoor
open Go.RowKit
set_option linter.unusedVariables false
attribute [local go_sem ↓] Go.wp_at_zero Go.wp_at_succ

theorem info_int : (Tryz.prog.info? 3).map (fun i => (i.zero, i.size, i.bytes)) = some (some (.int .i64 0), 1, 8) := by kernel_rfl
theorem info_Quad : (Tryz.prog.info? 95).map (fun i => (i.zero, i.size, i.bytes)) = some (some (.agg #[.int .i64 0, .slice none 0 0]), 2, 32) := by kernel_rfl
theorem make_Ints (n : Nat) (hn : n ≤ 1048576) (w : World) :
    (Instr.makeSlice 32 (.int .i64 (n : Int)) (.int .i64 (n : Int))).run Tryz.prog w = .ok (.slice (some ⟨w.heap.size, 0, none⟩) n n) (w.alloc (.cells (madeCells #[.int .i64 0] n) 3)) := by
  obtain ⟨i, hi, hz, hs, hb⟩ := info_parts info_int
  have := run_make (P := Tryz.prog) w 32 3 i _ Tryz.underlying32 hi hz .i64 .i64 n n (by omega) (Int.le_refl _) (by rw [hb]; omega) (by omega)
  simpa [hs, Value.cells] using this
theorem make_Quads (n : Nat) (hn : n ≤ 1048576) (w : World) :
    (Instr.makeSlice 54 (.int .i64 (n : Int)) (.int .i64 (n : Int))).run Tryz.prog w = .ok (.slice (some ⟨w.heap.size, 0, none⟩) n n) (w.alloc (.cells (madeCells #[.int .i64 0, .slice none 0 0] (n * 2)) 95)) := by
  obtain ⟨i, hi, hz, hs, hb⟩ := info_parts info_Quad
  have := run_make (P := Tryz.prog) w 54 95 i _ Tryz.underlying54 hi hz .i64 .i64 n n (by omega) (Int.le_refl _) (by rw [hb]; omega) (by omega)
  simpa [hs, Value.cells] using this

/-- The numbers l are all of block g. -/
def IRow (w : World) (g : Nat) (l : List Int) : Prop := w.rowIs g 3 l.length (fun j => .int .i64 (ia l j))
theorem IRow.seg {w : World} {g : Nat} {l : List Int} (h : IRow w g l) : ISeg w (some ⟨g, 0, none⟩) l := by
  intro i hi
  refine ⟨g, 0, rfl, h.lt, ?_⟩
  have := World.rowIs.cell h (i := i) hi
  simpa using this
theorem IRow.below {w w' : World} {g : Nat} {l : List Int} (h : IRow w g l) (hb : Below w.heap.size w w') : IRow w' g l := h.of_block (hb.block _ h.lt)
def intTo (l : List Int) (k j : Nat) : Value := .int .i64 (if j < k then ia l j else 0)

theorem two_row {w : World} {g : Nat} {t : TypeId} {u v : Value} (h : w.heap[g]? = some (.cells #[u, v] t)) : w.rowIs g t 2 (fun j => if j = 0 then u else v) := by
  refine ⟨_, h, rfl, fun i hi => ?_⟩
  rcases (show i = 0 ∨ i = 1 by omega) with rfl | rfl <;> rfl
theorem one_row {w : World} {g : Nat} {t : TypeId} {u : Value} (h : w.heap[g]? = some (.cells #[u] t)) : w.rowIs g t 1 (fun _ => u) := by
  refine ⟨_, h, rfl, fun i hi => ?_⟩
  have e : i = 0 := by omega
  subst e; rfl
theorem alloc_lt_of {w : World} {o : Obj} {g : Nat} (h : g < w.heap.size) : g < (w.alloc o).heap.size := by simp; omega

/-- What stands in a row of quads of which the first k are laid, kid i's in block ks i. -/
def quadTo (F : List Qd) (ks : Nat → Nat) (k j : Nat) : Value :=
  if j % 2 = 0 then .int .i64 (if j / 2 < k then (qa F (j / 2)).1 else 0) else (if j / 2 < k then .slice (some ⟨ks (j / 2), 0, none⟩) (qa F (j / 2)).2.length (qa F (j / 2)).2.length else .slice none 0 0)
theorem quadTo_even (F : List Qd) (ks : Nat → Nat) (k i : Nat) : quadTo F ks k (i * 2) = .int .i64 (if i < k then (qa F i).1 else 0) := by
  simp [quadTo]
theorem quadTo_odd (F : List Qd) (ks : Nat → Nat) (k i : Nat) : quadTo F ks k (i * 2 + 1) = (if i < k then .slice (some ⟨ks i, 0, none⟩) (qa F i).2.length (qa F i).2.length else .slice none 0 0) := by
  have e1 : (i * 2 + 1) % 2 = 1 := by omega
  have e2 : (i * 2 + 1) / 2 = i := by omega
  simp [quadTo, e1, e2]
theorem quad_made (w : World) (F : List Qd) (ks : Nat → Nat) : (w.alloc (.cells (madeCells #[.int .i64 0, .slice none 0 0] (F.length * 2)) 95)).rowIs w.heap.size 95 (F.length * 2) (quadTo F ks 0) := by
  refine ⟨_, heap_alloc_new _ _, size_madeCells _ _, fun i hi => ?_⟩
  have h2 : i % 2 = 0 ∨ i % 2 = 1 := by omega
  rcases h2 with h2 | h2 <;> simp [madeCells, hi, h2, quadTo]
theorem quad_step {w : World} {g : Nat} {F : List Qd} {ks : Nat → Nat} {k : Nat} (b : Nat) (h : w.rowIs g 95 (F.length * 2) (quadTo F ks k)) :
    ((w.setCell ⟨g, k * 2, none⟩ (.int .i64 (qa F k).1)).setCell ⟨g, k * 2 + 1, none⟩ (.slice (some ⟨b, 0, none⟩) (qa F k).2.length (qa F k).2.length)).rowIs g 95 (F.length * 2) (quadTo F (fun i => if i = k then b else ks i) (k + 1)) := by
  refine ((h.set (k * 2) _).set (k * 2 + 1) _).congr fun j hj => ?_
  rcases (show j = j / 2 * 2 ∨ j = j / 2 * 2 + 1 by omega) with e | e
  · rw [e, quadTo_even, quadTo_even]
    generalize j / 2 = i
    by_cases h1 : i = k
    · subst h1
      rw [if_neg (by omega), if_pos rfl, if_pos (by omega)]
    · rw [if_neg (by omega), if_neg (by omega)]
      by_cases h2 : i < k
      · rw [if_pos h2, if_pos (by omega)]
      · rw [if_neg h2, if_neg (by omega)]
  · rw [e, quadTo_odd, quadTo_odd]
    generalize j / 2 = i
    by_cases h1 : i = k
    · subst h1
      rw [if_pos rfl, if_pos (by omega)]
      simp
    · rw [if_neg (by omega), if_neg (by omega)]
      by_cases h2 : i < k
      · rw [if_pos h2, if_pos (by omega), if_neg h1]
      · rw [if_neg h2, if_neg (by omega)]

/-- A forest that lies in memory of its own: the quads are all of block g, the kids of quad i all of block ks i, each behind the last. -/
structure QRow (w : World) (base g : Nat) (ks : Nat → Nat) (F : List Qd) (k : Nat) : Prop where
  low : base ≤ g
  row : w.rowIs g 95 (F.length * 2) (quadTo F ks k)
  kid : ∀ i, i < k → IRow w (ks i) (qa F i).2 ∧ g < ks i ∧ ∀ j, j < i → ks j < ks i
theorem QRow.below {w w' : World} {base g : Nat} {ks : Nat → Nat} {F : List Qd} {k : Nat} (h : QRow w base g ks F k) (hb : Below w.heap.size w w') : QRow w' base g ks F k :=
  ⟨h.low, h.row.of_block (hb.block _ h.row.lt), fun i hi => ⟨(h.kid i hi).1.below hb, (h.kid i hi).2⟩⟩
theorem QRow.seg {w : World} {base g : Nat} {ks : Nat → Nat} {F : List Qd} (h : QRow w base g ks F F.length) : QSeg w (some ⟨g, 0, none⟩) F := by
  intro i hi
  have c0 := h.row.cell (i := i * 2) (by omega)
  have c1 := h.row.cell (i := i * 2 + 1) (by omega)
  rw [quadTo_even, if_pos hi] at c0
  rw [quadTo_odd, if_pos hi] at c1
  exact ⟨g, 0, some ⟨ks i, 0, none⟩, (qa F i).2.length, rfl, h.row.lt, by simpa using c0, by simpa using c1, (h.kid i hi).1.seg, Nat.le_refl _⟩
theorem QRow.step {w : World} {base g : Nat} {ks : Nat → Nat} {F : List Qd} {k b : Nat} (h : QRow w base g ks F k) (hk : k < F.length) (hI : IRow w b (qa F k).2) (hg : g < b) (hlast : ∀ j, j < k → ks j < b) :
    QRow ((w.setCell ⟨g, k * 2, none⟩ (.int .i64 (qa F k).1)).setCell ⟨g, k * 2 + 1, none⟩ (.slice (some ⟨b, 0, none⟩) (qa F k).2.length (qa F k).2.length)) base g (fun i => if i = k then b else ks i) F (k + 1) := by
  refine ⟨h.low, quad_step b h.row, fun i hi => ?_⟩
  by_cases e : i = k
  · subst e
    rw [if_pos rfl]
    refine ⟨(hI.setOther (by dsimp only; omega) _).setOther (by dsimp only; omega) _, hg, fun j hj => ?_⟩
    rw [if_neg (by omega)]
    exact hlast j hj
  · have hi' : i < k := by omega
    obtain ⟨h1, h2, h3⟩ := h.kid i hi'
    rw [if_neg e]
    refine ⟨(h1.setOther (by dsimp only; omega) _).setOther (by dsimp only; omega) _, h2, fun j hj => ?_⟩
    rw [if_neg (by omega)]
    exact h3 j hj

end Go.Proofs.YtnabgfbempkgnaaGreatDoor

namespace Go.Proofs.YtnabgfbempkgnaaGreatDoor
open Go.RowKit Go.ChangeShapes Go.WideShapes Go.ChangeAt Go.Deep Go.Joins
set_option linter.unusedVariables false
attribute [local go_sem ↓] Go.wp_at_zero Go.wp_at_succ

theorem cells_Ints : Tryz.prog.cellsOf 32 = 1 := by kernel_rfl
/-- A slice of numbers that came in. -/
theorem open_nums {H : Type} {enc : TypeId × Value → H} {W : World} {base fuel : Nat} {spare : Nat → Bool} {held : Bool} {v : Value} {x : DataW H × List MemPlace}
    (h : DataW.trod enc Tryz.prog W base spare held fuel 32 [v] = some x) : ∃ (a : Option Addr) (l : List Int) (cap : Nat), v = .slice a l.length cap ∧ l.length ≤ maxLen ∧ l.length ≤ cap ∧ ISeg W a l := by
  rcases open_ints Tryz.underlying32 Tryz.underlying3 cells_int h with ⟨hcs, _⟩ | ⟨ad, len', cap', zs, hcs, _, hl, hm, hz, _, hc, hw⟩
  · simp at hcs
    exact ⟨none, [], 0, hcs, by simp [maxLen], by simp, fun i hi => by simp at hi⟩
  · simp at hcs
    have hlm : len' ≤ zs.length := by rw [hz]; split <;> omega
    refine ⟨some ad, zs.take len', cap', by rw [hcs]; simp; omega, by simp; omega, by simp; omega, fun i hi => ?_⟩
    have hi' : i < len' := by simp at hi; omega
    have c0 := hc i (by omega)
    have c00 := hc 0 (by omega)
    obtain ⟨b, o, spot⟩ := ad
    have hspot : spot = none := by simpa [Addr.add] using World.cell?_spot c00
    subst hspot
    rw [add_plain] at c0
    have hlt := lt_of_cell c0
    have hget : ia (zs.take len') i = zs.getD i 0 := by
      unfold ia
      rw [List.getD_eq_getElem?_getD, List.getD_eq_getElem?_getD, List.getElem?_take_of_lt hi']
    exact ⟨b, o, rfl, hlt, by rw [hget]; exact c0⟩

/-- How many kids the first k quads have. -/
def kidTo (F : List Qd) : Nat → Nat
  | 0 => 0
  | k + 1 => kidTo F k + (qa F k).2.length
theorem kidTo_mono (F : List Qd) {j k : Nat} (h : j ≤ k) : kidTo F j ≤ kidTo F k := by
  induction k with
  | zero => have : j = 0 := by omega
            subst this; exact Nat.le_refl _
  | succ k ih =>
    by_cases e : j = k + 1
    · rw [e]; exact Nat.le_refl _
    · have := ih (by omega)
      simp only [kidTo]; omega
def totQ (F : List Qd) : Nat := F.length + kidTo F F.length
def leftQ (F : List Qd) : Int := if totQ F ≤ 1048576 then 1048576 - (totQ F : Int) else -1
theorem totQ_kids {F : List Qd} (h : totQ F ≤ 1048576) : KidsLe F ∧ F.length ≤ 1048576 := by
  unfold totQ at h
  refine ⟨fun i hi => ?_, by omega⟩
  have := kidTo_mono F (show i + 1 ≤ F.length by omega)
  simp only [kidTo] at this
  omega

end Go.Proofs.YtnabgfbempkgnaaGreatDoor

namespace Go.Proofs.YtnabgfbempkgnaaGreatDoor
open Go.RowKit
set_option linter.unusedVariables false
attribute [local go_sem ↓] Go.wp_at_zero Go.wp_at_succ

/-- A thing holds at all numbers below k. -/
def allB (p : Nat → Bool) (k : Nat) : Bool := (List.range k).all p
theorem allB_succ (p : Nat → Bool) (k : Nat) : allB p (k + 1) = (allB p k && p k) := by simp [allB, List.range_succ]
theorem allB_iff {p : Nat → Bool} {k : Nat} : allB p k = true ↔ ∀ i, i < k → p i = true := by simp [allB]
theorem allB_false {p : Nat → Bool} {k n : Nat} (hk : k < n) (h : p k = false) : allB p n = false := by
  cases e : allB p n
  · rfl
  · have := allB_iff.1 e k hk
    rw [h] at this; cases this
def inB (lo hi x : Int) : Bool := decide (lo ≤ x) && decide (x ≤ hi)
def allIn (l : List Int) (lo hi : Int) : Bool := allB (fun i => inB lo hi (ia l i)) l.length
def levB (F : List Qd) (l : List Int) (v : Int) : Bool := allB (fun i => decide ((qa F (ia l i).toNat).1 = v)) l.length
def newB (F : List Qd) (i : Nat) : Bool := allB (fun j => !decide ((qa F j).2 = (qa F i).2)) i
/-- Is quad i as the quads ahead of it ask? -/
def fineQ (F : List Qd) (i : Nat) : Bool :=
  if i < 2 then decide ((qa F i).1 = 0) && decide ((qa F i).2.length = 0)
  else decide ((qa F i).2.length = 4) && allIn (qa F i).2 0 ((i : Int) - 1) && inB 1 5 (qa F i).1 && levB F (qa F i).2 ((qa F i).1 - 1) && newB F i
/-- Is the forest good? -/
def goodF (F : List Qd) : Bool := inB 2 400 (F.length : Int) && allB (fineQ F) F.length
theorem goodF_no {F : List Qd} {k : Nat} (hk : k < F.length) (h : fineQ F k = false) : goodF F = false := by
  simp [goodF, allB_false hk h]

theorem c_l1In' (n lo hi : Int) (v : Bool) (h : inB lo hi n = v) (w : World) :
    Calls Tryz.prog 23 #[.int .i64 n, .int .i64 lo, .int .i64 hi] w fun e w' => e = .returned (.bool v) ∧ w' = w := by
  rw [← h]; exact c_l1In n lo hi w

set_option maxHeartbeats 400000 in
theorem c_l1All (a : Option Addr) (l : List Int) (ca : Nat) (lo hi : Int) (w : World) (ha : ISeg w a l) (hl : l.length ≤ 1048576) :
    Calls Tryz.prog 103 #[.slice a l.length ca, .int .i64 lo, .int .i64 hi] w fun e w' => e = .returned (.bool (allIn l lo hi)) ∧ Below w.heap.size w w' := by
  go_enter Tryz.func103, Tryz.ntmps103
  go_wp2
  go_loopw [11] (fun i wr => ∃ k : Nat, k ≤ l.length ∧ i = .int .i64 k ∧ Hid (allB (fun i => inB lo hi (ia l i)) k = true) ∧ Below w.heap.size w wr) (fun i _ => l.length - (intOf i).toNat)
  case atStart => exact ⟨0, Nat.zero_le _, rfl, (rfl : _ = _), Below.refl _ _⟩
  case round =>
    obtain ⟨k, hk, rfl, hT, hbel⟩ := hrel
    by_cases hlt : k < l.length
    · obtain ⟨b1, o1, rfl, hb1, p1⟩ := ha k hlt
      have g1 := (hbel.cell (p := ⟨b1, o1 + k, none⟩) hb1).trans p1
      clear p1
      have k0 : (0 : Int) ≤ (k : Int) := by omega
      have k1 : (k : Int) < (l.length : Int) := by omega
      have HS := hid (allB_succ (fun i => inB lo hi (ia l i)) k)
      have HN := hid (fun h => allB_false (p := fun i => inB lo hi (ia l i)) hlt h)
      cases hin : inB lo hi (ia l k)
      · have HC := hid (c_l1In' (ia l k) lo hi false hin wr)
        have HV := hid (HN.out hin)
        generalize ia l k = x at *
        go_wp2_with fail
        refine HC.out.mono ?_
        rintro e w1 ⟨rfl, rfl⟩
        go_wp2
        go_ret
        exact ⟨ret_bool HV.out.symm, hbel⟩
      · have HC := hid (c_l1In' (ia l k) lo hi true hin wr)
        have HV := hid (show allB (fun i => inB lo hi (ia l i)) (k + 1) = true by rw [HS.out, hT.out]; simpa using hin)
        generalize ia l k = x at *
        go_wp2_with fail
        refine HC.out.mono ?_
        rintro e w1 ⟨rfl, rfl⟩
        go_wp2
        go_roundw
        case rel => exact ⟨k + 1, by omega, by go_num, HV.out, hbel⟩
        case measure => simp [intOf]; omega
    · go_wp2
      go_ret
      obtain rfl : k = l.length := by omega
      exact ⟨ret_bool hT.out.symm, hbel⟩
theorem c_l1All' (a : Option Addr) (l : List Int) (ca : Nat) (lo hi : Int) (v : Bool) (h : allIn l lo hi = v) (w : World) (ha : ISeg w a l) (hl : l.length ≤ 1048576) :
    Calls Tryz.prog 103 #[.slice a l.length ca, .int .i64 lo, .int .i64 hi] w fun e w' => e = .returned (.bool v) ∧ Below w.heap.size w w' := by
  rw [← h]; exact c_l1All a l ca lo hi w ha hl
theorem c_l3Same' (a b : Option Addr) (l m : List Int) (ca cb : Nat) (v : Bool) (h : decide (l = m) = v) (w : World) (ha : ISeg w a l) (hb : ISeg w b m) (hl : l.length ≤ 1048576) (hm : m.length ≤ 1048576) :
    Calls Tryz.prog 83 #[.slice a l.length ca, .slice b m.length cb] w fun e w' => e = .returned (.bool v) ∧ Below w.heap.size w w' := by
  rw [← h]; exact c_l3Same a b l m ca cb w ha hb hl hm

/-- A value's box of one cell at the heap's end of w, kept in all that has grown out of w. -/
def Box1 (w W : World) (v : Value) : Prop := W.cell? ⟨w.heap.size, 0, none⟩ = some v ∧ w.heap.size < W.heap.size ∧ Below w.heap.size w W
theorem Box1.step {w W W' : World} {v : Value} (h : Box1 w W v) (hb : Below W.heap.size W W') : Box1 w W' v :=
  ⟨(hb.cell (p := ⟨w.heap.size, 0, none⟩) h.2.1).trans h.1, Nat.lt_of_lt_of_le h.2.1 hb.size, h.2.2.trans (hb.mono h.2.2.size)⟩
theorem Box1.new (w : World) (v : Value) (t : TypeId) : Box1 w (w.alloc (.cells #[v] t)) v := by
  refine ⟨?_, by simp, (Below.refl _ _).alloc (Nat.le_refl _) _⟩
  unfold World.cell?; rw [heap_alloc_new]; rfl
/-- A quad's box at the heap's end of w. -/
def Box2 (w W : World) (u v : Value) : Prop := W.cell? ⟨w.heap.size, 0, none⟩ = some u ∧ W.cell? ⟨w.heap.size, 1, none⟩ = some v ∧ w.heap.size < W.heap.size ∧ Below w.heap.size w W
theorem Box2.step {w W W' : World} {u v : Value} (h : Box2 w W u v) (hb : Below W.heap.size W W') : Box2 w W' u v :=
  ⟨(hb.cell (p := ⟨w.heap.size, 0, none⟩) h.2.2.1).trans h.1, (hb.cell (p := ⟨w.heap.size, 1, none⟩) h.2.2.1).trans h.2.1, Nat.lt_of_lt_of_le h.2.2.1 hb.size, h.2.2.2.trans (hb.mono h.2.2.2.size)⟩
theorem Box2.new (w : World) (u v : Value) (t : TypeId) : Box2 w (w.alloc (.cells #[u, v] t)) u v := by
  refine ⟨cell_new0 _ _ _ _, cell_new1 _ _ _ _, by simp, (Below.refl _ _).alloc (Nat.le_refl _) _⟩

theorem fine_low {F : List Qd} {k : Nat} (h : k < 2) (h1 : (qa F k).1 = 0) (h2 : (qa F k).2.length = 0) : fineQ F k = true := by
  simp [fineQ, h, h1, h2]
theorem fine_low_lev {F : List Qd} {k : Nat} (h : k < 2) (h1 : ¬ (qa F k).1 = 0) : fineQ F k = false := by simp [fineQ, h, h1]
theorem fine_low_kids {F : List Qd} {k : Nat} (h : k < 2) (h1 : ¬ (qa F k).2.length = 0) : fineQ F k = false := by
  unfold fineQ
  rw [if_pos h, decide_eq_false h1, Bool.and_false]
theorem fine_len {F : List Qd} {k : Nat} (h : ¬ k < 2) (h1 : ¬ (qa F k).2.length = 4) : fineQ F k = false := by
  unfold fineQ
  rw [if_neg h, decide_eq_false h1]; simp
theorem fine_in {F : List Qd} {k : Nat} (h : ¬ k < 2) (h1 : allIn (qa F k).2 0 ((k : Int) - 1) = false) : fineQ F k = false := by
  unfold fineQ
  rw [if_neg h, h1]; simp
theorem fine_lev {F : List Qd} {k : Nat} (h : ¬ k < 2) (h1 : inB 1 5 (qa F k).1 = false) : fineQ F k = false := by
  unfold fineQ
  rw [if_neg h, h1]; simp
theorem fine_levs {F : List Qd} {k : Nat} (h : ¬ k < 2) (h1 : levB F (qa F k).2 ((qa F k).1 - 1) = false) : fineQ F k = false := by
  unfold fineQ
  rw [if_neg h, h1]; simp
theorem fine_new {F : List Qd} {k : Nat} (h : ¬ k < 2) (h1 : newB F k = false) : fineQ F k = false := by
  unfold fineQ
  rw [if_neg h, h1]; simp
theorem fine_yes {F : List Qd} {k : Nat} (h : ¬ k < 2) (h1 : (qa F k).2.length = 4) (h2 : allIn (qa F k).2 0 ((k : Int) - 1) = true) (h3 : inB 1 5 (qa F k).1 = true) (h4 : levB F (qa F k).2 ((qa F k).1 - 1) = true) (h5 : newB F k = true) : fineQ F k = true := by
  unfold fineQ
  rw [if_neg h, h2, h3, h4, h5, decide_eq_true h1]; rfl
theorem inB_bd {lo hi x : Int} (h : inB lo hi x = true) : lo ≤ x ∧ x ≤ hi := by simpa [inB] using h

set_option maxHeartbeats 4000000 in
set_option maxRecDepth 100000 in
theorem c_sGoodForest (a : Option Addr) (F : List Qd) (ca : Nat) (w : World) (ha : QSeg w a F) (hl : F.length ≤ 1048576) (hk : KidsLe F) (hca : F.length ≤ ca) (hcm : ca ≤ 9223372036854775807) :
    Calls Tryz.prog 91 #[.agg #[.slice a F.length ca]] w fun e w' => e = .returned (.bool (goodF F)) ∧ Below w.heap.size w w' := by
  have BX := hid (Box1.new w (.slice a F.length ca) 56)
  cases hin : inB 2 400 (F.length : Int)
  · have HC := hid (c_l1In' (F.length : Int) 2 400 false hin)
    have HG : Hid (goodF F = false) := by simp [Hid, goodF, hin]
    clear ha
    go_enter Tryz.func91, Tryz.ntmps91
    go_wp2_with fail
    refine (HC.out _).mono ?_
    rintro e w1 ⟨rfl, rfl⟩
    clear HC
    go_wp2
    go_ret
    exact ⟨ret_bool HG.out.symm, BX.out.2.2⟩
  · have HC := hid (c_l1In' (F.length : Int) 2 400 true hin)
    have hbd := inB_bd hin
    have HIN := hid hin
    clear hin
    go_enter Tryz.func91, Tryz.ntmps91
    go_wp2_with fail
    refine (HC.out _).mono ?_
    rintro e w1 ⟨rfl, rfl⟩
    clear HC
    go_wp2
    go_loopw [17] (fun i wr => ∃ k : Nat, k ≤ F.length ∧ i = .int .i64 k ∧ Hid (allB (fineQ F) k = true) ∧ Hid (Box1 w wr (.slice a F.length ca))) (fun i _ => F.length - (intOf i).toNat)
    case atStart => exact ⟨0, Nat.zero_le _, rfl, (rfl : _ = _), BX.out⟩
    case round =>
      clear BX
      obtain ⟨k, hkk, rfl, hT, HX⟩ := hrel
      by_cases hlt : k < F.length
      · obtain ⟨b1, o1, ak, ck, rfl, hb1, p1, p2, p3, p4⟩ := ha k hlt
        have hbel := HX.out.2.2
        have g1 := (hbel.cell (p := ⟨b1, o1 + k * 2, none⟩) hb1).trans p1
        have g2 := (hbel.cell (p := ⟨b1, o1 + k * 2 + 1, none⟩) hb1).trans p2
        have P3 := hid (p3.below hbel)
        have HQ := hid (ha.below hbel)
        have hw1 : b1 < wr.heap.size := Nat.lt_of_lt_of_le hb1 hbel.size
        clear p1 p2 p3 hbel
        have k0 : (0 : Int) ≤ (k : Int) := by omega
        have k1 : (k : Int) < (F.length : Int) := by omega
        have HN := hid (fun h => goodF_no (F := F) hlt h)
        have HS := hid (allB_succ (fineQ F) k)
        have hkk' := hk k hlt
        have HB := hid ((Below.refl wr.heap.size wr).alloc (Nat.le_refl _) (.cells #[.int .i64 (qa F k).1, .slice ak (qa F k).2.length ck] 95))
        have HX1 := hid (HX.out.step HB.out)
        by_cases h2 : k < 2
        · have h2' : (k : Int) < 2 := by omega
          by_cases h3 : (qa F k).1 = 0
          · have d3 : ((qa F k).1 != 0) = false := by simp [h3]
            by_cases h4 : (qa F k).2.length = 0
            · have d4 : (((qa F k).2.length : Int) != 0) = false := by simp [h4]
              have HV := hid (show allB (fineQ F) (k + 1) = true by rw [HS.out, hT.out, fine_low h2 h3 h4]; rfl)
              clear HN HS h3 h4 HQ P3
              generalize qa F k = q at *
              go_wp2
              go_roundw
              case rel => exact ⟨k + 1, by omega, by go_num, HV.out, HX1.out⟩
              case measure => simp [intOf]; omega
            · have d4 : (((qa F k).2.length : Int) != 0) = true := by simp; simpa using h4
              have HV := hid (HN.out (fine_low_kids h2 h4))
              clear HN HS h3 h4 HQ P3
              generalize qa F k = q at *
              go_wp2
              go_ret
              exact ⟨ret_bool HV.out.symm, HX1.out.2.2⟩
          · have d3 : ((qa F k).1 != 0) = true := by simp [h3]
            have HV := hid (HN.out (fine_low_lev h2 h3))
            clear HN HS h3 HQ P3
            generalize qa F k = q at *
            go_wp2
            go_ret
            exact ⟨ret_bool HV.out.symm, HX1.out.2.2⟩
        · have h2' : ¬ (k : Int) < 2 := by omega
          by_cases h3 : (qa F k).2.length = 4
          · have d3 : (((qa F k).2.length : Int) != 4) = false := by simp [h3]
            have P4 := hid (P3.out.below HB.out)
            cases h4 : allIn (qa F k).2 0 ((k : Int) - 1)
            · have HV := hid (HN.out (fine_in h2 h4))
              have HC := hid (c_l1All' ak (qa F k).2 ck 0 ((k : Int) - 1) false h4 _ P4.out hkk')
              clear HN HS h3 h4 HQ P3
              generalize qa F k = q at *
              go_wp2_with fail
              refine HC.out.mono ?_
              rintro e w2 ⟨rfl, hb2⟩
              clear HC
              go_wp2
              go_ret
              exact ⟨ret_bool HV.out.symm, (HX1.out.step hb2).2.2⟩
            · have HC := hid (c_l1All' ak (qa F k).2 ck 0 ((k : Int) - 1) true h4 _ P4.out hkk')
              have BQ := hid (Box2.new wr (.int .i64 (qa F k).1) (.slice ak (qa F k).2.length ck) 95)
              cases h5 : inB 1 5 (qa F k).1
              · have HV := hid (HN.out (fine_lev h2 h5))
                have HD := hid (c_l1In' (qa F k).1 1 5 false h5)
                clear HN HS h3 h4 h5 HQ P3
                generalize qa F k = q at *
                go_wp2_with fail
                refine HC.out.mono ?_
                rintro e w2 ⟨rfl, hb2⟩
                have BQ2 := hid (BQ.out.step hb2)
                have c1 := BQ2.out.1
                have c2 := BQ2.out.2.1
                clear HC
                go_wp2_with fail
                refine (HD.out _).mono ?_
                rintro e w3 ⟨rfl, rfl⟩
                go_wp2
                go_ret
                exact ⟨ret_bool HV.out.symm, (HX1.out.step hb2).2.2⟩
              · have HD := hid (c_l1In' (qa F k).1 1 5 true h5)
                have hq5 := inB_bd h5
                have HLV := hid (fun h => HN.out (fine_levs h2 h))
                have HNW := hid (fun h => HN.out (fine_new h2 h))
                have HYS := hid (fun h h' => fine_yes h2 h3 h4 h5 h h')
                have HIN2 := hid (allB_iff.1 h4)
                have HLS := hid (fun j => allB_succ (fun i => decide ((qa F (ia (qa F k).2 i).toNat).1 = (qa F k).1 - 1)) j)
                have HLF := hid (fun j (hj : j < (qa F k).2.length) h => allB_false (p := fun i => decide ((qa F (ia (qa F k).2 i).toNat).1 = (qa F k).1 - 1)) hj h)
                have HNB := hid (show newB F k = allB (fun j => !decide ((qa F j).2 = (qa F k).2)) k from rfl)
                have h3' := hid h3
                clear HN h4 h5 h3
                generalize hq : qa F k = q at *
                have HEQ := hid hq
                clear hq
                go_wp2_with fail
                refine HC.out.mono ?_
                rintro e w2 ⟨rfl, hb2⟩
                have BQ2 := hid (BQ.out.step hb2)
                have BX2 := hid (HX1.out.step hb2)
                have c1 := BQ2.out.1
                have c2 := BQ2.out.2.1
                clear HC hb2
                go_wp2_with fail
                refine (HD.out _).mono ?_
                rintro e w3 ⟨rfl, rfl⟩
                clear HD
                go_wp2
                go_loopw [54] (fun i wt => ∃ j : Nat, j ≤ q.2.length ∧ i = .int .i64 j ∧ Hid (allB (fun i => decide ((qa F (ia q.2 i).toNat).1 = q.1 - 1)) j = true) ∧ Below w3.heap.size w3 wt) (fun i _ => q.2.length - (intOf i).toNat)
                case atStart => exact ⟨0, Nat.zero_le _, rfl, (rfl : _ = _), Below.refl _ _⟩
                case round =>
                  rename World => wt
                  obtain ⟨j, hjj, rfl, hTj, hbt⟩ := hrel
                  have BQ3 := hid (BQ2.out.step hbt)
                  have BX3 := hid (BX2.out.step hbt)
                  have x1 := BX3.out.1
                  have x2 := BQ3.out.1
                  have x3 := BQ3.out.2.1
                  clear c1 c2
                  have hbw : Below wr.heap.size wr wt := BQ3.out.2.2.2
                  have HBW := hid hbw
                  by_cases hj : j < q.2.length
                  · obtain ⟨b2, o2, rfl, hb2, r1⟩ := P3.out j hj
                    have y1 := (hbw.cell (p := ⟨b2, o2 + j, none⟩) hb2).trans r1
                    have hin := inB_bd (HIN2.out j hj)
                    have hkid : (ia q.2 j).toNat < F.length := by omega
                    obtain ⟨b3, o3, a3, c3, e3, hb3, r3, _, _, _⟩ := HQ.out (ia q.2 j).toNat hkid
                    simp only [Option.some.injEq, Addr.mk.injEq, and_true] at e3
                    obtain ⟨rfl, rfl⟩ := e3
                    have y3 := (hbw.cell (p := ⟨b1, o1 + (ia q.2 j).toNat * 2, none⟩) hb3).trans r3
                    have hS := HLS.out j
                    have hF := HLF.out j hj
                    clear r1 r3 hbw
                    have j0 : (0 : Int) ≤ (j : Int) := by omega
                    have j1 : (j : Int) < (q.2.length : Int) := by omega
                    have i0 : 0 ≤ ia q.2 j := hin.1
                    have i1 : ia q.2 j < (F.length : Int) := by omega
                    have HS2 := hid hS
                    have HF2 := hid hF
                    clear hS hF
                    by_cases hv : (qa F (ia q.2 j).toNat).1 = q.1 - 1
                    · have d5 : ((qa F (ia q.2 j).toNat).1 != q.1 - 1) = false := by simp [hv]
                      have HV := hid (show allB (fun i => decide ((qa F (ia q.2 i).toNat).1 = q.1 - 1)) (j + 1) = true by rw [HS2.out, hTj.out]; simpa using hv)
                      clear hv HS2 HF2
                      generalize ia q.2 j = kd at *
                      generalize (qa F kd.toNat).1 = lk at *
                      go_wp2
                      go_region
                      go_wp2
                      go_roundw
                      case rel => exact ⟨j + 1, by omega, by go_num, HV.out, by first | exact hbt | exact hbt.drew⟩
                      case measure => simp [intOf]; omega
                    · have d5 : ((qa F (ia q.2 j).toNat).1 != q.1 - 1) = true := by simp [hv]
                      have HV := hid (HLV.out (HF2.out (by simpa using hv)))
                      clear hv HS2 HF2
                      generalize ia q.2 j = kd at *
                      generalize (qa F kd.toNat).1 = lk at *
                      go_wp2
                      go_region
                      go_wp2
                      go_ret
                      exact ⟨ret_bool HV.out.symm, by first | exact BX3.out.2.2 | exact BX3.out.2.2.drew⟩
                  · obtain rfl : j = q.2.length := by omega
                    have HLT := hid (show levB F q.2 (q.1 - 1) = true from hTj.out)
                    have kca : (k : Int) ≤ (ca : Int) := by omega
                    clear HLS HLF HIN2 hTj hbw x2
                    go_wp2
                    go_loopw [74] (fun i wu => ∃ m : Nat, m ≤ k ∧ i = .int .i64 m ∧ Hid (allB (fun j => !decide ((qa F j).2 = q.2)) m = true) ∧ Below wt.heap.size wt wu) (fun i _ => k - (intOf i).toNat)
                    case atStart => exact ⟨0, Nat.zero_le _, rfl, (rfl : _ = _), Below.refl _ _⟩
                    case round =>
                      rename World => wu
                      obtain ⟨m, hmm, rfl, hTm, hbu⟩ := hrel
                      have BQ4 := hid (BQ3.out.step hbu)
                      have BX4 := hid (BX3.out.step hbu)
                      by_cases hm : m < k
                      · obtain ⟨b3, o3, am, cm, e3, hb3, r3, r4, r5, _⟩ := HQ.out m (by omega)
                        simp only [Option.some.injEq, Addr.mk.injEq, and_true] at e3
                        obtain ⟨rfl, rfl⟩ := e3
                        have hbw : Below wr.heap.size wr wu := BQ4.out.2.2.2
                        have y3 := (hbw.cell (p := ⟨b1, o1 + m * 2, none⟩) hb3).trans r3
                        have y4 := (hbw.cell (p := ⟨b1, o1 + m * 2 + 1, none⟩) hb3).trans r4
                        have HB2 := hid ((Below.refl wu.heap.size wu).alloc (Nat.le_refl _) (.cells #[.int .i64 (qa F m).1, .slice am (qa F m).2.length cm] 95))
                        have Y5 := hid ((r5.below hbw).below HB2.out)
                        have Y6 := hid ((P3.out.below hbw).below HB2.out)
                        have BQ5 := hid (BQ4.out.step HB2.out)
                        have BX5 := hid (BX4.out.step HB2.out)
                        have z2 := BQ5.out.2.1
                        have m0 : (0 : Int) ≤ (m : Int) := by omega
                        have m1 : (m : Int) < (k : Int) := by omega
                        have hkm := hk m (by omega)
                        have HS2 := hid (allB_succ (fun j => !decide ((qa F j).2 = q.2)) m)
                        have HF2 := hid (fun h => allB_false (p := fun j => !decide ((qa F j).2 = q.2)) hm h)
                        have HBU := hid (hbu.trans ((HB2.out).mono hbu.size))
                        clear r3 r4 r5 hbw x1 x3
                        cases hsm : decide ((qa F m).2 = q.2)
                        · have HC := hid (c_l3Same' am ak (qa F m).2 q.2 cm ck false hsm _ Y5.out Y6.out hkm hkk')
                          have HV := hid (show allB (fun j => !decide ((qa F j).2 = q.2)) (m + 1) = true by rw [HS2.out, hTm.out]; simp only [hsm]; rfl)
                          clear HS2 HF2 hsm
                          generalize qa F m = r at *
                          go_wp2_with fail
                          refine HC.out.mono ?_
                          rintro e w5 ⟨rfl, hb5⟩
                          clear HC
                          go_wp2
                          go_roundw
                          case rel => exact ⟨m + 1, by omega, by go_num, HV.out, HBU.out.trans (hb5.mono (by have := HBU.out.size; simpa using this))⟩
                          case measure => simp [intOf]; omega
                        · have HC := hid (c_l3Same' am ak (qa F m).2 q.2 cm ck true hsm _ Y5.out Y6.out hkm hkk')
                          have HV := hid (HNW.out (by rw [HNB.out]; exact HF2.out (by simp only [hsm]; rfl)))
                          clear HS2 HF2 hsm
                          generalize qa F m = r at *
                          go_wp2_with fail
                          refine HC.out.mono ?_
                          rintro e w5 ⟨rfl, hb5⟩
                          clear HC
                          go_wp2
                          go_ret
                          exact ⟨ret_bool HV.out.symm, (BX5.out.step hb5).2.2⟩
                      · obtain rfl : m = k := by omega
                        have HV := hid (show allB (fineQ F) (m + 1) = true by rw [HS.out, hT.out, HYS.out HLT.out (by rw [HNB.out]; exact hTm.out)]; rfl)
                        clear x1 x3
                        go_wp2
                        go_roundw
                        case rel => exact ⟨m + 1, by omega, by go_num, HV.out, BX4.out⟩
                        case measure => simp [intOf]; omega
          · have d3 : (((qa F k).2.length : Int) != 4) = true := by simp; omega
            have HV := hid (HN.out (fine_len h2 h3))
            clear HN HS h3 HQ P3
            generalize qa F k = q at *
            go_wp2
            go_ret
            exact ⟨ret_bool HV.out.symm, HX1.out.2.2⟩
      · go_wp2
        go_ret
        obtain rfl : k = F.length := by omega
        exact ⟨ret_bool (by simp [goodF, HIN.out, hT.out]), HX.out.2.2⟩

end Go.Proofs.YtnabgfbempkgnaaGreatDoor

namespace Go.Proofs.YtnabgfbempkgnaaGreatDoor
open Go.RowKit Go.Maps
set_option linter.unusedVariables false
set_option linter.unusedSimpArgs false

theorem wide4 : (match Tryz.prog.underlying 85 with | some (.array _ _) | some (.struct _) => true | _ => false) = true := by kernel_rfl
theorem row4 : 85 < Tryz.prog.types.size := of_decide_eq_true (by kernel_rfl)
set_option maxRecDepth 100000 in
theorem klaw4 : WideMaps.KeyLaw Tryz.prog 85 := deep_law_laid laidOut (m := 2) (by omega) row4 (by kernel_rfl) wide4
theorem law4 : Keyed Tryz.prog 85 := Keyed.of_law klaw4
theorem mund4 : Tryz.prog.underlying 89 = some (.map 85 3) := Tryz.underlying89
theorem mzero4 (w : World) : (zeroValue 3).run Tryz.prog w = .ok (.int .i64 0) w := by kernel_rfl
def fit1 (n : Int) : Prop := -9223372036854775808 ≤ n ∧ n ≤ 9223372036854775807
/-- Four numbers that fit. -/
def fits4 (l : List Int) : Prop := l.length = 4 ∧ ∀ i, i < 4 → fit1 (ia l i)
def kv (l : List Int) : Value := .agg #[.int .i64 (ia l 0), .int .i64 (ia l 1), .int .i64 (ia l 2), .int .i64 (ia l 3)]
def kap4 (l : List Int) : Lit := .string (keyBytes [.int .i64 (ia l 0), .int .i64 (ia l 1), .int .i64 (ia l 2), .int .i64 (ia l 3)])
theorem und_four : Tryz.prog.underlying 85 = some (.array 4 3) := Tryz.underlying85
theorem cells_four : Tryz.prog.cellsOf 85 = 4 := by kernel_rfl
theorem keyType_four : Tryz.prog.keyType 85 = true := by kernel_rfl
theorem wf1 {n : Int} (h : fit1 n) : (Lit.int .i64 n).wf = true := WalkArith.wf_i64 (by unfold fit1 at h; omega)
theorem lits1 (d : Nat) {n : Int} (h : fit1 n) : Tryz.prog.keyLits (d + 1) 3 [.int .i64 n] = some [.int .i64 n] := by
  unfold Program.keyLits
  rw [Tryz.underlying3]
  simp [wf1 h]
theorem lits4 (d : Nat) {a b c e : Int} (ha : fit1 a) (hb : fit1 b) (hc : fit1 c) (he : fit1 e) : Tryz.prog.keyLits (d + 2) 85 [.int .i64 a, .int .i64 b, .int .i64 c, .int .i64 e] = some [.int .i64 a, .int .i64 b, .int .i64 c, .int .i64 e] := by
  conv => lhs; unfold Program.keyLits
  rw [und_four]
  simp only [List.length_cons, List.length_nil, cells_four]
  rw [if_pos trivial, show List.range 4 = [0, 1, 2, 3] from rfl]
  simp only [List.mapM_cons, List.mapM_nil, cells_int, Nat.mul_one, List.drop_zero, List.take_succ_cons, List.take_zero, List.drop_succ_cons, lits1 d ha, lits1 d hb, lits1 d hc, lits1 d he]
  rfl
set_option maxRecDepth 100000 in
theorem key_of4 (l : List Int) (h : fits4 l) : keyOf Tryz.prog 85 (kv l) = some (kap4 l) := by
  obtain ⟨d, hd⟩ : ∃ d, Tryz.prog.types.size + 1 = d + 2 := ⟨Tryz.prog.types.size - 1, by have := row4; omega⟩
  unfold keyOf
  rw [und_four]
  have hf : (kv l).formed Tryz.prog 85 = true := by simp [kv, Value.formed, und_four, cells_four]
  have hc : (kv l).cells.toList = [.int .i64 (ia l 0), .int .i64 (ia l 1), .int .i64 (ia l 2), .int .i64 (ia l 3)] := rfl
  simp only [keyType_four, hf, Bool.and_self, if_true, hd, hc, lits4 d (h.2 0 (by omega)) (h.2 1 (by omega)) (h.2 2 (by omega)) (h.2 3 (by omega))]
  rfl
theorem four_ext {l m : List Int} (hl : l.length = 4) (hm : m.length = 4) (h : ∀ i, i < 4 → ia l i = ia m i) : l = m := by
  apply List.ext_getElem (by omega)
  intro i h1 h2
  have := h i (by omega)
  simpa [ia, h1, h2] using this
theorem kap4_inj {l m : List Int} (hl : fits4 l) (hm : fits4 m) (h : kap4 l = kap4 m) : l = m := by
  have h1 := key_of4 l hl
  have h2 := key_of4 m hm
  rw [h] at h1
  have := law4.inj h1 h2
  simp [kv] at this
  refine four_ext hl.1 hm.1 fun i hi => ?_
  rcases (show i = 0 ∨ i = 1 ∨ i = 2 ∨ i = 3 by omega) with rfl | rfl | rfl | rfl
  · exact this.1
  · exact this.2.1
  · exact this.2.2.1
  · exact this.2.2.2

/-- The map in block b holds f l at each four l that f knows, and nothing at every other one; it has at most n entries. -/
def Map4 (w : World) (b n : Nat) (f : List Int → Option Int) : Prop :=
  ∃ D : DataW Unit, w.ownsMap Tryz.prog 85 (plainElem Tryz.prog 3) b n D ∧ ∀ l, fits4 l → ∀ zd, D.atKey (kap4 l) zd = (match f l with | some i => .lit (.int .i64 i) | none => zd)
theorem Map4.made (w : World) : Map4 (w.alloc (.map #[] 0)) w.heap.size 0 (fun _ => none) :=
  ⟨.map [], World.ownsMap_made w _ _ _, fun _ _ _ => rfl⟩
theorem Map4.lt {w : World} {b n : Nat} {f : List Int → Option Int} (h : Map4 w b n f) : b < w.heap.size := by
  obtain ⟨D, ho, _⟩ := h; exact ho.lt
theorem Map4.kept {w w' : World} {b n : Nat} {f : List Int → Option Int} {row : Option Nat} (h : Map4 w b n f) (hg : w.grownBy w' row) (hne : some b ≠ row) : Map4 w' b n f := by
  obtain ⟨D, ho, h1⟩ := h; exact ⟨D, ho.kept hg hne, h1⟩
theorem Map4.congr {w : World} {b n : Nat} {f f' : List Int → Option Int} (h : Map4 w b n f) (h1 : ∀ l, fits4 l → f l = f' l) : Map4 w b n f' := by
  obtain ⟨D, ho, k1⟩ := h
  exact ⟨D, ho, fun l hl zd => by rw [k1 l hl, h1 l hl]⟩
/-- What looking up gives. -/
theorem Map4.look {w : World} {b n : Nat} {f : List Int → Option Int} (h : Map4 w b n f) {l : List Int} (hl : fits4 l) :
    (Instr.lookup 89 (.map (some b)) (kv l) true).run Tryz.prog w = .ok (.tuple #[.int .i64 ((f l).getD 0), .bool (f l).isSome]) w := by
  obtain ⟨D, ⟨es, clock, hb, F, _, rfl⟩, h2⟩ := h
  have hk := h2 l hl
  rcases Maps.fit_look true law4 mund4 (mzero4 w) hb F (key_of4 l hl) with ⟨hrun, _, hat⟩ | ⟨e0, y, _, _, hrun, hRv, hat, _⟩
  · cases hf : f l with
    | none => rw [hrun]; rfl
    | some i =>
      have := hk (.lit (.int .i64 (i + 1)))
      rw [hat, hf] at this
      simp only [DataW.lit.injEq, Lit.int.injEq, true_and] at this
      omega
  · cases hf : f l with
    | none =>
      have t0 := hk (.lit (.int .i64 0))
      have t1 := hk (.lit (.int .i64 1))
      rw [hat, hf] at t0 t1
      simp only at t0 t1
      rw [t0] at t1
      simp at t1
    | some i =>
      have t0 := hk (.lit (.int .i64 0))
      rw [hat, hf] at t0
      simp only at t0
      obtain ⟨a, e1, e2, _⟩ := plainElem_int_inv Tryz.underlying3 hRv
      rw [e2] at t0
      simp at t0
      rw [hrun, e1, t0]; rfl
/-- What a store leaves. -/
theorem Map4.put {w : World} {b n : Nat} {f : List Int → Option Int} (h : Map4 w b n f) {l : List Int} (hl : fits4 l) (hn : n < maxLen) {v : Int} (hv : fit1 v) :
    ∃ w', (Instr.mapUpdate 89 (.map (some b)) (kv l) (.int .i64 v)).run Tryz.prog w = .ok () w' ∧ Map4 w' b (n + 1) (fun m => if m = l then some v else f m) ∧ w.grownBy w' (some b) := by
  obtain ⟨D, ho, h2⟩ := h
  have him : Maps.IsMap D := by
    obtain ⟨es, clock, hb, F, _, hD⟩ := ho
    exact ⟨_, hD⟩
  obtain ⟨w', hrun, ho', hg⟩ := ho.update law4 mund4 hn (key_of4 l hl) (plainElem_int Tryz.underlying3 (wf1 hv))
  refine ⟨w', hrun, ⟨_, ho', fun m hm zd => ?_⟩, hg⟩
  by_cases e : m = l
  · subst e
    rw [Maps.atKey_put_same him (law4.key (key_of4 m hm))]; simp
  · rw [Maps.atKey_put_other (fun h => e (kap4_inj hm hl h)), h2 m hm]; simp [e]

end Go.Proofs.YtnabgfbempkgnaaGreatDoor

namespace Go.Proofs.YtnabgfbempkgnaaGreatDoor
open Go.RowKit Go.Maps
set_option linter.unusedVariables false
attribute [local go_sem ↓] Go.wp_at_zero Go.wp_at_succ

/-- A node's cells. -/
def nq (q : Qd) : List Value := [.int .i64 q.1, .int .i64 (ia q.2 0), .int .i64 (ia q.2 1), .int .i64 (ia q.2 2), .int .i64 (ia q.2 3)]
def nflat (G : List Qd) : List Value := G.flatMap nq
theorem nflat_length (G : List Qd) : (nflat G).length = G.length * 5 := by
  induction G with
  | nil => rfl
  | cons c r ih => simp only [nflat, List.flatMap_cons, List.length_append, List.length_cons] at *; simp [nq] at *; omega
theorem nflat_append (G H : List Qd) : nflat (G ++ H) = nflat G ++ nflat H := by simp [nflat]
theorem nflat_at {G : List Qd} {i j : Nat} (h : i < G.length) (hj : j < 5) : (nflat G)[i * 5 + j]? = (nq (qa G i))[j]? := by
  induction G generalizing i with
  | nil => simp at h
  | cons c r ih =>
    have hc : (nq c).length = 5 := rfl
    cases i with
    | zero =>
      simp only [nflat, List.flatMap_cons, Nat.zero_mul, Nat.zero_add]
      rw [List.getElem?_append_left (by omega)]
      simp [qa]
    | succ i =>
      simp only [nflat, List.flatMap_cons]
      rw [List.getElem?_append_right (by omega), hc, show (i + 1) * 5 + j - 5 = i * 5 + j by omega]
      have := ih (i := i) (by simpa using h)
      rw [nflat] at this
      rw [this]
      simp [qa]
theorem nq_one (q : Qd) : ∀ u ∈ nq q, u.oneCell' = true := by
  intro u hu
  simp only [nq, List.mem_cons, List.not_mem_nil, or_false] at hu
  rcases hu with rfl | rfl | rfl | rfl | rfl <;> rfl

/-- The number of the quad with these kids, among the first k. -/
def numTo (G : List Qd) : Nat → List Int → Option Int
  | 0, _ => none
  | k + 1, l => if 2 ≤ k ∧ l = (qa G k).2 then some (k : Int) else numTo G k l
theorem qa_snoc_old {G : List Qd} {q : Qd} {i : Nat} (h : i < G.length) : qa (G ++ [q]) i = qa G i := by simp [qa, List.getElem?_append_left h]
theorem qa_snoc_new (G : List Qd) (q : Qd) : qa (G ++ [q]) G.length = q := by simp [qa]
theorem numTo_snoc (G : List Qd) (q : Qd) : ∀ k, k ≤ G.length → numTo (G ++ [q]) k = numTo G k
  | 0, _ => rfl
  | k + 1, h => by
    funext l
    simp only [numTo, qa_snoc_old (q := q) (show k < G.length by omega), numTo_snoc G q k (by omega)]
theorem numTo_some {G : List Qd} {l : List Int} : ∀ {k : Nat} {i : Int}, numTo G k l = some i → ∃ n : Nat, i = n ∧ 2 ≤ n ∧ n < k ∧ (qa G n).2 = l
  | 0, i, h => by simp [numTo] at h
  | k + 1, i, h => by
    simp only [numTo] at h
    split at h
    · rename_i hc
      simp at h
      exact ⟨k, h.symm, hc.1, by omega, hc.2.symm⟩
    · obtain ⟨n, h1, h2, h3, h4⟩ := numTo_some h
      exact ⟨n, h1, h2, by omega, h4⟩
theorem numTo_none {G : List Qd} {l : List Int} : ∀ {k : Nat}, numTo G k l = none → ∀ n, 2 ≤ n → n < k → (qa G n).2 ≠ l
  | 0, h, n, h2, hk => by omega
  | k + 1, h, n, h2, hk => by
    simp only [numTo] at h
    split at h
    · cases h
    · rename_i hc
      by_cases e : n = k
      · subst e; intro e2; exact hc ⟨h2, e2.symm⟩
      · exact numTo_none h n h2 (by omega)

/-- A grove: its box is block p, its nodes are block g, its map is block mb. -/
structure Grv (w : World) (base p g cap mb : Nat) (G : List Qd) : Prop where
  lowp : base ≤ p
  lowm : base ≤ mb
  box : w.rowIs p 91 2 (fun j => if j = 0 then .slice (some ⟨g, 0, none⟩) G.length cap else .map (some mb))
  own : w.ownsRow base 87 5 (.slice (some ⟨g, 0, none⟩) G.length cap) G.length (nflat G)
  map : Map4 w mb G.length (numTo G G.length)
  pm : p ≠ mb
  pg : p ≠ g
  mg : mb ≠ g
theorem Grv.below {w w' : World} {base p g cap mb : Nat} {G : List Qd} (h : Grv w base p g cap mb G) (hb : Below w.heap.size w w') : Grv w' base p g cap mb G :=
  ⟨h.lowp, h.lowm, h.box.of_block (hb.block _ h.box.lt), World.ownsRow.kept h.own (grown_of_below hb none) (.inr (by simp [Value.ownBlock])), h.map.kept (grown_of_below hb none) (by simp), h.pm, h.pg, h.mg⟩
theorem Grv.lev {w : World} {base p g cap mb : Nat} {G : List Qd} (h : Grv w base p g cap mb G) {i : Nat} (hi : i < G.length) : w.cell? ⟨g, i * 5, none⟩ = some (.int .i64 (qa G i).1) := by
  have := World.ownsRow.cellAt h.own (i * 5) (by omega)
  have e := nflat_at (G := G) (i := i) (j := 0) hi (by omega)
  rw [Nat.add_zero] at e
  rw [this, e]; rfl
theorem Grv.lt {w : World} {base p g cap mb : Nat} {G : List Qd} (h : Grv w base p g cap mb G) : base ≤ g ∧ g < w.heap.size := World.ownsRow.lt h.own g rfl
theorem Grv.c0 {w : World} {base p g cap mb : Nat} {G : List Qd} (h : Grv w base p g cap mb G) : w.cell? ⟨p, 0, none⟩ = some (.slice (some ⟨g, 0, none⟩) G.length cap) := by
  have := h.box.cell (i := 0) (by omega)
  simpa using this
theorem Grv.c1 {w : World} {base p g cap mb : Nat} {G : List Qd} (h : Grv w base p g cap mb G) : w.cell? ⟨p, 1, none⟩ = some (.map (some mb)) := by
  have := h.box.cell (i := 1) (by omega)
  simpa using this

/-- What make lays at once for a grove. -/
theorem info_node : (Tryz.prog.info? 87).map (fun i => (i.zero, i.size, i.bytes)) = some (some (.agg #[.int .i64 0, .int .i64 0, .int .i64 0, .int .i64 0, .int .i64 0]), 5, 40) := by kernel_rfl
theorem make_Nodes (w : World) :
    (Instr.makeSlice 88 (.int .i64 2) (.int .i64 2)).run Tryz.prog w = .ok (.slice (some ⟨w.heap.size, 0, none⟩) 2 2) (w.alloc (.cells (madeCells #[.int .i64 0, .int .i64 0, .int .i64 0, .int .i64 0, .int .i64 0] 10) 87)) := by
  obtain ⟨i, hi, hz, hs, hb⟩ := info_parts info_node
  have := run_make (P := Tryz.prog) w 88 87 i _ Tryz.underlying88 hi hz .i64 .i64 2 2 (by omega) (Int.le_refl _) (by rw [hb]; omega) (by omega)
  simpa [hs, Value.cells] using this
/-- The two quads of a cell. -/
def two : List Qd := [(0, []), (0, [])]
theorem grv_new (w : World) :
    Grv (((w.alloc (.cells (madeCells #[.int .i64 0, .int .i64 0, .int .i64 0, .int .i64 0, .int .i64 0] 10) 87)).alloc (.map #[] 0)).alloc (.cells #[.slice (some ⟨w.heap.size, 0, none⟩) 2 2, .map (some (w.heap.size + 1))] 91)) w.heap.size (w.heap.size + 2) w.heap.size 2 (w.heap.size + 1) two := by
  obtain ⟨W1, hW1⟩ : ∃ W1, W1 = w.alloc (.cells (madeCells #[.int .i64 0, .int .i64 0, .int .i64 0, .int .i64 0, .int .i64 0] 10) 87) := ⟨_, rfl⟩
  obtain ⟨W2, hW2⟩ : ∃ W2, W2 = W1.alloc (.map #[] 0) := ⟨_, rfl⟩
  have s1 : W1.heap.size = w.heap.size + 1 := by rw [hW1]; simp
  have s2 : W2.heap.size = w.heap.size + 2 := by rw [hW2]; simp [s1]
  rw [← hW1, ← hW2]
  refine ⟨by omega, by omega, ?_, ?_, ?_, by omega, by omega, by omega⟩
  · rw [← s2]; exact two_row (heap_alloc_new _ _)
  · refine World.ownsRow.alloc ?_ _
    rw [hW2]
    refine World.ownsRow.alloc ?_ _
    rw [hW1]
    have h := World.ownsRow_lit (size := 5) (e := 87) w (madeCells #[.int .i64 0, .int .i64 0, .int .i64 0, .int .i64 0, .int .i64 0] 10) 2 (Nat.le_refl _) (by simp [maxLen]) (by simp [madeCells])
    have e : (madeCells #[.int .i64 0, .int .i64 0, .int .i64 0, .int .i64 0, .int .i64 0] 10).toList = nflat two := by kernel_rfl
    rw [e] at h
    exact h
  · have hm := Map4.made W1
    rw [← hW2, s1] at hm
    have hm2 := hm.kept (grown_of_below ((Below.refl W2.heap.size W2).alloc (Nat.le_refl _) (.cells #[.slice (some ⟨w.heap.size, 0, none⟩) 2 2, .map (some (w.heap.size + 1))] 91)) none) (by simp)
    obtain ⟨D, ho, hd⟩ := hm2
    refine ⟨D, ho.mono (Nat.zero_le _), fun l hl zd => ?_⟩
    rw [hd l hl]
    rfl

set_option maxHeartbeats 400000 in
theorem c_newGrove (w : World) :
    Calls Tryz.prog 50 #[] w fun e w' => e = .returned (.pointer (some ⟨w.heap.size + 2, 0, none⟩)) ∧ Grv w' w.heap.size (w.heap.size + 2) w.heap.size 2 (w.heap.size + 1) two ∧ Below w.heap.size w w' := by
  have hmm := @run_makeMap Tryz.prog
  have hmk := make_Nodes
  have HG := hid (grv_new w)
  go_enter Tryz.func50, Tryz.ntmps50
  go_wp2
  go_ret
  exact ⟨rfl, HG.out, (((Below.refl _ _).alloc (Nat.le_refl _) _).alloc (by simp) _).alloc (by simp; omega) _⟩

set_option maxHeartbeats 400000 in
theorem c_has (x : Int) (w : World) {base p g cap mb : Nat} {G : List Qd} (h : Grv w base p g cap mb G) :
    Calls Tryz.prog 52 #[.pointer (some ⟨p, 0, none⟩), .int .i64 x] w fun e w' => e = .returned (.bool (inB 0 ((G.length : Int) - 1) x)) ∧ w' = w := by
  have c0 := h.c0
  clear h
  by_cases h0 : 0 ≤ x
  · have d0 : decide (0 ≤ x) = true := decide_eq_true h0
    by_cases h1 : x < (G.length : Int)
    · have d1 : decide (x < (G.length : Int)) = true := decide_eq_true h1
      go_enter Tryz.func52, Tryz.ntmps52
      go_wp2
      go_ret
      exact ⟨ret_bool (by simp [inB] <;> omega), rfl⟩
    · have d1 : decide (x < (G.length : Int)) = false := decide_eq_false h1
      go_enter Tryz.func52, Tryz.ntmps52
      go_wp2
      go_ret
      exact ⟨ret_bool (by simp [inB] <;> omega), rfl⟩
  · have d0 : decide (0 ≤ x) = false := decide_eq_false h0
    go_enter Tryz.func52, Tryz.ntmps52
    go_wp2
    go_ret
    exact ⟨ret_bool (by simp [inB] <;> omega), rfl⟩
theorem c_has' (x : Int) (v : Bool) (w : World) {base p g cap mb : Nat} {G : List Qd} (hv : inB 0 ((G.length : Int) - 1) x = v) (h : Grv w base p g cap mb G) :
    Calls Tryz.prog 52 #[.pointer (some ⟨p, 0, none⟩), .int .i64 x] w fun e w' => e = .returned (.bool v) ∧ Below w.heap.size w w' := by
  rw [← hv]
  exact (c_has x w h).mono fun e w' ⟨h1, h2⟩ => ⟨h1, by rw [h2]; exact Below.refl _ _⟩

theorem four_index (l : List Int) (k : Nat) (hk : k < 4) (w : World) : (Instr.index 85 (kv l) (.int .i64 (k : Int))).run Tryz.prog w = .ok (.int .i64 (ia l k)) w := by
  rcases (show k = 0 ∨ k = 1 ∨ k = 2 ∨ k = 3 by omega) with h | h | h | h
  all_goals
    subst h
    kernel_rfl

end Go.Proofs.YtnabgfbempkgnaaGreatDoor

namespace Go.Proofs.YtnabgfbempkgnaaGreatDoor
open Go.RowKit Go.Maps
set_option linter.unusedVariables false
attribute [local go_sem ↓] Go.wp_at_zero Go.wp_at_succ

/-- Is kid i there, and of the first one's level? -/
def kidB (G : List Qd) (l : List Int) (i : Nat) : Bool := inB 0 ((G.length : Int) - 1) (ia l i) && decide ((qa G (ia l i).toNat).1 = (qa G (ia l 0).toNat).1)
def canJ (G : List Qd) (l : List Int) : Bool := allB (kidB G l) 4 && decide ((qa G (ia l 0).toNat).1 < 5)
theorem canJ_no {G : List Qd} {l : List Int} {k : Nat} (hk : k < 4) (h : kidB G l k = false) : canJ G l = false := by simp [canJ, allB_false hk h]

/-- The box of four numbers. -/
def Box4 (w W : World) (l : List Int) : Prop := (∀ j, j < 4 → W.cell? ⟨w.heap.size, j, none⟩ = some (.int .i64 (ia l j))) ∧ w.heap.size < W.heap.size ∧ Below w.heap.size w W
theorem Box4.step {w W W' : World} {l : List Int} (h : Box4 w W l) (hb : Below W.heap.size W W') : Box4 w W' l :=
  ⟨fun j hj => (hb.cell (p := ⟨w.heap.size, j, none⟩) h.2.1).trans (h.1 j hj), Nat.lt_of_lt_of_le h.2.1 hb.size, h.2.2.trans (hb.mono h.2.2.size)⟩
theorem Box4.new (w : World) (l : List Int) (t : TypeId) : Box4 w (w.alloc (.cells #[.int .i64 (ia l 0), .int .i64 (ia l 1), .int .i64 (ia l 2), .int .i64 (ia l 3)] t)) l := by
  refine ⟨fun j hj => ?_, by simp, (Below.refl _ _).alloc (Nat.le_refl _) _⟩
  unfold World.cell?
  rw [heap_alloc_new]
  rcases (show j = 0 ∨ j = 1 ∨ j = 2 ∨ j = 3 by omega) with rfl | rfl | rfl | rfl <;> rfl

set_option maxHeartbeats 4000000 in
set_option maxRecDepth 100000 in
theorem c_canJoin (l : List Int) (w : World) {base p g cap mb : Nat} {G : List Qd} (h : Grv w base p g cap mb G) (hG : G.length ≤ 1048576) :
    Calls Tryz.prog 71 #[.pointer (some ⟨p, 0, none⟩), kv l] w fun e w' => e = .returned (.bool (canJ G l)) ∧ Below w.heap.size w w' := by
  have HX0 := hid (Box4.new w l 85)
  have HG0 := hid h
  clear h
  unfold kv
  go_enter Tryz.func71, Tryz.ntmps71
  go_wp2
  go_loopw [8] (fun i wr => ∃ k : Nat, k ≤ 4 ∧ i = .int .i64 k ∧ Hid (allB (kidB G l) k = true) ∧ Hid (Box4 w wr l)) (fun i _ => 4 - (intOf i).toNat)
  case atStart => exact ⟨0, Nat.zero_le _, rfl, (rfl : _ = _), HX0.out⟩
  case round =>
    clear HX0
    obtain ⟨k, hk, rfl, hT, HX⟩ := hrel
    have HG := hid (HG0.out.below HX.out.2.2)
    have HGR := hid fun G' : Gr wr => HG.out.below G'.below
    by_cases hlt : k < 4
    · have hidx := four_index l k hlt
      unfold kv at hidx
      have k0 : (0 : Int) ≤ (k : Int) := by omega
      have k1 : (k : Int) < 4 := by omega
      have HS := hid (allB_succ (kidB G l) k)
      have HN := hid (fun h => canJ_no (G := G) (l := l) hlt h)
      have hlt' := HX.out.2.1
      have hne := Gr.ne wr
      have g0 := fun G' : Gr wr => G'.cell HG.out.c0 (HG.out.box.lt)
      have x0 := fun G' : Gr wr => G'.cell (HX.out.1 0 (by omega)) hlt'
      cases hin : inB 0 ((G.length : Int) - 1) (ia l k)
      · have HV := hid (HN.out (by simp [kidB, hin]))
        clear HN HS
        go_wp2
        refine wp_region_gr (by kernel_rfl) (by kernel_rfl) ?_
        repeat (go_big_quiet_step (first | (go_at_call 52; exact Calls.gr _ (c_has' (ia l k) false _ hin (HGR.out _)))))
        refine wpQuiet_nil ?_
        rintro _ ⟨G', rfl⟩
        clear g0 x0
        go_wp2
        go_ret
        exact ⟨ret_bool HV.out.symm, HX.out.2.2.trans (G'.below.mono HX.out.2.2.size)⟩
      · have hbd := inB_bd hin
        have h0in : inB 0 ((G.length : Int) - 1) (ia l 0) = true := by
          by_cases e : k = 0
          · subst e; exact hin
          · have := allB_iff.1 hT.out 0 (by omega)
            simp only [kidB, Bool.and_eq_true] at this
            exact this.1
        have hbd0 := inB_bd h0in
        have m0 : (ia l k).toNat < G.length := by omega
        have m1 : (ia l 0).toNat < G.length := by omega
        have g1 := fun G' : Gr wr => G'.cell (HG.out.lev m0) HG.out.lt.2
        have g2 := fun G' : Gr wr => G'.cell (HG.out.lev m1) HG.out.lt.2
        have i0 : 0 ≤ ia l k := hbd.1
        have i1 : ia l k < (G.length : Int) := by omega
        have i2 : 0 ≤ ia l 0 := hbd0.1
        have i3 : ia l 0 < (G.length : Int) := by omega
        by_cases hv : (qa G (ia l k).toNat).1 = (qa G (ia l 0).toNat).1
        · have d1 : ((qa G (ia l k).toNat).1 != (qa G (ia l 0).toNat).1) = false := by simp [hv]
          have HV := hid (show allB (kidB G l) (k + 1) = true by rw [HS.out, hT.out]; simp only [kidB, hin, hv]; simp)
          clear HN HS hv
          go_wp2
          refine wp_region_gr (by kernel_rfl) (by kernel_rfl) ?_
          repeat (go_big_quiet_step (first | (go_at_call 52; exact Calls.gr _ (c_has' (ia l k) true _ hin (HGR.out _)))))
          refine wpQuiet_nil ?_
          rintro _ ⟨G', rfl⟩
          clear g0 x0 g1 g2
          go_wp2
          go_roundw
          case rel => exact ⟨k + 1, by omega, by go_num, HV.out, HX.out.step G'.below⟩
          case measure => simp [intOf]; omega
        · have d1 : ((qa G (ia l k).toNat).1 != (qa G (ia l 0).toNat).1) = true := by simp [hv]
          have HV := hid (HN.out (by simp only [kidB]; rw [decide_eq_false hv, Bool.and_false]))
          clear HN HS hv
          go_wp2
          refine wp_region_gr (by kernel_rfl) (by kernel_rfl) ?_
          repeat (go_big_quiet_step (first | (go_at_call 52; exact Calls.gr _ (c_has' (ia l k) true _ hin (HGR.out _)))))
          refine wpQuiet_nil ?_
          rintro _ ⟨G', rfl⟩
          clear g0 x0 g1 g2
          go_wp2
          go_ret
          exact ⟨ret_bool HV.out.symm, HX.out.2.2.trans (G'.below.mono HX.out.2.2.size)⟩
    · obtain rfl : k = 4 := by omega
      have h0in : inB 0 ((G.length : Int) - 1) (ia l 0) = true := by
        have := allB_iff.1 hT.out 0 (by omega)
        simp only [kidB, Bool.and_eq_true] at this
        exact this.1
      have hbd0 := inB_bd h0in
      have m1 : (ia l 0).toNat < G.length := by omega
      have g0 := HG.out.c0
      have x0 := HX.out.1 0 (by omega)
      have g2 := HG.out.lev m1
      have i2 : 0 ≤ ia l 0 := hbd0.1
      have i3 : ia l 0 < (G.length : Int) := by omega
      have HV := hid (show canJ G l = decide ((qa G (ia l 0).toNat).1 < 5) by rw [canJ, hT.out]; rfl)
      go_wp2
      go_region
      go_wp2
      go_ret
      exact ⟨ret_bool HV.out.symm, by first | exact HX.out.2.2 | exact HX.out.2.2.drew⟩

end Go.Proofs.YtnabgfbempkgnaaGreatDoor

namespace Go.Proofs.YtnabgfbempkgnaaGreatDoor
open Go.RowKit Go.Maps
set_option linter.unusedVariables false
set_option linter.unusedSimpArgs false
attribute [local go_sem ↓] Go.wp_at_zero Go.wp_at_succ

theorem step_appN {w : World} {ops : Array Oper} {o : Oper} {a : Act} {K : Act → World → Prop} {Q : Exit → Act → World → Prop} {E : Prop} (hgd : o.guard = none) (s x : Operand)
    (ho : o.op = .call { callee := .builtin .append, args := #[s, x], argTypes := #[88, 88] })
    (base : Nat) (v : Value) (G : List Qd) (q : Qd) (B : Nat) (hs : a.eval s = v) (hown : w.ownsRow base 87 5 v G.length (nflat G)) (hx : a.eval x = .slice (some ⟨B, 0, none⟩) 1 1)
    (hblk : w.heap[B]? = some (.cells (nq q).toArray 87)) (hlen : G.length ≤ 1048576) (hbase : base ≤ w.heap.size)
    (h : ∀ v' w', w'.ownsRow base 87 5 v' (G.length + 1) (nflat (G ++ [q])) → w.grownBy w' v.ownBlock → (v'.ownBlock = v.ownBlock ∨ v'.ownBlock = some w.heap.size) → K (a.put o.dst v') w') : if Region.wanted o (yielded ops a.tmps) = true then Oper.wp Tryz.prog o a w K Q else E := by
  have hw : Region.wanted o (yielded ops a.tmps) = true := by simp [Region.wanted, hgd]
  rw [if_pos hw]
  obtain ⟨i, hi, hz, hsz, hb⟩ := info_parts info_node
  obtain ⟨v', w', hr, h1, h2, _, h4⟩ := run_append_own_at (P := Tryz.prog) w base 88 o.type 87 i _ 5 40 Tryz.underlying88 hi hz hsz hb rfl (by omega) v G.length (nflat G) hown ⟨B, 0, none⟩ 1 1 (nq q) rfl (by
      intro j u hu
      have hadd : (⟨B, 0, none⟩ : Addr).add j = ⟨B, j, none⟩ := by unfold Addr.add; split <;> simp_all
      rw [hadd]
      unfold World.cell?
      rw [hblk]
      simpa using hu) (nq_one q) (by unfold maxLen; omega) (by omega) hbase
  unfold Oper.wp execOp
  simp only [ho, resolve, invoke, builtin, Sem.run_bind, Sem.run_pure, Result.andThen_ok, List.map_toArray, List.map_cons, List.map_nil, hs, hx, hr]
  refine h v' w' ?_ h2 h4
  rw [nflat_append]
  have e : nflat [q] = nq q := by simp [nflat]
  rw [e]
  exact h1

theorem own_ne_box {w : World} {base p : Nat} {v : Value} {n : Nat} {xs : List Value} {f : Nat → Value} (ho : w.ownsRow base 87 5 v n xs) (hb : w.rowIs p 91 2 f) {g : Nat} (hg : v.ownBlock = some g) : p ≠ g := by
  intro e
  subst e
  rcases ho.2 with ⟨rfl, _⟩ | ⟨g', cap, cur, rfl, _, hgg, _⟩
  · simp [Value.ownBlock] at hg
  · simp [Value.ownBlock] at hg
    subst hg
    obtain ⟨c, hc, _⟩ := hb
    rw [hc] at hgg
    simp at hgg
theorem own_ne_map {w : World} {base mb m : Nat} {v : Value} {n : Nat} {xs : List Value} {f : List Int → Option Int} (ho : w.ownsRow base 87 5 v n xs) (hb : Map4 w mb m f) {g : Nat} (hg : v.ownBlock = some g) : mb ≠ g := by
  intro e
  subst e
  rcases ho.2 with ⟨rfl, _⟩ | ⟨g', cap, cur, rfl, _, hgg, _⟩
  · simp [Value.ownBlock] at hg
  · simp [Value.ownBlock] at hg
    subst hg
    obtain ⟨D, ⟨es, clock, hc, _⟩, _⟩ := hb
    rw [hc] at hgg
    simp at hgg
theorem numTo_new (G : List Qd) (q : Qd) (h : 2 ≤ G.length) : numTo (G ++ [q]) (G ++ [q]).length = fun m => if m = q.2 then some (G.length : Int) else numTo G G.length m := by
  funext m
  rw [List.length_append, List.length_singleton]
  simp only [numTo, qa_snoc_new, numTo_snoc G q G.length (Nat.le_refl _)]
  by_cases e : m = q.2
  · rw [if_pos ⟨h, e⟩, if_pos e]
  · rw [if_neg (fun h => e h.2), if_neg e]

set_option maxHeartbeats 4000000 in
set_option maxRecDepth 100000 in
theorem c_join_old (l : List Int) (i : Int) (w : World) {base p g cap mb : Nat} {G : List Qd} (h : Grv w base p g cap mb G) (hf : fits4 l) (hn : numTo G G.length l = some i) :
    Calls Tryz.prog 72 #[.pointer (some ⟨p, 0, none⟩), kv l] w fun e w' => e = .returned (.int .i64 i) ∧ Below w.heap.size w w' := by
  obtain ⟨W1, hW1⟩ : ∃ W1, W1 = w.alloc (.cells #[.int .i64 (ia l 0), .int .i64 (ia l 1), .int .i64 (ia l 2), .int .i64 (ia l 3)] 85) := ⟨_, rfl⟩
  have HX := Box4.new w l 85
  rw [← hW1] at HX
  have HG := hid (h.below HX.2.2)
  have HXX := hid HX
  have hne := Gr.ne W1
  have g1 := fun G' : Gr W1 => G'.cell HG.out.c1 HG.out.box.lt
  have x0 := fun G' : Gr W1 => G'.cell (HX.1 0 (by omega)) HX.2.1
  have x1 := fun G' : Gr W1 => G'.cell (HX.1 1 (by omega)) HX.2.1
  have x2 := fun G' : Gr W1 => G'.cell (HX.1 2 (by omega)) HX.2.1
  have x3 := fun G' : Gr W1 => G'.cell (HX.1 3 (by omega)) HX.2.1
  have hlk := fun G' : Gr W1 => ((HG.out.below G'.below).map).look hf
  rw [hn] at hlk
  unfold kv at hlk ⊢
  simp only [Option.getD_some, Option.isSome_some] at hlk
  rw [hW1] at g1 x0 x1 x2 x3 hlk hne HXX
  clear HG HX h hW1
  clear W1
  go_enter Tryz.func72, Tryz.ntmps72
  go_wp2
  refine wp_region_gr (by kernel_rfl) (by kernel_rfl) ?_
  repeat (go_big_quiet_step (fail))
  refine wpQuiet_nil ?_
  rintro _ ⟨G', rfl⟩
  clear g1 x0 x1 x2 x3 hlk
  go_wp2
  go_ret
  exact ⟨rfl, (HXX.out.step G'.below).2.2⟩

theorem grv_join {w3 w' w6 : World} {base p g cap mb : Nat} {G : List Qd} {q : Qd} {v' : Value} (h : Grv w3 base p g cap mb G) (h2 : 2 ≤ G.length) (hg : w3.grownBy w' (some g))
    (ho : w'.ownsRow base 87 5 v' (G.length + 1) (nflat (G ++ [q])))
    (hm : Map4 w6 mb (G.length + 1) (fun m => if m = q.2 then some (G.length : Int) else numTo G G.length m)) (hg6 : (w'.setCell ⟨p, 0, none⟩ v').grownBy w6 (some mb)) : ∃ g' cap', v' = .slice (some ⟨g', 0, none⟩) (G.length + 1) cap' ∧ Grv w6 base p g' cap' mb (G ++ [q]) := by
  obtain ⟨g', cap', rfl, hlow, _⟩ := World.ownsRow.form ho (by omega)
  have hb' : w'.rowIs p 91 2 (fun j => if j = 0 then .slice (some ⟨g, 0, none⟩) G.length cap else .map (some mb)) := h.box.of_block (hg.block p h.box.lt (by simp only [ne_eq, Option.some.injEq]; exact h.pg))
  have hm' : Map4 w' mb G.length (numTo G G.length) := h.map.kept hg (by simp only [ne_eq, Option.some.injEq]; exact h.mg)
  have n1 : p ≠ g' := own_ne_box ho hb' rfl
  have n2 : mb ≠ g' := own_ne_map ho hm' rfl
  have hb5 := hb'.set 0 (.slice (some ⟨g', 0, none⟩) (G.length + 1) cap')
  have hb6 := hb5.of_block (hg6.block p hb5.lt (by simp only [ne_eq, Option.some.injEq]; exact h.pm))
  have ho5 : (w'.setCell ⟨p, 0, none⟩ (.slice (some ⟨g', 0, none⟩) (G.length + 1) cap')).ownsRow base 87 5 (.slice (some ⟨g', 0, none⟩) (G.length + 1) cap') (G.length + 1) (nflat (G ++ [q])) :=
    ownsRow_setCell_other ho (by simp [Value.ownBlock]; omega) _
  have ho6 := World.ownsRow.kept ho5 hg6 (.inr (by simp [Value.ownBlock]; omega))
  refine ⟨g', cap', rfl, h.lowp, h.lowm, ?_, ?_, ?_, h.pm, n1, n2⟩
  · rw [List.length_append, List.length_singleton]
    refine hb6.congr fun j hj => ?_
    rcases (show j = 0 ∨ j = 1 by omega) with rfl | rfl <;> simp
  · rw [List.length_append, List.length_singleton]; exact ho6
  · rw [numTo_new G q h2, List.length_append, List.length_singleton]; exact hm

end Go.Proofs.YtnabgfbempkgnaaGreatDoor
