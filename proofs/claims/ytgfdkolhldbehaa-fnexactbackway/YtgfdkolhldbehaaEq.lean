/- What toCell and eqCellS answer: a cell taken over, and whether two lists of cells are one. -/
import Derived.Test.YtgfdkolhldbehaaBase
import Derived.Deep.RegionHeld3
import Derived.Deep.DrawnRows
namespace Go.Proofs.Ytgfdkolhldbehaa
open Go.RowKit
set_option linter.unusedVariables false
attribute [local go_sem ↓] Go.wp_at_zero Go.wp_at_succ

set_option maxHeartbeats 400000 in
theorem c_toCell (x y : Int) (w : World) :
    Calls Try.prog 91 #[.agg #[.int .i64 x, .int .i64 y]] w fun e w' => e = .returned (.agg #[.int .i64 x, .int .i64 y]) ∧ Below w.heap.size w w' := by
  go_enter Try.func91, Try.ntmps91
  go_wp2
  exact bodyPost_ret (v := .agg #[.int .i64 x, .int .i64 y]) (by simp [results, Try.results91, go_sem]) rfl ⟨rfl, (((Below.refl _ _).alloc (Nat.le_refl _) _).alloc (by simp) _).alloc (by simp; omega) _⟩

theorem take_eq_succ {l m : List (Int × Int)} {k : Nat} {x y : Int × Int} (h1 : k < l.length) (h2 : k < m.length) (hx : l.getD k (0, 0) = x) (hy : m.getD k (0, 0) = y) (ht : l.take k = m.take k) (h : x = y) : l.take (k + 1) = m.take (k + 1) := by
  rw [List.take_succ_eq_append_getElem h1, List.take_succ_eq_append_getElem h2, ht]
  simp [h1, h2] at hx hy
  rw [hx, hy, h]
theorem ne_of_at {l m : List (Int × Int)} {k : Nat} {x y : Int × Int} (hx : l.getD k (0, 0) = x) (hy : m.getD k (0, 0) = y) (h : ¬ x = y) : decide (l = m) = false := by
  simp
  intro e
  subst e
  exact h (hx.symm.trans hy)

set_option maxHeartbeats 400000 in
theorem c_eqCellS (a b : Option Addr) (l m : List (Int × Int)) (ca cb : Nat) (w : World) (ha : Seg w a l) (hb : Seg w b m) (hl : l.length ≤ 1048576) (hm : m.length ≤ 1048576) :
    Calls Try.prog 38 #[.slice a l.length ca, .slice b m.length cb] w fun e w' => e = .returned (.bool (decide (l = m))) ∧ Below w.heap.size w w' := by
  by_cases hlm : l.length = m.length
  · have hlm' : ((l.length : Int) != (m.length : Int)) = false := by simp [hlm]
    have HLM : Hid (l.length = m.length) := hlm
    have hle : l.length ≤ m.length := by omega
    clear hlm
    go_enter Try.func38, Try.ntmps38
    go_wp2
    go_loopw [5] (fun i wr => ∃ k : Nat, k ≤ l.length ∧ i = .int .i64 k ∧ Hid (l.take k = m.take k) ∧ Below w.heap.size w wr) (fun i _ => l.length - (intOf i).toNat)
    case atStart => exact ⟨0, Nat.zero_le _, rfl, (rfl : _ = _), Below.refl _ _⟩
    case round =>
      obtain ⟨k, hk, rfl, ht, hbel⟩ := hrel
      by_cases hlt : k < l.length
      · obtain ⟨b1, o1, rfl, hb1, p1, p2⟩ := (ha k hlt)
        obtain ⟨b2, o2, rfl, hb2, q1, q2⟩ := (hb k (by omega))
        have g1 := (hbel.cell (p := ⟨b1, o1 + k * 2, none⟩) hb1).trans p1
        have g2 := (hbel.cell (p := ⟨b1, o1 + k * 2 + 1, none⟩) hb1).trans p2
        have g3 := (hbel.cell (p := ⟨b2, o2 + k * 2, none⟩) hb2).trans q1
        have g4 := (hbel.cell (p := ⟨b2, o2 + k * 2 + 1, none⟩) hb2).trans q2
        clear p1 p2 q1 q2
        have hw1 : b1 < wr.heap.size := Nat.lt_of_lt_of_le hb1 hbel.size
        have hw2 : b2 < wr.heap.size := Nat.lt_of_lt_of_le hb2 hbel.size
        generalize hx : l.getD k (0, 0) = x at *
        generalize hy : m.getD k (0, 0) = y at *
        have HX := hid (hx)
        have HY := hid (hy)
        clear hx hy
        have k0 : (0 : Int) ≤ (k : Int) := by omega
        have k1 : (k : Int) < (l.length : Int) := by omega
        have k2 : (k : Int) < (m.length : Int) := by omega
        by_cases hxy : x = y
        · have hd : eqC x y = true := by simp [eqC, hxy]
          have HXY := hid (hxy)
          clear hxy
          go_wp2
          go_region_held3 (fun w' => w'.cell? ⟨b1, o1 + k * 2, none⟩ = some (.int .i64 x.1) ∧ w'.cell? ⟨b1, o1 + k * 2 + 1, none⟩ = some (.int .i64 x.2) ∧ w'.cell? ⟨b2, o2 + k * 2, none⟩ = some (.int .i64 y.1) ∧ w'.cell? ⟨b2, o2 + k * 2 + 1, none⟩ = some (.int .i64 y.2)) (go_keep)
            (first | (go_at_call 92; refine (c_eqCell x y _).mono ?_; rintro e w' ⟨rfl, hbq⟩; have hbq' := ofDrew hbq; have hcq := (bcell hbq').1))
          clear hcq hbq
          go_wp2
          go_roundw
          case rel => exact ⟨k + 1, by omega, by go_num, take_eq_succ hlt (by omega) HX.out HY.out ht.out HXY.out, hbel.trans (hbq'.mono hbel.size)⟩
          case measure => simp [intOf]; omega
        · have hd : eqC x y = false := by simp [eqC, hxy]
          have HXY := hid (hxy)
          clear hxy
          go_wp2
          go_region_held3 (fun w' => w'.cell? ⟨b1, o1 + k * 2, none⟩ = some (.int .i64 x.1) ∧ w'.cell? ⟨b1, o1 + k * 2 + 1, none⟩ = some (.int .i64 x.2) ∧ w'.cell? ⟨b2, o2 + k * 2, none⟩ = some (.int .i64 y.1) ∧ w'.cell? ⟨b2, o2 + k * 2 + 1, none⟩ = some (.int .i64 y.2)) (go_keep)
            (first | (go_at_call 92; refine (c_eqCell x y _).mono ?_; rintro e w' ⟨rfl, hbq⟩; have hbq' := ofDrew hbq; have hcq := (bcell hbq').1))
          clear hcq hbq
          go_wp2
          go_ret
          exact ⟨ret_bool (ne_of_at HX.out HY.out HXY.out).symm, hbel.trans (hbq'.mono hbel.size)⟩
      · go_wp2
        go_ret
        have e1 : l.take k = l := List.take_of_length_le (by omega)
        have e2 : m.take k = m := List.take_of_length_le (by have := HLM.out; omega)
        have e3 := ht.out
        rw [e1, e2] at e3
        exact ⟨ret_bool (by simp [e3]), hbel⟩
  · have hlm' : ((l.length : Int) != (m.length : Int)) = true := by simp; omega
    go_enter Try.func38, Try.ntmps38
    go_wp2
    go_ret
    exact ⟨ret_bool (by simp; intro e; exact hlm (by rw [e])), Below.refl _ _⟩
end Go.Proofs.Ytgfdkolhldbehaa
