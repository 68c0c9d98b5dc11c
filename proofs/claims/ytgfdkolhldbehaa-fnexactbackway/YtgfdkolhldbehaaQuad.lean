/- Quads in memory: a slice of numbers, a slice of quads with their kids, and whether two are the same. -/
import Derived.Test.YtgfdkolhldbehaaGood
namespace Go.Proofs.Ytgfdkolhldbehaa
open Go.RowKit
set_option linter.unusedVariables false
attribute [local go_sem ↓] Go.wp_at_zero Go.wp_at_succ

/-- A quad: its level and its kids. -/
abbrev Qd := Int × List Int
def qa (F : List Qd) (i : Nat) : Qd := F.getD i (0, [])
def ia (l : List Int) (i : Nat) : Int := l.getD i 0
/-- The numbers of a slice. -/
def ISeg (w : World) (a : Option Addr) (l : List Int) : Prop :=
  ∀ i, i < l.length → ∃ b o, a = some ⟨b, o, none⟩ ∧ b < w.heap.size ∧ w.cell? ⟨b, o + i, none⟩ = some (.int .i64 (ia l i))
theorem ISeg.below {w w' : World} {a : Option Addr} {l : List Int} (h : ISeg w a l) (hb : Below w.heap.size w w') : ISeg w' a l := by
  intro i hi
  obtain ⟨b, o, rfl, hlt, h1⟩ := h i hi
  exact ⟨b, o, rfl, Nat.lt_of_lt_of_le hlt hb.size, (hb.cell (p := ⟨b, _, none⟩) hlt).trans h1⟩
/-- The quads of a slice. -/
def QSeg (w : World) (a : Option Addr) (F : List Qd) : Prop :=
  ∀ i, i < F.length → ∃ b o ak ck, a = some ⟨b, o, none⟩ ∧ b < w.heap.size ∧ w.cell? ⟨b, o + i * 2, none⟩ = some (.int .i64 (qa F i).1) ∧ w.cell? ⟨b, o + i * 2 + 1, none⟩ = some (.slice ak (qa F i).2.length ck) ∧ ISeg w ak (qa F i).2 ∧ (qa F i).2.length ≤ ck
theorem QSeg.below {w w' : World} {a : Option Addr} {F : List Qd} (h : QSeg w a F) (hb : Below w.heap.size w w') : QSeg w' a F := by
  intro i hi
  obtain ⟨b, o, ak, ck, rfl, hlt, h1, h2, h3, h4⟩ := h i hi
  exact ⟨b, o, ak, ck, rfl, Nat.lt_of_lt_of_le hlt hb.size, (hb.cell (p := ⟨b, _, none⟩) hlt).trans h1, (hb.cell (p := ⟨b, _, none⟩) hlt).trans h2, h3.below hb, h4⟩
/-- The kids of each quad are at most so many. -/
def KidsLe (F : List Qd) : Prop := ∀ i, i < F.length → (qa F i).2.length ≤ 1048576

theorem ia_take {l m : List Int} {k : Nat} (h1 : k < l.length) (h2 : k < m.length) (ht : l.take k = m.take k) (h : ia l k = ia m k) : l.take (k + 1) = m.take (k + 1) := by
  rw [List.take_succ_eq_append_getElem h1, List.take_succ_eq_append_getElem h2, ht]
  simp [ia, h1, h2] at h
  rw [h]
theorem qa_take {l m : List Qd} {k : Nat} (h1 : k < l.length) (h2 : k < m.length) (ht : l.take k = m.take k) (h : qa l k = qa m k) : l.take (k + 1) = m.take (k + 1) := by
  rw [List.take_succ_eq_append_getElem h1, List.take_succ_eq_append_getElem h2, ht]
  simp [qa, h1, h2] at h
  rw [h]

set_option maxHeartbeats 400000 in
theorem c_eqIntS (a b : Option Addr) (l m : List Int) (ca cb : Nat) (w : World) (ha : ISeg w a l) (hb : ISeg w b m) (hl : l.length ≤ 1048576) (hm : m.length ≤ 1048576) :
    Calls Try.prog 50 #[.slice a l.length ca, .slice b m.length cb] w fun e w' => e = .returned (.bool (decide (l = m))) ∧ Below w.heap.size w w' := by
  by_cases hlm : l.length = m.length
  · have hlm' : ((l.length : Int) != (m.length : Int)) = false := by simp [hlm]
    have HLM : Hid (l.length = m.length) := hlm
    have hle : l.length ≤ m.length := by omega
    clear hlm
    go_enter Try.func50, Try.ntmps50
    go_wp2
    go_loopw [5] (fun i wr => ∃ k : Nat, k ≤ l.length ∧ i = .int .i64 k ∧ Hid (l.take k = m.take k) ∧ Below w.heap.size w wr) (fun i _ => l.length - (intOf i).toNat)
    case atStart => exact ⟨0, Nat.zero_le _, rfl, (rfl : _ = _), Below.refl _ _⟩
    case round =>
      obtain ⟨k, hk, rfl, ht, hbel⟩ := hrel
      by_cases hlt : k < l.length
      · obtain ⟨b1, o1, rfl, hb1, p1⟩ := (ha k hlt)
        obtain ⟨b2, o2, rfl, hb2, q1⟩ := (hb k (by omega))
        have g1 := (hbel.cell (p := ⟨b1, o1 + k, none⟩) hb1).trans p1
        have g3 := (hbel.cell (p := ⟨b2, o2 + k, none⟩) hb2).trans q1
        clear p1 q1
        have k0 : (0 : Int) ≤ (k : Int) := by omega
        have k1 : (k : Int) < (l.length : Int) := by omega
        have k2 : (k : Int) < (m.length : Int) := by omega
        by_cases hxy : ia l k = ia m k
        · have hd : (ia l k != ia m k) = false := by simp [hxy]
          have HXY := hid (hxy)
          clear hxy
          go_wp2
          go_region
          go_wp2
          go_roundw
          case rel => exact ⟨k + 1, by omega, by go_num, ia_take hlt (by omega) ht.out HXY.out, hbel.drew⟩
          case measure => simp [intOf]; omega
        · have hd : (ia l k != ia m k) = true := by simp [hxy]
          have HXY := hid (hxy)
          clear hxy
          go_wp2
          go_region
          go_wp2
          go_ret
          exact ⟨ret_bool (by simp; intro e; subst e; exact HXY.out rfl), hbel.drew⟩
      · go_wp2
        go_ret
        have e1 : l.take k = l := List.take_of_length_le (by omega)
        have e2 : m.take k = m := List.take_of_length_le (by have := HLM.out; omega)
        have e3 := ht.out
        rw [e1, e2] at e3
        exact ⟨ret_bool (by simp [e3]), hbel⟩
  · have hlm' : ((l.length : Int) != (m.length : Int)) = true := by simp; omega
    go_enter Try.func50, Try.ntmps50
    go_wp2
    go_ret
    exact ⟨ret_bool (by simp; intro e; exact hlm (by rw [e])), Below.refl _ _⟩

end Go.Proofs.Ytgfdkolhldbehaa
