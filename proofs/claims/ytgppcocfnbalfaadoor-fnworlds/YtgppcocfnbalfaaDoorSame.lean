/- Texts of this seat, one behind the other: Same. -/
import Derived.Test.YtgppcocfnbalfaaDoorKa
import Derived.StillTailTactics
import Derived.ChangeSlices
namespace Go.Proofs.YtgppcocfnbalfaaDoor
open Go.RowKit Go.ChangeShapes Go.WideShapes Go.ChangeAt Go.Deep Go.Joins
set_option linter.unusedVariables false

/-- The bytes of a slice. -/
def BSeg (W : World) (a : Option Addr) (l : List Int) : Prop :=
  ∀ i, i < l.length → ∃ g o, a = some ⟨g, o, none⟩ ∧ g < W.heap.size ∧ W.cell? ⟨g, o + i, none⟩ = some (.int .u8 (l.getD i 0)) ∧ 0 ≤ l.getD i 0 ∧ l.getD i 0 ≤ 255
theorem BSeg.below {w w' : World} {a : Option Addr} {l : List Int} (h : BSeg w a l) (hb : Below w.heap.size w w') : BSeg w' a l := by
  intro i hi
  obtain ⟨g, o, e, hg, hc, h0, h1⟩ := h i hi
  exact ⟨g, o, e, Nat.lt_of_lt_of_le hg hb.size, (hb.cell (p := ⟨g, o + i, none⟩) hg).trans hc, h0, h1⟩
theorem cells_u8 : Tryd.prog.cellsOf 5 = 1 := by kernel_rfl
/-- A slice of bytes that came in. -/
theorem open_bytes {H : Type} {enc : TypeId × Value → H} {W : World} {base fuel : Nat} {spare : Nat → Bool} {held : Bool} {a : Option Addr} {len cap : Nat} {x : DataW H × List MemPlace}
    (h : DataW.trod enc Tryd.prog W base spare held fuel 22 [.slice a len cap] = some x) : ∃ l : List Int, l.length = len ∧ l.length ≤ maxLen ∧ BSeg W a l := by
  rcases open_ints Tryd.underlying22 Tryd.underlying5 cells_u8 h with ⟨hcs, _⟩ | ⟨ad, len', cap', zs, hcs, _, hl, hm, hz, _, hc, hw⟩
  · simp at hcs
    obtain ⟨rfl, rfl, rfl⟩ := hcs
    exact ⟨[], rfl, by simp [maxLen], fun i hi => by simp at hi⟩
  · simp at hcs
    obtain ⟨rfl, rfl, rfl⟩ := hcs
    have hlm : len ≤ zs.length := by rw [hz]; split <;> omega
    refine ⟨zs.take len, by simp; omega, by simp; omega, fun i hi => ?_⟩
    have hi' : i < len := by simp at hi; omega
    have c0 := hc i (by omega)
    have c00 := hc 0 (by omega)
    obtain ⟨b, o, spot⟩ := ad
    have hspot : spot = none := by simpa [Addr.add] using World.cell?_spot c00
    subst hspot
    rw [add_plain] at c0
    have hlt := lt_of_cell c0
    have hget : (zs.take len).getD i 0 = zs.getD i 0 := by
      rw [List.getD_eq_getElem?_getD, List.getD_eq_getElem?_getD, List.getElem?_take_of_lt hi']
    have hmem : zs.getD i 0 ∈ zs := by
      rw [List.getD_eq_getElem?_getD, List.getElem?_eq_getElem (show i < zs.length by omega), Option.getD_some]
      exact List.getElem_mem _
    have hwf := hw _ hmem
    refine ⟨b, o, rfl, hlt, by rw [hget]; exact c0, ?_⟩
    rw [hget]
    have hmin : IntKind.min .u8 = 0 := by decide
    have hmax : IntKind.max .u8 = 255 := by decide
    simp only [Lit.wf, hmin, hmax, Bool.and_eq_true, decide_eq_true_eq] at hwf
    exact hwf

theorem take_one {l m : List Cl} {k : Nat} (h1 : k < l.length) (h2 : k < m.length) (ht : l.take k = m.take k) (h : at_ l k = at_ m k) : l.take (k + 1) = m.take (k + 1) := by
  rw [take_snoc' h1, take_snoc' h2, ht, h]

set_option maxHeartbeats 1000000 in
set_option maxRecDepth 100000 in
theorem c_sameCells (a b : Option Addr) (l m : List Cl) (ca cb : Nat) (w : World) (ha : Seg w a l) (hb : Seg w b m) (hl : l.length ≤ 1048576) (hm : m.length ≤ 1048576) :
    Calls Tryd.prog 41 #[.slice a l.length ca, .slice b m.length cb] w fun e w' => e = .returned (.bool (decide (l = m))) ∧ Below w.heap.size w w' := by
  by_cases hlm : l.length = m.length
  · have hlm' : ((l.length : Int) != (m.length : Int)) = false := by simp [hlm]
    have HLM : Hid (l.length = m.length) := hlm
    have hle : l.length ≤ m.length := by omega
    clear hlm
    go_enter Tryd.func41, Tryd.ntmps41
    go_wp2
    go_loopw [13] (fun i wr => ∃ k : Nat, k ≤ l.length ∧ i = .int .i64 k ∧ Hid (l.take k = m.take k) ∧ Below w.heap.size w wr) (fun i _ => l.length - (intOf i).toNat)
    case atStart => exact ⟨0, Nat.zero_le _, rfl, (rfl : _ = _), Below.refl _ _⟩
    case round =>
      obtain ⟨k, hk, rfl, ht, hbel⟩ := hrel
      by_cases hlt : k < l.length
      · obtain ⟨b1, o1, rfl, hb1, p1, p2⟩ := (ha k hlt)
        obtain ⟨b2, o2, rfl, hb2, q1, q2⟩ := (hb k (by omega))
        have g1 := (hbel.cell (p := ⟨b1, o1 + k * 2, none⟩) hb1).trans p1
        have g2 := (hbel.cell (p := ⟨b1, o1 + k * 2 + 1, none⟩) hb1).trans p2
        have g3 := (hbel.cell (p := ⟨b2, o2 + k * 2, none⟩) hb2).trans q1
        have g4 := (hbel.cell (p := ⟨b2, o2 + k * 2 + 1, none⟩) hb2).trans q2
        change _ = some (Value.int .i64 (at_ l k).1) at g1
        change _ = some (Value.int .i64 (at_ l k).2) at g2
        change _ = some (Value.int .i64 (at_ m k).1) at g3
        change _ = some (Value.int .i64 (at_ m k).2) at g4
        clear p1 p2 q1 q2
        have HT := hid (fun h : at_ l k = at_ m k => take_one hlt (by omega) ht.out h)
        have HF := hid (show ¬ at_ l k = at_ m k → decide (l = m) = false from fun h => by simp; intro e; exact h (by rw [e]))
        have HB := hid (hbel.trans (((Below.refl wr.heap.size wr).drew).mono hbel.size))
        clear hbel
        generalize at_ l k = x at *
        generalize at_ m k = y at *
        have k0 : (0 : Int) ≤ (k : Int) := by omega
        have k1 : (k : Int) < (l.length : Int) := by omega
        have k2 : (k : Int) < (m.length : Int) := by omega
        by_cases hx1 : x.1 = y.1
        · by_cases hx2 : x.2 = y.2
          · have HT' := hid (HT.out (Prod.ext hx1 hx2))
            go_wp2
            go_still (by kernel_rfl)
            go_wp2
            go_roundw
            case rel => exact ⟨k + 1, by omega, by go_num, HT'.out, HB.out⟩
            case measure => simp [intOf]; omega
          · have HF' := hid (HF.out (fun e => hx2 (by rw [e])))
            have hb2 : (x.2 == y.2) = false := beq_eq_false_iff_ne.2 hx2
            go_wp2
            go_still (by kernel_rfl)
            go_wp2
            go_ret
            exact ⟨ret_bool HF'.out.symm, HB.out⟩
        · have HF' := hid (HF.out (fun e => hx1 (by rw [e])))
          have hb2 : (x.1 == y.1) = false := beq_eq_false_iff_ne.2 hx1
          go_wp2
          go_still (by kernel_rfl)
          go_wp2
          go_ret
          exact ⟨ret_bool HF'.out.symm, HB.out⟩
      · go_wp2
        go_ret
        have e1 : l.take k = l := List.take_of_length_le (by omega)
        have e2 : m.take k = m := List.take_of_length_le (by have := HLM.out; omega)
        have e3 := ht.out
        rw [e1, e2] at e3
        exact ⟨ret_bool (by simp [e3]), hbel⟩
  · have hlm' : ((l.length : Int) != (m.length : Int)) = true := by simp; omega
    go_enter Tryd.func41, Tryd.ntmps41
    go_wp2
    go_ret
    exact ⟨ret_bool (by simp; intro e; exact hlm (by rw [e])), Below.refl _ _⟩

end Go.Proofs.YtgppcocfnbalfaaDoor
