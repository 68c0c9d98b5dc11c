/- Texts of this seat, one behind the other: Wvd. -/
import Derived.Test.YtgppcocfnbalfaaDoorDrX
import Derived.Test.YtgppcocfnbalfaaDoorWldP
import Derived.Test.YtgppcocfnbalfaaDoorSqP
import Derived.Test.YtgppcocfnbalfaaDoorSame
import Derived.Deep.RegionHeld3
namespace Go.Proofs.YtgppcocfnbalfaaDoor
open Go.RowKit Go.ChangeShapes Go.WideShapes Go.ChangeAt
set_option linter.unusedVariables false
set_option linter.unusedSimpArgs false
attribute [local go_sem ↓] Go.wp_at_zero Go.wp_at_succ

/-- A world in a variable: its box is b, its cells lie elsewhere. -/
def WV (W : World) (b : Nat) (a : Option Addr) (l : List Cl) (c : Nat) (t : Int) : Prop :=
  OwnS W 0 (.slice a l.length c) l ∧ (∀ j, (Value.slice a l.length c).ownBlock = some j → j ≠ b) ∧ WRow W b (.slice a l.length c) t 25
theorem WV.below {W W' : World} {b : Nat} {a : Option Addr} {l : List Cl} {c : Nat} {t : Int} (h : WV W b a l c t) (hb : Below W.heap.size W W') : WV W' b a l c t :=
  ⟨h.1.below hb, h.2.1, h.2.2.below hb⟩
theorem WV.new {W : World} {base : Nat} {a : Option Addr} {l : List Cl} {c : Nat} {t : Int} (h : OwnS W base (.slice a l.length c) l) : WV (W.alloc (.cells #[.slice a l.length c, .int .i64 t] 25)) W.heap.size a l c t :=
  ⟨(h.mono (Nat.zero_le _)).below ((Below.refl W.heap.size W).alloc (Nat.le_refl _) _), fun j hj => by have := (h.lt j hj).2; omega, WRow.new _ _ _ _⟩
theorem WV.put {W : World} {b base : Nat} {s0 : Value} {t0 : Int} {a : Option Addr} {l : List Cl} {c : Nat} {t : Int} (hr : WRow W b s0 t0 25) (h : OwnS W base (.slice a l.length c) l) (hne : ∀ j, (Value.slice a l.length c).ownBlock = some j → j ≠ b) :
    WV ((W.setCell ⟨b, 0, none⟩ (.slice a l.length c)).setCell ⟨b, 1, none⟩ (.int .i64 t)) b a l c t :=
  ⟨((h.mono (Nat.zero_le _)).other hne _).other hne _, hne, hr.put _ _⟩
theorem WV.seg {W : World} {b : Nat} {a : Option Addr} {l : List Cl} {c : Nat} {t : Int} (h : WV W b a l c t) : Seg W a l := h.1.seg
theorem WV.c0 {W : World} {b : Nat} {a : Option Addr} {l : List Cl} {c : Nat} {t : Int} (h : WV W b a l c t) : W.cell? ⟨b, 0, none⟩ = some (.slice a l.length c) := h.2.2.c0
theorem WV.c1 {W : World} {b : Nat} {a : Option Addr} {l : List Cl} {c : Nat} {t : Int} (h : WV W b a l c t) : W.cell? ⟨b, 1, none⟩ = some (.int .i64 t) := h.2.2.c1


set_option maxHeartbeats 1000000 in
/-- laws.sameWorld of two that are the same. -/
theorem c_sameWorld (a b : Option Addr) (l : List Cl) (ca cb : Nat) (t : Int) (w : World) (ha : Seg w a l) (hb : Seg w b l) (hl : l.length ≤ 1048576) :
    Calls Tryd.prog 20 #[.agg #[.slice a l.length ca, .int .i64 t], .agg #[.slice b l.length cb, .int .i64 t]] w fun e w' => e = .returned (.bool true) ∧ Below w.heap.size w w' := by
  have R1 := WRow.new w (.slice a l.length ca) t 25
  have R2 := WRow.new (w.alloc (.cells #[.slice a l.length ca, .int .i64 t] 25)) (.slice b l.length cb) t 25
  have B2 := ((Below.refl w.heap.size w).alloc (Nat.le_refl _) (.cells #[.slice a l.length ca, .int .i64 t] 25)).alloc (by simp) (.cells #[.slice b l.length cb, .int .i64 t] 25)
  have R1' := hid (World.rowIs.alloc R1 (.cells #[.slice b l.length cb, .int .i64 t] 25))
  have R2' := hid R2
  have HB := hid B2
  have HC := hid (c_sameCells a b l l ca cb _ (ha.below B2) (hb.below B2) hl hl)
  clear R1 R2 B2 ha hb
  rw [show (w.alloc (.cells #[.slice a l.length ca, .int .i64 t] 25)).heap.size = w.heap.size + 1 by simp] at R2'
  rw [show decide (l = l) = true by simp] at HC
  have hne : (t == t) = true := by simp
  go_enter Tryd.func20, Tryd.ntmps20
  go_wp2_with fail
  refine HC.out.mono ?_
  rintro e w1 ⟨rfl, hb1⟩
  have x1 := (WRow.below R1'.out hb1).c1
  have x2 := (WRow.below R2'.out hb1).c1
  go_wp2
  go_ret
  exact ⟨rfl, HB.out.trans (hb1.mono HB.out.size)⟩

set_option maxHeartbeats 1000000 in
set_option maxRecDepth 100000 in
theorem c_sameInts (a b : Option Addr) (l : List Int) (ca cb : Nat) (w : World) (ha : ISeg w a l) (hb : ISeg w b l) (hl : l.length ≤ 1048576) :
    Calls Tryd.prog 19 #[.slice a l.length ca, .slice b l.length cb] w fun e w' => e = .returned (.bool true) ∧ Below w.heap.size w w' := by
  have hlm' : ((l.length : Int) != (l.length : Int)) = false := by simp
  go_enter Tryd.func19, Tryd.ntmps19
  go_wp2
  go_loopw [13] (fun i wr => ∃ k : Nat, k ≤ l.length ∧ i = .int .i64 k ∧ Below w.heap.size w wr) (fun i _ => l.length - (intOf i).toNat)
  case atStart => exact ⟨0, Nat.zero_le _, rfl, Below.refl _ _⟩
  case round =>
    obtain ⟨k, hk, rfl, hbel⟩ := hrel
    by_cases hlt : k < l.length
    · obtain ⟨b1, o1, rfl, hb1, p1⟩ := ha k hlt
      obtain ⟨b2, o2, rfl, hb2, q1⟩ := hb k hlt
      have g1 := (hbel.cell (p := ⟨b1, o1 + k, none⟩) hb1).trans p1
      have g3 := (hbel.cell (p := ⟨b2, o2 + k, none⟩) hb2).trans q1
      clear p1 q1
      have HB := hid (hbel.trans (((Below.refl wr.heap.size wr).drew).mono hbel.size))
      clear hbel
      generalize ia l k = x at *
      have hx : (x != x) = false := by simp
      have k0 : (0 : Int) ≤ (k : Int) := by omega
      have k1 : (k : Int) < (l.length : Int) := by omega
      go_wp2
      go_still (by kernel_rfl)
      go_wp2
      go_roundw
      case rel => exact ⟨k + 1, by omega, by go_num, HB.out⟩
      case measure => simp [intOf]; omega
    · go_wp2
      go_ret
      exact ⟨rfl, hbel⟩

end Go.Proofs.YtgppcocfnbalfaaDoor
