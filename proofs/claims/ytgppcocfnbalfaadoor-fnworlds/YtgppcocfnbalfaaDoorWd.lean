/- Texts of this seat, one behind the other: Wd. -/
import Derived.Test.YtgppcocfnbalfaaDoorLaw4
import Derived.Test.YtgppcocfnbalfaaDoorWdP
namespace Go.Proofs.YtgppcocfnbalfaaDoor
open Go.RowKit
set_option linter.unusedVariables false
set_option linter.unusedSimpArgs false
attribute [local go_sem ↓] Go.wp_at_zero Go.wp_at_succ

/-- A world's value. -/
def wv (s : Value) (t : Int) : Value := .agg #[s, .int .i64 t]

set_option maxHeartbeats 1000000 in
theorem c_sGoodWorld (a : Option Addr) (l : List Cl) (ca : Nat) (t : Int) (w : World) (ha : Seg w a l) (hl : l.length ≤ 1048576) :
    Calls Tryd.prog 27 #[.agg #[.slice a l.length ca, .int .i64 t]] w fun e w' => e = .returned (.bool (gw l t)) ∧ Below w.heap.size w w' := by
  have BX := hid (Box2.new w (.slice a l.length ca) (.int .i64 t) 25)
  cases hg : good l
  · have HC := hid (c_sGood' a l ca false hg _ (ha.below BX.out.2.2.2) hl)
    have HV := hid (show gw l t = false by simp [gw, hg])
    clear ha
    go_enter Tryd.func27, Tryd.ntmps27
    go_wp2_with fail
    refine HC.out.mono ?_
    rintro e w1 ⟨rfl, hb1⟩
    go_wp2
    go_ret
    exact ⟨ret_bool HV.out.symm, (BX.out.step hb1).2.2.2⟩
  · have HC := hid (c_sGood' a l ca true hg _ (ha.below BX.out.2.2.2) hl)
    have HV := hid (show gw l t = inB 0 1000 t by simp [gw, hg])
    clear ha
    go_enter Tryd.func27, Tryd.ntmps27
    go_wp2_with fail
    refine HC.out.mono ?_
    rintro e w1 ⟨rfl, hb1⟩
    have BX1 := hid (BX.out.step hb1)
    have x := BX1.out.2.1
    go_wp2_with fail
    refine (c_l1In' t 0 1000 _ rfl _).mono ?_
    rintro e w2 ⟨rfl, rfl⟩
    go_wp2
    go_ret
    exact ⟨ret_bool HV.out.symm, BX1.out.2.2.2⟩

set_option maxHeartbeats 1000000 in
theorem c_iGoodWorld (a : Option Addr) (l : List Cl) (ca : Nat) (t : Int) (w : World) (ha : Seg w a l) (hl : l.length ≤ 1048576) :
    Calls Tryd.prog 24 #[.agg #[.slice a l.length ca, .int .i64 t]] w fun e w' => e = .returned (.bool (gw l t)) ∧ Below w.heap.size w w' := by
  have BX := hid (Box2.new w (.slice a l.length ca) (.int .i64 t) 25)
  have HC := hid (c_iGood a l ca _ (ha.below BX.out.2.2.2) hl)
  cases hg : good l
  · have HV := hid (show gw l t = false by simp [gw, hg])
    rw [hg] at HC
    clear ha
    go_enter Tryd.func24, Tryd.ntmps24
    go_wp2_with fail
    refine HC.out.mono ?_
    rintro e w1 ⟨rfl, hb1⟩
    go_wp2
    go_ret
    exact ⟨ret_bool HV.out.symm, (BX.out.step hb1).2.2.2⟩
  · rw [hg] at HC
    clear ha
    by_cases h0 : 0 ≤ t
    · by_cases h1 : t ≤ 1000
      · have HV := hid (show gw l t = true by simp [gw, hg, inB, h0, h1])
        go_enter Tryd.func24, Tryd.ntmps24
        go_wp2_with fail
        refine HC.out.mono ?_
        rintro e w1 ⟨rfl, hb1⟩
        have BX1 := hid (BX.out.step hb1)
        have x := BX1.out.2.1
        go_wp2
        go_ret
        exact ⟨ret_bool HV.out.symm, BX1.out.2.2.2⟩
      · have HV := hid (show gw l t = decide (t ≤ 1000) by simp [gw, hg, inB, h0])
        go_enter Tryd.func24, Tryd.ntmps24
        go_wp2_with fail
        refine HC.out.mono ?_
        rintro e w1 ⟨rfl, hb1⟩
        have BX1 := hid (BX.out.step hb1)
        have x := BX1.out.2.1
        go_wp2
        go_ret
        exact ⟨ret_bool HV.out.symm, BX1.out.2.2.2⟩
    · have HV := hid (show gw l t = false by simp [gw, hg, inB, h0])
      go_enter Tryd.func24, Tryd.ntmps24
      go_wp2_with fail
      refine HC.out.mono ?_
      rintro e w1 ⟨rfl, hb1⟩
      have BX1 := hid (BX.out.step hb1)
      have x := BX1.out.2.1
      go_wp2
      go_ret
      exact ⟨ret_bool HV.out.symm, BX1.out.2.2.2⟩

theorem c_sGoodWorld' (a : Option Addr) (l : List Cl) (ca : Nat) (t : Int) (v : Bool) (h : gw l t = v) (w : World) (ha : Seg w a l) (hl : l.length ≤ 1048576) :
    Calls Tryd.prog 27 #[.agg #[.slice a l.length ca, .int .i64 t]] w fun e w' => e = .returned (.bool v) ∧ Below w.heap.size w w' := by rw [← h]; exact c_sGoodWorld a l ca t w ha hl
theorem c_iGoodWorld' (a : Option Addr) (l : List Cl) (ca : Nat) (t : Int) (v : Bool) (h : gw l t = v) (w : World) (ha : Seg w a l) (hl : l.length ≤ 1048576) :
    Calls Tryd.prog 24 #[.agg #[.slice a l.length ca, .int .i64 t]] w fun e w' => e = .returned (.bool v) ∧ Below w.heap.size w w' := by rw [← h]; exact c_iGoodWorld a l ca t w ha hl

/-! ### The laws' own -/
theorem grown_setW (w : World) (b o : Nat) (u : Value) : w.grownBy (w.setCell ⟨b, o, none⟩ u) (some b) :=
  ⟨rfl, rfl, rfl, by simp, fun k hk hn => Below.heap_setCell w ⟨b, o, none⟩ u k (by dsimp only; simpa using hn)⟩
theorem OwnS.other {w : World} {base b o : Nat} {v : Value} {l : List Cl} (h : OwnS w base v l) (hb : ∀ k, v.ownBlock = some k → k ≠ b) (u : Value) : OwnS (w.setCell ⟨b, o, none⟩ u) base v l :=
  own_keep h (grown_setW w b o u) fun k hk e => hb k hk (by simpa using e.symm)
theorem Row.other {w : World} {g b o : Nat} {l : List Cl} (h : Row w g l) (hb : g ≠ b) (u : Value) : Row (w.setCell ⟨b, o, none⟩ u) g l := World.rowIs.setOther h (a := ⟨b, o, none⟩) hb u
/-- A world's box that may be written. -/
def WRow (w : World) (b : Nat) (s : Value) (t : Int) (T : TypeId) : Prop := w.rowIs b T 2 (fun j => if j = 0 then s else .int .i64 t)
theorem WRow.new (w : World) (s : Value) (t : Int) (T : TypeId) : WRow (w.alloc (.cells #[s, .int .i64 t] T)) w.heap.size s t T := two_row (heap_alloc_new _ _)
theorem WRow.of_block {w w' : World} {b : Nat} {s : Value} {t : Int} {T : TypeId} (h : WRow w b s t T) (e : w'.heap[b]? = w.heap[b]?) : WRow w' b s t T := World.rowIs.of_block h e
theorem WRow.below {w w' : World} {b : Nat} {s : Value} {t : Int} {T : TypeId} (h : WRow w b s t T) (hb : Below w.heap.size w w') : WRow w' b s t T := World.rowIs.of_block h (hb.block _ (World.rowIs.lt h))
theorem WRow.c0 {w : World} {b : Nat} {s : Value} {t : Int} {T : TypeId} (h : WRow w b s t T) : w.cell? ⟨b, 0, none⟩ = some s := by simpa using World.rowIs.cell h (i := 0) (by omega)
theorem WRow.c1 {w : World} {b : Nat} {s : Value} {t : Int} {T : TypeId} (h : WRow w b s t T) : w.cell? ⟨b, 1, none⟩ = some (.int .i64 t) := by simpa using World.rowIs.cell h (i := 1) (by omega)
theorem WRow.fr {w : World} {b : Nat} {s : Value} {t : Int} {T : TypeId} (h : WRow w b s t T) (i : Nat) : w.frozen? ⟨b, i, none⟩ = false := World.rowIs.frozen h i
theorem WRow.put {w : World} {b : Nat} {s : Value} {t : Int} {T : TypeId} (h : WRow w b s t T) (s' : Value) (t' : Int) : WRow ((w.setCell ⟨b, 0, none⟩ s').setCell ⟨b, 1, none⟩ (.int .i64 t')) b s' t' T := by
  refine ((World.rowIs.set (World.rowIs.set h 0 s') 1 (.int .i64 t'))).congr fun i hi => ?_
  rcases (show i = 0 ∨ i = 1 by omega) with rfl | rfl <;> simp
theorem WRow.put0 {w : World} {b : Nat} {s : Value} {t : Int} {T : TypeId} (h : WRow w b s t T) (s' : Value) : WRow (w.setCell ⟨b, 0, none⟩ s') b s' t T := by
  refine (World.rowIs.set h 0 s').congr fun i hi => ?_
  rcases (show i = 0 ∨ i = 1 by omega) with rfl | rfl <;> simp
theorem WRow.put1 {w : World} {b : Nat} {s : Value} {t : Int} {T : TypeId} (h : WRow w b s t T) (t' : Int) : WRow (w.setCell ⟨b, 1, none⟩ (.int .i64 t')) b s t' T := by
  refine (World.rowIs.set h 1 (.int .i64 t')).congr fun i hi => ?_
  rcases (show i = 0 ∨ i = 1 by omega) with rfl | rfl <;> simp
theorem WRow.other {w : World} {b b' o : Nat} {s : Value} {t : Int} {T : TypeId} (h : WRow w b s t T) (hne : b ≠ b') (u : Value) : WRow (w.setCell ⟨b', o, none⟩ u) b s t T := World.rowIs.setOther h (a := ⟨b', o, none⟩) hne u

end Go.Proofs.YtgppcocfnbalfaaDoor
