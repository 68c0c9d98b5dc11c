/- Worlds made, gone on and moved: the specification's and the program's. -/
import Derived.Test.YtgppcocfnbalfaaWd
namespace Go.Proofs.Ytgppcocfnbalfaa
open Go.RowKit
set_option linter.unusedVariables false
set_option linter.unusedSimpArgs false
attribute [local go_sem ↓] Go.wp_at_zero Go.wp_at_succ

theorem own_none {w : World} {base n cv : Nat} {av : Option Addr} {l : List Cl} (h : OwnS w base (.slice av n cv) l) : av = none → cv = 0 := by
  intro e
  subst e
  rcases h.2 with ⟨e, _⟩ | ⟨g, cap, cur, e, _⟩ <;> simp at e
  exact e.2
theorem nilW (w : World) (b : Nat) (base : Nat) (u v : Value) : OwnS ((w.setCell ⟨b, 0, none⟩ u).setCell ⟨b, 1, none⟩ v) base (.slice none 0 0) [] := OwnS.nil _ _
theorem ownW {w : World} {base b : Nat} {s : Value} {l : List Cl} (h : OwnS w base s l) (hb : b < base) (u v : Value) {base' : Nat} (h' : base' ≤ base) : OwnS ((w.setCell ⟨b, 0, none⟩ u).setCell ⟨b, 1, none⟩ v) base' s l :=
  ((h.other (fun k hk => by have := (h.lt k hk).1; omega) _).other (fun k hk => by have := (h.lt k hk).1; omega) _).mono h'
theorem belW {w W : World} {b : Nat} (h : Below w.heap.size w W) (hb : w.heap.size ≤ b) (u v : Value) : Below w.heap.size w ((W.setCell ⟨b, 0, none⟩ u).setCell ⟨b, 1, none⟩ v) :=
  (h.setCell (p := ⟨b, 0, none⟩) hb _).setCell (p := ⟨b, 1, none⟩) hb _

theorem gw_age {l : List Cl} {t : Int} (h : gw l t = true) : 0 ≤ t ∧ t ≤ 1000 := by
  simp only [gw, Bool.and_eq_true] at h; exact inB_bd h.2
theorem times_bd {l : List Cl} {s : Int} (h : timesOk l s = true) : 0 ≤ s ∧ s ≤ 20 := by
  simp only [timesOk, Bool.and_eq_true] at h; exact inT_bd h.1.2
theorem times_none {l : List Cl} {s : Int} (h : timesOk l s = false) (hg : good l = true) : True := trivial

end Go.Proofs.Ytgppcocfnbalfaa
