/- Texts of this seat, one behind the other: SOwn. -/
import Derived.Test.YtnabgfbempkgnaaGreatDoorKd
namespace Go.Proofs.YtnabgfbempkgnaaGreatDoor
open Go.RowKit
set_option linter.unusedVariables false
set_option linter.unusedSimpArgs false
attribute [local go_sem ↓] Go.wp_at_zero Go.wp_at_succ

theorem GF.ne_row {gg : Option Nat} {w : World} {base : Nat} {v : Value} {F : List Qd} (h : GF w base v F gg) {p n : Nat} {t : TypeId} {f : Nat → Value} (hr : w.rowIs p t n f) (ht : t ≠ 95) : some p ≠ v.ownBlock := by
  intro e
  obtain ⟨cur, hc⟩ := h.type e.symm
  obtain ⟨c, hc2, _⟩ := hr
  rw [hc] at hc2
  simp at hc2
  exact ht hc2.2.symm
theorem GF.setRow {gg : Option Nat} {w : World} {base : Nat} {v : Value} {F : List Qd} (h : GF w base v F gg) {p o n : Nat} {t : TypeId} {f : Nat → Value} (hr : w.rowIs p t n f) (h1 : t ≠ 3) (h2 : t ≠ 95) (u : Value) : GF (w.setCell ⟨p, o, none⟩ u) base v F gg := by
  obtain ⟨c, hc, _⟩ := hr
  exact h.set hc h1 h2 u

/-- Appending numbers, at a step of a region that draws its order. -/
theorem step_appI {w : World} {ops : Array Oper} {o : Oper} {a : Act} {K : Act → World → Prop} {Q : Exit → Act → World → Prop} {E : Prop} (hgd : o.guard = none) (s x : Operand)
    (ho : o.op = .call { callee := .builtin .append, args := #[s, x], argTypes := #[32, 32] })
    (base : Nat) (v : Value) (m : List Int) (ad : Option Addr) (k : Nat) (hs : a.eval s = v) (hown : OwnI w base v []) (hx : a.eval x = .slice ad m.length k) (hseg : ISeg w ad m) (hk : ad = none → k = 0) (hlen : m.length ≤ 1048576) (hbase : base ≤ w.heap.size)
    (h : ∀ v' w', OwnI w' base v' m → w.grownBy w' v.ownBlock → K (a.put o.dst v') w') : if Region.wanted o (yielded ops a.tmps) = true then Oper.wp Tryz.prog o a w K Q else E := by
  have hw : Region.wanted o (yielded ops a.tmps) = true := by simp [Region.wanted, hgd]
  rw [if_pos hw]
  obtain ⟨i, hi, hz, hsz, hb⟩ := info_parts info_int
  cases ad with
  | none =>
    have hm : m = [] := by
      cases m with
      | nil => rfl
      | cons c r => obtain ⟨b, o, e, _⟩ := hseg 0 (by simp); cases e
    subst hm
    have hx' : a.eval x = .slice none 0 0 := by rw [hx, hk rfl]; rfl
    have hr := run_append_owned_none (P := Tryz.prog) (w := w) base 32 o.type 3 i 1 Tryz.underlying32 hi v 0 (iv []) hown
    unfold Oper.wp execOp
    simp only [ho, resolve, invoke, builtin, Sem.run_bind, Sem.run_pure, Result.andThen_ok, List.map_toArray, List.map_cons, List.map_nil, hs, hx', hr]
    exact h v w hown (grown_refl _ _)
  | some ad =>
    obtain ⟨v', w', hr, h1, h2, _, h4⟩ := run_append_own_at (P := Tryz.prog) w base 32 o.type 3 i _ 1 8 Tryz.underlying32 hi hz hsz hb rfl (by omega) v 0 (iv []) hown ad m.length k (iv m) (iv_length m) (iseg_news hseg) (iv_one m) (by unfold maxLen; omega) (by omega) hbase
    unfold Oper.wp execOp
    simp only [ho, resolve, invoke, builtin, Sem.run_bind, Sem.run_pure, Result.andThen_ok, List.map_toArray, List.map_cons, List.map_nil, hs, hx, hr]
    refine h v' w' ?_ h2
    unfold OwnI
    simpa [iv] using h1

theorem take_snocF {F : List Qd} {k : Nat} (h : k < F.length) : F.take (k + 1) = F.take k ++ [qa F k] := by
  rw [List.take_succ_eq_append_getElem h]; simp [qa, h]
/-- What a round of l3Own reads, in all that has grown out of W. -/
theorem own_cells {W w5 : World} (h : Below W.heap.size W w5) {B2 B3 : Nat} {v u1 u2 : Value} (h2 : W.cell? ⟨B2, 0, none⟩ = some v) (l2 : B2 < W.heap.size) (h3 : W.cell? ⟨B3, 0, none⟩ = some u1) (h4 : W.cell? ⟨B3, 1, none⟩ = some u2) (l3 : B3 < W.heap.size) :
    w5.cell? ⟨B2, 0, none⟩ = some v ∧ w5.cell? ⟨B3, 0, none⟩ = some u1 ∧ w5.cell? ⟨B3, 1, none⟩ = some u2 :=
  ⟨(h.cell (p := ⟨B2, 0, none⟩) l2).trans h2, (h.cell (p := ⟨B3, 0, none⟩) l3).trans h3, (h.cell (p := ⟨B3, 1, none⟩) l3).trans h4⟩

theorem own_next {w : World} {p : Nat} {v : Value} (h : w.rowIs p 56 1 (fun _ => v)) (u : Value) : (w.setCell ⟨p, 0, none⟩ u).rowIs p 56 1 (fun _ => u) := by
  refine (h.set 0 u).congr fun j hj => ?_
  have : j = 0 := by omega
  subst this; simp

end Go.Proofs.YtnabgfbempkgnaaGreatDoor
