/- A few cells that are known (the cursor's known). -/
import Derived.Test.YtgppcocfnbalfaaCur
namespace Go.Proofs.Ytgppcocfnbalfaa
open Go.RowKit
set_option linter.unusedVariables false

/-- A slice's literal owns its memory. -/
theorem own_lit (w : World) (l : List Cl) (cs : Array Value) (k : Nat) (hk : l.length = k) (hl : k ≤ 1000) (hc : cs.toList = flat l) : OwnS (w.alloc (.cells cs 44)) w.heap.size (.slice (some ⟨w.heap.size, 0, none⟩) k k) l := by
  subst hk
  have hsz : cs.size = l.length * 2 := by
    have := congrArg List.length hc
    rw [flat_length] at this
    simpa using this
  refine ⟨flat_length l, .inr ⟨w.heap.size, l.length, cs, rfl, Nat.le_refl _, heap_alloc_new w _, Nat.le_refl _, by unfold maxLen; omega, hsz, ?_⟩⟩
  rw [hc]
  first | rfl | exact List.take_of_length_le (Nat.le_of_eq (flat_length l)) | exact List.take_length | (rw [← flat_length]; exact List.take_length) | trace_state

/-- Cells that are small. -/
def Small (l : List Cl) : Prop := ∀ c ∈ l, -100 ≤ c.1 ∧ c.1 ≤ 100 ∧ -100 ≤ c.2 ∧ c.2 ≤ 100

set_option maxRecDepth 100000 in
set_option maxHeartbeats 1000000 in
theorem c_known (base b n : Nat) (A : Int) (w : World) (h : CurAt w base b n A) (hA : A ≤ 1073741824) :
    Calls Try.prog 77 #[.pointer (some ⟨b, 0, none⟩)] w fun e w' => ∃ (v : Value) (l : List Cl), e = .returned v ∧ OwnS w' w.heap.size v l ∧ l.length ≤ 5 ∧ Small l ∧ CurAt w' base b n (A + 1) ∧ w.grownBy w' (some b) := by
  have HN := hid (c_pick base b n A 6 w h hA (by omega) (by omega))
  have hbb : base ≤ b := by obtain ⟨_, _, _, _, _, h2, _⟩ := h; exact h2
  have hbl : b < w.heap.size := by obtain ⟨_, _, _, _, h1, _⟩ := h; exact h1
  clear h
  go_enter Try.func77, Try.ntmps77
  go_wp2_with fail
  refine HN.out.mono ?_
  rintro e w1 ⟨v, rfl, v0, v1, hc, hg⟩
  have HC := hid hc
  have HG := hid hg
  clear hc hg HN
  have HK : ∀ o : Obj, Hid (CurAt (w1.alloc o) base b n (A + 1) ∧ w.grownBy (w1.alloc o) (some b)) := fun o =>
    ⟨HC.out.kept (World.grownBy_alloc w1 o none) (by simp) (fun k e => by cases e), HG.out.trans (World.grownBy_alloc w1 o (some b))⟩
  have hsz := HG.out.size
  rcases (show v = 0 ∨ v = 1 ∨ v = 2 ∨ v = 3 ∨ 3 < v by omega) with e | e | e | e | e
  · subst e
    go_wp2
    go_ret
    exact ⟨_, [(0, 0), (1, 0), (0, 1), (1, 1)], rfl, (own_lit w1 _ _ 4 rfl (by omega) rfl).mono hsz, by simp, by simp [Small], (HK _).out.1, (HK _).out.2⟩
  · subst e
    go_wp2
    go_ret
    exact ⟨_, [(-1, 0), (0, 0), (1, 0)], rfl, (own_lit w1 _ _ 3 rfl (by omega) rfl).mono hsz, by simp, by simp [Small], (HK _).out.1, (HK _).out.2⟩
  · subst e
    go_wp2
    go_ret
    exact ⟨_, [(1, -1), (2, 0), (0, 1), (1, 1), (2, 1)], rfl, (own_lit w1 _ _ 5 rfl (by omega) rfl).mono hsz, by simp, by simp [Small], (HK _).out.1, (HK _).out.2⟩
  · subst e
    go_wp2
    go_ret
    exact ⟨_, [(1, -1), (2, -1), (0, 0), (1, 0), (1, 1)], rfl, (own_lit w1 _ _ 5 rfl (by omega) rfl).mono hsz, by simp, by simp [Small], (HK _).out.1, (HK _).out.2⟩
  · have e0 : (v == 0) = false := beq_eq_false_iff_ne.2 (by omega)
    have e1 : (v == 1) = false := beq_eq_false_iff_ne.2 (by omega)
    have e2 : (v == 2) = false := beq_eq_false_iff_ne.2 (by omega)
    have e3 : (v == 3) = false := beq_eq_false_iff_ne.2 (by omega)
    go_wp2
    go_ret
    exact ⟨_, [], rfl, OwnS.nil _ _, by simp, by simp [Small], HC.out, HG.out⟩
end Go.Proofs.Ytgppcocfnbalfaa
