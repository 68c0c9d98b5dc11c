/- LoneParts of the specification: what stands at each round. -/
import Derived.Test.YtgppcocfnbalfaaILone
namespace Go.Proofs.Ytgppcocfnbalfaa
open Go.RowKit
set_option linter.unusedVariables false
set_option linter.unusedSimpArgs false

/-- While the part of c grows. -/
structure GS (l D : List Cl) (c : Cl) (r : List Cl) (i : Nat) (p t : List Cl) : Prop where
  g1 : grown i p t = grown 0 [c] r
  g2 : t = l.filter fun x => decide (x ∉ D) && decide (x ∉ p)
  g3 : ∀ x ∈ p, x ∈ c :: r
  g4 : i ≤ p.length
  g5 : p.length + t.length = r.length + 1
theorem GS.start {l D : List Cl} {c : Cl} {r : List Cl} (hs : (l.filter fun x => decide (x ∉ D)) = c :: r) (hn : l.Nodup) : GS l D c r 0 [c] r := by
  refine ⟨rfl, ?_, fun x hx => by simp at hx; simp [hx], by simp, by simp; omega⟩
  have h2 : (c :: r).Nodup := by rw [← hs]; exact hn.filter _
  have h3 : (l.filter fun x => decide (x ∉ D) && decide (x ∉ [c])) = (c :: r).filter fun x => decide (x ∉ [c]) := by
    rw [← hs, List.filter_filter]
    apply List.filter_congr
    intro x hx
    rw [Bool.and_comm]
  rw [h3, List.filter_cons, if_neg (by simp), List.filter_eq_self.2]
  intro x hx
  simp only [List.mem_singleton, decide_eq_true_eq]
  rintro rfl
  exact (List.nodup_cons.1 h2).1 hx
theorem GS.step {l D : List Cl} {c : Cl} {r : List Cl} {i : Nat} {p t : List Cl} (h : GS l D c r i p t) (hs : (l.filter fun x => decide (x ∉ D)) = c :: r) (hD : ∀ y ∈ D, ∀ x ∈ c :: r, joined y x = false) (hi : i < p.length) :
    GS l D c r (i + 1) (p ++ brings l p (at_ p i)) (t.filter fun x => !joined (at_ p i) x) := by
  have hm : at_ p i ∈ p := by simp [at_, hi]
  have hb : brings l p (at_ p i) = t.filter (joined (at_ p i)) := brings_rest hm h.g2 (fun y hy x hx => hD y hy x (h.g3 x hx))
  have h2 := filter_two (joined (at_ p i)) t
  have ht : ∀ x ∈ t, x ∈ c :: r := fun x hx => by
    rw [h.g2, List.mem_filter] at hx
    rw [← hs, List.mem_filter]
    simp only [Bool.and_eq_true] at hx
    exact ⟨hx.1, hx.2.1⟩
  refine ⟨by rw [hb, ← grown_step hi]; exact h.g1, ?_, fun x hx => ?_, by rw [List.length_append]; omega, by rw [hb, List.length_append]; have := h.g5; omega⟩
  · rw [h.g2, List.filter_filter]
    apply List.filter_congr
    intro x hx
    have e : decide (x ∉ p ++ brings l p (at_ p i)) = (decide (x ∉ p) && !(joined x (at_ p i))) := by
      by_cases hp : x ∈ p
      · simp [hp]
      · cases hj : joined x (at_ p i) <;> simp [hp, brings, hx, hj]
    rw [e, joined_comm x (at_ p i)]
    cases decide (x ∉ D) <;> cases decide (x ∉ p) <;> cases joined (at_ p i) x <;> rfl
  · rw [hb, List.mem_append, List.mem_filter] at hx
    rcases hx with hx | ⟨hx, _⟩
    · exact h.g3 x hx
    · exact ht x hx

/-- Of l the first k cells are gone through, D are done, H are their parts. -/
structure OS (l : List Cl) (k : Nat) (D : List Cl) (H : List (List Cl)) : Prop where
  o1 : H ++ partsOf l (l.filter fun x => decide (x ∉ D)) = partsOf l l
  o2 : ∀ j, j < k → at_ l j ∈ D
  o3 : ∀ x ∈ D, x ∈ l
  o4 : ∀ y ∈ D, ∀ x ∈ (l.filter fun x => decide (x ∉ D)), joined y x = false
  o5 : D.Nodup
  o6 : H.length + (l.filter fun x => decide (x ∉ D)).length ≤ l.length
  o7 : D.length + (l.filter fun x => decide (x ∉ D)).length = l.length
theorem OS.start (l : List Cl) : OS l 0 [] [] := by
  have e : (l.filter fun x => decide (x ∉ ([] : List Cl))) = l := by rw [List.filter_eq_self]; simp
  exact ⟨by rw [e]; rfl, fun j hj => absurd hj (Nat.not_lt_zero _), fun x hx => by simp at hx, fun y hy => by simp at hy, List.nodup_nil, by rw [e]; simp, by rw [e]; simp⟩
theorem OS.skip {l : List Cl} {k : Nat} {D : List Cl} {H : List (List Cl)} (h : OS l k D H) (hk : at_ l k ∈ D) : OS l (k + 1) D H :=
  ⟨h.o1, fun j hj => by
    by_cases e : j = k
    · subst e; exact hk
    · exact h.o2 j (by omega), h.o3, h.o4, h.o5, h.o6, h.o7⟩
theorem OS.first {l : List Cl} {k : Nat} {D : List Cl} {H : List (List Cl)} (h : OS l k D H) (hk : k < l.length) (hd : at_ l k ∉ D) : ∃ r, (l.filter fun x => decide (x ∉ D)) = at_ l k :: r := by
  have e : at_ l k = l[k] := by simp [at_, hk]
  have h1 : ((l.take k).filter fun x => decide (x ∉ D)) = [] := by
    rw [List.filter_eq_nil_iff]
    intro x hx
    obtain ⟨j, hj, ej⟩ := List.getElem_of_mem hx
    rw [List.length_take] at hj
    rw [List.getElem_take] at ej
    have := h.o2 j (by omega)
    rw [show at_ l j = l[j] by simp [at_, show j < l.length by omega], ej] at this
    simpa using this
  refine ⟨(l.drop (k + 1)).filter fun x => decide (x ∉ D), ?_⟩
  conv => lhs; rw [← List.take_append_drop k l]
  rw [List.filter_append, h1, List.nil_append, List.drop_eq_getElem_cons hk, ← e, List.filter_cons, if_pos (by simpa using hd)]
theorem OS.next {l : List Cl} {k : Nat} {D : List Cl} {H : List (List Cl)} {r p t : List Cl} (h : OS l k D H) (hn : l.Nodup) (hs : (l.filter fun x => decide (x ∉ D)) = at_ l k :: r) (hg : GS l D (at_ l k) r p.length p t) :
    OS l (k + 1) (D ++ p) (H ++ [l.filter fun x => decide (x ∈ p)]) := by
  have hG : grown 0 [at_ l k] r = (p, t) := by rw [← hg.g1, grown_end]
  have hp1 : (grown 0 [at_ l k] r).1 = p := by rw [hG]
  have hp2 : (grown 0 [at_ l k] r).2 = t := by rw [hG]
  have hns : (at_ l k :: r).Nodup := by rw [← hs]; exact hn.filter _
  have hpre := grown_pre (i := 0) (p := [at_ l k]) (r := r) (Nat.zero_le _)
  have hap := grown_apart (p := [at_ l k]) (r := r)
  obtain ⟨-, hnd, -⟩ := grown_rest (p := [at_ l k]) (r := r) hns
  have ha := h.o1
  rw [hs, parts_cons] at ha
  rw [hp1, hp2] at hap hnd ha
  rw [hp1] at hpre
  have ht : (l.filter fun x => decide (x ∉ D ++ p)) = t := by
    rw [hg.g2]
    apply List.filter_congr
    intro x hx
    simp
  have hsub : ∀ x ∈ t, x ∈ at_ l k :: r := fun x hx => by
    rw [hg.g2, List.mem_filter] at hx
    rw [← hs, List.mem_filter]
    simp only [Bool.and_eq_true] at hx
    exact ⟨hx.1, hx.2.1⟩
  have hsl : ∀ x ∈ at_ l k :: r, x ∈ l ∧ x ∉ D := fun x hx => by
    rw [← hs, List.mem_filter] at hx
    simpa using hx
  refine ⟨by rw [ht, ← ha]; simp, fun j hj => ?_, fun x hx => ?_, fun y hy x hx => ?_, ?_, ?_, ?_⟩
  · rw [List.mem_append]
    by_cases e : j = k
    · subst e; exact .inr (hpre.subset (by simp))
    · exact .inl (h.o2 j (by omega))
  · rcases List.mem_append.1 hx with hx | hx
    · exact h.o3 x hx
    · exact (hsl x (hg.g3 x hx)).1
  · rw [ht] at hx
    rcases List.mem_append.1 hy with hy | hy
    · exact h.o4 y hy x (by rw [hs]; exact hsub x hx)
    · exact hap y hy x hx
  · rw [List.nodup_append]
    refine ⟨h.o5, (List.nodup_append.1 hnd).1, fun x hx y hy e => ?_⟩
    subst e
    exact (hsl x (hg.g3 x hy)).2 hx
  · have h6 := h.o6
    have h5 := hg.g5
    have h7 := hpre.length_le
    rw [ht, List.length_append]
    rw [hs] at h6
    simp only [List.length_cons, List.length_nil] at h6 h7 ⊢
    omega
  · have h6 := h.o7
    have h5 := hg.g5
    rw [ht, List.length_append]
    rw [hs] at h6
    simp only [List.length_cons] at h6
    omega
theorem OS.done {l : List Cl} {D : List Cl} {H : List (List Cl)} (h : OS l l.length D H) : H = partsOf l l := by
  have e : (l.filter fun x => decide (x ∉ D)) = [] := by
    rw [List.filter_eq_nil_iff]
    intro x hx
    obtain ⟨j, hj, ej⟩ := List.getElem_of_mem hx
    have := h.o2 j hj
    rw [show at_ l j = l[j] by simp [at_, hj], ej] at this
    simpa using this
  have := h.o1
  rw [e, parts_nil, List.append_nil] at this
  exact this
end Go.Proofs.Ytgppcocfnbalfaa
