/- Facts for FnLife: who is alive next, and the box of the next cells. -/
import Derived.Test.YtkapdjlaebidnaaDrawL
import Derived.Test.YtkapdjlaebidnaaShift
import Derived.Test.YtkapdjlaebidnaaBoxY
import Derived.Test.YtkapdjlaebidnaaBoxS
namespace Go.Proofs.Ytkapdjlaebidnaa
open Go.RowKit
set_option linter.unusedVariables false

theorem lo_fold : ∀ (L : List Cl) (a : Cl), (L.foldl loC a).1 ≤ a.1 ∧ (L.foldl loC a).2 ≤ a.2 ∧ (∀ x ∈ L, (L.foldl loC a).1 ≤ x.1 ∧ (L.foldl loC a).2 ≤ x.2) ∧ ((L.foldl loC a).1 = a.1 ∨ ∃ x ∈ L, (L.foldl loC a).1 = x.1) ∧ ((L.foldl loC a).2 = a.2 ∨ ∃ x ∈ L, (L.foldl loC a).2 = x.2)
  | [], a => ⟨Int.le_refl _, Int.le_refl _, (fun x hx => by cases hx), .inl rfl, .inl rfl⟩
  | c :: L, a => by
    obtain ⟨h1, h2, h3, h4, h5⟩ := lo_fold L (loC a c)
    have e1 : (loC a c).1 = if c.1 < a.1 then c.1 else a.1 := rfl
    have e2 : (loC a c).2 = if c.2 < a.2 then c.2 else a.2 := rfl
    have b1 : (loC a c).1 ≤ a.1 ∧ (loC a c).1 ≤ c.1 := by rw [e1]; split <;> omega
    have b2 : (loC a c).2 ≤ a.2 ∧ (loC a c).2 ≤ c.2 := by rw [e2]; split <;> omega
    have c1 : (loC a c).1 = a.1 ∨ (loC a c).1 = c.1 := by rw [e1]; split <;> simp
    have c2 : (loC a c).2 = a.2 ∨ (loC a c).2 = c.2 := by rw [e2]; split <;> simp
    rw [List.foldl_cons]
    refine ⟨by omega, by omega, fun x hx => ?_, ?_, ?_⟩
    · rcases List.mem_cons.1 hx with rfl | hx
      · omega
      · exact h3 x hx
    · rcases h4 with h | ⟨x, hx, h⟩
      · rcases c1 with c | c
        · exact .inl (h.trans c)
        · exact .inr ⟨_, List.mem_cons_self, h.trans c⟩
      · exact .inr ⟨x, List.mem_cons_of_mem _ hx, h⟩
    · rcases h5 with h | ⟨x, hx, h⟩
      · rcases c2 with c | c
        · exact .inl (h.trans c)
        · exact .inr ⟨_, List.mem_cons_self, h.trans c⟩
      · exact .inr ⟨x, List.mem_cons_of_mem _ hx, h⟩
theorem hi_fold : ∀ (L : List Cl) (a : Cl), a.1 ≤ (L.foldl hiC a).1 ∧ a.2 ≤ (L.foldl hiC a).2 ∧ (∀ x ∈ L, x.1 ≤ (L.foldl hiC a).1 ∧ x.2 ≤ (L.foldl hiC a).2) ∧ ((L.foldl hiC a).1 = a.1 ∨ ∃ x ∈ L, (L.foldl hiC a).1 = x.1) ∧ ((L.foldl hiC a).2 = a.2 ∨ ∃ x ∈ L, (L.foldl hiC a).2 = x.2)
  | [], a => ⟨Int.le_refl _, Int.le_refl _, (fun x hx => by cases hx), .inl rfl, .inl rfl⟩
  | c :: L, a => by
    obtain ⟨h1, h2, h3, h4, h5⟩ := hi_fold L (hiC a c)
    have e1 : (hiC a c).1 = if a.1 < c.1 then c.1 else a.1 := rfl
    have e2 : (hiC a c).2 = if a.2 < c.2 then c.2 else a.2 := rfl
    have b1 : a.1 ≤ (hiC a c).1 ∧ c.1 ≤ (hiC a c).1 := by rw [e1]; split <;> omega
    have b2 : a.2 ≤ (hiC a c).2 ∧ c.2 ≤ (hiC a c).2 := by rw [e2]; split <;> omega
    have c1 : (hiC a c).1 = a.1 ∨ (hiC a c).1 = c.1 := by rw [e1]; split <;> simp
    have c2 : (hiC a c).2 = a.2 ∨ (hiC a c).2 = c.2 := by rw [e2]; split <;> simp
    rw [List.foldl_cons]
    refine ⟨by omega, by omega, fun x hx => ?_, ?_, ?_⟩
    · rcases List.mem_cons.1 hx with rfl | hx
      · omega
      · exact h3 x hx
    · rcases h4 with h | ⟨x, hx, h⟩
      · rcases c1 with c | c
        · exact .inl (h.trans c)
        · exact .inr ⟨_, List.mem_cons_self, h.trans c⟩
      · exact .inr ⟨x, List.mem_cons_of_mem _ hx, h⟩
    · rcases h5 with h | ⟨x, hx, h⟩
      · rcases c2 with c | c
        · exact .inl (h.trans c)
        · exact .inr ⟨_, List.mem_cons_self, h.trans c⟩
      · exact .inr ⟨x, List.mem_cons_of_mem _ hx, h⟩

theorem boxOk_parts {l : List Cl} (h : boxOk l = true) : good l = true ∧ at_ l 0 ∈ l ∧ boxLo l = l.foldl loC (at_ l 0) ∧ boxHi l = l.foldl hiC (at_ l 0) := by
  have h' := h
  unfold boxOk at h'
  simp only [Bool.and_eq_true, decide_eq_true_eq] at h'
  refine ⟨h'.1, mem_at.2 ⟨0, by omega, rfl⟩, ?_, ?_⟩
  · unfold boxLo loTo; rw [h, List.take_length]; rfl
  · unfold boxHi hiTo; rw [h, List.take_length]; rfl
theorem box_in {l : List Cl} (h : boxOk l = true) : (∀ x ∈ l, (boxLo l).1 ≤ x.1 ∧ (boxLo l).2 ≤ x.2 ∧ x.1 ≤ (boxHi l).1 ∧ x.2 ≤ (boxHi l).2) ∧ (∃ x ∈ l, (boxLo l).1 = x.1) ∧ (∃ x ∈ l, (boxLo l).2 = x.2) ∧ (∃ x ∈ l, (boxHi l).1 = x.1) ∧ (∃ x ∈ l, (boxHi l).2 = x.2) := by
  obtain ⟨hg, h0, e1, e2⟩ := boxOk_parts h
  rw [e1, e2]
  obtain ⟨_, _, a3, a4, a5⟩ := lo_fold l (at_ l 0)
  obtain ⟨_, _, b3, b4, b5⟩ := hi_fold l (at_ l 0)
  refine ⟨fun x hx => ⟨(a3 x hx).1, (a3 x hx).2, (b3 x hx).1, (b3 x hx).2⟩, ?_, ?_, ?_, ?_⟩
  · rcases a4 with h | h
    · exact ⟨_, h0, h⟩
    · exact h
  · rcases a5 with h | h
    · exact ⟨_, h0, h⟩
    · exact h
  · rcases b4 with h | h
    · exact ⟨_, h0, h⟩
    · exact h
  · rcases b5 with h | h
    · exact ⟨_, h0, h⟩
    · exact h
theorem good_mem {l : List Cl} (h : good l = true) {c : Cl} (hc : c ∈ l) : -40 ≤ c.1 ∧ c.1 ≤ 40 ∧ -40 ≤ c.2 ∧ c.2 ≤ 40 := by
  obtain ⟨i, hi, e⟩ := mem_at.1 hc
  have := good_in h i hi
  rw [e] at this
  simp [inR] at this
  omega
/-- A box's corners are within reach. -/
theorem box_bd (l : List Cl) : (-40 ≤ (boxLo l).1 ∧ (boxLo l).1 ≤ 40 ∧ -40 ≤ (boxLo l).2 ∧ (boxLo l).2 ≤ 40) ∧ (-40 ≤ (boxHi l).1 ∧ (boxHi l).1 ≤ 40 ∧ -40 ≤ (boxHi l).2 ∧ (boxHi l).2 ≤ 40) := by
  cases h : boxOk l
  · simp [boxLo, boxHi, h]
  · obtain ⟨_, ⟨x, hx, e1⟩, ⟨y, hy, e2⟩, ⟨u, hu, e3⟩, ⟨v, hv, e4⟩⟩ := box_in h
    have hg := (boxOk_parts h).1
    have := good_mem hg hx
    have := good_mem hg hy
    have := good_mem hg hu
    have := good_mem hg hv
    omega
theorem stepOk_parts {l : List Cl} (h : stepOk l = true) : good l = true ∧ stepL l = pickL (nxtB l) ∧ good (stepL l) = true := by
  unfold stepOk at h
  simp only [Bool.and_eq_true] at h
  have e : stepL l = pickL (nxtB l) := by unfold stepL tellV; rw [h.1, h.2]; rfl
  exact ⟨h.1, e, by rw [e]; exact h.2⟩
/-- None is born further off than one. -/
theorem life_box {l : List Cl} (h : stepOk l = true) (hb : boxOk (stepL l) = true) : boxOk l = true ∧ ¬ (boxLo (stepL l)).1 < (boxLo l).1 - 1 ∧ ¬ (boxLo (stepL l)).2 < (boxLo l).2 - 1 ∧ ¬ (boxHi l).1 + 1 < (boxHi (stepL l)).1 ∧ ¬ (boxHi l).2 + 1 < (boxHi (stepL l)).2 := by
  obtain ⟨hg, e, hs⟩ := stepOk_parts h
  have hn : ∀ c ∈ stepL l, ∃ x ∈ l, -1 ≤ x.1 - c.1 ∧ x.1 - c.1 ≤ 1 ∧ -1 ≤ x.2 - c.2 ∧ x.2 - c.2 ≤ 1 := by
    intro c hc
    rw [e] at hc
    obtain ⟨x, hx, hxn⟩ := nxt_near (((pickL_spec l).2 c).1 hc)
    exact ⟨x, hx, ((nearB_iff c x).1 hxn).2⟩
  obtain ⟨_, ⟨c1, m1, e1⟩, ⟨c2, m2, e2⟩, ⟨c3, m3, e3⟩, ⟨c4, m4, e4⟩⟩ := box_in hb
  obtain ⟨x1, n1, d1⟩ := hn c1 m1
  obtain ⟨x2, n2, d2⟩ := hn c2 m2
  obtain ⟨x3, n3, d3⟩ := hn c3 m3
  obtain ⟨x4, n4, d4⟩ := hn c4 m4
  have hbl : boxOk l = true := by
    unfold boxOk
    rw [hg]
    simp only [Bool.true_and, decide_eq_true_eq]
    intro h0
    rw [List.length_eq_zero_iff] at h0
    rw [h0] at n1
    cases n1
  obtain ⟨k, _⟩ := box_in hbl
  have k1 := k x1 n1
  have k2 := k x2 n2
  have k3 := k x3 n3
  have k4 := k x4 n4
  refine ⟨hbl, ?_, ?_, ?_, ?_⟩ <;> omega
/-- Who is alive next. -/
theorem life_next {l : List Cl} (h : stepOk l = true) (c : Cl) (hc : inR c = true) : nearV l c = ((near l c : Int), true) ∧ aliveV l c = (decide (c ∈ l), true) ∧ aliveV (stepL l) c = ((decide ((near l c : Int) = 3) || (decide ((near l c : Int) = 2) && decide (c ∈ l))), true) := by
  obtain ⟨hg, e, hs⟩ := stepOk_parts h
  refine ⟨by unfold nearV; rw [hg, hc]; rfl, by unfold aliveV; rw [hg, hc]; rfl, ?_⟩
  unfold aliveV
  rw [hs, hc]
  have : decide (c ∈ stepL l) = nxtB l c := by
    rw [Bool.eq_iff_iff, decide_eq_true_eq, e]
    exact (pickL_spec l).2 c
  rw [this]
  rfl
theorem BoxAt.bel {w w' : World} {b : Nat} {c : Cl} (h : BoxAt w b c) (hb : Below w.heap.size w w') : BoxAt w' b c := h.below hb h.2.2.2.2
/-- Two new boxes. -/
theorem two_new (w : World) (lo hi : Cl) : BoxAt ((w.alloc (.cells #[.int .i64 lo.1, .int .i64 lo.2] 30)).alloc (.cells #[.int .i64 hi.1, .int .i64 hi.2] 30)) w.heap.size lo ∧
    BoxAt ((w.alloc (.cells #[.int .i64 lo.1, .int .i64 lo.2] 30)).alloc (.cells #[.int .i64 hi.1, .int .i64 hi.2] 30)) (w.heap.size + 1) hi ∧
    Below w.heap.size w ((w.alloc (.cells #[.int .i64 lo.1, .int .i64 lo.2] 30)).alloc (.cells #[.int .i64 hi.1, .int .i64 hi.2] 30)) := by
  have hz : (w.alloc (.cells #[.int .i64 lo.1, .int .i64 lo.2] 30)).heap.size = w.heap.size + 1 := by simp
  refine ⟨(BoxAt.new w lo).alloc _, ?_, ((Below.refl w.heap.size w).alloc (Nat.le_refl _) _).alloc (by rw [hz]; omega) _⟩
  rw [← hz]
  exact BoxAt.new _ hi
end Go.Proofs.Ytkapdjlaebidnaa
