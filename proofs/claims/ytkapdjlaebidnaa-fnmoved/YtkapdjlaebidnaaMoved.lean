/- Facts for FnMoved: steps parted, steps of cells that are moved, moving back. -/
import Derived.Test.YtkapdjlaebidnaaDraw
import Derived.Test.YtkapdjlaebidnaaShift
import Derived.Test.YtkapdjlaebidnaaBoth
namespace Go.Proofs.Ytkapdjlaebidnaa
set_option linter.unusedVariables false

theorem timesOk_parts {l : List Cl} {t : Int} (h : timesOk l t = true) : good l = true ∧ 0 ≤ t ∧ t ≤ 20 ∧ ∃ s, timesO t.toNat l = some s ∧ timesL l t = s ∧ good s = true := by
  unfold timesOk at h
  simp only [Bool.and_eq_true] at h
  obtain ⟨⟨hg, ht⟩, hs⟩ := h
  obtain ⟨s, e⟩ := Option.isSome_iff_exists.1 hs
  refine ⟨hg, (inT_bd ht).1, (inT_bd ht).2, s, e, ?_, timesO_good hg e⟩
  unfold timesL
  rw [hg, ht, e]
  rfl
theorem timesOk_bd {l : List Cl} {t : Int} (h : timesOk l t = true) : 0 ≤ t ∧ t ≤ 20 := ⟨(timesOk_parts h).2.1, (timesOk_parts h).2.2.1⟩
theorem timesOk_mk {l s : List Cl} {t : Int} (hg : good l = true) (h0 : 0 ≤ t) (h1 : t ≤ 20) (e : timesO t.toNat l = some s) : timesOk l t = true ∧ timesL l t = s := by
  have hi : inT t = true := by simp [inT]; omega
  constructor
  · unfold timesOk; rw [hg, hi, e]; rfl
  · unfold timesL; rw [hg, hi, e]; rfl
/-- Steps that are parted add up. -/
theorem moved1 {l : List Cl} {t : Int} (h : timesOk l t = true) : ∀ k, 0 ≤ k → k ≤ t → timesOk l k = true ∧ timesOk (timesL l k) (t - k) = true ∧ timesL (timesL l k) (t - k) = timesL l t := by
  intro k k0 k1
  obtain ⟨hg, t0, t1, s, e, es, gs⟩ := timesOk_parts h
  have ht : t.toNat = k.toNat + (t - k).toNat := by omega
  rw [ht, times_add] at e
  cases ek : timesO k.toNat l with
  | none => rw [ek] at e; cases e
  | some m =>
    rw [ek] at e
    obtain ⟨q1, q2⟩ := timesOk_mk hg k0 (by omega) ek
    have gm := timesO_good hg ek
    obtain ⟨q3, q4⟩ := timesOk_mk (t := t - k) gm (by omega) (by omega) e
    rw [q2, es]
    exact ⟨q1, q3, q4⟩
theorem moveOk_parts {l : List Cl} {x y : Int} (h : moveOk l x y = true) : good l = true ∧ inM x = true ∧ inM y = true ∧ good (mv l x y) = true ∧ moveL l x y = mv l x y := by
  unfold moveOk at h
  simp only [Bool.and_eq_true] at h
  obtain ⟨⟨⟨h1, h2⟩, h3⟩, h4⟩ := h
  refine ⟨h1, h2, h3, h4, ?_⟩
  unfold moveL tellV
  rw [h1, h2, h3, h4]
  rfl
theorem moveOk_mk {l : List Cl} {x y : Int} (h1 : good l = true) (h2 : inM x = true) (h3 : inM y = true) (h4 : good (mv l x y) = true) : moveOk l x y = true ∧ moveL l x y = mv l x y := by
  have : moveOk l x y = true := by unfold moveOk; rw [h1, h2, h3, h4]; rfl
  exact ⟨this, (moveOk_parts this).2.2.2.2⟩
/-- Cells that are moved come to the same, moved. -/
theorem moved2 {l : List Cl} {t : Int} (h : timesOk l t = true) : ∀ x y, moveOk l x y = true → timesOk (moveL l x y) t = true → moveOk (timesL l t) x y = true ∧ timesL (moveL l x y) t = moveL (timesL l t) x y := by
  intro x y hm ht
  obtain ⟨hg, t0, t1, s, e, es, gs⟩ := timesOk_parts h
  obtain ⟨_, h2, h3, h4, h5⟩ := moveOk_parts hm
  obtain ⟨_, _, _, m, em, esm, gm⟩ := timesOk_parts ht
  rw [h5] at em
  have hmm := times_mv x y _ _ _ _ e em
  rw [es, esm]
  obtain ⟨p1, p2⟩ := moveOk_mk gs h2 h3 (by rw [← hmm]; exact gm)
  exact ⟨p1, by rw [p2]; exact hmm⟩
/-- Moving back. -/
theorem moved3 (l : List Cl) (x y : Int) (h : moveOk l x y = true) : moveOk (moveL l x y) (-x) (-y) = true ∧ moveL (moveL l x y) (-x) (-y) = l := by
  obtain ⟨h1, h2, h3, h4, h5⟩ := moveOk_parts h
  rw [h5]
  obtain ⟨p1, p2⟩ := moveOk_mk (x := -x) (y := -y) h4 (by have := inM_bd h2; simp [inM]; omega) (by have := inM_bd h3; simp [inM]; omega) (by rw [mv_mv]; exact h1)
  exact ⟨p1, by rw [p2, mv_mv]⟩
theorem small_fits {l : List Cl} (h : Small l) : ∀ c ∈ l, fits c := by
  intro c hc
  have := h c hc
  unfold fits
  omega
end Go.Proofs.Ytkapdjlaebidnaa
