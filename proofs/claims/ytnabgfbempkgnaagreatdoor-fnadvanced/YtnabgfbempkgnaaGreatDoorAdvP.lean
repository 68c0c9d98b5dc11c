/- Texts of this seat, one behind the other: AdvP. -/
import Derived.Test.YtnabgfbempkgnaaGreatDoorKo
import Derived.Test.YtnabgfbempkgnaaGreatDoorSpS
import Derived.Test.YtnabgfbempkgnaaGreatDoorKf
namespace Go.Proofs.YtnabgfbempkgnaaGreatDoor
open Go.RowKit
set_option linter.unusedVariables false

/-! ### Parts add up -/
theorem spl_sum : ∀ n : Nat, n < 21 → ((splV (n : Int)).foldl (· + ·) 0 = (n : Int) ∧ ∀ x ∈ splV (n : Int), 0 ≤ x) := by decide +kernel
/-- What the first j parts are together. -/
def preS (L : List Int) (j : Nat) : Int := (L.take j).foldl (· + ·) 0
theorem preS_succ {L : List Int} {j : Nat} (h : j < L.length) : preS L (j + 1) = preS L j + ia L j := by
  unfold preS
  rw [List.take_succ_eq_append_getElem h, List.foldl_append]
  simp [ia, h]
theorem preS_mono {L : List Int} (hp : ∀ x ∈ L, 0 ≤ x) : ∀ {j k : Nat}, j ≤ k → k ≤ L.length → preS L j ≤ preS L k := by
  intro j k hjk hk
  induction k with
  | zero => have : j = 0 := by omega
            subst this; exact Int.le_refl _
  | succ k ih =>
    by_cases e : j = k + 1
    · rw [e]; exact Int.le_refl _
    · have h1 := ih (by omega) (by omega)
      rw [preS_succ (by omega)]
      have h2 := hp (ia L k) (by simp [ia, show k < L.length by omega])
      omega
theorem times_pre {l : List Cl} : ∀ {m n : Nat}, m ≤ n → (timesO n l).isSome = true → ∃ x, timesO m l = some x := by
  intro m n hmn h
  obtain ⟨d, rfl⟩ : ∃ d, n = m + d := ⟨n - m, by omega⟩
  rw [times_add] at h
  cases hx : timesO m l with
  | none => rw [hx] at h; simp at h
  | some x => exact ⟨x, rfl⟩
/-- One part more. -/
theorem adv_part {l : List Cl} {t s c p : Int} (h : advOk l t s = true) (c0 : 0 ≤ c) (p0 : 0 ≤ p) (hcp : c + p ≤ s) :
    advOk (timesL l c) (t + c) p = true ∧ advL (timesL l c) (t + c) p = timesL l (c + p) ∧ advT (timesL l c) (t + c) p = t + (c + p) := by
  simp only [advOk, Bool.and_eq_true] at h
  obtain ⟨⟨hg, hok⟩, hg2⟩ := h
  have hgl : good l = true := by simp only [gw, Bool.and_eq_true] at hg; exact hg.1
  have ht := gw_age hg
  have ht2 := gw_age hg2
  have hs := times_bd hok
  have hsome : (timesO s.toNat l).isSome = true := by simp only [timesOk, Bool.and_eq_true] at hok; exact hok.2
  obtain ⟨x, hx⟩ := times_pre (m := c.toNat) (by omega) hsome
  obtain ⟨y, hy⟩ := times_pre (m := c.toNat + p.toNat) (by omega) hsome
  have hy2 := hy
  rw [times_add, hx] at hy2
  have hy3 : timesO p.toNat x = some y := hy2
  have inTc : inT c = true := by simp [inT]; omega
  have inTp : inT p = true := by simp [inT]; omega
  have inTcp : inT (c + p) = true := by simp [inT]; omega
  have hgx := timesO_good hgl hx
  have e1 : timesL l c = x := by simp [timesL, hgl, inTc, hx]
  have e2 : timesL l (c + p) = y := by
    have : (c + p).toNat = c.toNat + p.toNat := by omega
    simp [timesL, hgl, inTcp, this, hy]
  have e3 : timesL x p = y := by simp [timesL, hgx, inTp, hy3]
  have hgy := timesO_good hgx hy3
  have k1 : gw x (t + c) = true := by simp [gw, hgx, inB]; omega
  have k2 : timesOk x p = true := by simp [timesOk, hgx, inTp, hy3]
  have k3 : gw y (t + c + p) = true := by simp [gw, hgy, inB]; omega
  have k : advOk x (t + c) p = true := by simp [advOk, k1, k2, e3, k3]
  rw [e1, e2]
  refine ⟨k, by simp [advL, k, e3], ?_⟩
  simp only [advT, k, if_true]
  omega

/-! ### A tree goes on as the plane does -/
theorem steps_mv (x y : Int) : ∀ (n : Nat) (l : List Cl), stepsL n (mv l x y) = mv (stepsL n l) x y
  | 0, l => rfl
  | n + 1, l => by
    show stepsL n (pickL (nxtB (mv l x y))) = _
    rw [pick_mv, steps_mv x y n]
    rfl
theorem times_steps : ∀ {n : Nat} {l m : List Cl}, timesO n l = some m → m = stepsL n l
  | 0, l, m, h => by simp only [timesO, Option.some.injEq] at h; exact h.symm
  | n + 1, l, m, h => by
    rw [show n + 1 = 1 + n by omega, times_add] at h
    cases h1 : timesO 1 l with
    | none => rw [h1] at h; simp at h
    | some x =>
      rw [h1] at h
      have h2 : timesO n x = some m := h
      have h3 := times_steps h2
      have h4 : x = pickL (nxtB l) := by
        simp only [timesO, nxtO] at h1
        split at h1
        · simpa using h1.symm
        · simp at h1
      rw [h3, h4]
      rfl
theorem ab_plane {l : List Cl} {t s : Int} (h : sqOk l t s = true) (ht : timesOk l s = true) : abM l t s = timesL l s := by
  obtain ⟨n, AF⟩ := ab_facts h
  obtain ⟨n', _, _, hv', _, hlong, ⟨hbo, _⟩, _, _⟩ := sq_yes h
  have hnn : n' = n := by have := AF.v; omega
  subst hnn
  have hle := box_le hbo
  have hq : s < 2 ^ (n' - 2) := by
    have := hlong; unfold longC at this; omega
  have hn2 := AF.n2
  have hn5 := AF.n5
  have h4 : (2 : Int) ^ n' = 4 * 2 ^ (n' - 2) := by
    rcases (show n' = 2 ∨ n' = 3 ∨ n' = 4 ∨ n' = 5 by omega) with rfl | rfl | rfl | rfl <;> decide
  have hs1 := AF.s1
  have hgl : good l = true := by have := AF.g; simp only [gw, Bool.and_eq_true] at this; exact this.1
  have his := treeL_is (abL0 l t s) n' 0 0 two hn5 two_grow
  have e0 : treeL (abL0 l t s) n' 0 0 two = abX l t s := by unfold abX; rw [AF.nn]
  rw [e0] at his
  have hc : ∀ c, c ∈ abL0 l t s ↔ c ∈ cellsOfQ (abX l t s).1 (abX l t s).2 := by
    intro c
    unfold cellsOfQ
    rw [AF.lev, his.mem c]
    constructor
    · intro hc
      have := AF.cells c hc
      exact ⟨by omega, hc⟩
    · exact fun h => h.2
  have hord : ordL (cellsOfQ (abX l t s).1 (abX l t s).2) = abL0 l t s := ordL_eq (good_ris AF.good0) hc
  have hB : InB (2 ^ (n' - 2) + s) (3 * 2 ^ (n' - 2) - s - 1) (abL0 l t s) := by
    intro c hc
    have := AF.cells c hc
    omega
  have hBS := InB.steps (l := abL0 l t s) (n := s.toNat) hB
  have hok : safOK (abX l t s).1 ((abX l t s).2 : Int) s = true := by
    have hlt := AF.lt
    have hg := AF.goodX
    have hlv := levN_eq hg (q := ((abX l t s).2 : Int)) (by omega) (by omega)
    rw [Int.toNat_natCast, AF.lev] at hlv
    simp only [safOK, quadB, thereB, hg, Int.toNat_natCast, AF.lev, inB, Bool.and_eq_true, decide_eq_true_eq, Bool.true_and]
    omega
  have hR : abR l t s = stepsL s.toNat (abL0 l t s) := by
    unfold abR safV
    rw [hok]
    simp only [if_true]
    unfold safL
    rw [Int.toNat_natCast, hord, AF.lev]
    refine List.filter_eq_self.2 fun c hc => ?_
    have := hBS c hc
    simp only [safB, inB, Bool.and_eq_true, decide_eq_true_eq]
    omega
  have hM : abM l t s = stepsL s.toNat l := by
    unfold abM
    rw [hR]
    unfold abL0
    rw [steps_mv, mv_two, show -(sqC l t s).1 + (sqC l t s).1 = 0 by omega, show -(sqC l t s).2 + (sqC l t s).2 = 0 by omega, mv_none]
  have hsome : (timesO s.toNat l).isSome = true ∧ inT s = true := by
    simp only [timesOk, Bool.and_eq_true] at ht; exact ⟨ht.2, ht.1.2⟩
  obtain ⟨m, hm⟩ := Option.isSome_iff_exists.1 hsome.1
  rw [hM]
  simp only [timesL, hgl, hsome.2, Bool.and_self, if_true, hm, Option.getD_some]
  exact (times_steps hm).symm
theorem ab_adv {l : List Cl} {t s : Int} (h1 : abtOk l t s = true) (h2 : advOk l t s = true) : abtL l t s = advL l t s ∧ abtT l t s = advT l t s := by
  have hq : sqOk l t s = true := by simp only [abtOk, Bool.and_eq_true] at h1; exact h1.1
  have ht : timesOk l s = true := by simp only [advOk, Bool.and_eq_true] at h2; exact h2.1.2
  simp [abtL, advL, abtT, advT, h1, h2, ab_plane hq ht]

end Go.Proofs.YtnabgfbempkgnaaGreatDoor
