/- Facts on cells that are moved, and on steps that add up. -/
import Derived.Test.YtgfdkolhldbehaaTimes
import Derived.Test.YtgfdkolhldbehaaCellsOf
namespace Go.Proofs.Ytgfdkolhldbehaa
set_option linter.unusedVariables false

/-- The first place that is not less. -/
theorem first_not (l : List Cl) (c : Cl) : ∀ n, n ≤ l.length → ∃ k, k ≤ n ∧ (∀ i, i < k → ltC (at_ l i) c = true) ∧ (k < n → ltC (at_ l k) c = false)
  | 0, _ => ⟨0, Nat.le_refl _, fun i hi => absurd hi (Nat.not_lt_zero _), fun h => absurd h (Nat.not_lt_zero _)⟩
  | n + 1, h => by
    obtain ⟨k, hk, h1, h2⟩ := first_not l c n (by omega)
    by_cases e : k < n
    · exact ⟨k, by omega, h1, fun _ => h2 e⟩
    · obtain rfl : k = n := by omega
      cases e2 : ltC (at_ l k) c
      · exact ⟨k, by omega, h1, fun _ => e2⟩
      · refine ⟨k + 1, Nat.le_refl _, fun i hi => ?_, fun h => absurd h (by omega)⟩
        by_cases e3 : i = k
        · rw [e3]; exact e2
        · exact h1 i (by omega)
theorem with_ex {l : List Cl} (hr : risTo l l.length = true) (c : Cl) : ∃ l', With l c l' := by
  by_cases hm : c ∈ l
  · exact ⟨l, with_same hr hm⟩
  · obtain ⟨k, hk, h1, h2⟩ := first_not l c l.length (Nat.le_refl _)
    refine ⟨_, with_new hr hk h1 (fun h => ⟨h2 h, fun e => hm (mem_at.2 ⟨k, h, e⟩)⟩)⟩
/-- Every list's cells can be put in order. -/
theorem ord_ex : ∀ L : List Cl, ∃ l', risTo l' l'.length = true ∧ ∀ c, c ∈ l' ↔ c ∈ L
  | [] => ⟨[], rfl, fun c => Iff.rfl⟩
  | x :: L => by
    obtain ⟨l, hr, hm⟩ := ord_ex L
    obtain ⟨l', hw⟩ := with_ex hr x
    exact ⟨l', hw.1, fun c => by rw [hw.2.1, hm, List.mem_cons]⟩
theorem pick_ex {p : Cl → Bool} (L : List Cl) (h : ∀ c, p c = true → c ∈ L) : ∃ l', risTo l' l'.length = true ∧ ∀ c, c ∈ l' ↔ p c = true := by
  obtain ⟨l', hr, hm⟩ := ord_ex (L.filter p)
  exact ⟨l', hr, fun c => by rw [hm, List.mem_filter]; exact ⟨fun h => h.2, fun hp => ⟨h c hp, hp⟩⟩⟩
theorem nxt_ex (l : List Cl) : ∃ l', risTo l' l'.length = true ∧ ∀ c, c ∈ l' ↔ nxtB l c = true :=
  pick_ex (l.flatMap blk) (fun c h => by
    obtain ⟨x, hx, hn⟩ := nxt_near h
    rw [List.mem_flatMap]
    exact ⟨x, hx, near_blk hn⟩)
theorem pickL_spec (l : List Cl) : risTo (pickL (nxtB l)) (pickL (nxtB l)).length = true ∧ ∀ c, c ∈ pickL (nxtB l) ↔ nxtB l c = true := by
  obtain ⟨l', h1, h2⟩ := nxt_ex l
  rw [pickL_eq h1 h2]
  exact ⟨h1, h2⟩

/-- A cell, moved. -/
def sh (x y : Int) (c : Cl) : Cl := (c.1 + x, c.2 + y)
theorem sh_inj {x y : Int} {c d : Cl} (h : sh x y c = sh x y d) : c = d := by
  obtain ⟨a, b⟩ := c
  obtain ⟨u, v⟩ := d
  simp only [sh, Prod.mk.injEq] at h ⊢
  omega
theorem sh_back (x y : Int) (c : Cl) : sh x y (sh (-x) (-y) c) = c := by
  obtain ⟨a, b⟩ := c
  simp only [sh, Prod.mk.injEq]
  omega
theorem mv_sh (l : List Cl) (x y : Int) : mv l x y = l.map (sh x y) := rfl
theorem mem_mv {l : List Cl} {x y : Int} {c : Cl} : sh x y c ∈ mv l x y ↔ c ∈ l := by
  rw [mv_sh, List.mem_map]
  exact ⟨fun ⟨d, hd, e⟩ => sh_inj e ▸ hd, fun h => ⟨c, h, rfl⟩⟩
theorem nearB_iff (c d : Cl) : nearB c d = true ↔ ¬ (d.1 = c.1 ∧ d.2 = c.2) ∧ -1 ≤ d.1 - c.1 ∧ d.1 - c.1 ≤ 1 ∧ -1 ≤ d.2 - c.2 ∧ d.2 - c.2 ≤ 1 := by
  unfold nearB
  simp only [Bool.and_eq_true, decide_eq_true_eq, ne_eq, Prod.ext_iff, and_assoc]
theorem nearB_sh (x y : Int) (c d : Cl) : nearB (sh x y c) (sh x y d) = nearB c d := by
  rw [Bool.eq_iff_iff, nearB_iff, nearB_iff]
  show (¬ (d.1 + x = c.1 + x ∧ d.2 + y = c.2 + y) ∧ -1 ≤ d.1 + x - (c.1 + x) ∧ d.1 + x - (c.1 + x) ≤ 1 ∧ -1 ≤ d.2 + y - (c.2 + y) ∧ d.2 + y - (c.2 + y) ≤ 1) ↔ _
  constructor
  · intro h; omega
  · intro h; omega
theorem near_mv (l : List Cl) (x y : Int) (c : Cl) : near (mv l x y) (sh x y c) = near l c := by
  unfold near
  rw [mv_sh, List.countP_map]
  congr 1
  funext d
  exact nearB_sh x y c d
theorem nxt_mv (l : List Cl) (x y : Int) (c : Cl) : nxtB (mv l x y) (sh x y c) = nxtB l c := by
  unfold nxtB kp
  rw [near_mv]
  congr 2
  simp only [mem_mv]
theorem ltC_sh (x y : Int) (c d : Cl) : ltC (sh x y c) (sh x y d) = ltC c d := by
  obtain ⟨a, b⟩ := c
  obtain ⟨u, v⟩ := d
  simp [ltC, sh]
theorem ris_mv {l : List Cl} (x y : Int) (h : risTo l l.length = true) : risTo (mv l x y) (mv l x y).length = true := by
  refine ris_of fun i hi => ?_
  rw [mv_length] at hi
  have at_mv : ∀ j, j < l.length → at_ (mv l x y) j = sh x y (at_ l j) := by
    intro j hj
    simp [at_, mv_sh, hj]
  rw [at_mv i (by omega), at_mv (i + 1) hi, ltC_sh]
  exact ris_next h hi
/-- Moving and stepping may change places. -/
theorem pick_mv (l : List Cl) (x y : Int) : pickL (nxtB (mv l x y)) = mv (pickL (nxtB l)) x y := by
  obtain ⟨h1, h2⟩ := pickL_spec l
  refine pickL_eq (ris_mv x y h1) (fun c => ?_)
  have e := sh_back x y c
  rw [← e, mem_mv, h2, nxt_mv]
theorem times_mv (x y : Int) : ∀ (n : Nat) (l s m : List Cl), timesO n l = some s → timesO n (mv l x y) = some m → m = mv s x y
  | 0, l, s, m, h1, h2 => by
    simp only [timesO, Option.some.injEq] at h1 h2
    rw [← h2, ← h1]
  | n + 1, l, s, m, h1, h2 => by
    simp only [timesO] at h1 h2
    have e1 : ∀ k s', (nxtO k).bind (timesO n) = some s' → nxtO k = some (pickL (nxtB k)) ∧ timesO n (pickL (nxtB k)) = some s' := by
      intro k s' h
      unfold nxtO at h ⊢
      split
      · rename_i hg; rw [if_pos hg] at h; exact ⟨rfl, h⟩
      · rename_i hg; rw [if_neg hg] at h; cases h
    obtain ⟨_, a1⟩ := e1 l s h1
    obtain ⟨_, a2⟩ := e1 (mv l x y) m h2
    rw [pick_mv] at a2
    exact times_mv x y n _ _ _ a1 a2
/-- Steps add up. -/
theorem times_add : ∀ (m n : Nat) (l : List Cl), timesO (m + n) l = (timesO m l).bind (timesO n)
  | 0, n, l => by simp [timesO]
  | m + 1, n, l => by
    rw [show m + 1 + n = m + n + 1 by omega]
    simp only [timesO]
    cases nxtO l with
    | none => rfl
    | some k => exact times_add m n k
theorem mv_mv (l : List Cl) (x y : Int) : mv (mv l x y) (-x) (-y) = l := by
  rw [mv_sh, mv_sh, List.map_map]
  conv => rhs; rw [← List.map_id l]
  congr 1
  funext c
  obtain ⟨a, b⟩ := c
  simp only [Function.comp, sh, id, Prod.mk.injEq]
  omega
end Go.Proofs.Ytgfdkolhldbehaa
