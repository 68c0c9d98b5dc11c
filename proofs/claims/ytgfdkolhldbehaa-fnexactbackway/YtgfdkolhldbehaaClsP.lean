/- Squares of cells by numbers, how many of them are alike, and by how many ways each is kept: numbers alone. -/
import Derived.Test.YtgfdkolhldbehaaTurnP
namespace Go.Proofs.Ytgfdkolhldbehaa
set_option linter.unusedVariables false
set_option linter.unusedSimpArgs false

def bitN (n k : Nat) : Bool := decide (n / 2 ^ k % 2 = 1)
/-- The cells of a square, of the first k bits. -/
def sqTo (s n : Nat) : Nat → List Cl
  | 0 => []
  | k + 1 => sqTo s n k ++ (if bitN n k then [(((k % s : Nat) : Int), ((k / s : Nat) : Int))] else [])
theorem sqTo_len (s n : Nat) : ∀ k, (sqTo s n k).length ≤ k
  | 0 => Nat.le_refl _
  | k + 1 => by
    have := sqTo_len s n k
    rw [sqTo, List.length_append]
    split <;> simp <;> omega
theorem sqTo_in {s n : Nat} (hs : 0 < s) {c : Cl} : ∀ {k}, k ≤ s * s → c ∈ sqTo s n k → 0 ≤ c.1 ∧ c.1 < s ∧ 0 ≤ c.2 ∧ c.2 < s
  | 0, _, h => by simp [sqTo] at h
  | k + 1, hk, h => by
    rw [sqTo, List.mem_append] at h
    rcases h with h | h
    · exact sqTo_in hs (by omega) h
    · split at h
      · rw [List.mem_singleton] at h
        subst h
        have h1 := Nat.mod_lt k hs
        have h2 : k / s < s := (Nat.div_lt_iff_lt_mul hs).2 (by omega)
        generalize k % s = x at *
        generalize k / s = y at *
        simp only
        omega
      · simp at h
theorem sqTo_ris {s n : Nat} (hs : 0 < s) : ∀ k, (sqTo s n k).Pairwise (fun a b => a ≠ b) ∧ ∀ c ∈ sqTo s n k, ∃ j, j < k ∧ c = (((j % s : Nat) : Int), ((j / s : Nat) : Int))
  | 0 => ⟨List.Pairwise.nil, fun c h => by simp [sqTo] at h⟩
  | k + 1 => by
    obtain ⟨h1, h2⟩ := sqTo_ris (n := n) hs k
    refine ⟨?_, fun c hc => ?_⟩
    · rw [sqTo, List.pairwise_append]
      refine ⟨h1, ?_, fun a ha b hb => ?_⟩
      · split <;> simp
      · split at hb
        · rw [List.mem_singleton] at hb
          obtain ⟨j, hj, e⟩ := h2 a ha
          rw [hb, e]
          intro e2
          simp only [Prod.mk.injEq] at e2
          have e3 : j % s = k % s := by omega
          have e4 : j / s = k / s := by omega
          have a1 := Nat.div_add_mod j s
          have a2 := Nat.div_add_mod k s
          rw [e3, e4] at a1
          omega
        · simp at hb
    · rw [sqTo, List.mem_append] at hc
      rcases hc with hc | hc
      · obtain ⟨j, hj, e⟩ := h2 c hc
        exact ⟨j, by omega, e⟩
      · split at hc
        · rw [List.mem_singleton] at hc
          exact ⟨k, by omega, hc⟩
        · simp at hc
theorem sqTo_nodup {s n : Nat} (hs : 0 < s) (k : Nat) : (sqTo s n k).Nodup := (sqTo_ris hs k).1
/-- From the middle of a square, by half cells. -/
def midC (s : Nat) (c : Cl) : Cl := (2 * c.1 - ((s : Int) - 1), 2 * c.2 - ((s : Int) - 1))
theorem midC_inj {s : Nat} {a b : Cl} (h : midC s a = midC s b) : a = b := by
  obtain ⟨x, y⟩ := a
  obtain ⟨u, v⟩ := b
  simp only [midC, Prod.mk.injEq] at h ⊢
  omega
def posC (s : Nat) (t : Cl) : Nat := ((t.2 + (s : Int) - 1).tdiv 2 * (s : Int) + (t.1 + (s : Int) - 1).tdiv 2).toNat
def numL (s w : Nat) (l : List Cl) : Nat := l.foldl (fun o c => o ||| 2 ^ posC s (trn w (midC s c))) 0
def leastTo (s n : Nat) : Nat → Nat
  | 0 => n
  | w + 1 => if numL s w (sqTo s n (s * s)) < leastTo s n w then numL s w (sqTo s n (s * s)) else leastTo s n w
def manyTo (s : Nat) : Nat → Nat
  | 0 => 0
  | n + 1 => if leastTo s n 8 = n then manyTo s n + 1 else manyTo s n
def keepB (w : Nat) (M : List Cl) : Bool := M.all fun c => M.contains (trn w c)
def cntTo (M : List Cl) : Nat → Nat
  | 0 => 0
  | w + 1 => if keepB w M then cntTo M w + 1 else cntTo M w
def keptTo (s : Nat) : Nat → Nat
  | 0 => 0
  | n + 1 => keptTo s n + cntTo ((sqTo s n (s * s)).map (midC s)) 8
set_option maxRecDepth 100000 in
theorem many_is : manyTo 1 2 = 2 ∧ manyTo 2 16 = 6 ∧ manyTo 3 512 = 102 := by decide +kernel
set_option maxRecDepth 100000 in
theorem kept_is : keptTo 1 2 = 16 ∧ keptTo 2 16 = 48 ∧ keptTo 3 512 = 816 := by decide +kernel
/-- The cells from the middle, in order. -/
noncomputable def midL (s n : Nat) : List Cl := ordL ((sqTo s n (s * s)).map (midC s))
theorem nodup_all {l m : List Cl} (hl : l.Nodup) (hs : ∀ c ∈ l, c ∈ m) (hm : m.length ≤ l.length) : ∀ c ∈ m, c ∈ l := by
  intro c hc
  refine Decidable.byContradiction fun hn => ?_
  have := nodup_sub_len (l := c :: l) (m := m) (List.nodup_cons.2 ⟨hn, hl⟩) (fun x hx => by
    rcases List.mem_cons.1 hx with e | e
    · rw [e]; exact hc
    · exact hs x e)
  simp only [List.length_cons] at this
  omega
theorem mid_ris (s n : Nat) : risTo (midL s n) (midL s n).length = true := (ord_spec _).1
theorem mid_mem (s n : Nat) (c : Cl) : c ∈ midL s n ↔ c ∈ (sqTo s n (s * s)).map (midC s) := (ord_spec _).2 c
theorem keep_iff {w : Nat} (hw : w < 8) (s n : Nat) : tuL w (midL s n) = tuL 0 (midL s n) ↔ keepB w ((sqTo s n (s * s)).map (midC s)) = true := by
  have hn := ris_nodup (mid_ris s n)
  rw [tu_zero (mid_ris s n)]
  constructor
  · intro h
    simp only [keepB, List.all_eq_true, List.contains_iff_mem]
    intro c hc
    rw [← mid_mem, ← h, tu_mem]
    exact ⟨c, (mid_mem s n c).2 hc, rfl⟩
  · intro h
    simp only [keepB, List.all_eq_true, List.contains_iff_mem] at h
    have h1 : ∀ c ∈ tuL w (midL s n), c ∈ midL s n := by
      intro c hc
      obtain ⟨x, hx, rfl⟩ := tu_mem.1 hc
      exact (mid_mem s n _).2 (h x ((mid_mem s n x).1 hx))
    have h2 := nodup_all (ris_nodup (tu_ris w (midL s n))) h1 (by rw [tu_len hw hn]; exact Nat.le_refl _)
    exact ris_unique (tu_ris _ _) (mid_ris s n) (fun c => ⟨h1 c, h2 c⟩)
theorem mid_len (s n : Nat) (hs : s ≤ 3) (hp : 0 < s) : (midL s n).length ≤ 9 := by
  have h1 := nodup_sub_len (m := (sqTo s n (s * s)).map (midC s)) (ris_nodup (mid_ris s n)) (fun c hc => (mid_mem s n c).1 hc)
  rw [List.length_map] at h1
  have h2 := sqTo_len s n (s * s)
  have h3 : s * s ≤ 9 := Nat.mul_le_mul hs hs
  omega
theorem mid_in (s n : Nat) (hs : s ≤ 3) (hp : 0 < s) {c : Cl} (hc : c ∈ midL s n) : -5 ≤ c.1 ∧ c.1 ≤ 5 ∧ -5 ≤ c.2 ∧ c.2 ≤ 5 := by
  obtain ⟨x, hx, rfl⟩ := List.mem_map.1 ((mid_mem s n c).1 hc)
  have := sqTo_in hp (Nat.le_refl _) hx
  simp only [midC]
  omega
/-- What SquareBy answers. -/
def sidB (s : Int) : Bool := decide (1 ≤ s) && decide (s ≤ 3)
def sqbOk (s n : Int) : Bool := sidB s && decide (0 ≤ n) && decide (n < 2 ^ (s.toNat * s.toNat))
def sqbL (s n : Int) : List Cl := if sqbOk s n then sqTo s.toNat n.toNat (s.toNat * s.toNat) else []
theorem sqbL_le (s n : Int) : (sqbL s n).length ≤ 9 := by
  unfold sqbL
  split
  · rename_i h
    simp only [sqbOk, sidB, Bool.and_eq_true, decide_eq_true_eq] at h
    have h1 := sqTo_len s.toNat n.toNat (s.toNat * s.toNat)
    have h3 : s.toNat * s.toNat ≤ 3 * 3 := Nat.mul_le_mul (by omega) (by omega)
    omega
  · simp
end Go.Proofs.Ytgfdkolhldbehaa
