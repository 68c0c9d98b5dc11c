/- The answers of the functions that change trees: plain. -/
import Derived.Test.YtmapbkefndbnnaaSCh
import Derived.Test.YtmapbkefndbnnaaBlank
import Derived.Test.YtmapbkefndbnnaaIMrg
import Derived.Test.YtmapbkefndbnnaaMove
namespace Go.Proofs.Ytmapbkefndbnnaa
set_option linter.unusedVariables false

/-- What is answered where ok, of a forest and a quad. -/
def ansF (ok : Bool) (R : List Qd × Nat) : List Qd := if ok then tellF R.1 else []
def ansQ (ok : Bool) (R : List Qd × Nat) : Int := if ok then tellQ R.1 (R.2 : Int) else 0
def ansB (ok : Bool) (R : List Qd × Nat) : Bool := ok && tellB R.1
theorem ans_no (R : List Qd × Nat) : ansF false R = [] ∧ ansQ false R = 0 ∧ ansB false R = false := ⟨rfl, rfl, rfl⟩
theorem ans_yes (R : List Qd × Nat) : ansF true R = tellF R.1 ∧ ansQ true R = tellQ R.1 (R.2 : Int) ∧ ansB true R = tellB R.1 := ⟨rfl, rfl, rfl⟩
theorem ans_small (ok : Bool) (R : List Qd × Nat) (h : ok = true → Grows R.1) : (ansF ok R).length ≤ 1048576 ∧ KidsLe (ansF ok R) ∧ posF (nsF (ansF ok R)) (ansF ok R).length ≤ 8388608 := by
  cases ok
  · exact ⟨by simp [ansF], fun i hi => by simp [ansF] at hi, by simp [ansF, posF]⟩
  · have hG := h rfl
    rw [(ans_yes R).1]
    unfold tellF
    split
    · rename_i h4
      refine ⟨by omega, hG.kidsLe, ?_⟩
      have hp : ∀ k, k ≤ R.1.length → posF (nsF R.1) k ≤ 1 + 5 * k := by
        intro k
        induction k with
        | zero => intro _; simp [posF]
        | succ k ih =>
          intro hk
          have := ih (by omega)
          have : nsF R.1 k ≤ 4 := by
            unfold nsF
            by_cases h2 : k < 2
            · rw [hG.low k h2]; simp
            · have := hG.len k (by omega) (by omega); omega
          simp only [posF]; omega
      have := hp _ (Nat.le_refl _)
      omega
    · exact ⟨by simp, fun i hi => by simp at hi, by simp [posF]⟩

/-- The cells of a quad of a good forest are in its square. -/
theorem cellsOfQ_sq (F : List Qd) (q : Nat) : ∀ c ∈ cellsOfQ F q, sqB (levN F q) 0 0 c := fun c hc => cellsL_in F _ _ _ _ c hc
theorem cellsOfQ_is {F : List Qd} (hg : goodF F = true) {q : Nat} (hq : q < F.length) : IsT (cellsOfQ F q) F (levN F q) q 0 0 := by
  have := lev_nonneg hg hq
  exact IsT.self hg _ q 0 0 hq (by unfold levN; omega)
theorem levN_le {F : List Qd} (hg : goodF F = true) {q : Nat} (hq : q < F.length) : levN F q ≤ 5 ∧ (qa F q).1 = (levN F q : Int) := by
  have := lev_nonneg hg hq
  unfold levN
  omega
theorem cellsOfQ_inR {F : List Qd} (hg : goodF F = true) {q : Nat} (hq : q < F.length) : ∀ i, i < (cellsOfQ F q).length → inR (at_ (cellsOfQ F q) i) = true := by
  intro i hi
  have h1 := cellsOfQ_sq F q (at_ (cellsOfQ F q) i) (mem_at.2 ⟨i, hi, rfl⟩)
  have h2 := pow_le_32 (levN_le hg hq).1
  unfold sqB at h1
  simp only [inR, Bool.and_eq_true, decide_eq_true_eq]
  omega

/-- SetCell. -/
def setOK (F : List Qd) (q : Int) (c : Cl) : Bool := thereB F q && hoB (levN F q.toNat) c
def setL (F : List Qd) (q : Nat) (c : Cl) (al : Bool) : List Cl := if al then cellsOfQ F q ++ [c] else dropL (cellsOfQ F q) [c]
def setR (F : List Qd) (q : Int) (c : Cl) (al : Bool) : List Qd × Nat := treeL (setL F q.toNat c al) (levN F q.toNat) 0 0 F
theorem set_mem (F : List Qd) (q : Nat) (c : Cl) (al : Bool) : ∀ d, sqB (levN F q) 0 0 d → (d ∈ setL F q c al ↔ if mtB c.1 c.2 c.1 c.2 0 d.1 d.2 = true then (if al then 1 else 0) = 1 else d ∈ cellsOfQ F q) := by
  intro d _
  have hm : mtB c.1 c.2 c.1 c.2 0 d.1 d.2 = true ↔ d = c := by
    obtain ⟨u, v⟩ := d
    obtain ⟨s, t⟩ := c
    simp only [mtB, Bool.and_eq_true, decide_eq_true_eq, Prod.mk.injEq]
    omega
  by_cases e : d = c
  · rw [if_pos (hm.2 e)]
    subst e
    cases al <;> simp [setL, dropL]
  · rw [if_neg (fun h => e (hm.1 h))]
    cases al <;> simp [setL, dropL, e]

/-- UnionOf, WithoutOf. -/
def twoOK (F : List Qd) (a b : Int) : Bool := thereB F a && thereB F b && decide ((qa F a.toNat).1 = (qa F b.toNat).1)
def uniR (F : List Qd) (a b : Int) : List Qd × Nat := treeL (cellsOfQ F a.toNat ++ cellsOfQ F b.toNat) (levN F a.toNat) 0 0 F
def witR (F : List Qd) (a b : Int) : List Qd × Nat := treeL (dropL (cellsOfQ F a.toNat) (cellsOfQ F b.toNat)) (levN F a.toNat) 0 0 F
theorem uni_bit (A B : List Cl) (c : Cl) : bitC (A ++ B) c = orN (bitC A c) (bitC B c) := by
  unfold bitC orN
  by_cases h1 : c ∈ A <;> by_cases h2 : c ∈ B <;> simp [h1, h2]
theorem wit_bit (A B : List Cl) (c : Cl) : bitC (dropL A B) c = lessN (bitC A c) (bitC B c) := by
  unfold bitC lessN dropL
  by_cases h1 : c ∈ A <;> by_cases h2 : c ∈ B <;> simp [h1, h2]

/-- ClearBox. -/
def clrOK (F : List Qd) (q : Int) (a b : Cl) : Bool := thereB F q && inR a && inR b
def clrL (F : List Qd) (q : Nat) (a b : Cl) : List Cl := (cellsOfQ F q).filter fun c => !(inB a.1 b.1 c.1 && inB a.2 b.2 c.2)
def clrR (F : List Qd) (q : Int) (a b : Cl) : List Qd × Nat := treeL (clrL F q.toNat a b) (levN F q.toNat) 0 0 F
theorem clr_mem (F : List Qd) (q : Nat) (a b : Cl) : ∀ d, sqB (levN F q) 0 0 d → (d ∈ clrL F q a b ↔ if mtB a.1 a.2 b.1 b.2 0 d.1 d.2 = true then (0 : Nat) = 1 else d ∈ cellsOfQ F q) := by
  intro d _
  have hm : mtB a.1 a.2 b.1 b.2 0 d.1 d.2 = (inB a.1 b.1 d.1 && inB a.2 b.2 d.2) := by
    unfold mtB inB
    simp [Bool.and_assoc]
  rw [hm]
  unfold clrL
  rw [List.mem_filter]
  generalize (inB a.1 b.1 d.1 && inB a.2 b.2 d.2) = z
  cases z <;> simp

/-- CentreOf, FrameOf. -/
def cenOK (F : List Qd) (q : Int) : Bool := thereB F q && decide (2 ≤ (qa F q.toNat).1)
def cenR (F : List Qd) (q : Int) : List Qd × Nat := treeL (mv (cellsOfQ F q.toNat) (-(2 ^ (levN F q.toNat - 2))) (-(2 ^ (levN F q.toNat - 2)))) (levN F q.toNat - 1) 0 0 F
def frmOK (F : List Qd) (q : Int) : Bool := thereB F q && inB 1 4 (qa F q.toNat).1
def frmR (F : List Qd) (q : Int) : List Qd × Nat := treeL (mv (cellsOfQ F q.toNat) (2 ^ (levN F q.toNat - 1)) (2 ^ (levN F q.toNat - 1))) (levN F q.toNat + 1) 0 0 F
theorem mv_mem (l : List Cl) (x y : Int) (c : Cl) : c ∈ l ↔ (c.1 + x, c.2 + y) ∈ mv l x y := by
  unfold mv
  rw [List.mem_map]
  constructor
  · intro h; exact ⟨c, h, rfl⟩
  · rintro ⟨d, hd, e⟩
    simp only [Prod.mk.injEq] at e
    have : d = c := Prod.ext (by omega) (by omega)
    rw [← this]; exact hd
theorem cen_join {F : List Qd} (hg : goodF F = true) {q : Nat} (hq : q < F.length) {n : Nat} (hn : levN F q = n + 2) : cenR F (q : Int) = joinF F (midK F q) := by
  unfold cenR
  rw [Int.toNat_natCast, hn]
  have h := cellsOfQ_is hg hq
  rw [hn] at h
  exact centre_tree (good_grows hg) h (fun c => mv_mem _ _ _ c)
theorem frm_join {F : List Qd} (hg : goodF F = true) {q : Nat} (hq : q < F.length) {n : Nat} (hn : levN F q = n + 1) (h4 : n < 4) : frmR F (q : Int) = joinF (frk ((treeL [] n 0 0 F).2 : Int) (qa F q).2 (treeL [] n 0 0 F).1 4).1 (frk ((treeL [] n 0 0 F).2 : Int) (qa F q).2 (treeL [] n 0 0 F).1 4).2 := by
  unfold frmR
  rw [Int.toNat_natCast, hn]
  have h := cellsOfQ_is hg hq
  rw [hn] at h
  exact frame_tree (good_grows hg) h4 h (fun c hc => by have := cellsOfQ_sq F q c hc; rw [hn] at this; exact this) (fun c => mv_mem _ _ _ c)
theorem there_to {F : List Qd} {q : Int} (h : thereB F q = true) : goodF F = true ∧ q.toNat < F.length ∧ ((q.toNat : Nat) : Int) = q := by
  obtain ⟨h1, h2, h3⟩ := there_bd h
  exact ⟨h1, by omega, by omega⟩
theorem set_grows {F : List Qd} {q : Int} {c : Cl} (al : Bool) (h : setOK F q c = true) : Grows (setR F q c al).1 := by
  simp only [setOK, Bool.and_eq_true] at h
  obtain ⟨h1, h2, _⟩ := there_to h.1
  exact (treeL_tr _ _ 0 0 F (levN_le h1 h2).1 (good_grows h1)).grows
theorem uni_grows {F : List Qd} {a b : Int} (h : twoOK F a b = true) : Grows (uniR F a b).1 := by
  simp only [twoOK, Bool.and_eq_true] at h
  obtain ⟨h1, h2, _⟩ := there_to h.1.1
  exact (treeL_tr _ _ 0 0 F (levN_le h1 h2).1 (good_grows h1)).grows
theorem wit_grows {F : List Qd} {a b : Int} (h : twoOK F a b = true) : Grows (witR F a b).1 := by
  simp only [twoOK, Bool.and_eq_true] at h
  obtain ⟨h1, h2, _⟩ := there_to h.1.1
  exact (treeL_tr _ _ 0 0 F (levN_le h1 h2).1 (good_grows h1)).grows
theorem clr_grows {F : List Qd} {q : Int} {a b : Cl} (h : clrOK F q a b = true) : Grows (clrR F q a b).1 := by
  simp only [clrOK, Bool.and_eq_true] at h
  obtain ⟨h1, h2, _⟩ := there_to h.1.1
  exact (treeL_tr _ _ 0 0 F (levN_le h1 h2).1 (good_grows h1)).grows
theorem cen_grows {F : List Qd} {q : Int} (h : cenOK F q = true) : Grows (cenR F q).1 := by
  simp only [cenOK, Bool.and_eq_true] at h
  obtain ⟨h1, h2, _⟩ := there_to h.1
  have := (levN_le h1 h2).1
  exact (treeL_tr _ _ 0 0 F (by omega) (good_grows h1)).grows
theorem frm_grows {F : List Qd} {q : Int} (h : frmOK F q = true) : Grows (frmR F q).1 := by
  simp only [frmOK, Bool.and_eq_true] at h
  obtain ⟨h1, h2, _⟩ := there_to h.1
  have h3 := inB_bd h.2
  exact (treeL_tr _ _ 0 0 F (by unfold levN; omega) (good_grows h1)).grows

end Go.Proofs.Ytmapbkefndbnnaa
