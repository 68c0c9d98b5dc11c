/- A tree that is framed: plain facts. -/
import Derived.Test.YtmapbkefndbnnaaAns
namespace Go.Proofs.Ytmapbkefndbnnaa
set_option linter.unusedVariables false

/-- Is a cell in the middle of a square of level n + 2? -/
def midB (n : Nat) (c : Cl) : Bool := inB (2 ^ n) (3 * 2 ^ n - 1) c.1 && inB (2 ^ n) (3 * 2 ^ n - 1) c.2
/-- What IsFramed answers. -/
def frdV (F : List Qd) (q : Int) : Bool := cenOK F q && (cellsOfQ F q.toNat).all (midB (levN F q.toNat - 2))
theorem midB_iff (n : Nat) (c : Cl) : midB n c = true ↔ ((2 : Int) ^ n ≤ c.1 ∧ c.1 < 2 ^ n + 2 ^ n + 2 ^ n) ∧ (2 : Int) ^ n ≤ c.2 ∧ c.2 < 2 ^ n + 2 ^ n + 2 ^ n := by
  unfold midB inB
  simp only [Bool.and_eq_true, decide_eq_true_eq]
  omega
/-- The forest and the quad behind the middle, and behind its frame. -/
def frmJ (n : Nat) (C : List Qd × Nat) : List Qd × Nat := joinF (frk ((treeL [] n 0 0 C.1).2 : Int) (qa C.1 C.2).2 (treeL [] n 0 0 C.1).1 4).1 (frk ((treeL [] n 0 0 C.1).2 : Int) (qa C.1 C.2).2 (treeL [] n 0 0 C.1).1 4).2
theorem framed_q {F : List Qd} (hg : goodF F = true) {q n : Nat} (hq : q < F.length) (hn : levN F q = n + 2) (h4 : n < 4) : (frmJ n (joinF F (midK F q))).2 = q ↔ (cellsOfQ F q).all (midB n) = true := by
  have hp := two_pow n
  have hpos := pow_pos' n
  have h := cellsOfQ_is hg hq
  rw [hn] at h
  have hc := cen_join hg hq hn
  unfold cenR at hc
  rw [Int.toNat_natCast, hn] at hc
  have hGF := good_grows hg
  have tr := treeL_tr (mv (cellsOfQ F q) (-(2 ^ n)) (-(2 ^ n))) (n + 1) 0 0 F (by omega) hGF
  have tb := treeL_is (mv (cellsOfQ F q) (-(2 ^ n)) (-(2 ^ n))) (n + 1) 0 0 F (by omega) hGF
  rw [show n + 2 - 2 = n by omega, show n + 2 - 1 = n + 1 by omega] at hc
  rw [hc] at tr tb
  generalize joinF F (midK F q) = C at *
  have hL := tb.congr (L' := cellsL C.1 (n + 1) C.2 0 0) fun c hc' => by
    have := tb.mem c
    unfold sqB at hc'
    constructor
    · intro h'; exact this.2 ⟨hc', h'⟩
    · intro h'; exact (this.1 h').2
  have hf := frame_tree (L' := mv (cellsL C.1 (n + 1) C.2 0 0) (2 ^ n) (2 ^ n)) tr.grows h4 hL (fun c hc' => cellsL_in C.1 _ _ _ _ c hc') (fun c => mv_mem _ _ _ c)
  have hq' := h.more tr.more tr.old
  have mem : ∀ c : Cl, c ∈ mv (cellsL C.1 (n + 1) C.2 0 0) (2 ^ n) (2 ^ n) ↔ midB n c = true ∧ c ∈ cellsOfQ F q := by
    intro c
    have e1 := mv_mem (cellsL C.1 (n + 1) C.2 0 0) (2 ^ n) (2 ^ n) (c.1 - 2 ^ n, c.2 - 2 ^ n)
    have e2 := mv_mem (cellsOfQ F q) (-(2 ^ n)) (-(2 ^ n)) c
    rw [show c = ((c.1 - 2 ^ n, c.2 - 2 ^ n).1 + 2 ^ n, (c.1 - 2 ^ n, c.2 - 2 ^ n).2 + 2 ^ n) from Prod.ext (by simp) (by simp), ← e1, tb.mem, midB_iff]
    rw [show (c.1 + -(2 ^ n), c.2 + -(2 ^ n)) = ((c.1 - 2 ^ n, c.2 - 2 ^ n) : Cl) from Prod.ext (by simp; omega) (by simp; omega)] at e2
    rw [← e2]
    simp only [Int.sub_add_cancel]
    rw [hp]
    constructor
    · rintro ⟨h1, h2⟩; exact ⟨⟨by omega, by omega⟩, h2⟩
    · rintro ⟨h1, h2⟩; exact ⟨by omega, h2⟩
  generalize mv (cellsL C.1 (n + 1) C.2 0 0) (2 ^ n) (2 ^ n) = L' at *
  unfold frmJ
  rw [← hf, List.all_eq_true]
  constructor
  · intro e c hc'
    have r := treeL_is L' (n + 2) 0 0 C.1 (by omega) tr.grows
    have t := treeL_tr L' (n + 2) 0 0 C.1 (by omega) tr.grows
    rw [e] at r
    have k := hq'.more t.more t.old
    have s := cellsOfQ_sq F q c hc'
    rw [hn] at s
    have := (r.mem c).1 ((k.mem c).2 ⟨s, hc'⟩)
    exact ((mem c).1 this.2).1
  · intro hall
    have := hq'.congr (L' := L') fun c hc' => by
      rw [mem c]
      constructor
      · intro h'; exact ⟨hall c h', h'⟩
      · intro h'; exact h'.2
    rw [treeL_there tr.grows this]

end Go.Proofs.Ytmapbkefndbnnaa
