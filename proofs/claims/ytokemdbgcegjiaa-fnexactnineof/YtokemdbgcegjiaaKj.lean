/- Texts of this seat, one behind the other: ShrI, NineP, SNine, SNineO, IGrid, IFill, IMid, INine. -/
import Derived.Test.YtokemdbgcegjiaaKh
import Derived.Test.YtokemdbgcegjiaaKd
import Derived.Test.YtokemdbgcegjiaaKi
import Derived.Test.YtokemdbgcegjiaaKe
import Derived.Test.YtokemdbgcegjiaaKf
import Derived.Deep.RegionHeld3
namespace Go.Proofs.Ytokemdbgcegjiaa
open Go.RowKit Go.Maps
set_option linter.unusedVariables false
set_option linter.unusedSimpArgs false
attribute [local go_sem ↓] Go.wp_at_zero Go.wp_at_succ

/-- Down, while the kids of k are marked: the first j are. -/
structure Down4 (F : List Qd) (q k j : Nat) (u : Nat → Bool) : Prop where
  down : Down F q k u
  at_ : u k = true
  first : ∀ i, i < j → u (kidq F k i) = true
theorem Down4.step {F : List Qd} {q k j : Nat} {u : Nat → Bool} (h : Down4 F q k j u) (h2 : 2 ≤ k) (hk : k ≤ q) (hj : j < 4) (hlt : kidq F k j < k) : Down4 F q k (j + 1) (fun x => if x = kidq F k j then true else u x) := by
  refine ⟨⟨fun x hx hu => ?_, ?_, fun y h1 h2' h3 hu i hi => ?_⟩, ?_, fun i hi => ?_⟩
  · by_cases e : x = kidq F k j
    · rw [e]; exact .kid (h.down.reach k hk h.at_) h2 hj
    · rw [if_neg e] at hu; exact h.down.reach x hx hu
  · by_cases e : q = kidq F k j
    · rw [if_pos e]
    · rw [if_neg e]; exact h.down.self
  · by_cases e : kidq F y i = kidq F k j
    · rw [if_pos e]
    · rw [if_neg e]
      by_cases e2 : y = kidq F k j
      · omega
      · rw [if_neg e2] at hu
        exact h.down.kids y h1 h2' h3 hu i hi
  · by_cases e : k = kidq F k j
    · rw [if_pos e]
    · rw [if_neg e]; exact h.at_
  · by_cases e : kidq F k i = kidq F k j
    · rw [if_pos e]
    · rw [if_neg e]
      by_cases e2 : i = j
      · rw [e2] at e; exact absurd rfl e
      · exact h.first i (by omega)
theorem Down4.done {F : List Qd} {q k : Nat} {u : Nat → Bool} (h : Down4 F q k 4 u) : Down F q (k - 1) u := by
  refine ⟨h.down.reach, h.down.self, fun y h1 h2 h3 hu i hi => ?_⟩
  by_cases e : y = k
  · subst e; exact h.first i hi
  · exact h.down.kids y (by omega) h2 h3 hu i hi
theorem Down.skip {F : List Qd} {q k : Nat} {u : Nat → Bool} (h : Down F q k u) (hu : u k = false) : Down F q (k - 1) u := by
  refine ⟨h.reach, h.self, fun y h1 h2 h3 hy i hi => ?_⟩
  by_cases e : y = k
  · subst e; rw [hu] at hy; cases hy
  · exact h.kids y (by omega) h2 h3 hy i hi
theorem BRow.below {w w' : World} {g n : Nat} {u : Nat → Bool} (h : BRow w g n u) (hb : Below w.heap.size w w') : BRow w' g n u := World.rowIs.of_block h (hb.block _ (World.rowIs.lt h))

theorem down_first (F : List Qd) (n0 : Nat) : Down F n0 n0 (fun j => if j = n0 then true else false) := by
  refine ⟨fun x hx hu => ?_, by simp, fun y h1 h2 => by omega⟩
  by_cases e : x = n0
  · rw [e]; exact .self
  · rw [if_neg e] at hu; cases hu
theorem brow_first (w : World) (n0 : Nat) : BRow (w.alloc (.cells ((madeCells #[.bool false] (n0 + 1)).setIfInBounds n0 (.bool true)) 4)) w.heap.size (n0 + 1) (fun j => if j = n0 then true else false) := by
  refine ⟨_, heap_alloc_new _ _, by simp [madeCells], fun i hi => ?_⟩
  rw [Array.getElem?_setIfInBounds]
  by_cases e : n0 = i
  · subst e; simp [madeCells]
  · have e2 : ¬ i = n0 := fun h => e h.symm
    simp [madeCells, hi, e, e2, Nat.mod_one]

theorem OwnI.iown {w : World} {base : Nat} {v : Value} {l : List Int} (h : OwnI w base v l) : IOwn w base w.heap.size v l := by
  have h0 := h
  rcases h.2 with ⟨rfl, hn⟩ | ⟨g, cap, cur, rfl, hb, hg, hcap, hm, hs, ht⟩
  · exact .inl ⟨rfl, List.eq_nil_of_length_eq_zero hn⟩
  · have hlt := (Array.getElem?_eq_some_iff.1 hg).1
    refine .inr ⟨g, cap, rfl, hcap, hb, hlt, Nat.le_refl _, fun j hj => ⟨?_, World.ownsRow.frozenAt h0 j, hlt⟩⟩
    have := World.ownsRow.cellAt h0 j (by omega)
    rw [iv_at hj] at this
    exact this
theorem shrV_le (F : List Qd) (q : Int) : (shrV F q).length ≤ 1048576 := by
  cases ht : thereB F q
  · simp [shrV, ht]
  · obtain ⟨hg, h0, h1⟩ := there_bd ht
    have h4 := good_len2 hg
    simp only [shrV, ht, if_true]
    unfold shrL
    split
    · rename_i h
      have hs := Classical.choose_spec h
      have := asc_len (N := F.length) hs.1 (fun x hx => by
        obtain ⟨n, rfl, hr⟩ := (hs.2 x).1 hx
        have := hr.le hg (by omega)
        omega)
      omega
    · simp

end Go.Proofs.Ytokemdbgcegjiaa

namespace Go.Proofs.Ytokemdbgcegjiaa
set_option linter.unusedVariables false

/-- The kid of a kid that stands at place t of the sixteen, row by row. -/
def gridq (F : List Qd) (q t : Nat) : Nat := kidq F (kidq F q (t / 8 * 2 + t % 4 / 2)) (t / 4 % 2 * 2 + t % 2)
/-- In which order they are come by. -/
def ordG (t : Nat) : Nat := (t / 8 * 2 + t % 4 / 2) * 4 + (t / 4 % 2 * 2 + t % 2)
def gridL (F : List Qd) (q : Nat) : List Int := (List.range 16).map fun t => (gridq F q t : Int)
theorem gridL_len (F : List Qd) (q : Nat) : (gridL F q).length = 16 := by simp [gridL]
theorem gridL_at (F : List Qd) (q : Nat) {t : Nat} (h : t < 16) : ia (gridL F q) t = (gridq F q t : Int) := by simp [gridL, ia, h]
theorem grid_is {L : List Cl} {F : List Qd} {n q : Nat} (h : IsT L F (n + 2) q 0 0) {t : Nat} (ht : t < 16) : IsT L F n (gridq F q t) (((t % 4 : Nat) : Int) * 2 ^ n) (((t / 4 : Nat) : Int) * 2 ^ n) := by
  have hp := two_pow n
  have k0 := (h.kid (t / 8 * 2 + t % 4 / 2) (by omega)).kid (t / 4 % 2 * 2 + t % 2) (by omega)
  have e1 : (0 : Int) + (((t / 8 * 2 + t % 4 / 2) % 2 : Nat) : Int) * 2 ^ (n + 1) + (((t / 4 % 2 * 2 + t % 2) % 2 : Nat) : Int) * 2 ^ n = ((t % 4 : Nat) : Int) * 2 ^ n := by
    rw [hp, show (t / 8 * 2 + t % 4 / 2) % 2 = t % 4 / 2 by omega, show (t / 4 % 2 * 2 + t % 2) % 2 = t % 2 by omega]
    rcases (show t % 4 = 0 ∨ t % 4 = 1 ∨ t % 4 = 2 ∨ t % 4 = 3 by omega) with e | e | e | e <;> rw [e, show t % 2 = t % 4 % 2 by omega, e] <;> simp <;> omega
  have e2 : (0 : Int) + (((t / 8 * 2 + t % 4 / 2) / 2 : Nat) : Int) * 2 ^ (n + 1) + (((t / 4 % 2 * 2 + t % 2) / 2 : Nat) : Int) * 2 ^ n = ((t / 4 : Nat) : Int) * 2 ^ n := by
    rw [hp, show (t / 8 * 2 + t % 4 / 2) / 2 = t / 4 / 2 by omega, show (t / 4 % 2 * 2 + t % 2) / 2 = t / 4 % 2 by omega]
    rcases (show t / 4 = 0 ∨ t / 4 = 1 ∨ t / 4 = 2 ∨ t / 4 = 3 by omega) with e | e | e | e <;> rw [e] <;> simp <;> omega
  rw [e1, e2] at k0
  exact k0
/-- The forest behind the first k of the nine, and the quads' numbers: as the specification makes them. -/
def nTo (L : List Cl) (n : Nat) (F : List Qd) : Nat → List Qd × List Int
  | 0 => (F, [])
  | k + 1 => ((treeL L (n + 1) (((k % 3 : Nat) : Int) * 2 ^ n) (((k / 3 : Nat) : Int) * 2 ^ n) (nTo L n F k).1).1, (nTo L n F k).2 ++ [((treeL L (n + 1) (((k % 3 : Nat) : Int) * 2 ^ n) (((k / 3 : Nat) : Int) * 2 ^ n) (nTo L n F k).1).2 : Int)])
theorem sq_grid (F : List Qd) (q : Nat) {k : Nat} (hk : k < 9) : sqW 3 4 (gridL F q) k = [(gridq F q (k / 3 * 4 + k % 3) : Int), (gridq F q (k / 3 * 4 + k % 3 + 1) : Int), (gridq F q (k / 3 * 4 + k % 3 + 4) : Int), (gridq F q (k / 3 * 4 + k % 3 + 5) : Int)] := by
  unfold sqW
  rw [gridL_at F q (by omega), gridL_at F q (by omega), gridL_at F q (by omega), show k / 3 * 4 + k % 3 + 4 + 1 = k / 3 * 4 + k % 3 + 5 by omega, gridL_at F q (by omega)]
theorem grid_facts {L : List Cl} {F : List Qd} (hG : Grows F) {n q : Nat} (hn : n + 2 ≤ 5) (h : IsT L F (n + 2) q 0 0) (k : Nat) (hk : k ≤ 9) : JTo F (n : Int) k (jTo F (sqW 3 4 (gridL F q)) k) := by
  have e : ∀ i, i < 9 → ∀ j, j < 4 → ∃ m, m < 16 ∧ ia (sqW 3 4 (gridL F q) i) j = (gridq F q m : Int) := by
    intro i hi j hj
    rw [sq_grid F q hi]
    rcases (show j = 0 ∨ j = 1 ∨ j = 2 ∨ j = 3 by omega) with rfl | rfl | rfl | rfl <;> exact ⟨_, by omega, rfl⟩
  refine jTo_facts hG (fun i _ => rfl) (fun i hi j hj => ?_) (fun i hi => ?_) (by omega) k hk
  · obtain ⟨m, hm, em⟩ := e i hi j hj
    have := (grid_is h hm).lt hG.two
    rw [em]; omega
  · obtain ⟨m, hm, em⟩ := e i hi 0 (by omega)
    rw [em]
    have := (grid_is h hm).lev hG
    simpa using this
theorem nTo_jTo {L : List Cl} {F : List Qd} (hG : Grows F) {n q : Nat} (hn : n + 2 ≤ 5) (h : IsT L F (n + 2) q 0 0) : ∀ k, k ≤ 9 → nTo L n F k = jTo F (sqW 3 4 (gridL F q)) k
  | 0, _ => rfl
  | k + 1, hk => by
    have ih := nTo_jTo hG hn h k (by omega)
    have hf := grid_facts hG hn h k (by omega)
    simp only [nTo, jTo, ih, sq_grid F q (show k < 9 by omega)]
    generalize jTo F (sqW 3 4 (gridL F q)) k = R at *
    have m0 := (grid_is h (t := k / 3 * 4 + k % 3) (by omega)).more hf.more hf.old
    have m1 := (grid_is h (t := k / 3 * 4 + k % 3 + 1) (by omega)).more hf.more hf.old
    have m2 := (grid_is h (t := k / 3 * 4 + k % 3 + 4) (by omega)).more hf.more hf.old
    have m3 := (grid_is h (t := k / 3 * 4 + k % 3 + 5) (by omega)).more hf.more hf.old
    rw [show (k / 3 * 4 + k % 3) % 4 = k % 3 by omega, show (k / 3 * 4 + k % 3) / 4 = k / 3 by omega] at m0
    rw [show (k / 3 * 4 + k % 3 + 1) % 4 = k % 3 + 1 by omega, show (k / 3 * 4 + k % 3 + 1) / 4 = k / 3 by omega] at m1
    rw [show (k / 3 * 4 + k % 3 + 4) % 4 = k % 3 by omega, show (k / 3 * 4 + k % 3 + 4) / 4 = k / 3 + 1 by omega] at m2
    rw [show (k / 3 * 4 + k % 3 + 5) % 4 = k % 3 + 1 by omega, show (k / 3 * 4 + k % 3 + 5) / 4 = k / 3 + 1 by omega] at m3
    have a1 : ((k % 3 + 1 : Nat) : Int) * 2 ^ n = ((k % 3 : Nat) : Int) * 2 ^ n + 2 ^ n := by
      rw [show ((k % 3 + 1 : Nat) : Int) = ((k % 3 : Nat) : Int) + 1 by omega, Int.add_mul, Int.one_mul]
    have a2 : ((k / 3 + 1 : Nat) : Int) * 2 ^ n = ((k / 3 : Nat) : Int) * 2 ^ n + 2 ^ n := by
      rw [show ((k / 3 + 1 : Nat) : Int) = ((k / 3 : Nat) : Int) + 1 by omega, Int.add_mul, Int.one_mul]
    rw [a1] at m1 m3
    rw [a2] at m2 m3
    simp only [treeL, treeL_there hf.grows m0, treeL_there hf.grows m1, treeL_there hf.grows m2, treeL_there hf.grows m3]
/-- What NineOf may be asked, and what it makes. -/
def nineOK (F : List Qd) (q : Int) : Bool := quadB F q 2
def nineR (F : List Qd) (q : Int) : List Qd × List Int := jTo F (sqW 3 4 (gridL F q.toNat)) 9
theorem nine_is {F : List Qd} {q : Int} (h : quadB F q 2 = true) : goodF F = true ∧ 0 ≤ q ∧ q < (F.length : Int) ∧ ∃ n, n + 2 ≤ 5 ∧ (qa F q.toNat).1 = ((n + 2 : Nat) : Int) ∧ levN F q.toNat = n + 2 ∧ IsT (cellsOfQ F q.toNat) F (n + 2) q.toNat 0 0 := by
  unfold quadB at h
  simp only [Bool.and_eq_true, decide_eq_true_eq] at h
  obtain ⟨hg, h0, h1⟩ := there_bd h.1
  have hlv := levN_eq hg h0 h1
  refine ⟨hg, h0, h1, levN F q.toNat - 2, by omega, by omega, by omega, ?_⟩
  have := IsT.self hg (levN F q.toNat) q.toNat 0 0 (by omega) hlv.1
  rw [show levN F q.toNat - 2 + 2 = levN F q.toNat by omega]
  exact this
theorem nineR_facts {F : List Qd} {q : Int} (h : quadB F q 2 = true) : ∃ n : Nat, JTo F (n : Int) 9 (nineR F q) := by
  obtain ⟨hg, h0, h1, n, hn, _, _, ht⟩ := nine_is h
  exact ⟨n, grid_facts (good_grows hg) hn ht 9 (Nat.le_refl _)⟩
theorem nine_small (F : List Qd) (q : Int) : ((anF (nineOK F q) (nineR F q)).length ≤ 1048576 ∧ KidsLe (anF (nineOK F q) (nineR F q)) ∧ posF (nsF (anF (nineOK F q) (nineR F q))) (anF (nineOK F q) (nineR F q)).length ≤ 8388608) ∧ (anN (nineOK F q) (nineR F q)).length ≤ 9 := by
  cases h : nineOK F q
  · exact ⟨nil_small, by simp [anN]⟩
  · obtain ⟨n, hf⟩ := nineR_facts h
    generalize nineR F q = R at *
    refine ⟨tellF_small hf.grows, ?_⟩
    unfold anN
    split
    · have := hf.len
      omega
    · simp

end Go.Proofs.Ytokemdbgcegjiaa

namespace Go.Proofs.Ytokemdbgcegjiaa
open Go.RowKit Go.Maps
set_option linter.unusedVariables false
set_option linter.unusedSimpArgs false
attribute [local go_sem ↓] Go.wp_at_zero Go.wp_at_succ

theorem OwnI.type {w : World} {base : Nat} {v : Value} {l : List Int} (h : OwnI w base v l) {x : Nat} (hx : v.ownBlock = some x) : ∃ cur, w.heap[x]? = some (.cells cur 3 (0, 0)) := by
  rcases h.2 with ⟨rfl, _⟩ | ⟨g, cap, cur, rfl, _, hg, _⟩
  · simp [Value.ownBlock] at hx
  · simp [Value.ownBlock] at hx
    subst hx
    exact ⟨cur, hg⟩
theorem OwnI.keepT {w w' : World} {base : Nat} {v : Value} {l : List Int} (h : OwnI w base v l) (k : KeepT w w') : OwnI w' base v l := by
  refine ⟨h.1, ?_⟩
  rcases h.2 with hn | ⟨g, cap, cur, rfl, hb, hg, r⟩
  · exact .inl hn
  · exact .inr ⟨g, cap, cur, rfl, hb, (k.2 g cur _ _ hg (by decide) (by decide)).trans hg, r⟩
/-- Numbers are appended that lie beside a forest. -/
theorem SF.app {w w' : World} {base p : Nat} {v : Value} {F : List Qd} {gg gg' : Option Nat} (h : SF w base p v F gg) (hint : ∀ x, gg = some x → ∃ cur fr, w.heap[x]? = some (.cells cur 3 fr)) (hg : w.grownBy w' gg) (h' : gg' = gg ∨ gg' = some w.heap.size) : SF w' base p v F gg' := by
  have hbx : w'.rowIs p 57 2 (fun j => if j = 0 then v else .bool (decide (400 < F.length))) := by
    refine h.box.of_block (hg.block p h.box.lt ?_)
    intro e
    obtain ⟨cur, fr, hc⟩ := hint p e.symm
    obtain ⟨c, hc2, _⟩ := h.box
    rw [hc] at hc2
    simp at hc2
  refine ⟨?_, hbx, h.low⟩
  obtain ⟨ad, h1, h2⟩ := h.gf
  refine ⟨ad, World.ownsRow.kept h1 hg ?_, fun i hi => ⟨fun j hj => ?_, (h2 i hi).2⟩⟩
  · cases hv : v.ownBlock with
    | none => exact .inl rfl
    | some k =>
      refine .inr fun e => ?_
      obtain ⟨cur, fr, hc⟩ := hint k e.symm
      obtain ⟨cur2, hc2⟩ := h.gf.type hv
      rw [hc] at hc2
      simp at hc2
  · obtain ⟨b, o, cur, fr, e1, e2, e3, e4⟩ := (h2 i hi).1 j hj
    have hb := hg.block b (lt_of_blk e3) e2.2
    refine ⟨b, o, cur, fr, e1, ⟨e2.1, ?_⟩, hb.trans e3, (World.cell?_of_block (a := ⟨b, o + j, none⟩) hb).trans e4⟩
    rcases h' with rfl | rfl
    · exact e2.2
    · intro e; have := lt_of_blk e3; cases e; omega
theorem SF.any {w : World} {base p : Nat} {v : Value} {F : List Qd} {gg : Option Nat} (h : SF w base p v F gg) : SF w base p v F := ⟨h.gf.any, h.box, h.low⟩
theorem TyS.app {w w' : World} {a : Option Addr} {l : List Cl} {gg : Option Nat} (h : TyS w a l) (hint : ∀ x, gg = some x → ∃ cur fr, w.heap[x]? = some (.cells cur 3 fr)) (hg : w.grownBy w' gg) : TyS w' a l := by
  have key : ∀ g o, a = some ⟨g, o, none⟩ → w'.heap[g]? = w.heap[g]? := by
    intro g o e
    obtain ⟨c, fr, hc⟩ := h.2 g o e
    refine hg.block g (lt_of_blk hc) ?_
    intro e2
    obtain ⟨cur, fr2, hc2⟩ := hint g e2.symm
    rw [hc] at hc2
    simp at hc2
  refine ⟨fun i hi => ?_, fun g o e => ?_⟩
  · obtain ⟨b, o, e, hb, p1, p2⟩ := h.1 i hi
    have hh := key b o e
    exact ⟨b, o, e, Nat.lt_of_lt_of_le hb hg.size, (World.cell?_of_block (a := ⟨b, o + i * 2, none⟩) hh).trans p1, (World.cell?_of_block (a := ⟨b, o + i * 2 + 1, none⟩) hh).trans p2⟩
  · obtain ⟨c, fr, hc⟩ := h.2 g o e
    exact ⟨c, fr, (key g o e).trans hc⟩
theorem KeepT.app {w0 w w' : World} {gg : Option Nat} (h : KeepT w0 w) (hn : ∀ x, gg = some x → w0.heap.size ≤ x) (hg : w.grownBy w' gg) : KeepT w0 w' := by
  refine ⟨Nat.le_trans h.1 hg.size, fun k c t fr hk h1 h2 => ?_⟩
  have e := h.2 k c t fr hk h1 h2
  refine (hg.block k (Nat.lt_of_lt_of_le (lt_of_blk hk) h.1) ?_).trans e
  intro e2
  have := hn k e2.symm
  have := lt_of_blk hk
  omega
/-- What stands while the nine are made. -/
structure NineS (w0 w : World) (base p : Nat) (la : Option Addr) (L : List Cl) (ov : Value) (R : List Qd × List Int) : Prop where
  sf : ∃ v, SF w base p v R.1 ov.ownBlock
  own : OwnI w w0.heap.size ov R.2
  cells : TyS w la L
  bel : Below base w0 w
  keep : KeepT w0 w
theorem NineS.step {w0 w w' : World} {base p : Nat} {la : Option Addr} {L : List Cl} {ov : Value} {R : List Qd × List Int} (h : NineS w0 w base p la L ov R) (hb : Below w.heap.size w w') : NineS w0 w' base p la L ov R := by
  obtain ⟨v, hs⟩ := h.sf
  exact ⟨⟨v, hs.below hb⟩, h.own.below hb, h.cells.keep (KeepT.of hb), h.bel.trans (hb.mono (Nat.le_trans hs.low (Nat.le_of_lt hs.box.lt))), h.keep.trans (KeepT.of hb)⟩
/-- A round of it. -/
theorem NineS.round {w0 w w1 w' : World} {base p : Nat} {la : Option Addr} {L : List Cl} {ov ov' : Value} {R : List Qd × List Int} {T : List Qd × Nat} (h : NineS w0 w base p la L ov R) (hb0 : base ≤ w0.heap.size) {v1 : Value} (hs : SF w1 base p v1 T.1 ov.ownBlock) (hb1 : Below base w w1) (hk1 : KeepT w w1) {w2 : World} (hb2 : Below w1.heap.size w1 w2) (ho : OwnI w' w0.heap.size ov' (R.2 ++ [(T.2 : Int)])) (hg : w2.grownBy w' ov.ownBlock) (hv : ov'.ownBlock = ov.ownBlock ∨ ov'.ownBlock = some w2.heap.size) : NineS w0 w' base p la L ov' (T.1, R.2 ++ [(T.2 : Int)]) := by
  have hk2 := hk1.trans (KeepT.of hb2)
  have ho2 := h.own.keepT hk2
  have hint : ∀ x, ov.ownBlock = some x → ∃ cur fr, w2.heap[x]? = some (.cells cur 3 fr) := fun x hx => by obtain ⟨c, hc⟩ := ho2.type hx; exact ⟨c, _, hc⟩
  have hlo : ∀ x, ov.ownBlock = some x → w0.heap.size ≤ x := fun x hx => (ho2.lt x hx).1
  have hbl : base ≤ w1.heap.size := Nat.le_trans hs.low (Nat.le_of_lt hs.box.lt)
  exact ⟨⟨v1, SF.app (hs.below hb2) hint hg hv⟩, ho, (h.cells.keep hk2).app hint hg, ((h.bel.trans hb1).trans (hb2.mono hbl)).grown hg (Nat.le_trans hbl hb2.size) (fun k e => Nat.le_trans hb0 (hlo k e)), (h.keep.trans hk2).app hlo hg⟩

set_option maxHeartbeats 16000000 in
set_option maxRecDepth 100000 in
theorem c_snine {F : List Qd} (hf : FineF F) (hGr : Grows F) (hlen : F.length ≤ 400) (q : Nat) (hq : q < F.length) (n : Nat) (hn : n + 2 ≤ 5) (hlv : levN F q = n + 2) (hT : IsT (cellsOfQ F q) F (n + 2) q 0 0) (base p : Nat) (v : Value) (w : World) (hS : SF w base p v F) :
    Calls Try.prog 31 #[.pointer (some ⟨p, 0, none⟩), .int .i64 (q : Int)] w fun e w' => ∃ v' ov, e = .returned ov ∧ SF w' base p v' (jTo F (sqW 3 4 (gridL F q)) 9).1 ∧ OwnI w' w.heap.size ov (jTo F (sqW 3 4 (gridL F q)) 9).2 ∧ Below base w w' ∧ KeepT w w' := by
  obtain ⟨va, vc, rfl, hca, hcm, hQ⟩ := hS.gf.form
  obtain ⟨_, _, hl5, hlev⟩ := fine_levF hf hq
  have HLV := hid (c_level (q : Int) w hS.gf hS.c0 (by omega) (by omega))
  rw [Int.toNat_natCast, hlev, hlv] at HLV
  have hbs : base ≤ w.heap.size := Nat.le_trans hS.low (Nat.le_of_lt hS.box.lt)
  have HCE := hid (c_l3CellsAllF hf va vc (q : Int) w hQ (by omega) (by omega))
  rw [Int.toNat_natCast] at HCE
  have HCF := hid (cells_few F q hl5)
  have HJF := hid (fun k hk => grid_facts hGr hn hT k hk)
  have HNJ := hid (fun k hk => nTo_jTo hGr hn hT k hk)
  have HNS := hid (fun k (hk : k < 9) => (show nTo (cellsOfQ F q) n F (k + 1) = ((treeL (cellsOfQ F q) (n + 1) (((k % 3 : Nat) : Int) * 2 ^ n) (((k / 3 : Nat) : Int) * 2 ^ n) (nTo (cellsOfQ F q) n F k).1).1, (nTo (cellsOfQ F q) n F k).2 ++ [((treeL (cellsOfQ F q) (n + 1) (((k % 3 : Nat) : Int) * 2 ^ n) (((k / 3 : Nat) : Int) * 2 ^ n) (nTo (cellsOfQ F q) n F k).1).2 : Int)]) from rfl))
  have HSF := hid hS
  have HFI := hid hcm
  have x0 := hS.c0
  clear hQ hlev hS hT hlv hf
  generalize cellsOfQ F q = CL at *
  generalize hNT : (fun k => nTo CL n F k) = NT at *
  generalize hJT : (fun k => jTo F (sqW 3 4 (gridL F q)) k) = JT at *
  have HNTE := hid (fun k => congrFun hNT k)
  have HJTE := hid (fun k => congrFun hJT k)
  have HE : Hid (∀ k, k ≤ 9 → NT k = JT k ∧ JTo F (n : Int) k (NT k)) := fun k hk => by
    have e1 := HNTE.out k
    have e2 := HJTE.out k
    have e3 := HNJ.out k hk
    have e4 := HJF.out k hk
    rw [← e1, ← e2]
    exact ⟨e3, by rw [e3]; exact e4⟩
  have HST : Hid (∀ k, k < 9 → NT (k + 1) = ((treeL CL (n + 1) (((k % 3 : Nat) : Int) * 2 ^ n) (((k / 3 : Nat) : Int) * 2 ^ n) (NT k).1).1, (NT k).2 ++ [((treeL CL (n + 1) (((k % 3 : Nat) : Int) * 2 ^ n) (((k / 3 : Nat) : Int) * 2 ^ n) (NT k).1).2 : Int)])) := fun k hk => by
    have e1 := HNTE.out k
    have e2 := HNTE.out (k + 1)
    rw [← e1, ← e2]
    exact HNS.out k hk
  have HN0 : Hid (NT 0 = (F, [])) := by
    have e1 := HNTE.out 0
    rw [← e1]; exact (rfl : _ = _)
  have HGOAL : Hid (jTo F (sqW 3 4 (gridL F q)) 9 = NT 9) := by
    have e2 := HJTE.out 9
    rw [(HE.out 9 (by omega)).1, ← e2]; exact (rfl : _ = _)
  rw [HGOAL.out]
  clear HNTE HJTE HNJ HJF HNS HGOAL hNT hJT
  have HBS := hid hbs
  clear hbs
  rcases (show n = 0 ∨ n = 1 ∨ n = 2 ∨ n = 3 by omega) with rfl | rfl | rfl | rfl
  · go_enter Try.func31, Try.ntmps31
    go_wp2_with fail
    refine HLV.out.mono ?_
    rintro e w0 ⟨rfl, rfl⟩
    go_wp2_with fail
    refine HCE.out.mono ?_
    rintro e w1 ⟨v1, rfl, hO1, hb1⟩
    obtain ⟨a1, c1, rfl, _⟩ := hO1.form
    have HN1 := hid (show NineS w0 w1 base p a1 CL (.slice none 0 0) (NT 0) from by
      rw [HN0.out]
      exact ⟨⟨_, (HSF.out.below hb1)⟩, OwnI.nil _ _, hO1.tys.2, hb1.mono HBS.out, KeepT.of hb1⟩)
    clear hO1 hb1 HCE HLV x0
    go_wp2_with fail
    go_loopw [8, 9] (fun ov iv wr => ∃ k : Nat, k ≤ 3 ∧ iv = .int .i64 k ∧ Hid (NineS w0 wr base p a1 CL ov (NT (k * 3)))) (fun _ iv _ => 3 - (intOf iv).toNat)
    case atStart => exact ⟨0, by omega, rfl, HN1.out⟩
    case round =>
      clear HN1
      obtain ⟨k, hk, rfl, HN⟩ := hrel
      by_cases hlt : k < 3
      · have hlt' : (k : Int) < 3 := by omega
        go_wp2
        go_loopw [8, 10] (fun ov iv wr => ∃ j : Nat, j ≤ 3 ∧ iv = .int .i64 j ∧ Hid (NineS w0 wr base p a1 CL ov (NT (k * 3 + j)))) (fun _ iv _ => 3 - (intOf iv).toNat)
        case atStart => exact ⟨0, by omega, rfl, HN.out⟩
        case round =>
          clear HN
          obtain ⟨j, hj, rfl, HN⟩ := hrel
          by_cases hjt : j < 3
          · have hjt' : (j : Int) < 3 := by omega
            obtain ⟨hE1, hE2⟩ := HE.out (k * 3 + j) (by omega)
            have HS1 := hid (HST.out (k * 3 + j) (by omega))
            rw [show (k * 3 + j) % 3 = j by omega, show (k * 3 + j) / 3 = k by omega, show (j : Int) * 2 ^ 0 = (j : Int) by rw [show (2 : Int) ^ 0 = 1 from rfl] <;> omega, show (k : Int) * 2 ^ 0 = (k : Int) by rw [show (2 : Int) ^ 0 = 1 from rfl] <;> omega] at HS1
            have hm := hE2.most
            obtain ⟨vs, hsf⟩ := HN.out.sf
            have HTR := hid (c_streeE (gg := u8.ownBlock) CL a1 c1 (by have := HCF.out; omega) base p 1 ((j : Int)) ((k : Int)) vs (NT (k * 3 + j)).1 wr (by omega) hE2.grows (by omega) (by omega) (by omega) (by omega) (by omega) hsf HN.out.cells (fun z hz => (HN.out.own.lt z hz).2))
            have HR2 := hid (show (NT (k * 3 + j)).2.length ≤ 9 by have := hE2.len; omega)
            clear hE1 hE2 hsf
            go_wp2_with fail
            refine HTR.out.mono ?_
            rintro e w5 ⟨v5, rfl, hs5, hb5, hk5⟩
            change NT (k * 3 + j + 1) = ((treeL CL 1 ((j : Int)) ((k : Int)) (NT (k * 3 + j)).1).1, (NT (k * 3 + j)).2 ++ [((treeL CL 1 ((j : Int)) ((k : Int)) (NT (k * 3 + j)).1).2 : Int)]) at HS1
            have HS5 := hid hs5
            have HB5 := hid hb5
            have HK5 := hid hk5
            clear hs5 hb5 hk5 HTR
            generalize treeL CL 1 ((j : Int)) ((k : Int)) (NT (k * 3 + j)).1 = TT at *
            replace HS1 := hid HS1
            have hb6 := (Below.refl w5.heap.size w5).alloc (Nat.le_refl _) (.cells #[.int .i64 (TT.2 : Int)] 3)
            have HB6 := hid hb6
            have HO6 := hid ((HN.out.own.keepT HK5.out).below hb6)
            have HSZ6 := hid (show w0.heap.size ≤ (w5.alloc (.cells #[.int .i64 (TT.2 : Int)] 3)).heap.size from Nat.le_trans HN.out.keep.1 (Nat.le_trans HK5.out.1 hb6.size))
            clear hb6
            generalize hR2 : (NT (k * 3 + j)).2 = R2 at *
            go_wp2_with (at_builtin; refine wpList_appI rfl (.tmp 32) (.tmp 44) rfl w0.heap.size _ R2 [(TT.2 : Int)] (some ⟨w5.heap.size, 0, none⟩) 1 1 rfl HO6.out rfl rfl (iseg_block (heap_alloc_new w5 _)) (by intro h; cases h) (by have := HR2.out; simp; omega) HSZ6.out ?_; intro v9 w9 hO9 hG9 hv9; have HN9 := hid (show NineS w0 w9 base p a1 CL v9 (TT.1, R2 ++ [(TT.2 : Int)]) from by rw [← hR2]; exact NineS.round HN.out HBS.out HS5.out HB5.out HK5.out HB6.out (by rw [hR2]; exact hO9) hG9 hv9))
            go_roundw
            case rel => exact ⟨j + 1, by omega, by go_num, by rw [show k * 3 + (j + 1) = k * 3 + j + 1 by omega, HS1.out]; exact HN9.out⟩
            case measure => simp [intOf]; omega
          · obtain rfl : j = 3 := by omega
            go_wp2
            go_roundw
            case rel => exact ⟨k + 1, by omega, by go_num, by rw [show (k + 1) * 3 = k * 3 + 3 by omega]; exact HN.out⟩
            case measure => simp [intOf]; omega
      · obtain rfl : k = 3 := by omega
        obtain ⟨vs, hsf⟩ := HN.out.sf
        have HZ := hid hsf.any
        clear hsf
        go_wp2
        go_ret
        exact ⟨vs, _, rfl, HZ.out, HN.out.own, HN.out.bel, HN.out.keep⟩
  · go_enter Try.func31, Try.ntmps31
    go_wp2_with fail
    refine HLV.out.mono ?_
    rintro e w0 ⟨rfl, rfl⟩
    go_wp2_with fail
    refine HCE.out.mono ?_
    rintro e w1 ⟨v1, rfl, hO1, hb1⟩
    obtain ⟨a1, c1, rfl, _⟩ := hO1.form
    have HN1 := hid (show NineS w0 w1 base p a1 CL (.slice none 0 0) (NT 0) from by
      rw [HN0.out]
      exact ⟨⟨_, (HSF.out.below hb1)⟩, OwnI.nil _ _, hO1.tys.2, hb1.mono HBS.out, KeepT.of hb1⟩)
    clear hO1 hb1 HCE HLV x0
    go_wp2_with fail
    go_loopw [8, 9] (fun ov iv wr => ∃ k : Nat, k ≤ 3 ∧ iv = .int .i64 k ∧ Hid (NineS w0 wr base p a1 CL ov (NT (k * 3)))) (fun _ iv _ => 3 - (intOf iv).toNat)
    case atStart => exact ⟨0, by omega, rfl, HN1.out⟩
    case round =>
      clear HN1
      obtain ⟨k, hk, rfl, HN⟩ := hrel
      by_cases hlt : k < 3
      · have hlt' : (k : Int) < 3 := by omega
        go_wp2
        go_loopw [8, 10] (fun ov iv wr => ∃ j : Nat, j ≤ 3 ∧ iv = .int .i64 j ∧ Hid (NineS w0 wr base p a1 CL ov (NT (k * 3 + j)))) (fun _ iv _ => 3 - (intOf iv).toNat)
        case atStart => exact ⟨0, by omega, rfl, HN.out⟩
        case round =>
          clear HN
          obtain ⟨j, hj, rfl, HN⟩ := hrel
          by_cases hjt : j < 3
          · have hjt' : (j : Int) < 3 := by omega
            obtain ⟨hE1, hE2⟩ := HE.out (k * 3 + j) (by omega)
            have HS1 := hid (HST.out (k * 3 + j) (by omega))
            rw [show (k * 3 + j) % 3 = j by omega, show (k * 3 + j) / 3 = k by omega, show (j : Int) * 2 ^ 1 = (j : Int) * 2 by rw [show (2 : Int) ^ 1 = 2 from rfl] <;> omega, show (k : Int) * 2 ^ 1 = (k : Int) * 2 by rw [show (2 : Int) ^ 1 = 2 from rfl] <;> omega] at HS1
            have hm := hE2.most
            obtain ⟨vs, hsf⟩ := HN.out.sf
            have HTR := hid (c_streeE (gg := u8.ownBlock) CL a1 c1 (by have := HCF.out; omega) base p 2 ((j : Int) * 2) ((k : Int) * 2) vs (NT (k * 3 + j)).1 wr (by omega) hE2.grows (by omega) (by omega) (by omega) (by omega) (by omega) hsf HN.out.cells (fun z hz => (HN.out.own.lt z hz).2))
            have HR2 := hid (show (NT (k * 3 + j)).2.length ≤ 9 by have := hE2.len; omega)
            clear hE1 hE2 hsf
            go_wp2_with fail
            refine HTR.out.mono ?_
            rintro e w5 ⟨v5, rfl, hs5, hb5, hk5⟩
            change NT (k * 3 + j + 1) = ((treeL CL 2 ((j : Int) * 2) ((k : Int) * 2) (NT (k * 3 + j)).1).1, (NT (k * 3 + j)).2 ++ [((treeL CL 2 ((j : Int) * 2) ((k : Int) * 2) (NT (k * 3 + j)).1).2 : Int)]) at HS1
            have HS5 := hid hs5
            have HB5 := hid hb5
            have HK5 := hid hk5
            clear hs5 hb5 hk5 HTR
            generalize treeL CL 2 ((j : Int) * 2) ((k : Int) * 2) (NT (k * 3 + j)).1 = TT at *
            replace HS1 := hid HS1
            have hb6 := (Below.refl w5.heap.size w5).alloc (Nat.le_refl _) (.cells #[.int .i64 (TT.2 : Int)] 3)
            have HB6 := hid hb6
            have HO6 := hid ((HN.out.own.keepT HK5.out).below hb6)
            have HSZ6 := hid (show w0.heap.size ≤ (w5.alloc (.cells #[.int .i64 (TT.2 : Int)] 3)).heap.size from Nat.le_trans HN.out.keep.1 (Nat.le_trans HK5.out.1 hb6.size))
            clear hb6
            generalize hR2 : (NT (k * 3 + j)).2 = R2 at *
            go_wp2_with (at_builtin; refine wpList_appI rfl (.tmp 32) (.tmp 44) rfl w0.heap.size _ R2 [(TT.2 : Int)] (some ⟨w5.heap.size, 0, none⟩) 1 1 rfl HO6.out rfl rfl (iseg_block (heap_alloc_new w5 _)) (by intro h; cases h) (by have := HR2.out; simp; omega) HSZ6.out ?_; intro v9 w9 hO9 hG9 hv9; have HN9 := hid (show NineS w0 w9 base p a1 CL v9 (TT.1, R2 ++ [(TT.2 : Int)]) from by rw [← hR2]; exact NineS.round HN.out HBS.out HS5.out HB5.out HK5.out HB6.out (by rw [hR2]; exact hO9) hG9 hv9))
            go_roundw
            case rel => exact ⟨j + 1, by omega, by go_num, by rw [show k * 3 + (j + 1) = k * 3 + j + 1 by omega, HS1.out]; exact HN9.out⟩
            case measure => simp [intOf]; omega
          · obtain rfl : j = 3 := by omega
            go_wp2
            go_roundw
            case rel => exact ⟨k + 1, by omega, by go_num, by rw [show (k + 1) * 3 = k * 3 + 3 by omega]; exact HN.out⟩
            case measure => simp [intOf]; omega
      · obtain rfl : k = 3 := by omega
        obtain ⟨vs, hsf⟩ := HN.out.sf
        have HZ := hid hsf.any
        clear hsf
        go_wp2
        go_ret
        exact ⟨vs, _, rfl, HZ.out, HN.out.own, HN.out.bel, HN.out.keep⟩
  · go_enter Try.func31, Try.ntmps31
    go_wp2_with fail
    refine HLV.out.mono ?_
    rintro e w0 ⟨rfl, rfl⟩
    go_wp2_with fail
    refine HCE.out.mono ?_
    rintro e w1 ⟨v1, rfl, hO1, hb1⟩
    obtain ⟨a1, c1, rfl, _⟩ := hO1.form
    have HN1 := hid (show NineS w0 w1 base p a1 CL (.slice none 0 0) (NT 0) from by
      rw [HN0.out]
      exact ⟨⟨_, (HSF.out.below hb1)⟩, OwnI.nil _ _, hO1.tys.2, hb1.mono HBS.out, KeepT.of hb1⟩)
    clear hO1 hb1 HCE HLV x0
    go_wp2_with fail
    go_loopw [8, 9] (fun ov iv wr => ∃ k : Nat, k ≤ 3 ∧ iv = .int .i64 k ∧ Hid (NineS w0 wr base p a1 CL ov (NT (k * 3)))) (fun _ iv _ => 3 - (intOf iv).toNat)
    case atStart => exact ⟨0, by omega, rfl, HN1.out⟩
    case round =>
      clear HN1
      obtain ⟨k, hk, rfl, HN⟩ := hrel
      by_cases hlt : k < 3
      · have hlt' : (k : Int) < 3 := by omega
        go_wp2
        go_loopw [8, 10] (fun ov iv wr => ∃ j : Nat, j ≤ 3 ∧ iv = .int .i64 j ∧ Hid (NineS w0 wr base p a1 CL ov (NT (k * 3 + j)))) (fun _ iv _ => 3 - (intOf iv).toNat)
        case atStart => exact ⟨0, by omega, rfl, HN.out⟩
        case round =>
          clear HN
          obtain ⟨j, hj, rfl, HN⟩ := hrel
          by_cases hjt : j < 3
          · have hjt' : (j : Int) < 3 := by omega
            obtain ⟨hE1, hE2⟩ := HE.out (k * 3 + j) (by omega)
            have HS1 := hid (HST.out (k * 3 + j) (by omega))
            rw [show (k * 3 + j) % 3 = j by omega, show (k * 3 + j) / 3 = k by omega, show (j : Int) * 2 ^ 2 = (j : Int) * 4 by rw [show (2 : Int) ^ 2 = 4 from rfl] <;> omega, show (k : Int) * 2 ^ 2 = (k : Int) * 4 by rw [show (2 : Int) ^ 2 = 4 from rfl] <;> omega] at HS1
            have hm := hE2.most
            obtain ⟨vs, hsf⟩ := HN.out.sf
            have HTR := hid (c_streeE (gg := u8.ownBlock) CL a1 c1 (by have := HCF.out; omega) base p 3 ((j : Int) * 4) ((k : Int) * 4) vs (NT (k * 3 + j)).1 wr (by omega) hE2.grows (by omega) (by omega) (by omega) (by omega) (by omega) hsf HN.out.cells (fun z hz => (HN.out.own.lt z hz).2))
            have HR2 := hid (show (NT (k * 3 + j)).2.length ≤ 9 by have := hE2.len; omega)
            clear hE1 hE2 hsf
            go_wp2_with fail
            refine HTR.out.mono ?_
            rintro e w5 ⟨v5, rfl, hs5, hb5, hk5⟩
            change NT (k * 3 + j + 1) = ((treeL CL 3 ((j : Int) * 4) ((k : Int) * 4) (NT (k * 3 + j)).1).1, (NT (k * 3 + j)).2 ++ [((treeL CL 3 ((j : Int) * 4) ((k : Int) * 4) (NT (k * 3 + j)).1).2 : Int)]) at HS1
            have HS5 := hid hs5
            have HB5 := hid hb5
            have HK5 := hid hk5
            clear hs5 hb5 hk5 HTR
            generalize treeL CL 3 ((j : Int) * 4) ((k : Int) * 4) (NT (k * 3 + j)).1 = TT at *
            replace HS1 := hid HS1
            have hb6 := (Below.refl w5.heap.size w5).alloc (Nat.le_refl _) (.cells #[.int .i64 (TT.2 : Int)] 3)
            have HB6 := hid hb6
            have HO6 := hid ((HN.out.own.keepT HK5.out).below hb6)
            have HSZ6 := hid (show w0.heap.size ≤ (w5.alloc (.cells #[.int .i64 (TT.2 : Int)] 3)).heap.size from Nat.le_trans HN.out.keep.1 (Nat.le_trans HK5.out.1 hb6.size))
            clear hb6
            generalize hR2 : (NT (k * 3 + j)).2 = R2 at *
            go_wp2_with (at_builtin; refine wpList_appI rfl (.tmp 32) (.tmp 44) rfl w0.heap.size _ R2 [(TT.2 : Int)] (some ⟨w5.heap.size, 0, none⟩) 1 1 rfl HO6.out rfl rfl (iseg_block (heap_alloc_new w5 _)) (by intro h; cases h) (by have := HR2.out; simp; omega) HSZ6.out ?_; intro v9 w9 hO9 hG9 hv9; have HN9 := hid (show NineS w0 w9 base p a1 CL v9 (TT.1, R2 ++ [(TT.2 : Int)]) from by rw [← hR2]; exact NineS.round HN.out HBS.out HS5.out HB5.out HK5.out HB6.out (by rw [hR2]; exact hO9) hG9 hv9))
            go_roundw
            case rel => exact ⟨j + 1, by omega, by go_num, by rw [show k * 3 + (j + 1) = k * 3 + j + 1 by omega, HS1.out]; exact HN9.out⟩
            case measure => simp [intOf]; omega
          · obtain rfl : j = 3 := by omega
            go_wp2
            go_roundw
            case rel => exact ⟨k + 1, by omega, by go_num, by rw [show (k + 1) * 3 = k * 3 + 3 by omega]; exact HN.out⟩
            case measure => simp [intOf]; omega
      · obtain rfl : k = 3 := by omega
        obtain ⟨vs, hsf⟩ := HN.out.sf
        have HZ := hid hsf.any
        clear hsf
        go_wp2
        go_ret
        exact ⟨vs, _, rfl, HZ.out, HN.out.own, HN.out.bel, HN.out.keep⟩
  · go_enter Try.func31, Try.ntmps31
    go_wp2_with fail
    refine HLV.out.mono ?_
    rintro e w0 ⟨rfl, rfl⟩
    go_wp2_with fail
    refine HCE.out.mono ?_
    rintro e w1 ⟨v1, rfl, hO1, hb1⟩
    obtain ⟨a1, c1, rfl, _⟩ := hO1.form
    have HN1 := hid (show NineS w0 w1 base p a1 CL (.slice none 0 0) (NT 0) from by
      rw [HN0.out]
      exact ⟨⟨_, (HSF.out.below hb1)⟩, OwnI.nil _ _, hO1.tys.2, hb1.mono HBS.out, KeepT.of hb1⟩)
    clear hO1 hb1 HCE HLV x0
    go_wp2_with fail
    go_loopw [8, 9] (fun ov iv wr => ∃ k : Nat, k ≤ 3 ∧ iv = .int .i64 k ∧ Hid (NineS w0 wr base p a1 CL ov (NT (k * 3)))) (fun _ iv _ => 3 - (intOf iv).toNat)
    case atStart => exact ⟨0, by omega, rfl, HN1.out⟩
    case round =>
      clear HN1
      obtain ⟨k, hk, rfl, HN⟩ := hrel
      by_cases hlt : k < 3
      · have hlt' : (k : Int) < 3 := by omega
        go_wp2
        go_loopw [8, 10] (fun ov iv wr => ∃ j : Nat, j ≤ 3 ∧ iv = .int .i64 j ∧ Hid (NineS w0 wr base p a1 CL ov (NT (k * 3 + j)))) (fun _ iv _ => 3 - (intOf iv).toNat)
        case atStart => exact ⟨0, by omega, rfl, HN.out⟩
        case round =>
          clear HN
          obtain ⟨j, hj, rfl, HN⟩ := hrel
          by_cases hjt : j < 3
          · have hjt' : (j : Int) < 3 := by omega
            obtain ⟨hE1, hE2⟩ := HE.out (k * 3 + j) (by omega)
            have HS1 := hid (HST.out (k * 3 + j) (by omega))
            rw [show (k * 3 + j) % 3 = j by omega, show (k * 3 + j) / 3 = k by omega, show (j : Int) * 2 ^ 3 = (j : Int) * 8 by rw [show (2 : Int) ^ 3 = 8 from rfl] <;> omega, show (k : Int) * 2 ^ 3 = (k : Int) * 8 by rw [show (2 : Int) ^ 3 = 8 from rfl] <;> omega] at HS1
            have hm := hE2.most
            obtain ⟨vs, hsf⟩ := HN.out.sf
            have HTR := hid (c_streeE (gg := u8.ownBlock) CL a1 c1 (by have := HCF.out; omega) base p 4 ((j : Int) * 8) ((k : Int) * 8) vs (NT (k * 3 + j)).1 wr (by omega) hE2.grows (by omega) (by omega) (by omega) (by omega) (by omega) hsf HN.out.cells (fun z hz => (HN.out.own.lt z hz).2))
            have HR2 := hid (show (NT (k * 3 + j)).2.length ≤ 9 by have := hE2.len; omega)
            clear hE1 hE2 hsf
            go_wp2_with fail
            refine HTR.out.mono ?_
            rintro e w5 ⟨v5, rfl, hs5, hb5, hk5⟩
            change NT (k * 3 + j + 1) = ((treeL CL 4 ((j : Int) * 8) ((k : Int) * 8) (NT (k * 3 + j)).1).1, (NT (k * 3 + j)).2 ++ [((treeL CL 4 ((j : Int) * 8) ((k : Int) * 8) (NT (k * 3 + j)).1).2 : Int)]) at HS1
            have HS5 := hid hs5
            have HB5 := hid hb5
            have HK5 := hid hk5
            clear hs5 hb5 hk5 HTR
            generalize treeL CL 4 ((j : Int) * 8) ((k : Int) * 8) (NT (k * 3 + j)).1 = TT at *
            replace HS1 := hid HS1
            have hb6 := (Below.refl w5.heap.size w5).alloc (Nat.le_refl _) (.cells #[.int .i64 (TT.2 : Int)] 3)
            have HB6 := hid hb6
            have HO6 := hid ((HN.out.own.keepT HK5.out).below hb6)
            have HSZ6 := hid (show w0.heap.size ≤ (w5.alloc (.cells #[.int .i64 (TT.2 : Int)] 3)).heap.size from Nat.le_trans HN.out.keep.1 (Nat.le_trans HK5.out.1 hb6.size))
            clear hb6
            generalize hR2 : (NT (k * 3 + j)).2 = R2 at *
            go_wp2_with (at_builtin; refine wpList_appI rfl (.tmp 32) (.tmp 44) rfl w0.heap.size _ R2 [(TT.2 : Int)] (some ⟨w5.heap.size, 0, none⟩) 1 1 rfl HO6.out rfl rfl (iseg_block (heap_alloc_new w5 _)) (by intro h; cases h) (by have := HR2.out; simp; omega) HSZ6.out ?_; intro v9 w9 hO9 hG9 hv9; have HN9 := hid (show NineS w0 w9 base p a1 CL v9 (TT.1, R2 ++ [(TT.2 : Int)]) from by rw [← hR2]; exact NineS.round HN.out HBS.out HS5.out HB5.out HK5.out HB6.out (by rw [hR2]; exact hO9) hG9 hv9))
            go_roundw
            case rel => exact ⟨j + 1, by omega, by go_num, by rw [show k * 3 + (j + 1) = k * 3 + j + 1 by omega, HS1.out]; exact HN9.out⟩
            case measure => simp [intOf]; omega
          · obtain rfl : j = 3 := by omega
            go_wp2
            go_roundw
            case rel => exact ⟨k + 1, by omega, by go_num, by rw [show (k + 1) * 3 = k * 3 + 3 by omega]; exact HN.out⟩
            case measure => simp [intOf]; omega
      · obtain rfl : k = 3 := by omega
        obtain ⟨vs, hsf⟩ := HN.out.sf
        have HZ := hid hsf.any
        clear hsf
        go_wp2
        go_ret
        exact ⟨vs, _, rfl, HZ.out, HN.out.own, HN.out.bel, HN.out.keep⟩

end Go.Proofs.Ytokemdbgcegjiaa

namespace Go.Proofs.Ytokemdbgcegjiaa
open Go.RowKit Go.Maps
set_option linter.unusedVariables false
set_option linter.unusedSimpArgs false
attribute [local go_sem ↓] Go.wp_at_zero Go.wp_at_succ

set_option maxHeartbeats 4000000 in
set_option maxRecDepth 100000 in
theorem c_sNineOf (a : Option Addr) (F : List Qd) (ca : Nat) (q : Int) (w : World) (ha : QSeg w a F) (hl : F.length ≤ 1048576) (hk : KidsLe F) (hca : F.length ≤ ca) (hcm : ca ≤ 9223372036854775807) (hnc : NoneCap w a F) :
    Calls Try.prog 10 #[.agg #[.slice a F.length ca], .int .i64 q] w fun e w' => ∃ u nv, e = .returned (.tuple #[.agg #[u], nv, .bool (anB (nineOK F q) (nineR F q))]) ∧ GF w' w.heap.size u (anF (nineOK F q) (nineR F q)) ∧ IOwn w' w.heap.size w'.heap.size nv (anN (nineOK F q) (nineR F q)) ∧ Below w.heap.size w w' := by
  obtain ⟨W1, hW1⟩ : ∃ W1, W1 = w.alloc (.cells #[.slice a F.length ca] 31) := ⟨_, rfl⟩
  have X1 := Box1.new w (.slice a F.length ca) 31
  rw [← hW1] at X1
  have hb2 := (Below.refl W1.heap.size W1).alloc (Nat.le_refl _) (.cells #[.slice none 0 0] 31)
  have X2 := X1.step hb2
  have R2 := one_row (heap_alloc_new W1 (.cells #[.slice none 0 0] 31))
  have s1 : W1.heap.size = w.heap.size + 1 := by rw [hW1]; simp
  rw [s1] at R2
  rw [hW1] at X2 R2
  have HX := hid X2
  have HR := hid R2
  clear X1 X2 R2 s1 hb2 hW1
  clear W1
  have x0 := HX.out.1
  have HQ := hid (ha.below HX.out.2.2)
  have HNC := hid (hnc.below ha HX.out.2.2)
  clear ha hnc
  have fin : ∀ W : World, Below w.heap.size w W → ∃ u nv, Ending.returned (.tuple #[.agg #[.slice none 0 0], .slice none 0 0, .bool false]) = .returned (.tuple #[.agg #[u], nv, .bool false]) ∧ GF W w.heap.size u [] ∧ IOwn W w.heap.size W.heap.size nv [] ∧ Below w.heap.size w W := fun W h => ⟨_, _, rfl, GF.nil _ _, .inl ⟨rfl, rfl⟩, h⟩
  cases hq : quadB F q 2
  · have HC := hid (c_l5Quad a F ca q 2 false hq _ HQ.out hl hk hca hcm)
    have HV := hid (show anF (nineOK F q) (nineR F q) = [] ∧ anN (nineOK F q) (nineR F q) = [] ∧ anB (nineOK F q) (nineR F q) = false by rw [show nineOK F q = false from hq]; exact an_no _)
    clear hq
    go_enter Try.func10, Try.ntmps10
    go_wp2_with fail
    refine HC.out.mono ?_
    rintro e w3 ⟨rfl, hb⟩
    have R3 := HR.out.of_block (hb.block _ HR.out.lt)
    have r0 := R3.cell (i := 0) (by omega)
    have f0 := R3.frozen 0
    have E0 := hid ((R3.set 0 (.slice none 0 0)).cell (i := 0) (by omega))
    simp only [if_true] at E0
    have HB := hid ((HX.out.step hb).2.2.setCell (p := ⟨w.heap.size + 1, 0, none⟩) (by dsimp only; omega) (.slice none 0 0))
    clear HC R3
    go_wp2_with fail
    rw [HV.out.1, HV.out.2.1, HV.out.2.2]
    exact bodyPost_ret (v := .tuple #[.agg #[.slice none 0 0], .slice none 0 0, .bool false]) (by simp [results, Try.results10, go_sem, E0.out]) rfl (fin _ HB.out)
  · have HC := hid (c_l5Quad a F ca q 2 true hq _ HQ.out hl hk hca hcm)
    obtain ⟨hg, h0, h1, n, hn, hlv, hln, hT⟩ := nine_is hq
    have HOKK := hid (show nineOK F q = true from hq)
    have hg2 := good_len2 hg
    have HF := hid (show JTo F (n : Int) 9 (nineR F q) from grid_facts (good_grows hg) hn hT 9 (Nat.le_refl _))
    have HRS := hid (fun (base p : Nat) (v : Value) (W : World) (hS : SF W base p v F) => c_snine (good_fineF hg) (good_grows hg) (by omega) q.toNat (by omega) n hn hln hT base p v W hS)
    rw [show ((q.toNat : Nat) : Int) = q by omega] at HRS
    have HRE := hid (show jTo F (sqW 3 4 (gridL F q.toNat)) 9 = nineR F q from rfl)
    rw [HRE.out] at HRS
    clear hq hg hT hlv hln HRE
    generalize nineR F q = RR at *
    go_enter Try.func10, Try.ntmps10
    go_wp2_with fail
    refine HC.out.mono ?_
    rintro e w5 ⟨rfl, hb⟩
    have R6 := hid (HR.out.of_block (hb.block _ HR.out.lt))
    have X6 := hid (HX.out.step hb)
    have Q6 := hid (HQ.out.below hb)
    have N6 := hid (HNC.out.below HQ.out hb)
    clear HC hb HX HR HQ HNC x0
    have x0 := X6.out.1
    go_wp2_with fail
    refine (c_l3Own a F ca w5 Q6.out hl hk N6.out).mono ?_
    rintro e w6 ⟨u, rfl, hG6, hb6⟩
    have HG6 := hid hG6
    obtain ⟨ua, uc, rfl, _⟩ := hG6.form
    have hb7 := (Below.refl w6.heap.size w6).alloc (Nat.le_refl _) (.cells #[.slice ua F.length uc, .bool false] 57)
    have hSF : SF (w6.alloc (.cells #[.slice ua F.length uc, .bool false] 57)) w5.heap.size w6.heap.size (.slice ua F.length uc) F := by
      refine ⟨HG6.out.below hb7, (two_row (heap_alloc_new _ _)).congr fun j hj => ?_, hb6.size⟩
      rcases (show j = 0 ∨ j = 1 by omega) with rfl | rfl
      · simp
      · simp; omega
    have B7 := hid (hb6.trans (hb7.mono hb6.size))
    have HCT := hid (HRS.out _ _ _ _ hSF)
    clear hG6 hb6 hb7 hSF x0 HRS
    go_wp2_with fail
    generalize w6.alloc (.cells #[.slice ua F.length uc, .bool false] 57) = W7 at *
    refine HCT.out.mono ?_
    rintro e w8 ⟨v8, ov, rfl, hS8, hO8, hb8, _⟩
    have HS8 := hid hS8
    have HO8 := hid hO8
    have B8A := hid (B7.out.trans hb8)
    have HLO := hid (show w.heap.size + 1 + 1 ≤ W7.heap.size by have := R6.out.lt; have := B7.out.size; omega)
    clear hS8 hO8 hb8 HCT
    go_wp2_with fail
    refine (c_tell 0 _ HS8.out (by have := HF.out.most; omega) HF.out.grows.kidsLe).mono ?_
    rintro e w9 ⟨u9, rfl, hG9, hb9⟩
    have HG9 := hid hG9
    obtain ⟨ua9, uc9, rfl, _⟩ := hG9.form
    have ba := (Below.refl w9.heap.size w9).alloc (Nat.le_refl _) (.cells #[.slice ua9 (tellF RR.1).length uc9] 31)
    have B9 := hid (B8A.out.trans (hb9.mono B8A.out.size))
    have B10 := hid (B9.out.trans (ba.mono B9.out.size))
    have BT := hid (X6.out.2.2.trans (B10.out.mono X6.out.2.2.size))
    have R10 := hid (R6.out.of_block (B10.out.block _ R6.out.lt))
    have r0 := R10.out.cell (i := 0) (by omega)
    have f0 := R10.out.frozen 0
    have y9 : (w9.alloc (.cells #[.slice ua9 (tellF RR.1).length uc9] 31)).cell? ⟨w9.heap.size, 0, none⟩ = some (.slice ua9 (tellF RR.1).length uc9) := by unfold World.cell?; rw [heap_alloc_new]; rfl
    have HO10 := hid (((HO8.out.below hb9).below ba).iown)
    have HG10 := hid (HG9.out.below ba)
    have HZ := hid (show w.heap.size ≤ w8.heap.size from Nat.le_trans X6.out.2.2.size B8A.out.size)
    have HZ9 := hid hb9.size
    clear hG9 HG9 hb9 ba HO8 HS8
    cases htb : tellB RR.1
    · have HV := hid (show anF (nineOK F q) RR = [] ∧ anN (nineOK F q) RR = [] ∧ anB (nineOK F q) RR = false by rw [HOKK.out]; exact an_full _ htb)
      have E0 := hid ((R10.out.set 0 (.slice none 0 0)).cell (i := 0) (by omega))
      simp only [if_true] at E0
      have HB := hid (BT.out.setCell (p := ⟨w.heap.size + 1, 0, none⟩) (by dsimp only; omega) (.slice none 0 0))
      clear HO10 HG10
      go_wp2_with fail
      rw [HV.out.1, HV.out.2.1, HV.out.2.2]
      exact bodyPost_ret (v := .tuple #[.agg #[.slice none 0 0], .slice none 0 0, .bool false]) (by simp [results, Try.results10, go_sem, E0.out]) rfl (fin _ HB.out)
    · have HV := hid (show anF (nineOK F q) RR = tellF RR.1 ∧ anN (nineOK F q) RR = RR.2 ∧ anB (nineOK F q) RR = true by rw [HOKK.out]; exact an_yes _ htb)
      have E0 := hid ((R10.out.set 0 (.slice ua9 (tellF RR.1).length uc9)).cell (i := 0) (by omega))
      simp only [if_true] at E0
      have HB := hid (BT.out.setCell (p := ⟨w.heap.size + 1, 0, none⟩) (by dsimp only; omega) (.slice ua9 (tellF RR.1).length uc9))
      have HGF := hid ((HG10.out.setRow (o := 0) R10.out (by decide) (by decide) (.slice ua9 (tellF RR.1).length uc9)).mono HZ.out)
      have hGW : Grew (w9.alloc (.cells #[.slice ua9 (tellF RR.1).length uc9] 31)) ((w9.alloc (.cells #[.slice ua9 (tellF RR.1).length uc9] 31)).setCell ⟨w.heap.size + 1, 0, none⟩ (.slice ua9 (tellF RR.1).length uc9)) (w.heap.size + 1) (w.heap.size + 1 + 1) := (Grew.refl _ _ _).set (Nat.le_refl _) (by omega) _
      have HIW := hid ((IOwn.kpt _ _ _ _ _ _ _ _ HO10.out hGW (by have := HLO.out; omega)).wide (lo' := w.heap.size) (by have := HLO.out; omega) hGW.size (Nat.le_refl _))
      clear HO10 HG10 hGW
      go_wp2_with fail
      rw [HV.out.1, HV.out.2.1, HV.out.2.2]
      exact bodyPost_ret (v := .tuple #[.agg #[.slice ua9 (tellF RR.1).length uc9], ov, .bool true]) (by simp [results, Try.results10, go_sem, E0.out]) rfl ⟨_, _, rfl, HGF.out, HIW.out, HB.out⟩

end Go.Proofs.Ytokemdbgcegjiaa

namespace Go.Proofs.Ytokemdbgcegjiaa
open Go.RowKit Go.Maps
set_option linter.unusedVariables false
set_option linter.unusedSimpArgs false
attribute [local go_sem ↓] Go.wp_at_zero Go.wp_at_succ

theorem ord_grid {ka kb ja jb : Nat} (h1 : ka < 2) (h2 : kb < 2) (h3 : ja < 2) (h4 : jb < 2) : ordG ((kb * 2 + jb) * 4 + (ka * 2 + ja)) = (kb * 2 + ka) * 4 + (jb * 2 + ja) := by
  unfold ordG; omega
theorem ord_inj {t ka kb ja jb : Nat} (ht : t < 16) (h1 : ka < 2) (h2 : kb < 2) (h3 : ja < 2) (h4 : jb < 2) (h : ordG t = (kb * 2 + ka) * 4 + (jb * 2 + ja)) : t = (kb * 2 + jb) * 4 + (ka * 2 + ja) := by
  have hi : ∀ t, t < 16 → ordG (ordG t) = t := by decide
  have h5 := hi t ht
  rw [h, ord_grid (ka := jb) (kb := kb) (ja := ja) (jb := ka) h4 h2 h3 h1] at h5
  exact h5.symm
theorem gridq_at (F : List Qd) (q : Nat) {ka kb ja jb : Nat} (h1 : ka < 2) (h2 : kb < 2) (h3 : ja < 2) (h4 : jb < 2) : gridq F q ((kb * 2 + jb) * 4 + (ka * 2 + ja)) = kidq F (kidq F q (kb * 2 + ka)) (jb * 2 + ja) := by
  unfold gridq
  rw [show ((kb * 2 + jb) * 4 + (ka * 2 + ja)) / 8 * 2 + ((kb * 2 + jb) * 4 + (ka * 2 + ja)) % 4 / 2 = kb * 2 + ka by omega, show ((kb * 2 + jb) * 4 + (ka * 2 + ja)) / 4 % 2 * 2 + ((kb * 2 + jb) * 4 + (ka * 2 + ja)) % 2 = jb * 2 + ja by omega]
theorem half_two {k : Nat} (h : k < 4) : ∃ b a : Nat, b < 2 ∧ a < 2 ∧ k = b * 2 + a := ⟨k / 2, k % 2, by omega, by omega, by omega⟩

set_option maxHeartbeats 8000000 in
set_option maxRecDepth 100000 in
theorem c_sixteen {L : List Cl} {n q : Nat} (w : World) {base p g cap mb : Nat} {G : List Qd} (hGr : Grows G) (hT : IsT L G (n + 2) q 0 0) (hG : Grv w base p g cap mb G) :
    Calls Try.prog 39 #[.pointer (some ⟨p, 0, none⟩), .int .i64 (q : Int)] w fun e w' => e = .returned (.slice (some ⟨w.heap.size, 0, none⟩) 16 16) ∧ IRow w' w.heap.size (gridL G q) ∧ Below w.heap.size w w' := by
  have hq := hT.lt hGr.two
  have hks := hid hT.kids
  have ba := (Below.refl w.heap.size w).alloc (Nat.le_refl _) (.cells (madeCells #[.int .i64 0] 16) 3)
  have HG1 := hid (hG.below ba)
  have HR1 := hid (zeros_row w 16)
  have HB1 := hid ba
  have hmm : ∀ w : World, (Instr.makeSlice 32 (.int .i64 16) (.int .i64 16)).run Try.prog w = .ok (.slice (some ⟨w.heap.size, 0, none⟩) 16 16) (w.alloc (.cells (madeCells #[.int .i64 0] 16) 3)) := fun w => run_makeInts 16 (by omega) w
  have HGG := hid hG
  have hpl := hG.box.lt
  have hgl := hG.lt.2
  have HKK := hid (fun (k : Nat) (hk : k < 4) => (⟨(hT.kid k hk).lt hGr.two, fun j hj => (hT.kid k hk).kids.2.2.1 j hj⟩ : kidq G q k < G.length ∧ (∀ j, j < 4 → ia (qa G (kidq G q k)).2 j = (kidq G (kidq G q k) j : Int))))
  have c0 := HG1.out.c0
  have n1 := HG1.out.kidAt hq (j := 0) (by omega)
  have n2 := HG1.out.kidAt hq (j := 1) (by omega)
  have n3 := HG1.out.kidAt hq (j := 2) (by omega)
  have n4 := HG1.out.kidAt hq (j := 3) (by omega)
  rw [Nat.add_zero] at n1
  have i0 : (0 : Int) ≤ (q : Int) := by omega
  have i1 : (q : Int) < (G.length : Int) := by omega
  clear ba hG hT
  go_enter Try.func39, Try.ntmps39
  go_wp2_with fail
  generalize w.alloc (.cells (madeCells #[.int .i64 0] 16) 3) = W1 at *
  go_loopw [21] (fun i wr => ∃ (k : Nat), k ≤ 4 ∧ i = .int .i64 k ∧ Hid (wr.rowIs w.heap.size 3 16 (fun t => .int .i64 (if ordG t < k * 4 then (gridq G q t : Int) else 0))) ∧ Hid (Below w.heap.size w wr)) (fun i _ => 4 - (intOf i).toNat)
  case atStart => exact ⟨0, by omega, rfl, HR1.out.congr fun j hj => by simp, HB1.out⟩
  case round =>
    clear HR1 HB1 n1 n2 n3 n4 c0 HG1
    obtain ⟨k, hk, rfl, HR, HB⟩ := hrel
    by_cases hlt : k < 4
    · have hidx := four_index (qa G q).2 k hlt
      unfold kv at hidx
      have k0 : (0 : Int) ≤ (k : Int) := by omega
      have k1 : (k : Int) < 4 := by omega
      rw [hks.out.2.2.1 k hlt] at hidx
      obtain ⟨z1, z2⟩ := HKK.out k hlt
      have GW := hid (HGG.out.below HB.out)
      have c0 := GW.out.c0
      have n1 := GW.out.kidAt z1 (j := 0) (by omega)
      have n2 := GW.out.kidAt z1 (j := 1) (by omega)
      have n3 := GW.out.kidAt z1 (j := 2) (by omega)
      have n4 := GW.out.kidAt z1 (j := 3) (by omega)
      rw [Nat.add_zero] at n1
      have j0 : (0 : Int) ≤ ((kidq G q k : Nat) : Int) := by omega
      have j1 : ((kidq G q k : Nat) : Int) < (G.length : Int) := by omega
      have HZ2 := hid z2
      clear z1 z2
      go_wp2_with fail
      go_loopw [33] (fun i wr => ∃ (j : Nat), j ≤ 4 ∧ i = .int .i64 j ∧ Hid (wr.rowIs w.heap.size 3 16 (fun t => .int .i64 (if ordG t < k * 4 + j then (gridq G q t : Int) else 0))) ∧ Hid (Below w.heap.size w wr)) (fun i _ => 4 - (intOf i).toNat)
      case atStart => exact ⟨0, by omega, rfl, HR.out, HB.out⟩
      case round =>
        clear HR HB GW c0 n1 n2 n3 n4 hidx
        obtain ⟨j, hj, rfl, HR, HB⟩ := hrel
        by_cases hjt : j < 4
        · have hidx := four_index (qa G (kidq G q k)).2 j hjt
          unfold kv at hidx
          rw [HZ2.out j hjt] at hidx
          have j2 : (0 : Int) ≤ (j : Int) := by omega
          have j3 : (j : Int) < 4 := by omega
          obtain ⟨kb, ka, kb2, ka2, hkE⟩ := half_two hlt
          obtain ⟨jb, ja, jb2, ja2, hjE⟩ := half_two hjt
          have r1 : Int.tmod (k : Int) 2 = (ka : Int) := by rw [Int.tmod_eq_emod_of_nonneg k0]; omega
          have r2 : Int.tdiv (k : Int) 2 = (kb : Int) := by rw [Int.tdiv_eq_ediv_of_nonneg k0]; omega
          have r3 : Int.tmod (j : Int) 2 = (ja : Int) := by rw [Int.tmod_eq_emod_of_nonneg j2]; omega
          have r4 : Int.tdiv (j : Int) 2 = (jb : Int) := by rw [Int.tdiv_eq_ediv_of_nonneg j2]; omega
          have hI16 : (kb * 2 + jb) * 4 + (ka * 2 + ja) < 16 := by omega
          have c9 := World.rowIs.cell HR.out hI16
          have f9 := World.rowIs.frozen HR.out ((kb * 2 + jb) * 4 + (ka * 2 + ja))
          have b0 : 0 ≤ ((kb : Int) * 2 + (jb : Int)) * 4 + ((ka : Int) * 2 + (ja : Int)) := by omega
          have b1 : ((kb : Int) * 2 + (jb : Int)) * 4 + ((ka : Int) * 2 + (ja : Int)) < 16 := by omega
          have HRS := hid (show (wr.setCell ⟨w.heap.size, (kb * 2 + jb) * 4 + (ka * 2 + ja), none⟩ (.int .i64 (kidq G (kidq G q k) j : Int))).rowIs w.heap.size 3 16 (fun t => .int .i64 (if ordG t < k * 4 + (j + 1) then (gridq G q t : Int) else 0)) from by
            refine (World.rowIs.set HR.out _ _).congr fun t ht => ?_
            have ho := ord_grid ka2 kb2 ja2 jb2
            have hgq := gridq_at G q ka2 kb2 ja2 jb2
            rw [← hkE, ← hjE] at ho hgq
            by_cases e : t = (kb * 2 + jb) * 4 + (ka * 2 + ja)
            · subst e
              rw [if_pos rfl, if_pos (by omega), hgq]
            · rw [if_neg e]
              have : ordG t ≠ k * 4 + j := fun h => e (ord_inj ht ka2 kb2 ja2 jb2 (by rw [h, hkE, hjE]))
              have : (ordG t < k * 4 + (j + 1)) = (ordG t < k * 4 + j) := by apply propext; omega
              simp [this])
          have HBS := hid (HB.out.setCell (p := ⟨w.heap.size, (kb * 2 + jb) * 4 + (ka * 2 + ja), none⟩) (Nat.le_refl _) (.int .i64 (kidq G (kidq G q k) j : Int)))
          clear HR HB
          generalize kidq G (kidq G q k) j = KJ at *
          clear hkE hjE
          go_wp2_with fail
          go_roundw
          case rel => exact ⟨j + 1, by omega, by go_num, HRS.out, HBS.out⟩
          case measure => simp [intOf]; omega
        · obtain rfl : j = 4 := by omega
          go_wp2
          go_roundw
          case rel => exact ⟨k + 1, by omega, by go_num, by rw [show (k + 1) * 4 = k * 4 + 4 by omega]; exact HR.out, HB.out⟩
          case measure => simp [intOf]; omega
    · obtain rfl : k = 4 := by omega
      go_wp2
      go_ret
      refine ⟨rfl, ?_, HB.out⟩
      unfold IRow
      rw [gridL_len]
      refine HR.out.congr fun t ht => ?_
      rw [gridL_at G q ht, if_pos (by unfold ordG; omega)]

end Go.Proofs.Ytokemdbgcegjiaa

namespace Go.Proofs.Ytokemdbgcegjiaa
open Go.RowKit Go.Maps
set_option linter.unusedVariables false
set_option linter.unusedSimpArgs false
attribute [local go_sem ↓] Go.wp_at_zero Go.wp_at_succ

/-- Does the square of level n from (x, y) on meet the box? -/
def mtB (fx fy tx ty : Int) (n : Nat) (x y : Int) : Bool := decide (fx ≤ x + (2 ^ n - 1)) && decide (x ≤ tx) && decide (fy ≤ y + (2 ^ n - 1)) && decide (y ≤ ty)
theorem mtB_no {fx fy tx ty : Int} {n : Nat} {x y : Int} (h : mtB fx fy tx ty n x y = false) {c : Cl} (hc : sqB n x y c) : mtB fx fy tx ty 0 c.1 c.2 = false := by
  cases h0 : mtB fx fy tx ty 0 c.1 c.2
  · rfl
  · simp only [mtB, Bool.and_eq_true, decide_eq_true_eq] at h0
    unfold sqB at hc
    have : mtB fx fy tx ty n x y = true := by
      simp only [mtB, Bool.and_eq_true, decide_eq_true_eq]
      omega
    rw [this] at h; cases h

theorem pow_le5 {n : Nat} (h : n ≤ 5) : (2 : Int) ^ n ≤ 32 := by
  rcases (show n = 0 ∨ n = 1 ∨ n = 2 ∨ n = 3 ∨ n = 4 ∨ n = 5 by omega) with rfl | rfl | rfl | rfl | rfl | rfl <;> decide
/-- A node in a box. -/
def NRow (w : World) (B : Nat) (q : Qd) : Prop := w.rowIs B 83 5 (fun j => .int .i64 (if j = 0 then q.1 else ia q.2 (j - 1)))
theorem nrow_new (w : World) (q : Qd) : NRow (w.alloc (.cells #[.int .i64 q.1, .int .i64 (ia q.2 0), .int .i64 (ia q.2 1), .int .i64 (ia q.2 2), .int .i64 (ia q.2 3)] 83)) w.heap.size q := by
  refine ⟨_, heap_alloc_new _ _, rfl, fun i hi => ?_⟩
  rcases (show i = 0 ∨ i = 1 ∨ i = 2 ∨ i = 3 ∨ i = 4 by omega) with rfl | rfl | rfl | rfl | rfl <;> rfl
theorem NRow.lev {w : World} {B : Nat} {q : Qd} (h : NRow w B q) : w.cell? ⟨B, 0, none⟩ = some (.int .i64 q.1) := World.rowIs.cell h (i := 0) (by omega)
theorem NRow.kid {w : World} {B : Nat} {q : Qd} (h : NRow w B q) (j : Nat) (hj : j < 4) : w.cell? ⟨B, 1 + j, none⟩ = some (.int .i64 (ia q.2 j)) := by
  have := World.rowIs.cell h (i := 1 + j) (by omega)
  rw [if_neg (by omega), show 1 + j - 1 = j by omega] at this
  exact this
theorem pk_more (L : List Cl) (n : Nat) (x y : Int) (G : List Qd) (hn : n < 5) (h : Grows G) : ∀ k, G.length ≤ (pk L n x y G k).1.length ∧ ∀ i, i < G.length → qa (pk L n x y G k).1 i = qa G i
  | 0 => ⟨Nat.le_refl _, fun _ _ => rfl⟩
  | k + 1 => by
    obtain ⟨h1, h2⟩ := pk_more L n x y G hn h k
    have t := treeL_tr L n (kx n k x) (ky n k y) _ (by omega) (pk_facts L n x y G hn h k).1
    exact ⟨Nat.le_trans h1 t.more, fun i hi => (t.old i (by omega)).trans (h2 i hi)⟩
theorem kx_or (n k : Nat) (x : Int) (hk : k < 4) : kx n k x = x ∨ kx n k x = x + 2 ^ n := by
  unfold kx
  rcases (show k % 2 = 0 ∨ k % 2 = 1 by omega) with e | e <;> rw [e] <;> simp
theorem ky_or (n k : Nat) (y : Int) (hk : k < 4) : ky n k y = y ∨ ky n k y = y + 2 ^ n := by
  unfold ky
  rcases (show k / 2 = 0 ∨ k / 2 = 1 by omega) with e | e <;> rw [e] <;> simp

end Go.Proofs.Ytokemdbgcegjiaa

namespace Go.Proofs.Ytokemdbgcegjiaa
open Go.RowKit Go.Maps
set_option linter.unusedVariables false
set_option linter.unusedSimpArgs false
attribute [local go_sem ↓] Go.wp_at_zero Go.wp_at_succ

/-- Is there a quad of that number, of a level in a range? -/
def hlB (G : List Qd) (q least most : Int) : Bool := inB 0 ((G.length : Int) - 1) q && inB least most (qa G q.toNat).1
set_option maxHeartbeats 1000000 in
theorem c_hasLevel (q least most : Int) (v : Bool) (w : World) {base p g cap mb : Nat} {G : List Qd} (hv : hlB G q least most = v) (h : Grv w base p g cap mb G) :
    Calls Try.prog 35 #[.pointer (some ⟨p, 0, none⟩), .int .i64 q, .int .i64 least, .int .i64 most] w fun e w' => e = .returned (.bool v) ∧ Below w.heap.size w w' := by
  have HG := hid h
  have HV := hid hv
  unfold hlB at HV
  clear hv h
  cases hin : inB 0 ((G.length : Int) - 1) q
  · have HW := hid (show v = false by have := HV.out; rw [hin] at this; simpa using this.symm)
    have HH := hid (c_has' q false w hin HG.out)
    go_enter Try.func35, Try.ntmps35
    go_wp2_with fail
    refine HH.out.mono ?_
    rintro e w1 ⟨rfl, hb⟩
    go_wp2
    go_ret
    exact ⟨ret_bool HW.out.symm, hb⟩
  · have HH := hid (c_has' q true w hin HG.out)
    have hbd := inB_bd hin
    have i0 : 0 ≤ q := hbd.1
    have i1 : q < (G.length : Int) := by omega
    by_cases h1 : least ≤ (qa G q.toNat).1
    · have d1 : decide (least ≤ (qa G q.toNat).1) = true := decide_eq_true h1
      have HW := hid (show v = decide ((qa G q.toNat).1 ≤ most) by have := HV.out; rw [hin] at this; unfold inB at this; rw [d1] at this; simpa using this.symm)
      clear hin
      go_enter Try.func35, Try.ntmps35
      go_wp2_with fail
      refine HH.out.mono ?_
      rintro e w1 ⟨rfl, hb⟩
      have G1 := HG.out.below hb
      have c0 := G1.c0
      have c1 := G1.lev (i := q.toNat) (by omega)
      clear G1 HH
      go_wp2
      go_ret
      exact ⟨ret_bool HW.out.symm, hb⟩
    · have d1 : decide (least ≤ (qa G q.toNat).1) = false := decide_eq_false h1
      have HW := hid (show v = false by have := HV.out; rw [hin] at this; unfold inB at this; rw [d1] at this; simpa using this.symm)
      clear hin
      go_enter Try.func35, Try.ntmps35
      go_wp2_with fail
      refine HH.out.mono ?_
      rintro e w1 ⟨rfl, hb⟩
      have G1 := HG.out.below hb
      have c0 := G1.c0
      have c1 := G1.lev (i := q.toNat) (by omega)
      clear G1 HH
      go_wp2
      go_ret
      exact ⟨ret_bool HW.out.symm, hb⟩

/-- Is a cell within the square of level n? -/
def hoB (n : Nat) (c : Cl) : Bool := decide (0 ≤ c.1) && decide (c.1 < 2 ^ n) && decide (0 ≤ c.2) && decide (c.2 < 2 ^ n)
theorem hoB_sq {n : Nat} {c : Cl} (h : hoB n c = true) : sqB n 0 0 c := by
  simp only [hoB, Bool.and_eq_true, decide_eq_true_eq] at h
  unfold sqB
  omega
theorem midK_at {F : List Qd} {q k : Nat} (hk : k < 4) : ia (midK F q) k = (kidq F (kidq F q k) (3 - k) : Int) := by
  rcases (show k = 0 ∨ k = 1 ∨ k = 2 ∨ k = 3 by omega) with rfl | rfl | rfl | rfl <;> rfl

end Go.Proofs.Ytokemdbgcegjiaa

namespace Go.Proofs.Ytokemdbgcegjiaa
open Go.RowKit Go.Maps
set_option linter.unusedVariables false
set_option linter.unusedSimpArgs false
attribute [local go_sem ↓] Go.wp_at_zero Go.wp_at_succ

set_option maxHeartbeats 4000000 in
set_option maxRecDepth 100000 in
theorem c_iNineOf (a : Option Addr) (F : List Qd) (ca : Nat) (q : Int) (w : World) (ha : QSeg w a F) (hl : F.length ≤ 1048576) (hk : KidsLe F) (hca : F.length ≤ ca) (hcm : ca ≤ 9223372036854775807) :
    Calls Try.prog 12 #[.agg #[.slice a F.length ca], .int .i64 q] w fun e w' => ∃ u nv mid, e = .returned (.tuple #[.agg #[u], nv, .bool (anB (nineOK F q) (nineR F q))]) ∧ FOwn w' mid w'.heap.size u (anF (nineOK F q) (nineR F q)) ∧ IOwn w' w.heap.size mid nv (anN (nineOK F q) (nineR F q)) ∧ w.heap.size ≤ mid ∧ mid ≤ w'.heap.size ∧ Below w.heap.size w w' := by
  obtain ⟨W1, hW1⟩ : ∃ W1, W1 = w.alloc (.cells #[.slice a F.length ca] 31) := ⟨_, rfl⟩
  have X1 := Box1.new w (.slice a F.length ca) 31
  rw [← hW1] at X1
  have hb2 := (Below.refl W1.heap.size W1).alloc (Nat.le_refl _) (.cells #[.slice none 0 0] 31)
  have X2 := X1.step hb2
  have R2 := one_row (heap_alloc_new W1 (.cells #[.slice none 0 0] 31))
  have s1 : W1.heap.size = w.heap.size + 1 := by rw [hW1]; simp
  rw [s1] at R2
  have s2 : (W1.alloc (.cells #[.slice none 0 0] 31)).heap.size = w.heap.size + 1 + 1 := by simp [s1]
  rw [hW1] at X2 R2 s2
  have HX := hid X2
  have HR := hid R2
  have HSZ := hid s2
  clear X1 X2 R2 s1 s2 hb2 hW1
  clear W1
  have x0 := HX.out.1
  have HQ := hid (ha.below HX.out.2.2)
  clear ha
  have fin : ∀ W : World, Below w.heap.size w W → ∃ u nv mid, Ending.returned (.tuple #[.agg #[.slice none 0 0], .slice none 0 0, .bool false]) = .returned (.tuple #[.agg #[u], nv, .bool false]) ∧ FOwn W mid W.heap.size u [] ∧ IOwn W w.heap.size mid nv [] ∧ w.heap.size ≤ mid ∧ mid ≤ W.heap.size ∧ Below w.heap.size w W := fun W h => ⟨_, _, w.heap.size, rfl, .inl ⟨rfl, rfl⟩, .inl ⟨rfl, rfl⟩, Nat.le_refl _, h.size, h⟩
  have HC := hid (c_groveOf a F ca _ HQ.out hl hk hca hcm)
  cases hg : goodF F
  · rw [hg] at HC
    have HV := hid (show anF (nineOK F q) (nineR F q) = [] ∧ anN (nineOK F q) (nineR F q) = [] ∧ anB (nineOK F q) (nineR F q) = false by rw [show nineOK F q = false by simp [nineOK, quadB, thereB, hg]]; exact an_no _)
    clear hg
    go_enter Try.func12, Try.ntmps12
    go_wp2_with fail
    refine HC.out.mono ?_
    rintro e w3 ⟨pv, rfl, ho, hb⟩
    have R3 := hid (HR.out.of_block (hb.block _ HR.out.lt))
    have X3 := hid (HX.out.step hb)
    clear ho HC hb
    have HBB := hid (Below.refl w3.heap.size w3)
    have R9 := R3.out.of_block (HBB.out.block _ R3.out.lt)
    have r0 := R9.cell (i := 0) (by omega)
    have f0 := R9.frozen 0
    have E0 := hid ((R9.set 0 (.slice none 0 0)).cell (i := 0) (by omega))
    simp only [if_true] at E0
    have HB := hid ((X3.out.step HBB.out).2.2.setCell (p := ⟨w.heap.size + 1, 0, none⟩) (by dsimp only; omega) (.slice none 0 0))
    clear R9 R3 X3 HBB
    go_wp2_with fail
    rw [HV.out.1, HV.out.2.1, HV.out.2.2]
    exact bodyPost_ret (v := .tuple #[.agg #[.slice none 0 0], .slice none 0 0, .bool false]) (by simp [results, Try.results12, go_sem, E0.out]) rfl (fin _ HB.out)
  · rw [hg] at HC
    have HG := hid hg
    have hg2 := good_len2 hg
    go_enter Try.func12, Try.ntmps12
    go_wp2_with fail
    refine HC.out.mono ?_
    rintro e w3 ⟨pv, rfl, ho, hb⟩
    have R3 := hid (HR.out.of_block (hb.block _ HR.out.lt))
    have X3 := hid (HX.out.step hb)
    rcases ho with ⟨_, p, g, cap, mb, base, hbase, rfl, hGv⟩ | ⟨e, _⟩
    rotate_left
    · rw [HG.out] at e; cases e
    have HGV := hid hGv
    have HBS := hid (show w.heap.size + 1 + 1 ≤ base by rw [HSZ.out] at hbase; exact hbase)
    clear HC hb hGv hbase
    go_wp2_with fail
    have HHE := hid (show hlB F q 2 5 = nineOK F q by
      unfold hlB nineOK quadB thereB
      rw [HG.out]
      cases hin : inB 0 ((F.length : Int) - 1) q
      · simp
      · have := inB_bd hin
        have hlv := levN_eq HG.out (q := q) (by omega) (by omega)
        by_cases h2 : (2 : Int) ≤ (qa F q.toNat).1 <;> simp [inB, h2] <;> omega)
    cases hok : nineOK F q
    · have HV := hid (show anF (nineOK F q) (nineR F q) = [] ∧ anN (nineOK F q) (nineR F q) = [] ∧ anB (nineOK F q) (nineR F q) = false by rw [hok]; exact an_no _)
      have HH := hid (c_hasLevel q 2 5 false w3 (HHE.out.trans hok) HGV.out)
      refine HH.out.mono ?_
      rintro e w6 ⟨rfl, hb6⟩
      have R3 := hid R3.out
      have X3 := hid X3.out
      have HBB := hid (hb6)
      have R9 := R3.out.of_block (HBB.out.block _ R3.out.lt)
      have r0 := R9.cell (i := 0) (by omega)
      have f0 := R9.frozen 0
      have E0 := hid ((R9.set 0 (.slice none 0 0)).cell (i := 0) (by omega))
      simp only [if_true] at E0
      have HB := hid ((X3.out.step HBB.out).2.2.setCell (p := ⟨w.heap.size + 1, 0, none⟩) (by dsimp only; omega) (.slice none 0 0))
      clear R9 R3 X3 HBB HH
      go_wp2_with fail
      rw [HV.out.1, HV.out.2.1, HV.out.2.2]
      exact bodyPost_ret (v := .tuple #[.agg #[.slice none 0 0], .slice none 0 0, .bool false]) (by simp [results, Try.results12, go_sem, E0.out]) rfl (fin _ HB.out)
    · obtain ⟨hg', h0, h1, n, hn, hlv, hln, hT⟩ := nine_is (show quadB F q 2 = true from hok)
      have HH := hid (c_hasLevel q 2 5 true w3 (HHE.out.trans hok) HGV.out)
      have HOKK := hid hok
      have HFA := hid (fun k hk => grid_facts (good_grows hg') hn hT k hk)
      have HF : Hid (JTo F (n : Int) 9 (nineR F q)) := HFA.out 9 (Nat.le_refl _)
      have HKK := hid (fun i (hi : i < 9) j (hj : j < 4) => (show 0 ≤ ia (sqW 3 4 (gridL F q.toNat) i) j ∧ ia (sqW 3 4 (gridL F q.toNat) i) j < (F.length : Int) by
        have hm : ∃ m, m < 16 ∧ ia (sqW 3 4 (gridL F q.toNat) i) j = (gridq F q.toNat m : Int) := by
          rw [sq_grid F q.toNat hi]
          rcases (show j = 0 ∨ j = 1 ∨ j = 2 ∨ j = 3 by omega) with rfl | rfl | rfl | rfl <;> exact ⟨_, by omega, rfl⟩
        obtain ⟨m, hm, em⟩ := hm
        have := (grid_is hT hm).lt (good_grows hg').two
        rw [em]; omega))
      have H16 := hid (fun (W : World) (hG : Grv W base p g cap mb F) => c_sixteen W (good_grows hg') hT hG)
      rw [show ((q.toNat : Nat) : Int) = q by omega] at H16
      have HGL := hid (gridL_len F q.toNat)
      clear hok hg' hT hlv hln HHE
      refine HH.out.mono ?_
      rintro e w4 ⟨rfl, hb4⟩
      have R4 := hid (R3.out.of_block (hb4.block _ R3.out.lt))
      have X4 := hid (X3.out.step hb4)
      have G4 := hid (HGV.out.below hb4)
      clear hb4 R3 X3 HGV HH
      go_wp2_with fail
      refine (H16.out w4 G4.out).mono ?_
      rintro e w5 ⟨rfl, hI5, hb5⟩
      have R5 := hid (R4.out.of_block (hb5.block _ R4.out.lt))
      have X5 := hid (X4.out.step hb5)
      have G5 := hid (G4.out.below hb5)
      have I5 := hid hI5
      clear hI5 hb5 R4 X4 G4 H16
      go_wp2_with fail
      refine (c_two4 w4.heap.size 0 16 (gridL F q.toNat) HGL.out w5 (TyI.row I5.out).1).mono ?_
      rintro e w6 ⟨v6, rfl, hO6, hb6⟩
      obtain ⟨a6, c6, rfl, hs6⟩ := hO6.form
      have HS6 := hid (FSq.congr hs6 (fun i hi => sqs_at 3 4 (gridL F q.toNat) (n := 9) (by simpa using hi)))
      rw [show ((List.range 9).map (sqW 3 4 (gridL F q.toNat))).length = 9 from rfl] at HS6
      have R6 := hid (R5.out.of_block (hb6.block _ R5.out.lt))
      have X6 := hid (X5.out.step hb6)
      have G6 := hid (G5.out.below hb6)
      clear hO6 hs6 hb6 R5 X5 G5 I5
      have HJE := hid (c_joinEach a6 9 c6 (sqW 3 4 (gridL F q.toNat)) w6 G6.out HS6.out (by omega) (by omega) (fun i _ => rfl) HKK.out HFA.out)
      go_wp2_with fail
      refine HJE.out.mono ?_
      rintro e w7 ⟨B, g7, cap7, rfl, hG7, hR7, hB7, hb7, hr7⟩
      have hG7 : Grv w7 base p g7 cap7 mb (nineR F q).1 := hG7
      have hR7 : IRow w7 B (nineR F q).2 := hR7
      have G7 := hid hG7
      have I7 := hid hR7
      have hlb : w.heap.size + 1 < base := by have := HBS.out; omega
      have R7 := hid (R6.out.of_block (hb7.block _ hlb))
      have X7 := hid (X6.out.2.2.trans (hb7.mono (by omega)))
      have HBL := hid (show w.heap.size + 1 < B by have := R6.out.lt; omega)
      clear hG7 hR7 hb7 hr7 HJE R6 X6 G6 HS6 hlb
      have HTA := hid (c_toldAll (some ⟨B, 0, none⟩) 9 9 w7 G7.out HF.out.grows (by have := HF.out.most; omega))
      go_wp2_with fail
      refine HTA.out.mono ?_
      rintro e w8 ⟨u8, rfl, hO8, hb8⟩
      have HO8 := hid hO8
      obtain ⟨ua8, uc8, rfl, _⟩ := hO8.form
      have R9 := R7.out.of_block (hb8.block _ R7.out.lt)
      have hlt7 := R7.out.lt
      have r0 := R9.cell (i := 0) (by omega)
      have f0 := R9.frozen 0
      have E0 := hid ((R9.set 0 (.slice ua8 (tellF (nineR F q).1).length uc8)).cell (i := 0) (by omega))
      simp only [if_true] at E0
      have hs9 : (w8.setCell ⟨w.heap.size + 1, 0, none⟩ (.slice ua8 (tellF (nineR F q).1).length uc8)).heap.size = w8.heap.size := by simp
      have hGW : Grew w8 (w8.setCell ⟨w.heap.size + 1, 0, none⟩ (.slice ua8 (tellF (nineR F q).1).length uc8)) (w.heap.size + 1) (w.heap.size + 1 + 1) := (Grew.refl w8 _ _).set (Nat.le_refl _) (by omega) _
      have HO9 := hid ((HO8.out.kept hGW (by omega)).wide (lo' := w7.heap.size) (hi' := w8.heap.size) (Nat.le_refl _) (Nat.le_refl _) (by rw [hs9]; exact Nat.le_refl _))
      have HB9 := hid ((X7.out.trans (hb8.mono X7.out.size)).setCell (p := ⟨w.heap.size + 1, 0, none⟩) (by dsimp only; omega) (.slice ua8 (tellF (nineR F q).1).length uc8))
      have HS9 := hid hs9
      have HZ8 := hid hb8.size
      have HZ7 := hid X7.out.size
      have HI9 := hid (World.rowIs.setOther (World.rowIs.of_block I7.out (hb8.block _ (World.rowIs.lt I7.out))) (a := ⟨w.heap.size + 1, 0, none⟩) (by have := HBL.out; show B ≠ w.heap.size + 1; omega) (.slice ua8 (tellF (nineR F q).1).length uc8))
      have HBW := hid (World.rowIs.lt I7.out)
      have HL4 := hid HF.out.len
      have HV := hid (show (tellB (nineR F q).1 = true ∧ anF (nineOK F q) (nineR F q) = tellF (nineR F q).1 ∧ anN (nineOK F q) (nineR F q) = (nineR F q).2 ∧ anB (nineOK F q) (nineR F q) = true) ∨ (tellB (nineR F q).1 = false ∧ anF (nineOK F q) (nineR F q) = [] ∧ anN (nineOK F q) (nineR F q) = [] ∧ anB (nineOK F q) (nineR F q) = false) by
        rw [HOKK.out]
        cases htb : tellB (nineR F q).1
        · exact .inr ⟨rfl, an_full _ htb⟩
        · exact .inl ⟨rfl, an_yes _ htb⟩)
      have HTF := hid (show tellB (nineR F q).1 = false → tellF (nineR F q).1 = [] by intro h; have : ¬ (nineR F q).1.length ≤ 400 := by simpa [tellB] using h
                                                                                      simp [tellF, this])
      clear HTA hO8 HO8 hb8 R9 hGW hs9 hlt7 I7 G7 X7 R7 HFA HF
      generalize hT : tellF (nineR F q).1 = TF at *
      have HTN := hid (show ∀ b, tellB (nineR F q).1 = b → toldN (nineR F q).1 (.slice (some ⟨B, 0, none⟩) 9 9) = if b then .slice (some ⟨B, 0, none⟩) 9 9 else .slice none 0 0 by intro b h; unfold toldN; rw [h])
      generalize toldN (nineR F q).1 (.slice (some ⟨B, 0, none⟩) 9 9) = TN at *
      generalize hTB : tellB (nineR F q).1 = TB at *
      clear hT
      go_wp2_with fail
      refine bodyPost_ret (v := .tuple #[.agg #[.slice ua8 TF.length uc8], TN, .bool TB]) (by simp [results, Try.results12, go_sem, E0.out]) rfl ⟨.slice ua8 TF.length uc8, TN, w7.heap.size, ?_, ?_, ?_, HZ7.out, by rw [HS9.out]; exact HZ8.out, HB9.out⟩
      · rcases HV.out with ⟨h1, _, _, h2⟩ | ⟨h1, _, _, h2⟩ <;> rw [h1, h2]
      · rw [HS9.out]
        rcases HV.out with ⟨h1, h2, _⟩ | ⟨h1, h2, _⟩
        · rw [h2]; exact HO9.out
        · rw [h2, ← HTF.out h1]; exact HO9.out
      · rcases HV.out with ⟨h1, _, h2, _⟩ | ⟨h1, _, h2, _⟩
        · rw [h2, HTN.out true h1]
          have h3 := IRow.own HI9.out
          rw [HL4.out] at h3
          rcases h3 with ⟨e, _⟩ | ⟨g0, cap0, e1, e2, e3, e4, e5, e6⟩
          · cases e
          · simp only [Value.slice.injEq, Option.some.injEq, Addr.mk.injEq, and_true] at e1
            obtain ⟨rfl, e7, rfl⟩ := e1
            exact .inr ⟨B, 9, by rw [← e7]; rfl, e2, by have := HBL.out; omega, HBW.out, by rw [HS9.out]; exact HZ8.out, e6⟩
        · rw [h2, HTN.out false h1]
          exact .inl ⟨rfl, rfl⟩

end Go.Proofs.Ytokemdbgcegjiaa
