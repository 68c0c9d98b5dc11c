/- For FnRows: the draw of rows. -/
import Derived.Test.YthmjcjcamcdpkaaDoorDrawW
import Derived.Test.YthmjcjcamcdpkaaDoorOfRows
namespace Go.Proofs.YthmjcjcamcdpkaaDoor
open Go.RowKit
set_option linter.unusedVariables false

theorem tot_le {R : List Tx} {k : Nat} (h : ∀ i, i < R.length → (tx R i).size ≤ k) : tot R ≤ R.length + k * R.length := by
  have key : ∀ n, n ≤ R.length → totTo R n ≤ k * n := by
    intro n
    induction n with
    | zero => intro _; simp [totTo]
    | succ n ih =>
      intro hn
      have h1 := ih (by omega)
      have h2 := h n (by omega)
      simp only [totTo, Nat.mul_succ]
      omega
  have := key R.length (Nat.le_refl _)
  unfold tot
  omega
theorem own_setT0 {W : World} {base g ca : Nat} {L : List Tx} (t : Tx) (h : OwnT W base (.slice (some ⟨g, 0, none⟩) L.length ca) L) :
    OwnT (W.setCell ⟨g, 0, none⟩ (.string t)) base (.slice (some ⟨g, 0, none⟩) L.length ca) (L.set 0 t) ∧ W.grownBy (W.setCell ⟨g, 0, none⟩ (.string t)) (some g) := by
  unfold OwnT at h ⊢
  obtain ⟨h1, g1⟩ := World.ownsRow.stored h 0 (.string t)
  refine ⟨?_, g1⟩
  rw [List.map_set, List.length_set]
  exact h1
theorem tx_set {L : List Tx} {t : Tx} {k i : Nat} (h : ∀ i, i < L.length → (tx L i).size ≤ k) (ht : t.size ≤ k) (hi : i < (L.set 0 t).length) : (tx (L.set 0 t) i).size ≤ k := by
  rw [List.length_set] at hi
  by_cases e : i = 0
  · subst e
    have : tx (L.set 0 t) 0 = t := by simp [tx, hi]
    rw [this]; exact ht
  · have : tx (L.set 0 t) i = tx L i := by simp [tx, hi, List.getElem_set_ne (Ne.symm e)]
    rw [this]; exact h i hi

set_option maxRecDepth 100000 in
theorem c_of (base b n g o cap : Nat) (A : Int) (L : List Tx) (w : World) (h : CurAt w base b n A) (hA : A ≤ 1073741824) (hl : 1 < L.length) (hl2 : L.length ≤ 200) (hs : ∀ i, i < L.length → w.cell? ⟨g, o + i, none⟩ = some (.string (tx L i))) (hgb : g ≠ b) (hgl : g < w.heap.size) :
    Calls Tryd.prog 33 #[.pointer (some ⟨b, 0, none⟩), .slice (some ⟨g, o, none⟩) L.length cap] w fun e w' => ∃ j, j < L.length ∧ e = .returned (.string (tx L j)) ∧ CurAt w' base b n (A + 1) ∧ w.grownBy w' (some b) := by
  have HN := hid (c_pick base b n A (L.length : Int) w h hA (by omega) (by omega))
  have HS := hid hs
  clear hs h
  go_enter Tryd.func33, Tryd.ntmps33
  go_wp2_with fail
  refine HN.out.mono ?_
  rintro e w1 ⟨v, rfl, v0, v1, hc, hg⟩
  obtain ⟨j, rfl⟩ : ∃ j : Nat, v = (j : Int) := ⟨v.toNat, by omega⟩
  have hcell := (cell_grown1 hg (o := o + j) hgl (fun e => hgb (by simpa using e))).trans (HS.out j (by omega))
  have HC := hid hc
  have HG := hid hg
  have HJ := hid (show ∃ i, i < L.length ∧ tx L j = tx L i from ⟨j, by omega, rfl⟩)
  clear hc hg HN
  generalize tx L j = u at *
  go_wp2
  go_ret
  obtain ⟨i, hi, e⟩ := HJ.out
  exact ⟨i, hi, by first | (subst e; rfl) | exact congrArg (fun z => Ending.returned (Value.string z)) e | exact e | simp [e], HC.out, HG.out⟩
theorem tseg_new (w : World) (L : List Tx) (cs : Array Value) (t : TypeId) (h : cs = (L.map Value.string).toArray) : ∀ i, i < L.length → (w.alloc (.cells cs t)).cell? ⟨w.heap.size, 0 + i, none⟩ = some (.string (tx L i)) := by
  subst h
  intro i hi
  unfold World.cell?
  rw [heap_alloc_new]
  simp [tx, hi]
theorem rowsOfL_size (l : List Cl) (x y : Int) : ∀ i, i < (rowsOfL l x y).length → (tx (rowsOfL l x y) i).size ≤ 20 := by
  intro i hi
  unfold rowsOfL at hi ⊢
  split
  · rename_i ho
    rw [if_pos ho, rowsL_length] at hi
    rw [rowsL_at hi, rowTx_size]
    unfold rowsOfOk at ho
    simp only [Bool.and_eq_true] at ho
    have := inS_bd ho.1.2
    omega
  · rename_i ho
    rw [if_neg ho] at hi
    simp at hi
def lits4 : List Tx := [⟨#[]⟩, ⟨#[35]⟩, ⟨#[120, 46, 46, 46, 46, 46, 46, 46, 46]⟩, ⟨#[46, 46, 46, 46, 46, 46, 46, 46, 46, 46]⟩]
theorem lits4_size : ∀ j, j < lits4.length → (tx lits4 j).size ≤ 20 := by decide

set_option maxHeartbeats 1000000 in
set_option maxRecDepth 100000 in
theorem c_DrawOfRows (a : Option Addr) (l : List Int) (ca : Nat) (w : World) (ha : BSeg w a l) (hl : l.length ≤ 9223372036854775807) :
    Calls Tryd.prog 13 #[.slice a l.length ca] w fun e w' => ∃ (v : Value) (R : List Tx), e = .returned v ∧ OwnT w' w.heap.size v R ∧ tot R ≤ 1048576 ∧ R.length ≤ 20 ∧ Below w.heap.size w w' := by
  have HC := hid (cur_new w a l ca ha hl)
  clear ha
  go_enter Tryd.func13, Tryd.ntmps13
  go_wp2_with fail
  refine (c_small w.heap.size w.heap.size l.length 0 (curW w a l.length ca) HC.out (by omega)).mono ?_
  rintro e w1 ⟨v1, L, rfl, hO1, hl1, hs1, hc1, hg1⟩
  have HU := hid (show CU (curW w a l.length ca) w1 w.heap.size w.heap.size l.length (0 + 1000) v1 L from ⟨hO1, hc1, hg1, by simp⟩)
  obtain ⟨a2, c2, rfl, _⟩ := hO1.form
  clear hO1 hs1 hc1 hg1 HC
  go_wp2_with fail
  refine (c_pick w.heap.size w.heap.size l.length _ 9 w1 HU.out.cur (by omega) (by omega) (by omega)).mono ?_
  rintro e w2 ⟨p, rfl, p0, p1, hc2, hg2⟩
  have HU2 := hid (HU.out.cur' hc2 hg2)
  clear hc2 hg2 HU
  go_wp2_with fail
  refine (c_pick w.heap.size w.heap.size l.length _ 9 w2 HU2.out.cur (by omega) (by omega) (by omega)).mono ?_
  rintro e w3 ⟨q, rfl, q0, q1, hc3, hg3⟩
  have HU3 := hid (HU2.out.cur' hc3 hg3)
  clear hc3 hg3 HU2
  go_wp2_with fail
  refine (c_sRowsOf a2 L c2 (1 + p) (1 + q) w3 HU3.out.own.seg (by omega)).mono ?_
  rintro e w4 ⟨v4, rfl, o4, b4⟩
  have HU4 := hid (show CU (curW w a l.length ca) w4 w.heap.size w.heap.size l.length _ (.slice none 0 0) [] from ⟨OwnS.nil _ _, (HU3.out.below b4).cur, (HU3.out.below b4).gr, by simp⟩)
  have HO := hid o4
  have hz : w.heap.size < w3.heap.size := HU3.out.cur.lt.2
  have hR := rowsOfL_le L (1 + p) (1 + q)
  have HR := hid (rowsOfL_size L (1 + p) (1 + q))
  clear o4 b4 HU3
  generalize rowsOfL L (1 + p) (1 + q) = R at *
  generalize rowsOfOk L (1 + p) (1 + q) = ok at *
  have HT := hid (show tot R ≤ 1048576 by have := tot_le HR.out; omega)
  by_cases h0 : R = []
  · subst h0
    obtain ⟨a7, ca7, rfl, _⟩ := HO.out.form
    go_wp2
    go_ret
    exact ⟨_, [], rfl, HO.out.mono (by omega), HT.out, by simp, below_cur HU4.out.gr⟩
  · have hlen : 0 < R.length := List.length_pos_iff.2 h0
    have hlen' : (0 : Int) < (R.length : Int) := by omega
    obtain ⟨g, cap, rfl⟩ : ∃ g cap, v4 = .slice (some ⟨g, 0, none⟩) R.length cap := by
      rcases HO.out.2 with ⟨_, hn⟩ | ⟨g, cap, cur, e, _⟩
      · omega
      · exact ⟨g, cap, e⟩
    clear h0
    have hgg := (HO.out.lt g rfl).1
    go_wp2_with fail
    refine (c_one w.heap.size w.heap.size l.length _ 6 w4 HU4.out.cur (by omega) (by omega) (by omega)).mono ?_
    rintro e w5 ⟨x, rfl, hc5, hg5⟩
    have HU5 := hid (HU4.out.cur' hc5 hg5)
    have HO5 := hid (ownT_keep HO.out hg5 (fun k hk e => by have := (HO.out.lt k hk).1; simp only [Option.some.injEq] at e; omega))
    clear hc5 hg5 HU4 HO
    cases x
    · go_wp2
      go_ret
      exact ⟨_, R, rfl, HO5.out.mono (by omega), HT.out, hR, below_cur HU5.out.gr⟩
    · have HU6 := hid (HU5.out.alloc (.cells #[.string ⟨#[]⟩, .string ⟨#[35]⟩, .string ⟨#[120, 46, 46, 46, 46, 46, 46, 46, 46]⟩, .string ⟨#[46, 46, 46, 46, 46, 46, 46, 46, 46, 46]⟩] 9))
      have HO6 := hid (HO5.out.below ((Below.refl w5.heap.size w5).alloc (Nat.le_refl _) (.cells #[.string ⟨#[]⟩, .string ⟨#[35]⟩, .string ⟨#[120, 46, 46, 46, 46, 46, 46, 46, 46]⟩, .string ⟨#[46, 46, 46, 46, 46, 46, 46, 46, 46, 46]⟩] 9)))
      have HI6 := hid (tseg_new w5 lits4 #[.string ⟨#[]⟩, .string ⟨#[35]⟩, .string ⟨#[120, 46, 46, 46, 46, 46, 46, 46, 46]⟩, .string ⟨#[46, 46, 46, 46, 46, 46, 46, 46, 46, 46]⟩] 9 rfl)
      have hne := HU5.out.cur.lt
      go_wp2_with fail
      refine (c_of w.heap.size w.heap.size l.length _ 0 4 _ lits4 _ HU6.out.cur (by omega) (by decide) (by decide) HI6.out (by omega) (by simp)).mono ?_
      rintro e w7 ⟨j, hj, rfl, hc7, hg7⟩
      have HU7 := hid (HU6.out.cur' hc7 hg7)
      have HO7 := hid (ownT_keep HO6.out hg7 (fun k hk e => by have := (HO6.out.lt k hk).1; simp only [Option.some.injEq] at e; omega))
      have HJ := hid (lits4_size j hj)
      clear hc7 hg7 HU6 HO6 HI6 HU5 HO5 hne hj
      generalize tx lits4 j = u at *
      have e0 := World.ownsRow.cellAt HO7.out 0 (by omega)
      rw [List.getElem?_map, tx_get hlen] at e0
      have f0 := World.ownsRow.frozenAt HO7.out 0
      have R7 := hid (own_setT0 u HO7.out)
      have hb7 := (below_cur HU7.out.gr).grown R7.out.2 (by have := HU7.out.cur.lt; omega) (fun k e => by simp only [Option.some.injEq] at e; omega)
      have HB7 := hid hb7
      have HT7 := hid (show tot (R.set 0 u) ≤ 1048576 by have := tot_le (fun i hi => tx_set HR.out HJ.out hi); rw [List.length_set] at this; omega)
      clear hb7
      generalize tx R 0 = y at *
      go_wp2
      go_ret
      exact ⟨_, _, rfl, R7.out.1.mono (by omega), HT7.out, by simpa using hR, HB7.out⟩
end Go.Proofs.YthmjcjcamcdpkaaDoor
