/- Rows of cells that a call itself has made: owned, marked, and found marked. -/
import Derived.Test.YtgfdkolhldbehaaGood
import Derived.Deep.AppendLies
import Derived.Deep.Onto
namespace Go.Proofs.Ytgfdkolhldbehaa
open Go.RowKit
set_option linter.unusedVariables false

/-- Cells, one value behind the other. -/
def flat (l : List Cl) : List Value := l.flatMap fun c => [.int .i64 c.1, .int .i64 c.2]
theorem flat_length (l : List Cl) : (flat l).length = l.length * 2 := by
  induction l with
  | nil => rfl
  | cons c r ih => simp only [flat, List.flatMap_cons, List.length_append, List.length_cons, List.length_nil] at *; omega
theorem flat_append (l m : List Cl) : flat (l ++ m) = flat l ++ flat m := by simp [flat]
theorem flat_cons (c : Cl) (l : List Cl) : flat (c :: l) = .int .i64 c.1 :: .int .i64 c.2 :: flat l := by simp [flat]
theorem flat_even {l : List Cl} {i : Nat} (h : i < l.length) : (flat l)[i * 2]? = some (.int .i64 (at_ l i).1) := by
  induction l generalizing i with
  | nil => simp at h
  | cons c r ih =>
    rw [flat_cons]
    cases i with
    | zero => simp [at_]
    | succ i =>
      rw [show (i + 1) * 2 = i * 2 + 1 + 1 by omega, List.getElem?_cons_succ, List.getElem?_cons_succ, ih (by simpa using h)]
      simp [at_]
theorem flat_odd {l : List Cl} {i : Nat} (h : i < l.length) : (flat l)[i * 2 + 1]? = some (.int .i64 (at_ l i).2) := by
  induction l generalizing i with
  | nil => simp at h
  | cons c r ih =>
    rw [flat_cons]
    cases i with
    | zero => simp [at_]
    | succ i =>
      rw [show (i + 1) * 2 + 1 = i * 2 + 1 + 1 + 1 by omega, List.getElem?_cons_succ, List.getElem?_cons_succ, ih (by simpa using h)]
      simp [at_]
theorem flat_one (l : List Cl) : ∀ u ∈ flat l, u.oneCell' = true := by
  intro u hu
  simp only [flat, List.mem_flatMap, List.mem_cons, List.not_mem_nil, or_false] at hu
  obtain ⟨c, _, rfl | rfl⟩ := hu <;> rfl
/-- Setting two values sets one cell. -/
theorem flat_set (l : List Cl) (i : Nat) (c : Cl) (h : i < l.length) : ((flat l).set (i * 2) (.int .i64 c.1)).set (i * 2 + 1) (.int .i64 c.2) = flat (l.set i c) := by
  induction l generalizing i with
  | nil => simp at h
  | cons d r ih =>
    cases i with
    | zero => simp [flat_cons]
    | succ i =>
      rw [flat_cons, show (i + 1) * 2 = i * 2 + 1 + 1 by omega, List.set_cons_succ, List.set_cons_succ, List.set_cons_succ, List.set_cons_succ, ih i (by simpa using h), List.set_cons_succ, flat_cons]

/-- The slice v owns the cells l, among the blocks from base on. -/
def OwnS (w : World) (base : Nat) (v : Value) (l : List Cl) : Prop := w.ownsRow base 36 2 v l.length (flat l)

theorem OwnS.nil (w : World) (base : Nat) : OwnS w base (.slice none 0 0) [] := World.ownsRow_nil w base 36 2
theorem OwnS.form {w : World} {base : Nat} {v : Value} {l : List Cl} (h : OwnS w base v l) : ∃ a cap, v = .slice a l.length cap ∧ Seg w a l := by
  have h0 := h
  rcases h.2 with ⟨rfl, hn⟩ | ⟨g, cap, cur, rfl, hb, hg, hcap, hm, hs, ht⟩
  · exact ⟨none, 0, by rw [hn], fun i hi => by omega⟩
  · refine ⟨some ⟨g, 0, none⟩, cap, rfl, fun i hi => ⟨g, 0, rfl, (Array.getElem?_eq_some_iff.1 hg).1, ?_, ?_⟩⟩
    · have := World.ownsRow.cellAt h0 (i * 2) (by omega)
      rw [flat_even hi] at this
      rw [show 0 + i * 2 = i * 2 by omega]
      exact this
    · have := World.ownsRow.cellAt h0 (i * 2 + 1) (by omega)
      rw [flat_odd hi] at this
      rw [show 0 + i * 2 + 1 = i * 2 + 1 by omega]
      exact this
theorem grown_of_below {w w' : World} (h : Below w.heap.size w w') (row : Option Nat) : w.grownBy w' row := ⟨h.os, h.tape, h.output, h.size, fun k hk _ => h.block k hk⟩
theorem OwnS.below {w w' : World} {base : Nat} {v : Value} {l : List Cl} (h : OwnS w base v l) (hb : Below w.heap.size w w') : OwnS w' base v l :=
  World.ownsRow.kept h (grown_of_below hb none) (by cases v.ownBlock <;> simp)
theorem OwnS.lt {w : World} {base : Nat} {v : Value} {l : List Cl} (h : OwnS w base v l) : ∀ k, v.ownBlock = some k → base ≤ k ∧ k < w.heap.size := World.ownsRow.lt h
theorem OwnS.mono {w : World} {base base' : Nat} {v : Value} {l : List Cl} (h : OwnS w base v l) (hb : base' ≤ base) : OwnS w base' v l := World.ownsRow.mono h hb

theorem flat_ext {l : List Cl} {xs : List Value} (hx : xs.length = l.length * 2) (h : ∀ i, i < l.length → xs[i * 2]? = some (.int .i64 (at_ l i).1) ∧ xs[i * 2 + 1]? = some (.int .i64 (at_ l i).2)) : xs = flat l := by
  apply List.ext_getElem?
  intro j
  by_cases hj : j < l.length * 2
  · have hi : j / 2 < l.length := by omega
    rcases (show j = j / 2 * 2 ∨ j = j / 2 * 2 + 1 by omega) with e | e
    · rw [e, (h _ hi).1, flat_even hi]
    · rw [e, (h _ hi).2, flat_odd hi]
  · rw [List.getElem?_eq_none (by omega), List.getElem?_eq_none (by rw [flat_length]; omega)]

/-- A row that was made whole is owned. -/
theorem Row.own {w : World} {g : Nat} {l : List Cl} (h : Row w g l) (hl : l.length ≤ 1048576) : OwnS w g (.slice (some ⟨g, 0, none⟩) l.length l.length) l := by
  obtain ⟨c, hb, hn, hc⟩ := h
  refine ⟨flat_length l, .inr ⟨g, l.length, c, rfl, Nat.le_refl _, hb, Nat.le_refl _, by unfold maxLen; omega, hn, ?_⟩⟩
  have hcl : c.toList.length = l.length * 2 := by simpa using hn
  refine flat_ext (by rw [List.length_take, hcl]; omega) fun i hi => ?_
  have e0 := hc (i * 2) (by omega)
  have e1 := hc (i * 2 + 1) (by omega)
  rw [List.getElem?_take_of_lt (by omega), List.getElem?_take_of_lt (by omega), Array.getElem?_toList, Array.getElem?_toList, e0, e1]
  have m0 : (i * 2) % 2 = 0 := by omega
  have m1 : (i * 2 + 1) % 2 = 1 := by omega
  have d0 : (i * 2) / 2 = i := by omega
  have d1 : (i * 2 + 1) / 2 = i := by omega
  simp [m0, m1, d0, d1, at_]

/-- Marks. -/
def marks (k : Int) (n : Nat) : List Cl := (List.range n).map fun i : Nat => (k + 2 * (i : Int), k + 2 * (i : Int) + 1)
theorem marks_length (k : Int) (n : Nat) : (marks k n).length = n := by simp [marks]
theorem marks_at {k : Int} {n i : Nat} (h : i < n) : at_ (marks k n) i = (k + 2 * (i : Int), k + 2 * (i : Int) + 1) := by simp [at_, marks, h]
/-- Cells of which the first i are marked. -/
def markTo (l : List Cl) (k : Int) (i : Nat) : List Cl := marks k i ++ l.drop i
theorem markTo_length {l : List Cl} {k : Int} {i : Nat} (h : i ≤ l.length) : (markTo l k i).length = l.length := by simp [markTo, marks_length]; omega
theorem markTo_succ {l : List Cl} {k : Int} {i : Nat} (h : i < l.length) : (markTo l k i).set i (k + 2 * (i : Int), k + 2 * (i : Int) + 1) = markTo l k (i + 1) := by
  unfold markTo
  rw [List.set_append_right _ _ (by rw [marks_length]; exact Nat.le_refl _), marks_length, Nat.sub_self]
  obtain ⟨x, r, e⟩ : ∃ x r, l.drop i = x :: r := by
    cases hd : l.drop i with
    | nil => have := congrArg List.length hd; simp at this; omega
    | cons x r => exact ⟨x, r, rfl⟩
  have e2 : l.drop (i + 1) = r := by rw [← List.drop_drop, e]; rfl
  rw [e, e2]
  simp [marks, List.range_succ]
theorem markTo_all (l : List Cl) (k : Int) : markTo l k l.length = marks k l.length := by simp [markTo]


theorem c_mark_nil (ca : Nat) (a : Option Addr) (k : Int) (w : World) :
    Calls Try.prog 39 #[.slice a 0 ca, .int .i64 k] w fun e w' => e = .returned (.int .i64 k) ∧ w' = w := by
  go_enter Try.func39, Try.ntmps39
  go_wp2
  refine wp_loop_rounds 1 ?_
  rw [rounds_succ]
  go_wp2
  go_ret
  exact ⟨rfl, rfl⟩

theorem grown_trans {a b c : World} {row : Option Nat} (h : a.grownBy b row) (k : b.grownBy c row) : a.grownBy c row :=
  ⟨k.os.trans h.os, k.tape.trans h.tape, k.output.trans h.output, Nat.le_trans h.size k.size, fun i hi hn => (k.block i (Nat.lt_of_lt_of_le hi h.size) hn).trans (h.block i hi hn)⟩
theorem grown_refl (a : World) (row : Option Nat) : a.grownBy a row := ⟨rfl, rfl, rfl, Nat.le_refl _, fun _ _ _ => rfl⟩

theorem mark_step {W : World} {base g ca : Nat} {l : List Cl} {k : Int} {i : Nat} (h : OwnS W base (.slice (some ⟨g, 0, none⟩) l.length ca) (markTo l k i)) (hi : i < l.length) :
    OwnS ((W.setCell ⟨g, i * 2, none⟩ (.int .i64 (k + 2 * (i : Int)))).setCell ⟨g, i * 2 + 1, none⟩ (.int .i64 (k + 2 * (i : Int) + 1))) base (.slice (some ⟨g, 0, none⟩) l.length ca) (markTo l k (i + 1)) ∧
    W.grownBy ((W.setCell ⟨g, i * 2, none⟩ (.int .i64 (k + 2 * (i : Int)))).setCell ⟨g, i * 2 + 1, none⟩ (.int .i64 (k + 2 * (i : Int) + 1))) (some g) := by
  unfold OwnS at h ⊢
  rw [markTo_length (by omega)] at h ⊢
  obtain ⟨h1, g1⟩ := World.ownsRow.stored h (i * 2) (.int .i64 (k + 2 * (i : Int)))
  obtain ⟨h2, g2⟩ := World.ownsRow.stored h1 (i * 2 + 1) (.int .i64 (k + 2 * (i : Int) + 1))
  refine ⟨?_, grown_trans g1 g2⟩
  rw [← markTo_succ hi, ← flat_set _ _ _ (by rw [markTo_length (by omega)]; exact hi)]
  exact h2

set_option maxHeartbeats 400000 in
theorem c_mark_some (g ca base : Nat) (l : List Cl) (k : Int) (w : World) (h : OwnS w base (.slice (some ⟨g, 0, none⟩) l.length ca) l) (hl : l.length ≤ 1048576) (k0 : 0 ≤ k) (k1 : k ≤ 16777216) :
    Calls Try.prog 39 #[.slice (some ⟨g, 0, none⟩) l.length ca, .int .i64 k] w fun e w' => e = .returned (.int .i64 (k + 2 * (l.length : Int))) ∧ OwnS w' base (.slice (some ⟨g, 0, none⟩) l.length ca) (marks k l.length) ∧ w.grownBy w' (some g) := by
  have H := hid h
  clear h
  go_enter Try.func39, Try.ntmps39
  go_wp2
  go_loopw [1, 5] (fun s i wr => ∃ j : Nat, j ≤ l.length ∧ i = .int .i64 j ∧ s = .int .i64 (k + 2 * (j : Int)) ∧ OwnS wr base (.slice (some ⟨g, 0, none⟩) l.length ca) (markTo l k j) ∧ w.grownBy wr (some g)) (fun _ i _ => l.length - (intOf i).toNat)
  case atStart => exact ⟨0, Nat.zero_le _, rfl, by simp, by simpa [markTo, marks] using H.out, grown_refl _ _⟩
  case round =>
    clear H
    obtain ⟨j, hj, rfl, rfl, hO, hG⟩ := hrel
    by_cases hlt : j < l.length
    · have hlen := markTo_length (l := l) (k := k) (i := j) (by omega)
      have hO' := hO
      unfold OwnS at hO'
      rw [hlen] at hO'
      have e0 := World.ownsRow.cellAt hO' (j * 2) (by omega)
      have e1 := World.ownsRow.cellAt hO' (j * 2 + 1) (by omega)
      rw [flat_even (by omega)] at e0
      rw [flat_odd (by omega)] at e1
      have f0 := World.ownsRow.frozenAt hO' (j * 2)
      have f1 := World.ownsRow.frozenAt hO' (j * 2 + 1)
      have R := hid (mark_step hO hlt)
      have HG := hid hG
      clear hO hO' hG hlen
      have j0 : (0 : Int) ≤ (j : Int) := by omega
      have j1 : (j : Int) < (l.length : Int) := by omega
      go_wp2
      go_roundw
      case rel => exact ⟨j + 1, by omega, by go_num, by go_num, R.out.1, grown_trans HG.out R.out.2⟩
      case measure => simp [intOf]; omega
    · go_wp2
      go_ret
      obtain rfl : j = l.length := by omega
      rw [markTo_all] at hO
      exact ⟨rfl, hO, hG⟩

/-- Marking, whatever slice. -/
theorem c_mark (a : Option Addr) (ca base : Nat) (l : List Cl) (k : Int) (w : World) (h : OwnS w base (.slice a l.length ca) l) (hl : l.length ≤ 1048576) (k0 : 0 ≤ k) (k1 : k ≤ 16777216) :
    Calls Try.prog 39 #[.slice a l.length ca, .int .i64 k] w fun e w' => e = .returned (.int .i64 (k + 2 * (l.length : Int))) ∧ OwnS w' base (.slice a l.length ca) (marks k l.length) ∧ w.grownBy w' ((Value.slice a l.length ca).ownBlock) := by
  rcases h.2 with ⟨e, hn⟩ | ⟨g, cap, cur, e, _⟩
  · have hl0 : l = [] := List.eq_nil_of_length_eq_zero hn
    subst hl0
    simp only [List.length_nil, Value.slice.injEq] at e ⊢
    refine (c_mark_nil ca a k w).mono fun e w' ⟨he, hw⟩ => ⟨by rw [he]; simp, ?_, by rw [hw]; exact grown_refl _ _⟩
    rw [hw]; exact h
  · simp only [Value.slice.injEq, true_and] at e
    obtain ⟨rfl, rfl⟩ := e
    exact c_mark_some g ca base l k w h hl k0 k1

set_option maxHeartbeats 400000 in
/-- What was marked is found so. -/
theorem c_held (a : Option Addr) (ca n : Nat) (k : Int) (w : World) (ha : Seg w a (marks k n)) (hn : n ≤ 1048576) (k0 : 0 ≤ k) (k1 : k ≤ 16777216) :
    Calls Try.prog 40 #[.slice a n ca, .int .i64 k] w fun e w' => e = .returned (.int .i64 (k + 2 * (n : Int))) ∧ w' = w := by
  go_enter Try.func40, Try.ntmps40
  go_wp2
  go_loop [1, 5] (fun s i => ∃ j : Nat, j ≤ n ∧ i = .int .i64 j ∧ s = .int .i64 (k + 2 * (j : Int))) (fun _ i => n - (intOf i).toNat)
  case atStart => exact ⟨0, Nat.zero_le _, rfl, by simp⟩
  case round =>
    obtain ⟨j, hj, rfl, rfl⟩ := hrel
    by_cases hlt : j < n
    · obtain ⟨b1, o1, rfl, hb1, p1, p2⟩ := ha j (by rw [marks_length]; exact hlt)
      have em := marks_at (k := k) hlt
      unfold at_ at em
      rw [em] at p1 p2
      clear em
      have j0 : (0 : Int) ≤ (j : Int) := by omega
      have j1 : (j : Int) < (n : Int) := by omega
      have x1 : ((k + 2 * (j : Int)) != (k + 2 * (j : Int))) = false := by simp
      have x2 : ((k + 2 * (j : Int) + 1) != (k + 2 * (j : Int) + 1)) = false := by simp
      go_wp2
      go_round
      case rel => exact ⟨j + 1, by omega, by go_num, by go_num⟩
      case measure => simp [intOf]; omega
    · go_wp2
      go_ret
      obtain rfl : j = n := by omega
      exact ⟨rfl, rfl⟩

end Go.Proofs.Ytgfdkolhldbehaa
