/- Lists of lists of cells in memory: owned, appended to, compared, marked, found marked. -/
import Derived.Test.YtgppcocfnbalfaaApp
import Derived.Test.YtgppcocfnbalfaaHistP
import Derived.Test.YtgppcocfnbalfaaRgR
namespace Go.Proofs.Ytgppcocfnbalfaa
open Go.RowKit
set_option linter.unusedVariables false
set_option linter.unusedSimpArgs false
attribute [local go_sem ↓] Go.wp_at_zero Go.wp_at_succ

/-- The slice at a place. -/
def va (vs : List Value) (i : Nat) : Value := vs.getD i (.slice none 0 0)
theorem va_get {vs : List Value} {i : Nat} (h : i < vs.length) : vs[i]? = some (va vs i) := by simp [va, h]

/-- The lists H lie where the slice's address a leads to. -/
def HSeg (w : World) (a : Option Addr) (H : List (List Cl)) : Prop :=
  ∀ i, i < H.length → ∃ b o, a = some ⟨b, o, none⟩ ∧ b < w.heap.size ∧ ∃ a' c', w.cell? ⟨b, o + i, none⟩ = some (.slice a' (ht H i).length c') ∧ Seg w a' (ht H i) ∧ (a' = none → c' = 0)
theorem HSeg.below {w w' : World} {a : Option Addr} {H : List (List Cl)} (h : HSeg w a H) (hb : Below w.heap.size w w') : HSeg w' a H := by
  intro i hi
  obtain ⟨b, o, rfl, hlt, a', c', h1, h2, h3⟩ := h i hi
  exact ⟨b, o, rfl, Nat.lt_of_lt_of_le hlt hb.size, a', c', (hb.cell (p := ⟨b, _, none⟩) hlt).trans h1, h2.below hb, h3⟩

/-- The slice v owns, among the blocks from base on, the slices vs, and each of them the cells of its list, no two in one block. -/
structure OwnH (w : World) (base : Nat) (v : Value) (vs : List Value) (H : List (List Cl)) : Prop where
  len : vs.length = H.length
  row : w.ownsRow base 23 1 v H.length vs
  each : ∀ i, i < H.length → OwnS w base (va vs i) (ht H i)
  apart : ∀ i j, i < j → j < H.length → ∀ k, (va vs i).ownBlock = some k → (va vs j).ownBlock ≠ some k

theorem OwnH.nil (w : World) (base : Nat) : OwnH w base (.slice none 0 0) [] [] :=
  ⟨rfl, World.ownsRow_nil w base 23 1, fun i hi => absurd hi (Nat.not_lt_zero _), fun i j _ hj => absurd hj (Nat.not_lt_zero _)⟩
theorem OwnH.lt {w : World} {base : Nat} {v : Value} {vs : List Value} {H : List (List Cl)} (h : OwnH w base v vs H) : ∀ k, v.ownBlock = some k → base ≤ k ∧ k < w.heap.size := World.ownsRow.lt h.row
theorem OwnH.mono {w : World} {base base' : Nat} {v : Value} {vs : List Value} {H : List (List Cl)} (h : OwnH w base v vs H) (hb : base' ≤ base) : OwnH w base' v vs H :=
  ⟨h.len, World.ownsRow.mono h.row hb, fun i hi => (h.each i hi).mono hb, h.apart⟩
/-- What is no block of theirs may change. -/
theorem OwnH.kept {w w' : World} {base : Nat} {v : Value} {vs : List Value} {H : List (List Cl)} {row : Option Nat} (h : OwnH w base v vs H) (hg : w.grownBy w' row) (hr : ∀ k, row = some k → k < base) : OwnH w' base v vs H := by
  refine ⟨h.len, World.ownsRow.kept h.row hg ?_, fun i hi => own_keep (h.each i hi) hg fun k hk e => ?_, h.apart⟩
  · cases e : v.ownBlock with
    | none => exact .inl rfl
    | some k => exact .inr fun e2 => by have := hr k e2.symm; have := (h.lt k e).1; omega
  · have := hr k e
    have := ((h.each i hi).lt k hk).1
    omega
theorem OwnH.below {w w' : World} {base : Nat} {v : Value} {vs : List Value} {H : List (List Cl)} (h : OwnH w base v vs H) (hb : Below w.heap.size w w') : OwnH w' base v vs H :=
  h.kept (grown_of_below hb none) (fun k e => by cases e)
/-- A block that is no cells may change. -/
theorem ownS_other {w w' : World} {base : Nat} {v : Value} {l : List Cl} {row : Option Nat} (h : OwnS w base v l) (hg : w.grownBy w' row) (hr : ∀ r, row = some r → ∃ o : Obj, w.heap[r]? = some o ∧ o.isCells = false) : OwnS w' base v l := by
  refine own_keep h hg fun k hk e => ?_
  obtain ⟨o, ho, hc⟩ := hr k e
  rcases h.2 with ⟨rfl, _⟩ | ⟨g, cap, cur, rfl, _, hgb, _⟩
  · simp [Value.ownBlock] at hk
  · simp only [Value.ownBlock, Option.some.injEq] at hk
    subst hk
    rw [hgb] at ho; cases ho; cases hc
theorem OwnH.other {w w' : World} {base : Nat} {v : Value} {vs : List Value} {H : List (List Cl)} {row : Option Nat} (h : OwnH w base v vs H) (hg : w.grownBy w' row) (hr : ∀ r, row = some r → ∃ o : Obj, w.heap[r]? = some o ∧ o.isCells = false) : OwnH w' base v vs H := by
  refine ⟨h.len, World.ownsRow.kept h.row hg ?_, fun i hi => ownS_other (h.each i hi) hg hr, h.apart⟩
  rcases h.row.2 with ⟨rfl, _⟩ | ⟨g, cap, cur, rfl, _, hgb, _⟩
  · exact .inl rfl
  · refine .inr fun e => ?_
    obtain ⟨o, ho, hc⟩ := hr g e.symm
    rw [hgb] at ho; cases ho; cases hc

/-- The block of a row of slices is none of a row of cells. -/
theorem row_ne {w : World} {base base' : Nat} {v u : Value} {vs : List Value} {n : Nat} {l : List Cl} (h : w.ownsRow base 23 1 v n vs) (hu : OwnS w base' u l) : ∀ k, v.ownBlock = some k → u.ownBlock ≠ some k := by
  intro k hk e
  rcases h.2 with ⟨rfl, _⟩ | ⟨g, cap, cur, rfl, _, hgb, _⟩
  · simp [Value.ownBlock] at hk
  · rcases hu.2 with ⟨rfl, _⟩ | ⟨g', cap', cur', rfl, _, hgb', _⟩
    · simp [Value.ownBlock] at e
    · simp only [Value.ownBlock, Option.some.injEq] at hk e
      subst hk; subst e
      rw [hgb] at hgb'
      simp only [Option.some.injEq, Obj.cells.injEq] at hgb'
      exact absurd hgb'.2.1 (by decide)

theorem OwnH.form {w : World} {base : Nat} {v : Value} {vs : List Value} {H : List (List Cl)} (h : OwnH w base v vs H) : ∃ a cap, v = .slice a H.length cap ∧ HSeg w a H ∧ (a = none → cap = 0) := by
  rcases h.row.2 with ⟨rfl, hn⟩ | ⟨g, cap, cur, rfl, hb, hg, _⟩
  · exact ⟨none, 0, by rw [hn], fun i hi => by omega, fun _ => rfl⟩
  · refine ⟨some ⟨g, 0, none⟩, cap, rfl, fun i hi => ?_, fun e => by cases e⟩
    obtain ⟨a', c', e, hs⟩ := (h.each i hi).form
    refine ⟨g, 0, rfl, (Array.getElem?_eq_some_iff.1 hg).1, a', c', ?_, hs, ?_⟩
    · have := World.ownsRow.cellAt h.row i (by omega)
      rw [va_get (by rw [h.len]; exact hi), e] at this
      rw [Nat.zero_add]; exact this
    · exact OwnS.cap0 (e ▸ h.each i hi)
theorem OwnH.seg {w : World} {base n ca : Nat} {a : Option Addr} {vs : List Value} {H : List (List Cl)} (h : OwnH w base (.slice a n ca) vs H) : HSeg w a H := by
  obtain ⟨a', c', e, hs, _⟩ := h.form
  simp only [Value.slice.injEq] at e
  rw [e.1]; exact hs

theorem ht_set {H : List (List Cl)} {i : Nat} {m : List Cl} (hi : i < H.length) (j : Nat) : ht (H.set i m) j = if j = i then m else ht H j := by
  by_cases e : j = i
  · subst e; simp [ht, hi]
  · simp only [ht, List.getD_eq_getElem?_getD, List.getElem?_set, e, if_false]
    rw [if_neg (fun h => e h.symm)]
/-- One of the lists is written over. -/
theorem OwnH.turn {w w' : World} {base i : Nat} {v : Value} {vs : List Value} {H : List (List Cl)} {m : List Cl} (h : OwnH w base v vs H) (hi : i < H.length) (hg : w.grownBy w' (va vs i).ownBlock) (hm : OwnS w' base (va vs i) m) : OwnH w' base v vs (H.set i m) := by
  refine ⟨by rw [List.length_set]; exact h.len, ?_, fun j hj => ?_, fun a b hab hb => h.apart a b hab (by rwa [List.length_set] at hb)⟩
  · rw [List.length_set]
    refine World.ownsRow.kept h.row hg ?_
    cases e : v.ownBlock with
    | none => exact .inl rfl
    | some k => exact .inr fun e2 => row_ne h.row (h.each i hi) k e e2.symm
  · rw [List.length_set] at hj
    rw [ht_set hi]
    split
    · rename_i e; subst e; exact hm
    · rename_i e
      refine own_keep (h.each j hj) hg fun k hk e2 => ?_
      rcases Nat.lt_or_gt_of_ne e with e3 | e3
      · exact h.apart j i e3 hi k hk e2
      · exact h.apart i j e3 hj k e2 hk

theorem info_Cells : (Try.prog.info? 23).map (fun i => (i.zero, i.size, i.bytes)) = some (some (.slice none 0 0), 1, 24) := by kernel_rfl

theorem ht_snoc {H : List (List Cl)} {m : List Cl} (i : Nat) (hi : i < H.length + 1) : ht (H ++ [m]) i = if i = H.length then m else ht H i := by
  by_cases e : i = H.length
  · subst e; simp [ht]
  · simp only [e, if_false]
    have : i < H.length := by omega
    simp [ht, List.getElem?_append_left this]
theorem va_snoc {vs : List Value} {u : Value} (i : Nat) (hi : i < vs.length + 1) : va (vs ++ [u]) i = if i = vs.length then u else va vs i := by
  by_cases e : i = vs.length
  · subst e; simp [va]
  · simp only [e, if_false]
    have : i < vs.length := by omega
    simp [va, List.getElem?_append_left this]
/-- One list behind the others. -/
theorem OwnH.snoc {w : World} {base : Nat} {v v' u : Value} {vs : List Value} {H : List (List Cl)} {m : List Cl} (h : OwnH w base v vs H) (hr : w.ownsRow base 23 1 v' (H.length + 1) (vs ++ [u])) (hu : OwnS w base u m)
    (ha : ∀ i, i < H.length → ∀ k, (va vs i).ownBlock = some k → u.ownBlock ≠ some k) : OwnH w base v' (vs ++ [u]) (H ++ [m]) := by
  refine ⟨by simp [h.len], by rw [List.length_append]; exact hr, fun i hi => ?_, fun i j hij hj => ?_⟩
  · rw [List.length_append] at hi
    simp only [List.length_cons, List.length_nil] at hi
    rw [ht_snoc i hi, va_snoc i (by rw [h.len]; exact hi), h.len]
    split
    · exact hu
    · exact h.each i (by omega)
  · rw [List.length_append] at hj
    simp only [List.length_cons, List.length_nil] at hj
    rw [va_snoc i (by rw [h.len]; omega), va_snoc j (by rw [h.len]; exact hj), h.len]
    rw [if_neg (by omega : ¬ i = H.length)]
    split
    · exact ha i (by omega)
    · exact h.apart i j hij (by omega)
theorem OwnH.with_row {w : World} {base : Nat} {v v' : Value} {vs : List Value} {H : List (List Cl)} (h : OwnH w base v vs H) (hr : w.ownsRow base 23 1 v' H.length vs) : OwnH w base v' vs H := ⟨h.len, hr, h.each, h.apart⟩

/-- What two lists of lists own is kept when the slice's row is grown. -/
theorem own_rowkept {w w' : World} {base base' : Nat} {v u : Value} {vs : List Value} {n : Nat} {l : List Cl} (h : w.ownsRow base 23 1 v n vs) (hg : w.grownBy w' v.ownBlock) (hu : OwnS w base' u l) : OwnS w' base' u l :=
  own_keep hu hg fun k hk e => row_ne h hu k e hk

/-- One slice put behind slices that are owned. -/
theorem wpList_appH {w : World} {ops : Array Oper} {rest : List Oper} {o : Oper} {a : Act} {Q : Exit → Act → World → Prop} (hgd : o.guard = none) (s x : Operand)
    (ho : o.op = .call { callee := .builtin .append, args := #[s, x], argTypes := #[33, 33] })
    (base : Nat) (v : Value) (vs : List Value) (H : List (List Cl)) (u : Value) (m : List Cl) (ad : Addr) (hs : a.eval s = v) (hown : OwnH w base v vs H) (hx : a.eval x = .slice (some ad) 1 1) (hcell : w.cell? ad = some u) (hspot : ad.spot = none) (hu : OwnS w base u m)
    (hap : ∀ i, i < H.length → ∀ k, (va vs i).ownBlock = some k → u.ownBlock ≠ some k) (hlen : H.length ≤ 100000) (hbase : base ≤ w.heap.size)
    (h : ∀ v' w', OwnH w' base v' (vs ++ [u]) (H ++ [m]) → w.grownBy w' v.ownBlock → wpList Try.prog ops Q rest (a.put o.dst v') w') : wpList Try.prog ops Q (o :: rest) a w := by
  obtain ⟨i, hi, hz, hsz, hb⟩ := info_parts info_Cells
  refine wpList_append_own w hgd s x 33 ho base 23 i _ 1 24 Try.underlying33 hi hz hsz hb rfl (by omega) v H.length vs hs hown.row ad 1 1 [u] hx rfl ?_ ?_
    (by unfold maxLen; omega) (by omega) hbase ?_
  · intro j y hy
    have hj : j = 0 := by
      have := (List.getElem?_eq_some_iff.1 hy).1
      simpa using this
    subst hj
    obtain ⟨b, o, sp⟩ := ad
    simp only at hspot
    subst hspot
    have hadd : (⟨b, o, none⟩ : Addr).add 0 = ⟨b, o + 0, none⟩ := by unfold Addr.add; split <;> simp_all
    rw [hadd]
    simp at hy
    rw [← hy]
    exact hcell
  · intro y hy
    simp only [List.mem_singleton] at hy
    subst hy
    obtain ⟨a', c', e, _⟩ := hu.form
    rw [e]; rfl
  · intro v' w' h1 h2 _
    refine h v' w' ?_ h2
    have hk : OwnH w' base v' vs H ∨ True := .inr trivial
    have e : ∀ i, i < H.length → OwnS w' base (va vs i) (ht H i) := fun i hi => own_rowkept hown.row h2 (hown.each i hi)
    have hu' := own_rowkept hown.row h2 hu
    refine ⟨by simp [hown.len], by rw [List.length_append]; exact h1, fun i hi => ?_, fun i j hij hj => ?_⟩
    · rw [List.length_append] at hi
      simp only [List.length_cons, List.length_nil] at hi
      rw [ht_snoc i hi, va_snoc i (by rw [hown.len]; exact hi), hown.len]
      split
      · exact hu'
      · exact e i (by omega)
    · rw [List.length_append] at hj
      simp only [List.length_cons, List.length_nil] at hj
      rw [va_snoc i (by rw [hown.len]; omega), va_snoc j (by rw [hown.len]; exact hj), hown.len]
      rw [if_neg (by omega : ¬ i = H.length)]
      split
      · exact hap i (by omega)
      · exact hown.apart i j hij (by omega)

/-! ### Compared -/
theorem ht_take {H M : List (List Cl)} {k : Nat} (h1 : k < H.length) (h2 : k < M.length) (hh : H.take k = M.take k) (h : ht H k = ht M k) : H.take (k + 1) = M.take (k + 1) := by
  rw [List.take_succ_eq_append_getElem h1, List.take_succ_eq_append_getElem h2, hh]
  simp [ht, h1, h2] at h
  rw [h]

theorem c_eqCellS' (a b : Option Addr) (l m : List Cl) (ca cb : Nat) (v : Bool) (h : decide (l = m) = v) (w : World) (ha : Seg w a l) (hb : Seg w b m) (hl : l.length ≤ 1048576) (hm : m.length ≤ 1048576) :
    Calls Try.prog 40 #[.slice a l.length ca, .slice b m.length cb] w fun e w' => e = .returned (.bool v) ∧ Below w.heap.size w w' := by
  rw [← h]; exact c_eqCellS a b l m ca cb w ha hb hl hm

set_option maxHeartbeats 1000000 in
theorem c_eqCellSS (a b : Option Addr) (H M : List (List Cl)) (ca cb : Nat) (w : World) (ha : HSeg w a H) (hb : HSeg w b M) (hl : H.length ≤ 1048576) (hm : M.length ≤ 1048576) (h1 : ∀ i, i < H.length → (ht H i).length ≤ 1048576) (h2 : ∀ i, i < M.length → (ht M i).length ≤ 1048576) :
    Calls Try.prog 42 #[.slice a H.length ca, .slice b M.length cb] w fun e w' => e = .returned (.bool (decide (H = M))) ∧ Below w.heap.size w w' := by
  by_cases hlm : H.length = M.length
  · have hlm' : ((H.length : Int) != (M.length : Int)) = false := by simp [hlm]
    have HLM : Hid (H.length = M.length) := hlm
    have hle : H.length ≤ M.length := by omega
    have HL1 := hid h1
    have HL2 := hid h2
    clear hlm h1 h2
    go_enter Try.func42, Try.ntmps42
    go_wp2
    go_loopw [5] (fun i wr => ∃ k : Nat, k ≤ H.length ∧ i = .int .i64 k ∧ Hid (H.take k = M.take k) ∧ Below w.heap.size w wr) (fun i _ => H.length - (intOf i).toNat)
    case atStart => exact ⟨0, Nat.zero_le _, rfl, (rfl : _ = _), Below.refl _ _⟩
    case round =>
      obtain ⟨k, hk, rfl, hh, hbel⟩ := hrel
      by_cases hlt : k < H.length
      · obtain ⟨b1, o1, rfl, hb1, a1, c1, p1, s1, _⟩ := ha k hlt
        obtain ⟨b2, o2, rfl, hb2, a2, c2, q1, s2, _⟩ := hb k (by omega)
        have hd := hbel.trans (((Below.refl wr.heap.size wr).drew).mono hbel.size)
        have g1 := (hbel.cell (p := ⟨b1, o1 + k, none⟩) hb1).trans p1
        have g2 := (hbel.cell (p := ⟨b2, o2 + k, none⟩) hb2).trans q1
        have S1 := hid (s1.below hd)
        have S2 := hid (s2.below hd)
        have HB := hid hd
        have HBL := hid hbel
        have hw1 : b1 < wr.heap.size := Nat.lt_of_lt_of_le hb1 hbel.size
        have hw2 : b2 < wr.heap.size := Nat.lt_of_lt_of_le hb2 hbel.size
        have L1 := hid (HL1.out k hlt)
        have L2 := hid (HL2.out k (by omega))
        have HT := hid (fun h : ht H k = ht M k => ht_take hlt (by omega) hh.out h)
        have HF := hid (show ¬ ht H k = ht M k → decide (H = M) = false from fun h => by simp; intro e; exact h (by rw [e]))
        clear p1 q1 s1 s2 hbel ha hb hd
        have k0 : (0 : Int) ≤ (k : Int) := by omega
        have k1 : (k : Int) < (H.length : Int) := by omega
        have k2 : (k : Int) < (M.length : Int) := by omega
        generalize ht H k = x at *
        generalize ht M k = y at *
        cases hxy : decide (x = y)
        · have HF' := hid (HF.out (by simpa using hxy))
          go_wp2
          go_region_held3 (fun w' => w'.cell? ⟨b1, o1 + k, none⟩ = some (.slice a1 x.length c1) ∧ w'.cell? ⟨b2, o2 + k, none⟩ = some (.slice a2 y.length c2)) (go_keep)
            (first | (go_at_call 40; refine (c_eqCellS' a1 a2 x y c1 c2 false hxy _ S1.out S2.out L1.out L2.out).mono ?_; rintro e w' ⟨rfl, hbq⟩; have HBQ := hid (HBL.out.trans ((ofDrew hbq).mono HBL.out.size)); have hcq := (bcell (ofDrew hbq)).1; clear hbq))
          go_wp2
          go_ret
          exact ⟨ret_bool HF'.out.symm, HBQ.out⟩
        · have HT' := hid (HT.out (by simpa using hxy))
          go_wp2
          go_region_held3 (fun w' => w'.cell? ⟨b1, o1 + k, none⟩ = some (.slice a1 x.length c1) ∧ w'.cell? ⟨b2, o2 + k, none⟩ = some (.slice a2 y.length c2)) (go_keep)
            (first | (go_at_call 40; refine (c_eqCellS' a1 a2 x y c1 c2 true hxy _ S1.out S2.out L1.out L2.out).mono ?_; rintro e w' ⟨rfl, hbq⟩; have HBQ := hid (HBL.out.trans ((ofDrew hbq).mono HBL.out.size)); have hcq := (bcell (ofDrew hbq)).1; clear hbq))
          go_wp2
          go_roundw
          case rel => exact ⟨k + 1, by omega, by go_num, HT'.out, HBQ.out⟩
          case measure => simp [intOf]; omega
      · go_wp2
        go_ret
        have e1 : H.take k = H := List.take_of_length_le (by omega)
        have e2 : M.take k = M := List.take_of_length_le (by have := HLM.out; omega)
        have e3 := hh.out
        rw [e1, e2] at e3
        exact ⟨ret_bool (by simp [e3]), hbel⟩
  · have hlm' : ((H.length : Int) != (M.length : Int)) = true := by simp; omega
    go_enter Try.func42, Try.ntmps42
    go_wp2
    go_ret
    exact ⟨ret_bool (by simp; intro e; exact hlm (by rw [e])), Below.refl _ _⟩

end Go.Proofs.Ytgppcocfnbalfaa
