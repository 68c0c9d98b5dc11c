/- Texts of this seat, one behind the other: Has, App, AppAt, QuadG, CellQ, Open. -/
import Derived.Test.YtokemdbgcegjiaaGreatB01
import Derived.Laws.AppendOwnNone
import Derived.Maps.AppendAt
import Derived.ProofKit
import Derived.OpenShut
import Derived.ShutString
import Derived.ChangeOld
import Derived.Below
import Derived.Deep.SlicePairs
import Derived.Lib.SmallJoins
namespace Go.Proofs.YtokemdbgcegjiaaGreat
open Go.RowKit
set_option linter.unusedVariables false

/-- Rising, at two places that are neighbours. -/
theorem ris_next {l : List Cl} {n : Nat} (h : risTo l n = true) {i : Nat} (hi : i + 1 < n) : ltC (at_ l i) (at_ l (i + 1)) = true := by
  simp only [risTo, List.all_eq_true, List.mem_range] at h
  simpa using h (i + 1) hi
theorem ltC_trans {a b c : Cl} (h1 : ltC a b = true) (h2 : ltC b c = true) : ltC a c = true := by
  simp [ltC] at *; omega
theorem ris_lt {l : List Cl} {n : Nat} (h : risTo l n = true) {i : Nat} : ∀ j, i < j → j < n → ltC (at_ l i) (at_ l j) = true
  | 0, h0, _ => absurd h0 (Nat.not_lt_zero _)
  | j + 1, h0, hj => by
    by_cases e : i = j
    · subst e; exact ris_next h hj
    · exact ltC_trans (ris_lt h j (by omega) (by omega)) (ris_next h hj)
theorem cmpC_neg (a b : Cl) : cmpC a b < 0 ↔ ltC a b = true := by
  have := cmpC_lt a b
  cases h : ltC a b
  · rw [h] at this; simp at this; simp; omega
  · rw [h] at this; simp at this; simp; omega
theorem cmpC_zero (a b : Cl) : cmpC a b = 0 ↔ a = b := by
  obtain ⟨x, y⟩ := a
  obtain ⟨u, v⟩ := b
  simp only [cmpC, cmpI, Prod.mk.injEq]
  by_cases h : y = v
  · simp only [h, if_true, and_true]; split
    · omega
    · split <;> omega
  · simp only [h, if_false, and_false, iff_false]; split
    · simp
    · split <;> omega
theorem ltC_irr (a : Cl) : ltC a a = false := by simp [ltC]
theorem mem_at {l : List Cl} {c : Cl} : c ∈ l ↔ ∃ t, t < l.length ∧ at_ l t = c := by
  constructor
  · intro h
    obtain ⟨t, ht, rfl⟩ := List.getElem_of_mem h
    exact ⟨t, ht, by simp [at_, ht]⟩
  · rintro ⟨t, ht, rfl⟩
    simp [at_, ht]
/-- What halving comes to. -/
theorem found_iff {l : List Cl} {c : Cl} {lo : Nat} (hr : risTo l l.length = true) (h1 : ∀ t, t < lo → cmpC (at_ l t) c < 0) (h2 : ∀ t, lo ≤ t → t < l.length → 0 ≤ cmpC (at_ l t) c) (hlo : lo < l.length) :
    decide (cmpC (at_ l lo) c = 0) = decide (c ∈ l) := by
  rw [decide_eq_decide, cmpC_zero, mem_at]
  constructor
  · intro h; exact ⟨lo, hlo, h⟩
  · rintro ⟨t, ht, rfl⟩
    rcases (show t < lo ∨ t = lo ∨ lo < t by omega) with h | h | h
    · have := h1 t h
      rw [(cmpC_zero _ _).2 rfl] at this; omega
    · rw [h]
    · have a1 := h2 lo (Nat.le_refl _) hlo
      have a2 := (cmpC_neg _ _).2 (ris_lt hr t h ht)
      omega
theorem notfound {l : List Cl} {c : Cl} (h1 : ∀ t, t < l.length → cmpC (at_ l t) c < 0) : decide (c ∈ l) = false := by
  rw [decide_eq_false_iff_not, mem_at]
  rintro ⟨t, ht, rfl⟩
  have := h1 t ht
  rw [(cmpC_zero _ _).2 rfl] at this; omega
theorem low_step {l : List Cl} {c : Cl} {m : Nat} (hr : risTo l l.length = true) (hm : m < l.length) (h : cmpC (at_ l m) c < 0) : ∀ t, t < m + 1 → cmpC (at_ l t) c < 0 := by
  intro t ht
  by_cases e : t = m
  · rw [e]; exact h
  · exact (cmpC_neg _ _).2 (ltC_trans (ris_lt hr m (by omega) hm) ((cmpC_neg _ _).1 h))
theorem high_step {l : List Cl} {c : Cl} {m : Nat} (hr : risTo l l.length = true) (h : 0 ≤ cmpC (at_ l m) c) : ∀ t, m ≤ t → t < l.length → 0 ≤ cmpC (at_ l t) c := by
  intro t h1 h2
  by_cases e : m = t
  · rw [← e]; exact h
  · by_cases hn : cmpC (at_ l t) c < 0
    · have := (cmpC_neg _ _).2 (ltC_trans (ris_lt (i := m) hr t (by omega) h2) ((cmpC_neg _ _).1 hn)); omega
    · omega

set_option maxHeartbeats 1000000 in
theorem c_search (a : Option Addr) (l : List Cl) (ca : Nat) (c : Cl) (w : World) (ha : Seg w a l) (hl : l.length ≤ 1048576) (hr : risTo l l.length = true) :
    Calls Tryz.prog 157 #[.slice a l.length ca, .agg #[.int .i64 c.1, .int .i64 c.2], .func (.func 111) #[] #[]] w fun e w' => (∃ i : Int, e = .returned (.tuple #[.int .i64 i, .bool (decide (c ∈ l))])) ∧ Below w.heap.size w w' := by
  have HR := hid hr
  clear hr
  go_enter Tryz.func157, Tryz.ntmps157
  go_wp2
  go_loopw [9, 10] (fun s9 s10 wr => ∃ lo hi : Nat, s9 = .int .i64 lo ∧ s10 = .int .i64 hi ∧ lo ≤ hi ∧ hi ≤ l.length ∧ Below (w.alloc (.cells #[.int .i64 c.1, .int .i64 c.2] 41)).heap.size (w.alloc (.cells #[.int .i64 c.1, .int .i64 c.2] 41)) wr ∧
    Hid ((∀ t, t < lo → cmpC (at_ l t) c < 0) ∧ (∀ t, hi ≤ t → t < l.length → 0 ≤ cmpC (at_ l t) c))) (fun s9 s10 _ => (intOf s10).toNat - (intOf s9).toNat)
  case atStart => exact ⟨0, l.length, rfl, rfl, Nat.zero_le _, Nat.le_refl _, Below.refl _ _, ⟨fun t ht => absurd ht (Nat.not_lt_zero _), fun t h1 h2 => by omega⟩⟩
  case round =>
    obtain ⟨lo, hi, rfl, rfl, hlh, hin, hbel, I⟩ := hrel
    by_cases hlt : lo < hi
    · obtain ⟨b1, o1, rfl, hb1, p1, p2⟩ := ha ((lo + hi) / 2) (by omega)
      have hsz : w.heap.size + 1 ≤ wr.heap.size := by have := hbel.size; simpa using this
      have hB : Below w.heap.size w wr := ((Below.refl _ _).alloc (Nat.le_refl _) _).trans (hbel.mono (by simp))
      have g1 := fun g : Gr wr => g.cell ((hB.cell (p := ⟨b1, o1 + (lo + hi) / 2 * 2, none⟩) hb1).trans p1) (by omega)
      have g2 := fun g : Gr wr => g.cell ((hB.cell (p := ⟨b1, o1 + (lo + hi) / 2 * 2 + 1, none⟩) hb1).trans p2) (by omega)
      have g3 := fun g : Gr wr => g.cell ((hbel.cell (p := ⟨w.heap.size, 0, none⟩) (by simp)).trans (cell_new0 w (.int .i64 c.1) (.int .i64 c.2) 41)) (by omega)
      have g4 := fun g : Gr wr => g.cell ((hbel.cell (p := ⟨w.heap.size, 1, none⟩) (by simp)).trans (cell_new1 w (.int .i64 c.1) (.int .i64 c.2) 41)) (by omega)
      change ∀ g : Gr wr, _ = some (Value.int .i64 (at_ l ((lo + hi) / 2)).1) at g1
      change ∀ g : Gr wr, _ = some (Value.int .i64 (at_ l ((lo + hi) / 2)).2) at g2
      clear p1 p2
      have HL := hid (low_step (l := l) (c := c) (m := (lo + hi) / 2) HR.out (by omega))
      have HH := hid (high_step (l := l) (c := c) (m := (lo + hi) / 2) HR.out)
      generalize at_ l ((lo + hi) / 2) = x at *
      have hne := Gr.ne wr
      by_cases hx : cmpC x c < 0
      · go_wp2
        refine wp_region_gr (by kernel_rfl) (by kernel_rfl) ?_
        repeat (go_big_quiet_step (first | (go_at_call 111; exact Calls.gr _ (c_compareCells x c _))))
        refine wpQuiet_nil ?_
        rintro _ ⟨g, rfl⟩
        clear g1 g2 g3 g4
        go_wp2
        go_roundw
        case rel => exact ⟨(lo + hi) / 2 + 1, hi, by go_num, rfl, by omega, hin, hbel.trans (g.below.mono hbel.size), ⟨HL.out hx, I.out.2⟩⟩
        case measure => simp [intOf]; omega
      · go_wp2
        refine wp_region_gr (by kernel_rfl) (by kernel_rfl) ?_
        repeat (go_big_quiet_step (first | (go_at_call 111; exact Calls.gr _ (c_compareCells x c _))))
        refine wpQuiet_nil ?_
        rintro _ ⟨g, rfl⟩
        clear g1 g2 g3 g4
        go_wp2
        go_roundw
        case rel => exact ⟨lo, (lo + hi) / 2, rfl, by go_num, by omega, by omega, hbel.trans (g.below.mono hbel.size), ⟨I.out.1, HH.out (by omega)⟩⟩
        case measure => simp [intOf]; omega
    · obtain rfl : lo = hi := by omega
      by_cases hlo : lo < l.length
      · obtain ⟨b1, o1, rfl, hb1, p1, p2⟩ := ha lo hlo
        have hsz : w.heap.size + 1 ≤ wr.heap.size := by have := hbel.size; simpa using this
        have hB : Below w.heap.size w wr := ((Below.refl _ _).alloc (Nat.le_refl _) _).trans (hbel.mono (by simp))
        have g1 := fun g : Gr wr => g.cell ((hB.cell (p := ⟨b1, o1 + lo * 2, none⟩) hb1).trans p1) (by omega)
        have g2 := fun g : Gr wr => g.cell ((hB.cell (p := ⟨b1, o1 + lo * 2 + 1, none⟩) hb1).trans p2) (by omega)
        have g3 := fun g : Gr wr => g.cell ((hbel.cell (p := ⟨w.heap.size, 0, none⟩) (by simp)).trans (cell_new0 w (.int .i64 c.1) (.int .i64 c.2) 41)) (by omega)
        have g4 := fun g : Gr wr => g.cell ((hbel.cell (p := ⟨w.heap.size, 1, none⟩) (by simp)).trans (cell_new1 w (.int .i64 c.1) (.int .i64 c.2) 41)) (by omega)
        change ∀ g : Gr wr, _ = some (Value.int .i64 (at_ l lo).1) at g1
        change ∀ g : Gr wr, _ = some (Value.int .i64 (at_ l lo).2) at g2
        clear p1 p2
        have HF := hid (found_iff HR.out I.out.1 I.out.2 hlo)
        have hne := Gr.ne wr
        generalize at_ l lo = x at *
        go_wp2
        refine wp_region_gr (by kernel_rfl) (by kernel_rfl) ?_
        repeat (go_big_quiet_step (first | (go_at_call 111; exact Calls.gr _ (c_compareCells x c _))))
        refine wpQuiet_nil ?_
        rintro _ ⟨g, rfl⟩
        clear g1 g2 g3 g4
        go_wp2
        go_ret2
        exact ⟨⟨lo, ret_two rfl (vbool (by rw [← HF.out]; rfl))⟩, hB.trans (g.below.mono hB.size)⟩
      · have hlo' : decide ((lo : Int) < (l.length : Int)) = false := by simp; omega
        have hne := Gr.ne wr
        go_wp2
        refine wp_region_gr (by kernel_rfl) (by kernel_rfl) ?_
        repeat (go_big_quiet_step (fail))
        refine wpQuiet_nil ?_
        rintro _ ⟨g, rfl⟩
        go_wp2
        go_ret2
        have hB : Below w.heap.size w wr := ((Below.refl _ _).alloc (Nat.le_refl _) _).trans (hbel.mono (by simp))
        exact ⟨⟨lo, ret_two rfl (vbool (notfound (fun t ht => I.out.1 t (by omega))).symm)⟩, hB.trans (g.below.mono hB.size)⟩

set_option maxHeartbeats 400000 in
theorem c_hasCell (a : Option Addr) (l : List Cl) (ca : Nat) (c : Cl) (w : World) (ha : Seg w a l) (hl : l.length ≤ 1048576) (hr : risTo l l.length = true) :
    Calls Tryz.prog 138 #[.slice a l.length ca, .agg #[.int .i64 c.1, .int .i64 c.2]] w fun e w' => e = .returned (.bool (decide (c ∈ l))) ∧ Below w.heap.size w w' := by
  have hb0 : Below w.heap.size w (w.alloc (.cells #[.int .i64 c.1, .int .i64 c.2] 41)) := (Below.refl _ _).alloc (Nat.le_refl _) _
  have HC := hid (c_search a l ca c _ (ha.below hb0) hl hr)
  clear hr ha
  go_enter Tryz.func138, Tryz.ntmps138
  go_wp2_with fail
  refine HC.out.mono ?_
  rintro e w1 ⟨⟨i, rfl⟩, hb1⟩
  go_wp2
  go_ret
  exact ⟨rfl, hb0.trans (hb1.mono hb0.size)⟩

/-- Is none of the first k the cell? -/
theorem not_mem_to {l : List Cl} {c : Cl} (h : ∀ t, t < l.length → at_ l t ≠ c) : decide (c ∈ l) = false := by
  rw [decide_eq_false_iff_not, mem_at]
  rintro ⟨t, ht, e⟩
  exact h t ht e

set_option maxHeartbeats 400000 in
theorem c_l1Alive (a : Option Addr) (l : List Cl) (ca : Nat) (c : Cl) (w : World) (ha : Seg w a l) (hl : l.length ≤ 1048576) :
    Calls Tryz.prog 129 #[.slice a l.length ca, .agg #[.int .i64 c.1, .int .i64 c.2]] w fun e w' => e = .returned (.bool (decide (c ∈ l))) ∧ Below w.heap.size w w' := by
  go_enter Tryz.func129, Tryz.ntmps129
  go_wp2
  go_loopw [9] (fun i wr => ∃ k : Nat, k ≤ l.length ∧ i = .int .i64 k ∧ Hid (∀ t, t < k → at_ l t ≠ c) ∧ Below (w.alloc (.cells #[.int .i64 c.1, .int .i64 c.2] 41)).heap.size (w.alloc (.cells #[.int .i64 c.1, .int .i64 c.2] 41)) wr) (fun i _ => l.length - (intOf i).toNat)
  case atStart => exact ⟨0, Nat.zero_le _, rfl, (fun t ht => absurd ht (Nat.not_lt_zero _)), Below.refl _ _⟩
  case round =>
    obtain ⟨k, hk, rfl, hT, hbel⟩ := hrel
    have hB : Below w.heap.size w wr := ((Below.refl _ _).alloc (Nat.le_refl _) _).trans (hbel.mono (by simp))
    by_cases hlt : k < l.length
    · obtain ⟨b1, o1, rfl, hb1, p1, p2⟩ := ha k hlt
      have g1 := (hB.cell (p := ⟨b1, o1 + k * 2, none⟩) hb1).trans p1
      have g2 := (hB.cell (p := ⟨b1, o1 + k * 2 + 1, none⟩) hb1).trans p2
      change _ = some (Value.int .i64 (at_ l k).1) at g1
      change _ = some (Value.int .i64 (at_ l k).2) at g2
      have g3 := (hbel.cell (p := ⟨w.heap.size, 0, none⟩) (by simp)).trans (cell_new0 w (.int .i64 c.1) (.int .i64 c.2) 41)
      have g4 := (hbel.cell (p := ⟨w.heap.size, 1, none⟩) (by simp)).trans (cell_new1 w (.int .i64 c.1) (.int .i64 c.2) 41)
      have hsz : w.heap.size < wr.heap.size := by have := hbel.size; simp at this; omega
      clear p1 p2
      have k0 : (0 : Int) ≤ (k : Int) := by omega
      have k1 : (k : Int) < (l.length : Int) := by omega
      have HM := hid (fun e : at_ l k = c => mem_at.2 ⟨k, hlt, e⟩)
      have HN := hid (show at_ l k ≠ c → ∀ t, t < k + 1 → at_ l t ≠ c from fun hn t ht => by
        by_cases e : t = k
        · rw [e]; exact hn
        · exact hT.out t (by omega))
      generalize at_ l k = x at *
      by_cases h1 : x.1 = c.1
      · by_cases h2 : x.2 = c.2
        · go_wp2
          go_ret
          exact ⟨ret_bool (by simp [HM.out (Prod.ext h1 h2)]), hB.alloc hB.size _⟩
        · have hn : x ≠ c := fun e => h2 (by rw [e])
          have HN' := hid (HN.out hn)
          clear hn HN HM
          go_wp2
          go_roundw
          case rel => exact ⟨k + 1, by omega, by go_num, HN'.out, hbel.alloc hbel.size _⟩
          case measure => simp [intOf]; omega
      · have hn : x ≠ c := fun e => h1 (by rw [e])
        have HN' := hid (HN.out hn)
        clear hn HN HM
        go_wp2
        go_roundw
        case rel => exact ⟨k + 1, by omega, by go_num, HN'.out, hbel.alloc hbel.size _⟩
        case measure => simp [intOf]; omega
    · go_wp2
      go_ret
      exact ⟨ret_bool (not_mem_to (fun t ht => hT.out t (by omega))).symm, hB⟩

/-- What IsAlive answers. -/
def aliveV (l : List Cl) (c : Cl) : Bool × Bool := if good l && inR c then (decide (c ∈ l), true) else (false, false)
theorem good_ris {l : List Cl} (h : good l = true) : risTo l l.length = true := by simp [good] at h; exact h.2

theorem inR_bd {c : Cl} (h : inR c = true) : -41 ≤ c.1 ∧ c.1 ≤ 41 ∧ -41 ≤ c.2 ∧ c.2 ≤ 41 := by
  simp [inR] at h; omega
theorem good_in {l : List Cl} (h : good l = true) : ∀ i, i < l.length → inR (at_ l i) = true := by
  simp [good, allTo] at h
  exact h.1.2

theorem c_sGood' (a : Option Addr) (l : List Cl) (ca : Nat) (v : Bool) (h : good l = v) (w : World) (ha : Seg w a l) (hl : l.length ≤ 1048576) :
    Calls Tryz.prog 94 #[.slice a l.length ca] w fun e w' => e = .returned (.bool v) ∧ Below w.heap.size w w' := by
  rw [← h]; exact c_sGood a l ca w ha hl
theorem c_iGood' (a : Option Addr) (l : List Cl) (ca : Nat) (v : Bool) (h : good l = v) (w : World) (ha : Seg w a l) (hl : l.length ≤ 1048576) :
    Calls Tryz.prog 69 #[.slice a l.length ca] w fun e w' => e = .returned (.bool v) ∧ Below w.heap.size w w' := by
  rw [← h]; exact c_iGood a l ca w ha hl
theorem c_inReach' (c : Cl) (v : Bool) (h : inR c = v) (w : World) :
    Calls Tryz.prog 136 #[.agg #[.int .i64 c.1, .int .i64 c.2]] w fun e w' => e = .returned (.bool v) ∧ Below w.heap.size w w' := by
  rw [← h]; exact c_inReach c w

end Go.Proofs.YtokemdbgcegjiaaGreat

namespace Go.Proofs.YtokemdbgcegjiaaGreat
open Go.RowKit
set_option linter.unusedVariables false

theorem take_snoc' {m : List Cl} {j : Nat} (h : j < m.length) : m.take (j + 1) = m.take j ++ [at_ m j] := by
  rw [List.take_succ_eq_append_getElem h]; simp [at_, h]

theorem seg_news {w : World} {ad : Addr} {m : List Cl} (h : Seg w (some ad) m) : ∀ j u, (flat m)[j]? = some u → w.cell? (ad.add j) = some u := by
  intro j u hu
  have hj : j < m.length * 2 := by rw [← flat_length]; exact (List.getElem?_eq_some_iff.1 hu).1
  have hi : j / 2 < m.length := by omega
  obtain ⟨b, o, e, hb, h0, h1⟩ := h (j / 2) hi
  simp only [Option.some.injEq] at e
  subst e
  have hadd : (⟨b, o, none⟩ : Addr).add j = ⟨b, o + j, none⟩ := by unfold Addr.add; split <;> simp_all
  rw [hadd]
  rcases (show j = j / 2 * 2 ∨ j = j / 2 * 2 + 1 by omega) with e | e
  · rw [e, flat_even hi] at hu
    rw [e, h0, ← hu]; rfl
  · rw [e, flat_odd hi] at hu
    rw [e, show o + (j / 2 * 2 + 1) = o + j / 2 * 2 + 1 by omega, h1, ← hu]; rfl

theorem wpList_app {w : World} {ops : Array Oper} {rest : List Oper} {o : Oper} {a : Act} {Q : Exit → Act → World → Prop} (hgd : o.guard = none) (s x : Operand)
    (ho : o.op = .call { callee := .builtin .append, args := #[s, x], argTypes := #[31, 31] })
    (base : Nat) (v : Value) (l m : List Cl) (ad : Option Addr) (k : Nat) (hs : a.eval s = v) (hown : OwnS w base v l) (hx : a.eval x = .slice ad m.length k) (hseg : Seg w ad m) (hk : ad = none → k = 0) (hlen : l.length + m.length ≤ 4194304) (hbase : base ≤ w.heap.size)
    (h : ∀ v' w', OwnS w' base v' (l ++ m) → w.grownBy w' v.ownBlock → wpList Tryz.prog ops Q rest (a.put o.dst v') w') : wpList Tryz.prog ops Q (o :: rest) a w := by
  obtain ⟨i, hi, hz, hsz, hb⟩ := info_parts info_Cell
  cases ad with
  | none =>
    have hm : m = [] := by
      cases m with
      | nil => rfl
      | cons c r => obtain ⟨b, o, e, _⟩ := hseg 0 (by simp); cases e
    subst hm
    have hx' : a.eval x = .slice none 0 0 := by rw [hx, hk rfl]; rfl
    refine wpList_append_own_none hgd s x 31 ho base 41 i 2 Tryz.underlying31 hi v l.length (flat l) hs hown hx' ?_
    exact h v w (by simpa using hown) (grown_refl _ _)
  | some ad =>
    refine wpList_append_own w hgd s x 31 ho base 41 i _ 2 16 Tryz.underlying31 hi hz hsz hb rfl (by omega) v l.length (flat l) hs hown ad m.length k (flat m) hx (flat_length m) (seg_news hseg) (flat_one m)
      (by unfold maxLen; omega) (by omega) hbase ?_
    intro v' w' h1 h2 _
    refine h v' w' ?_ h2
    unfold OwnS
    rw [flat_append, List.length_append]
    exact h1

/-- What was built in the call's own memory is below as it was. -/
theorem below_grown {w W W' : World} {v : Value} {l : List Cl} (hB : Below w.heap.size w W) (hown : OwnS W w.heap.size v l) (hg : W.grownBy W' v.ownBlock) : Below w.heap.size w W' :=
  hB.grown hg hB.size fun k hk => (hown.lt k hk).1

theorem seg_block {w : World} {B : Nat} {c : Cl} {fr : Nat × Nat} (hb : w.heap[B]? = some (.cells #[.int .i64 c.1, .int .i64 c.2] 41 fr)) : Seg w (some ⟨B, 0, none⟩) [c] := by
  intro i hi
  have h0 : i = 0 := by simpa using hi
  subst h0
  refine ⟨B, 0, rfl, (Array.getElem?_eq_some_iff.1 hb).1, ?_, ?_⟩
  · unfold World.cell?; rw [hb]; rfl
  · unfold World.cell?; rw [hb]; rfl

theorem slice_empty_build (w : World) : OwnS (w.alloc (.cells #[] 41)) w.heap.size (.slice (some ⟨w.heap.size, 0, none⟩) 0 0) [] :=
  ⟨rfl, .inr ⟨w.heap.size, 0, #[], rfl, Nat.le_refl _, heap_alloc_new w _, Nat.le_refl _, by simp [maxLen], rfl, rfl⟩⟩

theorem good_le {l : List Cl} (h : good l = true) : l.length ≤ 120 := by simp [good] at h; exact h.1.1
/-- Cells that are told, if they are good. -/
def tellV (l : List Cl) : List Cl := if good l then l else []

theorem OwnS.seg {w : World} {base n ca : Nat} {a : Option Addr} {l : List Cl} (h : OwnS w base (.slice a n ca) l) : Seg w a l := by
  obtain ⟨a', ca', e, hs⟩ := h.form
  simp only [Value.slice.injEq] at e
  rw [e.1]; exact hs
theorem OwnS.cap0 {w : World} {base n ca : Nat} {a : Option Addr} {l : List Cl} (h : OwnS w base (.slice a n ca) l) : a = none → ca = 0 := by
  intro e
  subst e
  rcases h.2 with ⟨e, _⟩ | ⟨g, cap, cur, e, _⟩ <;> simp at e
  exact e.2
theorem own_keep {W W' : World} {base : Nat} {v : Value} {l : List Cl} {row : Option Nat} (h : OwnS W base v l) (hg : W.grownBy W' row) (hne : ∀ k, v.ownBlock = some k → row ≠ some k) : OwnS W' base v l := by
  refine World.ownsRow.kept h hg ?_
  cases e : v.ownBlock with
  | none => exact .inl rfl
  | some k => exact .inr fun e2 => hne k e e2.symm
theorem below_row {w W W' : World} {row : Option Nat} (hB : Below w.heap.size w W) (hg : W.grownBy W' row) (h : ∀ k, row = some k → w.heap.size ≤ k) : Below w.heap.size w W' :=
  hB.grown hg hB.size h

theorem wpList_app' {w : World} {ops : Array Oper} {rest : List Oper} {o : Oper} {a : Act} {Q : Exit → Act → World → Prop} (hgd : o.guard = none) (s x : Operand)
    (ho : o.op = .call { callee := .builtin .append, args := #[s, x], argTypes := #[31, 31] })
    (base : Nat) (v : Value) (l m : List Cl) (ad : Option Addr) (n k : Nat) (hs : a.eval s = v) (hown : OwnS w base v l) (hx : a.eval x = .slice ad n k) (hn : m.length = n) (hseg : Seg w ad m) (hk : ad = none → k = 0) (hlen : l.length + m.length ≤ 4194304) (hbase : base ≤ w.heap.size)
    (h : ∀ v' w', OwnS w' base v' (l ++ m) → w.grownBy w' v.ownBlock → wpList Tryz.prog ops Q rest (a.put o.dst v') w') : wpList Tryz.prog ops Q (o :: rest) a w := by
  subst hn
  exact wpList_app hgd s x ho base v l m ad k hs hown hx hseg hk hlen hbase h

end Go.Proofs.YtokemdbgcegjiaaGreat

namespace Go.Proofs.YtokemdbgcegjiaaGreat
open Go.RowKit
set_option linter.unusedVariables false

/-- The slice v' lies where v lay, or in a block that was not there in w. -/
def Near' (w : World) (v v' : Value) : Prop := v'.ownBlock = v.ownBlock ∨ ∃ k, v'.ownBlock = some k ∧ w.heap.size ≤ k

theorem wpList_appAt {w : World} {ops : Array Oper} {rest : List Oper} {o : Oper} {a : Act} {Q : Exit → Act → World → Prop} (hgd : o.guard = none) (s x : Operand)
    (ho : o.op = .call { callee := .builtin .append, args := #[s, x], argTypes := #[31, 31] })
    (base : Nat) (v : Value) (l m : List Cl) (ad : Addr) (k : Nat) (hs : a.eval s = v) (hown : OwnS w base v l) (hx : a.eval x = .slice (some ad) m.length k) (hseg : Seg w (some ad) m) (hlen : l.length + m.length ≤ 4194304) (hbase : base ≤ w.heap.size)
    (h : ∀ v' w', OwnS w' base v' (l ++ m) → w.grownBy w' v.ownBlock → Near' w v v' → wpList Tryz.prog ops Q rest (a.put o.dst v') w') : wpList Tryz.prog ops Q (o :: rest) a w := by
  obtain ⟨i, hi, hz, hsz, hb⟩ := info_parts info_Cell
  refine wpList_append_own_at w hgd s x 31 ho base 41 i _ 2 16 Tryz.underlying31 hi hz hsz hb rfl (by omega) v l.length (flat l) hs hown ad m.length k (flat m) hx (flat_length m) (seg_news hseg) (flat_one m)
    (by unfold maxLen; omega) (by omega) hbase ?_
  intro v' w' h1 h2 _ h4
  refine h v' w' ?_ h2 ?_
  · unfold OwnS
    rw [flat_append, List.length_append]
    exact h1
  · rcases h4 with h4 | h4
    · exact .inl h4
    · exact .inr ⟨_, h4, Nat.le_refl _⟩

/-- While cells are put behind all: the slice vi holds l; the box at the heap's end of w, whose cells are bx, is as it was; of what was in w only v's block has changed. -/
structure Stg (w W : World) (base : Nat) (v vi : Value) (bx : List Value) (l : List Cl) : Prop where
  own : OwnS W base vi l
  box : ∀ j u, bx[j]? = some u → W.cell? ⟨w.heap.size, j, none⟩ = some u
  lt : w.heap.size < W.heap.size
  gr : w.grownBy W v.ownBlock
  fr : vi.ownBlock = v.ownBlock ∨ ∃ k, vi.ownBlock = some k ∧ w.heap.size < k
theorem Stg.new {w : World} {base : Nat} {v : Value} {l : List Cl} (h : OwnS w base v l) (bx : List Value) (t : TypeId) : Stg w (w.alloc (.cells bx.toArray t)) base v v bx l := by
  have hb := (Below.refl w.heap.size w).alloc (Nat.le_refl _) (.cells bx.toArray t)
  refine ⟨h.below hb, fun j u hj => ?_, by simp, grown_of_below hb _, .inl rfl⟩
  unfold World.cell?
  rw [heap_alloc_new]
  simpa using hj
theorem Stg.step {w W W' : World} {base : Nat} {v vi vj : Value} {bx : List Value} {l l0 l' : List Cl} (h : Stg w W base v vi bx l) (hv : OwnS w base v l0) (ho : OwnS W' base vj l') (hg : W.grownBy W' vi.ownBlock) (hn : Near' W vi vj) : Stg w W' base v vj bx l' := by
  have hne : some w.heap.size ≠ vi.ownBlock := by
    rcases h.fr with e | ⟨k, e, hk⟩
    · rw [e]
      intro e2
      have := (hv.lt _ e2.symm).2
      omega
    · rw [e]
      intro e2
      simp at e2
      omega
  refine ⟨ho, fun j u hj => ?_, Nat.lt_of_lt_of_le h.lt hg.size, ⟨hg.os.trans h.gr.os, hg.tape.trans h.gr.tape, hg.output.trans h.gr.output, Nat.le_trans h.gr.size hg.size, fun k hk hkn => ?_⟩, ?_⟩
  · exact (World.cell?_of_block (a := ⟨w.heap.size, j, none⟩) (hg.block _ h.lt hne)).trans (h.box j u hj)
  · refine (hg.block k (Nat.lt_of_lt_of_le hk h.gr.size) ?_).trans (h.gr.block k hk hkn)
    rcases h.fr with e | ⟨k', e, hk'⟩
    · rw [e]; exact hkn
    · rw [e]; intro e2; simp at e2; omega
  · rcases hn with e | ⟨k, e, hk⟩
    · rw [e]; exact h.fr
    · exact .inr ⟨k, e, Nat.lt_of_lt_of_le h.lt hk⟩
theorem Stg.below {w W W' : World} {base : Nat} {v vi : Value} {bx : List Value} {l : List Cl} (h : Stg w W base v vi bx l) (hb : Below W.heap.size W W') : Stg w W' base v vi bx l :=
  ⟨h.own.below hb, fun j u hj => (hb.cell (p := ⟨w.heap.size, j, none⟩) h.lt).trans (h.box j u hj), Nat.lt_of_lt_of_le h.lt hb.size,
    ⟨hb.os.trans h.gr.os, hb.tape.trans h.gr.tape, hb.output.trans h.gr.output, Nat.le_trans h.gr.size hb.size, fun k hk hkn => (hb.block k (Nat.lt_of_lt_of_le hk h.gr.size)).trans (h.gr.block k hk hkn)⟩, h.fr⟩
theorem Stg.drew {w W : World} {base : Nat} {v vi : Value} {bx : List Value} {l : List Cl} (h : Stg w W base v vi bx l) : Stg w W.drew base v vi bx l := h.below ((Below.refl _ _).drew)
/-- What lay below base is as it was. -/
theorem Stg.old {W0 w W : World} {base : Nat} {v vi : Value} {bx : List Value} {l l0 : List Cl} (h : Stg w W base v vi bx l) (hv : OwnS w base v l0) (hB : Below W0.heap.size W0 w) (hb : W0.heap.size ≤ base) : Below W0.heap.size W0 W :=
  hB.grown h.gr hB.size fun k hk => Nat.le_trans hb (hv.lt k hk).1
theorem Stg.near {w W : World} {base : Nat} {v vi : Value} {bx : List Value} {l : List Cl} (h : Stg w W base v vi bx l) : Near' w v vi := by
  rcases h.fr with e | ⟨k, e, hk⟩
  · exact .inl e
  · exact .inr ⟨k, e, Nat.le_of_lt hk⟩

end Go.Proofs.YtokemdbgcegjiaaGreat

namespace Go.Proofs.YtokemdbgcegjiaaGreat
open Go.RowKit
set_option linter.unusedVariables false
attribute [local go_sem ↓] Go.wp_at_zero Go.wp_at_succ

/-- A thing holds at all numbers below k. -/
def allB (p : Nat → Bool) (k : Nat) : Bool := (List.range k).all p
theorem allB_succ (p : Nat → Bool) (k : Nat) : allB p (k + 1) = (allB p k && p k) := by simp [allB, List.range_succ]
theorem allB_iff {p : Nat → Bool} {k : Nat} : allB p k = true ↔ ∀ i, i < k → p i = true := by simp [allB]
theorem allB_false {p : Nat → Bool} {k n : Nat} (hk : k < n) (h : p k = false) : allB p n = false := by
  cases e : allB p n
  · rfl
  · have := allB_iff.1 e k hk
    rw [h] at this; cases this
def inB (lo hi x : Int) : Bool := decide (lo ≤ x) && decide (x ≤ hi)
def allIn (l : List Int) (lo hi : Int) : Bool := allB (fun i => inB lo hi (ia l i)) l.length
def levB (F : List Qd) (l : List Int) (v : Int) : Bool := allB (fun i => decide ((qa F (ia l i).toNat).1 = v)) l.length
def newB (F : List Qd) (i : Nat) : Bool := allB (fun j => !decide ((qa F j).2 = (qa F i).2)) i
/-- Is quad i as the quads ahead of it ask? -/
def fineQ (F : List Qd) (i : Nat) : Bool :=
  if i < 2 then decide ((qa F i).1 = 0) && decide ((qa F i).2.length = 0)
  else decide ((qa F i).2.length = 4) && allIn (qa F i).2 0 ((i : Int) - 1) && inB 1 5 (qa F i).1 && levB F (qa F i).2 ((qa F i).1 - 1) && newB F i
/-- Is the forest good? -/
def goodF (F : List Qd) : Bool := inB 2 400 (F.length : Int) && allB (fineQ F) F.length
theorem goodF_no {F : List Qd} {k : Nat} (hk : k < F.length) (h : fineQ F k = false) : goodF F = false := by
  simp [goodF, allB_false hk h]

theorem c_l1In' (n lo hi : Int) (v : Bool) (h : inB lo hi n = v) (w : World) :
    Calls Tryz.prog 72 #[.int .i64 n, .int .i64 lo, .int .i64 hi] w fun e w' => e = .returned (.bool v) ∧ w' = w := by
  rw [← h]; exact c_l1In n lo hi w

set_option maxHeartbeats 400000 in
theorem c_l1All (a : Option Addr) (l : List Int) (ca : Nat) (lo hi : Int) (w : World) (ha : ISeg w a l) (hl : l.length ≤ 1048576) :
    Calls Tryz.prog 82 #[.slice a l.length ca, .int .i64 lo, .int .i64 hi] w fun e w' => e = .returned (.bool (allIn l lo hi)) ∧ Below w.heap.size w w' := by
  go_enter Tryz.func82, Tryz.ntmps82
  go_wp2
  go_loopw [11] (fun i wr => ∃ k : Nat, k ≤ l.length ∧ i = .int .i64 k ∧ Hid (allB (fun i => inB lo hi (ia l i)) k = true) ∧ Below w.heap.size w wr) (fun i _ => l.length - (intOf i).toNat)
  case atStart => exact ⟨0, Nat.zero_le _, rfl, (rfl : _ = _), Below.refl _ _⟩
  case round =>
    obtain ⟨k, hk, rfl, hT, hbel⟩ := hrel
    by_cases hlt : k < l.length
    · obtain ⟨b1, o1, rfl, hb1, p1⟩ := ha k hlt
      have g1 := (hbel.cell (p := ⟨b1, o1 + k, none⟩) hb1).trans p1
      clear p1
      have k0 : (0 : Int) ≤ (k : Int) := by omega
      have k1 : (k : Int) < (l.length : Int) := by omega
      have HS := hid (allB_succ (fun i => inB lo hi (ia l i)) k)
      have HN := hid (fun h => allB_false (p := fun i => inB lo hi (ia l i)) hlt h)
      cases hin : inB lo hi (ia l k)
      · have HC := hid (c_l1In' (ia l k) lo hi false hin wr)
        have HV := hid (HN.out hin)
        generalize ia l k = x at *
        go_wp2_with fail
        refine HC.out.mono ?_
        rintro e w1 ⟨rfl, rfl⟩
        go_wp2
        go_ret
        exact ⟨ret_bool HV.out.symm, hbel⟩
      · have HC := hid (c_l1In' (ia l k) lo hi true hin wr)
        have HV := hid (show allB (fun i => inB lo hi (ia l i)) (k + 1) = true by rw [HS.out, hT.out]; simpa using hin)
        generalize ia l k = x at *
        go_wp2_with fail
        refine HC.out.mono ?_
        rintro e w1 ⟨rfl, rfl⟩
        go_wp2
        go_roundw
        case rel => exact ⟨k + 1, by omega, by go_num, HV.out, hbel⟩
        case measure => simp [intOf]; omega
    · go_wp2
      go_ret
      obtain rfl : k = l.length := by omega
      exact ⟨ret_bool hT.out.symm, hbel⟩
theorem c_l1All' (a : Option Addr) (l : List Int) (ca : Nat) (lo hi : Int) (v : Bool) (h : allIn l lo hi = v) (w : World) (ha : ISeg w a l) (hl : l.length ≤ 1048576) :
    Calls Tryz.prog 82 #[.slice a l.length ca, .int .i64 lo, .int .i64 hi] w fun e w' => e = .returned (.bool v) ∧ Below w.heap.size w w' := by
  rw [← h]; exact c_l1All a l ca lo hi w ha hl
theorem c_l3Same' (a b : Option Addr) (l m : List Int) (ca cb : Nat) (v : Bool) (h : decide (l = m) = v) (w : World) (ha : ISeg w a l) (hb : ISeg w b m) (hl : l.length ≤ 1048576) (hm : m.length ≤ 1048576) :
    Calls Tryz.prog 106 #[.slice a l.length ca, .slice b m.length cb] w fun e w' => e = .returned (.bool v) ∧ Below w.heap.size w w' := by
  rw [← h]; exact c_l3Same a b l m ca cb w ha hb hl hm

/-- A value's box of one cell at the heap's end of w, kept in all that has grown out of w. -/
def Box1 (w W : World) (v : Value) : Prop := W.cell? ⟨w.heap.size, 0, none⟩ = some v ∧ w.heap.size < W.heap.size ∧ Below w.heap.size w W
theorem Box1.step {w W W' : World} {v : Value} (h : Box1 w W v) (hb : Below W.heap.size W W') : Box1 w W' v :=
  ⟨(hb.cell (p := ⟨w.heap.size, 0, none⟩) h.2.1).trans h.1, Nat.lt_of_lt_of_le h.2.1 hb.size, h.2.2.trans (hb.mono h.2.2.size)⟩
theorem Box1.new (w : World) (v : Value) (t : TypeId) : Box1 w (w.alloc (.cells #[v] t)) v := by
  refine ⟨?_, by simp, (Below.refl _ _).alloc (Nat.le_refl _) _⟩
  unfold World.cell?; rw [heap_alloc_new]; rfl
/-- A quad's box at the heap's end of w. -/
def Box2 (w W : World) (u v : Value) : Prop := W.cell? ⟨w.heap.size, 0, none⟩ = some u ∧ W.cell? ⟨w.heap.size, 1, none⟩ = some v ∧ w.heap.size < W.heap.size ∧ Below w.heap.size w W
theorem Box2.step {w W W' : World} {u v : Value} (h : Box2 w W u v) (hb : Below W.heap.size W W') : Box2 w W' u v :=
  ⟨(hb.cell (p := ⟨w.heap.size, 0, none⟩) h.2.2.1).trans h.1, (hb.cell (p := ⟨w.heap.size, 1, none⟩) h.2.2.1).trans h.2.1, Nat.lt_of_lt_of_le h.2.2.1 hb.size, h.2.2.2.trans (hb.mono h.2.2.2.size)⟩
theorem Box2.new (w : World) (u v : Value) (t : TypeId) : Box2 w (w.alloc (.cells #[u, v] t)) u v := by
  refine ⟨cell_new0 _ _ _ _, cell_new1 _ _ _ _, by simp, (Below.refl _ _).alloc (Nat.le_refl _) _⟩

theorem fine_low {F : List Qd} {k : Nat} (h : k < 2) (h1 : (qa F k).1 = 0) (h2 : (qa F k).2.length = 0) : fineQ F k = true := by
  simp [fineQ, h, h1, h2]
theorem fine_low_lev {F : List Qd} {k : Nat} (h : k < 2) (h1 : ¬ (qa F k).1 = 0) : fineQ F k = false := by simp [fineQ, h, h1]
theorem fine_low_kids {F : List Qd} {k : Nat} (h : k < 2) (h1 : ¬ (qa F k).2.length = 0) : fineQ F k = false := by
  unfold fineQ
  rw [if_pos h, decide_eq_false h1, Bool.and_false]
theorem fine_len {F : List Qd} {k : Nat} (h : ¬ k < 2) (h1 : ¬ (qa F k).2.length = 4) : fineQ F k = false := by
  unfold fineQ
  rw [if_neg h, decide_eq_false h1]; simp
theorem fine_in {F : List Qd} {k : Nat} (h : ¬ k < 2) (h1 : allIn (qa F k).2 0 ((k : Int) - 1) = false) : fineQ F k = false := by
  unfold fineQ
  rw [if_neg h, h1]; simp
theorem fine_lev {F : List Qd} {k : Nat} (h : ¬ k < 2) (h1 : inB 1 5 (qa F k).1 = false) : fineQ F k = false := by
  unfold fineQ
  rw [if_neg h, h1]; simp
theorem fine_levs {F : List Qd} {k : Nat} (h : ¬ k < 2) (h1 : levB F (qa F k).2 ((qa F k).1 - 1) = false) : fineQ F k = false := by
  unfold fineQ
  rw [if_neg h, h1]; simp
theorem fine_new {F : List Qd} {k : Nat} (h : ¬ k < 2) (h1 : newB F k = false) : fineQ F k = false := by
  unfold fineQ
  rw [if_neg h, h1]; simp
theorem fine_yes {F : List Qd} {k : Nat} (h : ¬ k < 2) (h1 : (qa F k).2.length = 4) (h2 : allIn (qa F k).2 0 ((k : Int) - 1) = true) (h3 : inB 1 5 (qa F k).1 = true) (h4 : levB F (qa F k).2 ((qa F k).1 - 1) = true) (h5 : newB F k = true) : fineQ F k = true := by
  unfold fineQ
  rw [if_neg h, h2, h3, h4, h5, decide_eq_true h1]; rfl
theorem inB_bd {lo hi x : Int} (h : inB lo hi x = true) : lo ≤ x ∧ x ≤ hi := by simpa [inB] using h

set_option maxHeartbeats 4000000 in
set_option maxRecDepth 100000 in
theorem c_sGoodForest (a : Option Addr) (F : List Qd) (ca : Nat) (w : World) (ha : QSeg w a F) (hl : F.length ≤ 1048576) (hk : KidsLe F) (hca : F.length ≤ ca) (hcm : ca ≤ 9223372036854775807) :
    Calls Tryz.prog 81 #[.agg #[.slice a F.length ca]] w fun e w' => e = .returned (.bool (goodF F)) ∧ Below w.heap.size w w' := by
  have BX := hid (Box1.new w (.slice a F.length ca) 25)
  cases hin : inB 2 400 (F.length : Int)
  · have HC := hid (c_l1In' (F.length : Int) 2 400 false hin)
    have HG : Hid (goodF F = false) := by simp [Hid, goodF, hin]
    clear ha
    go_enter Tryz.func81, Tryz.ntmps81
    go_wp2_with fail
    refine (HC.out _).mono ?_
    rintro e w1 ⟨rfl, rfl⟩
    clear HC
    go_wp2
    go_ret
    exact ⟨ret_bool HG.out.symm, BX.out.2.2⟩
  · have HC := hid (c_l1In' (F.length : Int) 2 400 true hin)
    have hbd := inB_bd hin
    have HIN := hid hin
    clear hin
    go_enter Tryz.func81, Tryz.ntmps81
    go_wp2_with fail
    refine (HC.out _).mono ?_
    rintro e w1 ⟨rfl, rfl⟩
    clear HC
    go_wp2
    go_loopw [17] (fun i wr => ∃ k : Nat, k ≤ F.length ∧ i = .int .i64 k ∧ Hid (allB (fineQ F) k = true) ∧ Hid (Box1 w wr (.slice a F.length ca))) (fun i _ => F.length - (intOf i).toNat)
    case atStart => exact ⟨0, Nat.zero_le _, rfl, (rfl : _ = _), BX.out⟩
    case round =>
      clear BX
      obtain ⟨k, hkk, rfl, hT, HX⟩ := hrel
      by_cases hlt : k < F.length
      · obtain ⟨b1, o1, ak, ck, rfl, hb1, p1, p2, p3, p4⟩ := ha k hlt
        have hbel := HX.out.2.2
        have g1 := (hbel.cell (p := ⟨b1, o1 + k * 2, none⟩) hb1).trans p1
        have g2 := (hbel.cell (p := ⟨b1, o1 + k * 2 + 1, none⟩) hb1).trans p2
        have P3 := hid (p3.below hbel)
        have HQ := hid (ha.below hbel)
        have hw1 : b1 < wr.heap.size := Nat.lt_of_lt_of_le hb1 hbel.size
        clear p1 p2 p3 hbel
        have k0 : (0 : Int) ≤ (k : Int) := by omega
        have k1 : (k : Int) < (F.length : Int) := by omega
        have HN := hid (fun h => goodF_no (F := F) hlt h)
        have HS := hid (allB_succ (fineQ F) k)
        have hkk' := hk k hlt
        have HB := hid ((Below.refl wr.heap.size wr).alloc (Nat.le_refl _) (.cells #[.int .i64 (qa F k).1, .slice ak (qa F k).2.length ck] 92))
        have HX1 := hid (HX.out.step HB.out)
        by_cases h2 : k < 2
        · have h2' : (k : Int) < 2 := by omega
          by_cases h3 : (qa F k).1 = 0
          · have d3 : ((qa F k).1 != 0) = false := by simp [h3]
            by_cases h4 : (qa F k).2.length = 0
            · have d4 : (((qa F k).2.length : Int) != 0) = false := by simp [h4]
              have HV := hid (show allB (fineQ F) (k + 1) = true by rw [HS.out, hT.out, fine_low h2 h3 h4]; rfl)
              clear HN HS h3 h4 HQ P3
              generalize qa F k = q at *
              go_wp2
              go_roundw
              case rel => exact ⟨k + 1, by omega, by go_num, HV.out, HX1.out⟩
              case measure => simp [intOf]; omega
            · have d4 : (((qa F k).2.length : Int) != 0) = true := by simp; simpa using h4
              have HV := hid (HN.out (fine_low_kids h2 h4))
              clear HN HS h3 h4 HQ P3
              generalize qa F k = q at *
              go_wp2
              go_ret
              exact ⟨ret_bool HV.out.symm, HX1.out.2.2⟩
          · have d3 : ((qa F k).1 != 0) = true := by simp [h3]
            have HV := hid (HN.out (fine_low_lev h2 h3))
            clear HN HS h3 HQ P3
            generalize qa F k = q at *
            go_wp2
            go_ret
            exact ⟨ret_bool HV.out.symm, HX1.out.2.2⟩
        · have h2' : ¬ (k : Int) < 2 := by omega
          by_cases h3 : (qa F k).2.length = 4
          · have d3 : (((qa F k).2.length : Int) != 4) = false := by simp [h3]
            have P4 := hid (P3.out.below HB.out)
            cases h4 : allIn (qa F k).2 0 ((k : Int) - 1)
            · have HV := hid (HN.out (fine_in h2 h4))
              have HC := hid (c_l1All' ak (qa F k).2 ck 0 ((k : Int) - 1) false h4 _ P4.out hkk')
              clear HN HS h3 h4 HQ P3
              generalize qa F k = q at *
              go_wp2_with fail
              refine HC.out.mono ?_
              rintro e w2 ⟨rfl, hb2⟩
              clear HC
              go_wp2
              go_ret
              exact ⟨ret_bool HV.out.symm, (HX1.out.step hb2).2.2⟩
            · have HC := hid (c_l1All' ak (qa F k).2 ck 0 ((k : Int) - 1) true h4 _ P4.out hkk')
              have BQ := hid (Box2.new wr (.int .i64 (qa F k).1) (.slice ak (qa F k).2.length ck) 92)
              cases h5 : inB 1 5 (qa F k).1
              · have HV := hid (HN.out (fine_lev h2 h5))
                have HD := hid (c_l1In' (qa F k).1 1 5 false h5)
                clear HN HS h3 h4 h5 HQ P3
                generalize qa F k = q at *
                go_wp2_with fail
                refine HC.out.mono ?_
                rintro e w2 ⟨rfl, hb2⟩
                have BQ2 := hid (BQ.out.step hb2)
                have c1 := BQ2.out.1
                have c2 := BQ2.out.2.1
                clear HC
                go_wp2_with fail
                refine (HD.out _).mono ?_
                rintro e w3 ⟨rfl, rfl⟩
                go_wp2
                go_ret
                exact ⟨ret_bool HV.out.symm, (HX1.out.step hb2).2.2⟩
              · have HD := hid (c_l1In' (qa F k).1 1 5 true h5)
                have hq5 := inB_bd h5
                have HLV := hid (fun h => HN.out (fine_levs h2 h))
                have HNW := hid (fun h => HN.out (fine_new h2 h))
                have HYS := hid (fun h h' => fine_yes h2 h3 h4 h5 h h')
                have HIN2 := hid (allB_iff.1 h4)
                have HLS := hid (fun j => allB_succ (fun i => decide ((qa F (ia (qa F k).2 i).toNat).1 = (qa F k).1 - 1)) j)
                have HLF := hid (fun j (hj : j < (qa F k).2.length) h => allB_false (p := fun i => decide ((qa F (ia (qa F k).2 i).toNat).1 = (qa F k).1 - 1)) hj h)
                have HNB := hid (show newB F k = allB (fun j => !decide ((qa F j).2 = (qa F k).2)) k from rfl)
                have h3' := hid h3
                clear HN h4 h5 h3
                generalize hq : qa F k = q at *
                have HEQ := hid hq
                clear hq
                go_wp2_with fail
                refine HC.out.mono ?_
                rintro e w2 ⟨rfl, hb2⟩
                have BQ2 := hid (BQ.out.step hb2)
                have BX2 := hid (HX1.out.step hb2)
                have c1 := BQ2.out.1
                have c2 := BQ2.out.2.1
                clear HC hb2
                go_wp2_with fail
                refine (HD.out _).mono ?_
                rintro e w3 ⟨rfl, rfl⟩
                clear HD
                go_wp2
                go_loopw [54] (fun i wt => ∃ j : Nat, j ≤ q.2.length ∧ i = .int .i64 j ∧ Hid (allB (fun i => decide ((qa F (ia q.2 i).toNat).1 = q.1 - 1)) j = true) ∧ Below w3.heap.size w3 wt) (fun i _ => q.2.length - (intOf i).toNat)
                case atStart => exact ⟨0, Nat.zero_le _, rfl, (rfl : _ = _), Below.refl _ _⟩
                case round =>
                  rename World => wt
                  obtain ⟨j, hjj, rfl, hTj, hbt⟩ := hrel
                  have BQ3 := hid (BQ2.out.step hbt)
                  have BX3 := hid (BX2.out.step hbt)
                  have x1 := BX3.out.1
                  have x2 := BQ3.out.1
                  have x3 := BQ3.out.2.1
                  clear c1 c2
                  have hbw : Below wr.heap.size wr wt := BQ3.out.2.2.2
                  have HBW := hid hbw
                  by_cases hj : j < q.2.length
                  · obtain ⟨b2, o2, rfl, hb2, r1⟩ := P3.out j hj
                    have y1 := (hbw.cell (p := ⟨b2, o2 + j, none⟩) hb2).trans r1
                    have hin := inB_bd (HIN2.out j hj)
                    have hkid : (ia q.2 j).toNat < F.length := by omega
                    obtain ⟨b3, o3, a3, c3, e3, hb3, r3, _, _, _⟩ := HQ.out (ia q.2 j).toNat hkid
                    simp only [Option.some.injEq, Addr.mk.injEq, and_true] at e3
                    obtain ⟨rfl, rfl⟩ := e3
                    have y3 := (hbw.cell (p := ⟨b1, o1 + (ia q.2 j).toNat * 2, none⟩) hb3).trans r3
                    have hS := HLS.out j
                    have hF := HLF.out j hj
                    clear r1 r3 hbw
                    have j0 : (0 : Int) ≤ (j : Int) := by omega
                    have j1 : (j : Int) < (q.2.length : Int) := by omega
                    have i0 : 0 ≤ ia q.2 j := hin.1
                    have i1 : ia q.2 j < (F.length : Int) := by omega
                    have HS2 := hid hS
                    have HF2 := hid hF
                    clear hS hF
                    by_cases hv : (qa F (ia q.2 j).toNat).1 = q.1 - 1
                    · have d5 : ((qa F (ia q.2 j).toNat).1 != q.1 - 1) = false := by simp [hv]
                      have HV := hid (show allB (fun i => decide ((qa F (ia q.2 i).toNat).1 = q.1 - 1)) (j + 1) = true by rw [HS2.out, hTj.out]; simpa using hv)
                      clear hv HS2 HF2
                      generalize ia q.2 j = kd at *
                      generalize (qa F kd.toNat).1 = lk at *
                      go_wp2
                      go_region
                      go_wp2
                      go_roundw
                      case rel => exact ⟨j + 1, by omega, by go_num, HV.out, by first | exact hbt | exact hbt.drew⟩
                      case measure => simp [intOf]; omega
                    · have d5 : ((qa F (ia q.2 j).toNat).1 != q.1 - 1) = true := by simp [hv]
                      have HV := hid (HLV.out (HF2.out (by simpa using hv)))
                      clear hv HS2 HF2
                      generalize ia q.2 j = kd at *
                      generalize (qa F kd.toNat).1 = lk at *
                      go_wp2
                      go_region
                      go_wp2
                      go_ret
                      exact ⟨ret_bool HV.out.symm, by first | exact BX3.out.2.2 | exact BX3.out.2.2.drew⟩
                  · obtain rfl : j = q.2.length := by omega
                    have HLT := hid (show levB F q.2 (q.1 - 1) = true from hTj.out)
                    have kca : (k : Int) ≤ (ca : Int) := by omega
                    clear HLS HLF HIN2 hTj hbw x2
                    go_wp2
                    go_loopw [74] (fun i wu => ∃ m : Nat, m ≤ k ∧ i = .int .i64 m ∧ Hid (allB (fun j => !decide ((qa F j).2 = q.2)) m = true) ∧ Below wt.heap.size wt wu) (fun i _ => k - (intOf i).toNat)
                    case atStart => exact ⟨0, Nat.zero_le _, rfl, (rfl : _ = _), Below.refl _ _⟩
                    case round =>
                      rename World => wu
                      obtain ⟨m, hmm, rfl, hTm, hbu⟩ := hrel
                      have BQ4 := hid (BQ3.out.step hbu)
                      have BX4 := hid (BX3.out.step hbu)
                      by_cases hm : m < k
                      · obtain ⟨b3, o3, am, cm, e3, hb3, r3, r4, r5, _⟩ := HQ.out m (by omega)
                        simp only [Option.some.injEq, Addr.mk.injEq, and_true] at e3
                        obtain ⟨rfl, rfl⟩ := e3
                        have hbw : Below wr.heap.size wr wu := BQ4.out.2.2.2
                        have y3 := (hbw.cell (p := ⟨b1, o1 + m * 2, none⟩) hb3).trans r3
                        have y4 := (hbw.cell (p := ⟨b1, o1 + m * 2 + 1, none⟩) hb3).trans r4
                        have HB2 := hid ((Below.refl wu.heap.size wu).alloc (Nat.le_refl _) (.cells #[.int .i64 (qa F m).1, .slice am (qa F m).2.length cm] 92))
                        have Y5 := hid ((r5.below hbw).below HB2.out)
                        have Y6 := hid ((P3.out.below hbw).below HB2.out)
                        have BQ5 := hid (BQ4.out.step HB2.out)
                        have BX5 := hid (BX4.out.step HB2.out)
                        have z2 := BQ5.out.2.1
                        have m0 : (0 : Int) ≤ (m : Int) := by omega
                        have m1 : (m : Int) < (k : Int) := by omega
                        have hkm := hk m (by omega)
                        have HS2 := hid (allB_succ (fun j => !decide ((qa F j).2 = q.2)) m)
                        have HF2 := hid (fun h => allB_false (p := fun j => !decide ((qa F j).2 = q.2)) hm h)
                        have HBU := hid (hbu.trans ((HB2.out).mono hbu.size))
                        clear r3 r4 r5 hbw x1 x3
                        cases hsm : decide ((qa F m).2 = q.2)
                        · have HC := hid (c_l3Same' am ak (qa F m).2 q.2 cm ck false hsm _ Y5.out Y6.out hkm hkk')
                          have HV := hid (show allB (fun j => !decide ((qa F j).2 = q.2)) (m + 1) = true by rw [HS2.out, hTm.out]; simp only [hsm]; rfl)
                          clear HS2 HF2 hsm
                          generalize qa F m = r at *
                          go_wp2_with fail
                          refine HC.out.mono ?_
                          rintro e w5 ⟨rfl, hb5⟩
                          clear HC
                          go_wp2
                          go_roundw
                          case rel => exact ⟨m + 1, by omega, by go_num, HV.out, HBU.out.trans (hb5.mono (by have := HBU.out.size; simpa using this))⟩
                          case measure => simp [intOf]; omega
                        · have HC := hid (c_l3Same' am ak (qa F m).2 q.2 cm ck true hsm _ Y5.out Y6.out hkm hkk')
                          have HV := hid (HNW.out (by rw [HNB.out]; exact HF2.out (by simp only [hsm]; rfl)))
                          clear HS2 HF2 hsm
                          generalize qa F m = r at *
                          go_wp2_with fail
                          refine HC.out.mono ?_
                          rintro e w5 ⟨rfl, hb5⟩
                          clear HC
                          go_wp2
                          go_ret
                          exact ⟨ret_bool HV.out.symm, (BX5.out.step hb5).2.2⟩
                      · obtain rfl : m = k := by omega
                        have HV := hid (show allB (fineQ F) (m + 1) = true by rw [HS.out, hT.out, HYS.out HLT.out (by rw [HNB.out]; exact hTm.out)]; rfl)
                        clear x1 x3
                        go_wp2
                        go_roundw
                        case rel => exact ⟨m + 1, by omega, by go_num, HV.out, BX4.out⟩
                        case measure => simp [intOf]; omega
          · have d3 : (((qa F k).2.length : Int) != 4) = true := by simp; omega
            have HV := hid (HN.out (fine_len h2 h3))
            clear HN HS h3 HQ P3
            generalize qa F k = q at *
            go_wp2
            go_ret
            exact ⟨ret_bool HV.out.symm, HX1.out.2.2⟩
      · go_wp2
        go_ret
        obtain rfl : k = F.length := by omega
        exact ⟨ret_bool (by simp [goodF, HIN.out, hT.out]), HX.out.2.2⟩

end Go.Proofs.YtokemdbgcegjiaaGreat

namespace Go.Proofs.YtokemdbgcegjiaaGreat
set_option linter.unusedVariables false

/-- Kid i of quad q. -/
def kidq (F : List Qd) (q i : Nat) : Nat := (ia (qa F q).2 i).toNat
/-- The cells of quad q of level n, from a corner on. -/
def cellsL (F : List Qd) : Nat → Nat → Int → Int → List Cl
  | 0, q, x, y => if q = 1 then [(x, y)] else []
  | n + 1, q, x, y => cellsL F n (kidq F q 0) x y ++ cellsL F n (kidq F q 1) (x + 2 ^ n) y ++ cellsL F n (kidq F q 2) x (y + 2 ^ n) ++ cellsL F n (kidq F q 3) (x + 2 ^ n) (y + 2 ^ n)

theorem good_fine {F : List Qd} (h : goodF F = true) {q : Nat} (hq : q < F.length) : fineQ F q = true := by
  simp only [goodF, Bool.and_eq_true] at h
  exact allB_iff.1 h.2 q hq
theorem good_len2 {F : List Qd} (h : goodF F = true) : 2 ≤ F.length ∧ F.length ≤ 400 := by
  simp only [goodF, Bool.and_eq_true] at h
  have := inB_bd h.1
  omega
theorem good_zero {F : List Qd} (h : goodF F = true) {q : Nat} (hq : q < F.length) (h2 : q < 2) : (qa F q).1 = 0 ∧ (qa F q).2.length = 0 := by
  have := good_fine h hq
  simp only [fineQ, if_pos h2, Bool.and_eq_true, decide_eq_true_eq] at this
  exact this
/-- What a quad of a good forest is like. -/
theorem good_quad {F : List Qd} (h : goodF F = true) {q : Nat} (hq : q < F.length) (h2 : 2 ≤ q) :
    (qa F q).2.length = 4 ∧ 1 ≤ (qa F q).1 ∧ (qa F q).1 ≤ 5 ∧ (∀ i, i < 4 → 0 ≤ ia (qa F q).2 i ∧ ia (qa F q).2 i < (q : Int)) ∧ (∀ i, i < 4 → (qa F (kidq F q i)).1 = (qa F q).1 - 1) := by
  have := good_fine h hq
  simp only [fineQ, if_neg (show ¬ q < 2 by omega), Bool.and_eq_true, decide_eq_true_eq] at this
  obtain ⟨⟨⟨⟨h1, h3⟩, h4⟩, h5⟩, h6⟩ := this
  have b4 := inB_bd h4
  refine ⟨h1, b4.1, b4.2, fun i hi => ?_, fun i hi => ?_⟩
  · have := inB_bd (allB_iff.1 h3 i (by omega))
    omega
  · have := allB_iff.1 h5 i (by omega)
    simpa [kidq] using this
theorem kid_lt {F : List Qd} (h : goodF F = true) {q : Nat} (hq : q < F.length) (h2 : 2 ≤ q) {i : Nat} (hi : i < 4) : kidq F q i < q := by
  have := (good_quad h hq h2).2.2.2.1 i hi
  unfold kidq; omega
theorem lev_nonneg {F : List Qd} (h : goodF F = true) {q : Nat} (hq : q < F.length) : 0 ≤ (qa F q).1 ∧ (qa F q).1 ≤ 5 := by
  by_cases h2 : q < 2
  · have := (good_zero h hq h2).1; omega
  · have := good_quad h hq (by omega); omega
theorem lev_two {F : List Qd} (h : goodF F = true) {q : Nat} (hq : q < F.length) : (qa F q).1 = 0 ↔ q < 2 := by
  constructor
  · intro e
    by_cases h2 : q < 2
    · exact h2
    · have := good_quad h hq (by omega); omega
  · intro h2; exact (good_zero h hq h2).1

theorem two_pow (n : Nat) : (2 : Int) ^ (n + 1) = 2 ^ n + 2 ^ n := by rw [Int.pow_succ]; omega
theorem pow_pos' (n : Nat) : (0 : Int) < 2 ^ n := by
  induction n with
  | zero => decide
  | succ n ih => rw [two_pow]; omega
theorem cellsL_in (F : List Qd) : ∀ (n q : Nat) (x y : Int) (c : Cl), c ∈ cellsL F n q x y → x ≤ c.1 ∧ c.1 < x + 2 ^ n ∧ y ≤ c.2 ∧ c.2 < y + 2 ^ n
  | 0, q, x, y, c, h => by
    simp only [cellsL] at h
    split at h
    · simp at h; subst h; simp; omega
    · simp at h
  | n + 1, q, x, y, c, h => by
    have hp := pow_pos' n
    rw [two_pow]
    simp only [cellsL, List.mem_append] at h
    rcases h with ((h | h) | h) | h
    all_goals
      have := cellsL_in F n _ _ _ c h
      omega
theorem cellsL_len (F : List Qd) : ∀ (n q : Nat) (x y : Int), (cellsL F n q x y).length ≤ 4 ^ n
  | 0, q, x, y => by simp only [cellsL]; split <;> simp
  | n + 1, q, x, y => by
    simp only [cellsL, List.length_append]
    have a := cellsL_len F n (kidq F q 0) x y
    have b := cellsL_len F n (kidq F q 1) (x + 2 ^ n) y
    have c := cellsL_len F n (kidq F q 2) x (y + 2 ^ n)
    have d := cellsL_len F n (kidq F q 3) (x + 2 ^ n) (y + 2 ^ n)
    rw [Nat.pow_succ]; omega
theorem cellsL_nodup (F : List Qd) : ∀ (n q : Nat) (x y : Int), (cellsL F n q x y).Nodup
  | 0, q, x, y => by simp only [cellsL]; split <;> simp
  | n + 1, q, x, y => by
    have hp := pow_pos' n
    simp only [cellsL]
    rw [List.nodup_append, List.nodup_append, List.nodup_append]
    refine ⟨⟨⟨cellsL_nodup F n _ _ _, cellsL_nodup F n _ _ _, ?_⟩, cellsL_nodup F n _ _ _, ?_⟩, cellsL_nodup F n _ _ _, ?_⟩
    · intro a ha b hb e
      subst e
      have := cellsL_in F n _ _ _ a ha
      have := cellsL_in F n _ _ _ a hb
      omega
    · intro a ha b hb e
      subst e
      have hb' := cellsL_in F n _ _ _ a hb
      rw [List.mem_append] at ha
      rcases ha with ha | ha
      all_goals
        have := cellsL_in F n _ _ _ a ha
        omega
    · intro a ha b hb e
      subst e
      have hb' := cellsL_in F n _ _ _ a hb
      rw [List.mem_append, List.mem_append] at ha
      rcases ha with (ha | ha) | ha
      all_goals
        have := cellsL_in F n _ _ _ a ha
        omega
/-- The level of a quad, as a number. -/
def levN (F : List Qd) (q : Nat) : Nat := (qa F q).1.toNat
/-- The cells of a quad. -/
def cellsOfQ (F : List Qd) (q : Nat) : List Cl := cellsL F (levN F q) q 0 0

end Go.Proofs.YtokemdbgcegjiaaGreat

namespace Go.Proofs.YtokemdbgcegjiaaGreat
open Go.RowKit Go.ChangeShapes Go.WideShapes Go.ChangeAt Go.Deep Go.Joins

theorem own : ownKnob Tryz.prog.godebug = none := by kernel_rfl
theorem laidOut : laidOutB Tryz.prog = true := by kernel_rfl
theorem cells_int : Tryz.prog.cellsOf 3 = 1 := by kernel_rfl

theorem lt_of_cell {w : World} {p : Addr} {v : Value} (h : w.cell? p = some v) : p.block < w.heap.size := by
  unfold World.cell? at h
  split at h
  · rename_i hb
    exact (Array.getElem?_eq_some_iff.1 hb).1
  · cases h

set_option maxRecDepth 100000 in
/-- A number that came in. -/
theorem open_num {H : Type} {enc : TypeId × Value → H} {W : World} {base base' : Nat} {spare : Nat → Bool} {held : Bool} {v : Value} {d : DataW H} {p : List MemPlace}
    (hval : Value.okWide Tryz.prog W .any base' 3 v) (h : DataW.Trod enc Tryz.prog W base spare held 3 v d p) : ∃ n : Int, v = .int .i64 n ∧ (Lit.int .i64 n).wf = true := by
  obtain ⟨n, rfl, _, _, wn⟩ := open_int Tryz.underlying3 hval h
  exact ⟨n, rfl, wn⟩

end Go.Proofs.YtokemdbgcegjiaaGreat
