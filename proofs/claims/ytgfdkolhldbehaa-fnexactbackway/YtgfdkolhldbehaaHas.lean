/- Whether a cell is among good cells: by halving (slices.BinarySearchFunc, hasCell) and one by one (l1Alive). -/
import Derived.Test.YtgfdkolhldbehaaGood
namespace Go.Proofs.Ytgfdkolhldbehaa
open Go.RowKit
set_option linter.unusedVariables false

/-- Rising, at two places that are neighbours. -/
theorem ris_next {l : List Cl} {n : Nat} (h : risTo l n = true) {i : Nat} (hi : i + 1 < n) : ltC (at_ l i) (at_ l (i + 1)) = true := by
  simp only [risTo, List.all_eq_true, List.mem_range] at h
  simpa using h (i + 1) hi
theorem ltC_trans {a b c : Cl} (h1 : ltC a b = true) (h2 : ltC b c = true) : ltC a c = true := by
  simp [ltC] at *; omega
theorem ris_lt {l : List Cl} {n : Nat} (h : risTo l n = true) {i : Nat} : ∀ j, i < j → j < n → ltC (at_ l i) (at_ l j) = true
  | 0, h0, _ => absurd h0 (Nat.not_lt_zero _)
  | j + 1, h0, hj => by
    by_cases e : i = j
    · subst e; exact ris_next h hj
    · exact ltC_trans (ris_lt h j (by omega) (by omega)) (ris_next h hj)
theorem cmpC_neg (a b : Cl) : cmpC a b < 0 ↔ ltC a b = true := by
  have := cmpC_lt a b
  cases h : ltC a b
  · rw [h] at this; simp at this; simp; omega
  · rw [h] at this; simp at this; simp; omega
theorem cmpC_zero (a b : Cl) : cmpC a b = 0 ↔ a = b := by
  obtain ⟨x, y⟩ := a
  obtain ⟨u, v⟩ := b
  simp only [cmpC, cmpI, Prod.mk.injEq]
  by_cases h : y = v
  · simp only [h, if_true, and_true]; split
    · omega
    · split <;> omega
  · simp only [h, if_false, and_false, iff_false]; split
    · simp
    · split <;> omega
theorem ltC_irr (a : Cl) : ltC a a = false := by simp [ltC]
theorem mem_at {l : List Cl} {c : Cl} : c ∈ l ↔ ∃ t, t < l.length ∧ at_ l t = c := by
  constructor
  · intro h
    obtain ⟨t, ht, rfl⟩ := List.getElem_of_mem h
    exact ⟨t, ht, by simp [at_, ht]⟩
  · rintro ⟨t, ht, rfl⟩
    simp [at_, ht]
/-- What halving comes to. -/
theorem found_iff {l : List Cl} {c : Cl} {lo : Nat} (hr : risTo l l.length = true) (h1 : ∀ t, t < lo → cmpC (at_ l t) c < 0) (h2 : ∀ t, lo ≤ t → t < l.length → 0 ≤ cmpC (at_ l t) c) (hlo : lo < l.length) :
    decide (cmpC (at_ l lo) c = 0) = decide (c ∈ l) := by
  rw [decide_eq_decide, cmpC_zero, mem_at]
  constructor
  · intro h; exact ⟨lo, hlo, h⟩
  · rintro ⟨t, ht, rfl⟩
    rcases (show t < lo ∨ t = lo ∨ lo < t by omega) with h | h | h
    · have := h1 t h
      rw [(cmpC_zero _ _).2 rfl] at this; omega
    · rw [h]
    · have a1 := h2 lo (Nat.le_refl _) hlo
      have a2 := (cmpC_neg _ _).2 (ris_lt hr t h ht)
      omega
theorem notfound {l : List Cl} {c : Cl} (h1 : ∀ t, t < l.length → cmpC (at_ l t) c < 0) : decide (c ∈ l) = false := by
  rw [decide_eq_false_iff_not, mem_at]
  rintro ⟨t, ht, rfl⟩
  have := h1 t ht
  rw [(cmpC_zero _ _).2 rfl] at this; omega
theorem low_step {l : List Cl} {c : Cl} {m : Nat} (hr : risTo l l.length = true) (hm : m < l.length) (h : cmpC (at_ l m) c < 0) : ∀ t, t < m + 1 → cmpC (at_ l t) c < 0 := by
  intro t ht
  by_cases e : t = m
  · rw [e]; exact h
  · exact (cmpC_neg _ _).2 (ltC_trans (ris_lt hr m (by omega) hm) ((cmpC_neg _ _).1 h))
theorem high_step {l : List Cl} {c : Cl} {m : Nat} (hr : risTo l l.length = true) (h : 0 ≤ cmpC (at_ l m) c) : ∀ t, m ≤ t → t < l.length → 0 ≤ cmpC (at_ l t) c := by
  intro t h1 h2
  by_cases e : m = t
  · rw [← e]; exact h
  · by_cases hn : cmpC (at_ l t) c < 0
    · have := (cmpC_neg _ _).2 (ltC_trans (ris_lt (i := m) hr t (by omega) h2) ((cmpC_neg _ _).1 hn)); omega
    · omega

set_option maxHeartbeats 1000000 in
theorem c_search (a : Option Addr) (l : List Cl) (ca : Nat) (c : Cl) (w : World) (ha : Seg w a l) (hl : l.length ≤ 1048576) (hr : risTo l l.length = true) :
    Calls Try.prog 164 #[.slice a l.length ca, .agg #[.int .i64 c.1, .int .i64 c.2], .func (.func 125) #[] #[]] w fun e w' => (∃ i : Int, e = .returned (.tuple #[.int .i64 i, .bool (decide (c ∈ l))])) ∧ Below w.heap.size w w' := by
  have HR := hid hr
  clear hr
  go_enter Try.func164, Try.ntmps164
  go_wp2
  go_loopw [9, 10] (fun s9 s10 wr => ∃ lo hi : Nat, s9 = .int .i64 lo ∧ s10 = .int .i64 hi ∧ lo ≤ hi ∧ hi ≤ l.length ∧ Below (w.alloc (.cells #[.int .i64 c.1, .int .i64 c.2] 36)).heap.size (w.alloc (.cells #[.int .i64 c.1, .int .i64 c.2] 36)) wr ∧
    Hid ((∀ t, t < lo → cmpC (at_ l t) c < 0) ∧ (∀ t, hi ≤ t → t < l.length → 0 ≤ cmpC (at_ l t) c))) (fun s9 s10 _ => (intOf s10).toNat - (intOf s9).toNat)
  case atStart => exact ⟨0, l.length, rfl, rfl, Nat.zero_le _, Nat.le_refl _, Below.refl _ _, ⟨fun t ht => absurd ht (Nat.not_lt_zero _), fun t h1 h2 => by omega⟩⟩
  case round =>
    obtain ⟨lo, hi, rfl, rfl, hlh, hin, hbel, I⟩ := hrel
    by_cases hlt : lo < hi
    · obtain ⟨b1, o1, rfl, hb1, p1, p2⟩ := ha ((lo + hi) / 2) (by omega)
      have hsz : w.heap.size + 1 ≤ wr.heap.size := by have := hbel.size; simpa using this
      have hB : Below w.heap.size w wr := ((Below.refl _ _).alloc (Nat.le_refl _) _).trans (hbel.mono (by simp))
      have g1 := fun g : Gr wr => g.cell ((hB.cell (p := ⟨b1, o1 + (lo + hi) / 2 * 2, none⟩) hb1).trans p1) (by omega)
      have g2 := fun g : Gr wr => g.cell ((hB.cell (p := ⟨b1, o1 + (lo + hi) / 2 * 2 + 1, none⟩) hb1).trans p2) (by omega)
      have g3 := fun g : Gr wr => g.cell ((hbel.cell (p := ⟨w.heap.size, 0, none⟩) (by simp)).trans (cell_new0 w (.int .i64 c.1) (.int .i64 c.2) 36)) (by omega)
      have g4 := fun g : Gr wr => g.cell ((hbel.cell (p := ⟨w.heap.size, 1, none⟩) (by simp)).trans (cell_new1 w (.int .i64 c.1) (.int .i64 c.2) 36)) (by omega)
      change ∀ g : Gr wr, _ = some (Value.int .i64 (at_ l ((lo + hi) / 2)).1) at g1
      change ∀ g : Gr wr, _ = some (Value.int .i64 (at_ l ((lo + hi) / 2)).2) at g2
      clear p1 p2
      have HL := hid (low_step (l := l) (c := c) (m := (lo + hi) / 2) HR.out (by omega))
      have HH := hid (high_step (l := l) (c := c) (m := (lo + hi) / 2) HR.out)
      generalize at_ l ((lo + hi) / 2) = x at *
      have hne := Gr.ne wr
      by_cases hx : cmpC x c < 0
      · go_wp2
        refine wp_region_gr (by kernel_rfl) (by kernel_rfl) ?_
        repeat (go_big_quiet_step (first | (go_at_call 125; exact Calls.gr _ (c_compareCells x c _))))
        refine wpQuiet_nil ?_
        rintro _ ⟨g, rfl⟩
        clear g1 g2 g3 g4
        go_wp2
        go_roundw
        case rel => exact ⟨(lo + hi) / 2 + 1, hi, by go_num, rfl, by omega, hin, hbel.trans (g.below.mono hbel.size), ⟨HL.out hx, I.out.2⟩⟩
        case measure => simp [intOf]; omega
      · go_wp2
        refine wp_region_gr (by kernel_rfl) (by kernel_rfl) ?_
        repeat (go_big_quiet_step (first | (go_at_call 125; exact Calls.gr _ (c_compareCells x c _))))
        refine wpQuiet_nil ?_
        rintro _ ⟨g, rfl⟩
        clear g1 g2 g3 g4
        go_wp2
        go_roundw
        case rel => exact ⟨lo, (lo + hi) / 2, rfl, by go_num, by omega, by omega, hbel.trans (g.below.mono hbel.size), ⟨I.out.1, HH.out (by omega)⟩⟩
        case measure => simp [intOf]; omega
    · obtain rfl : lo = hi := by omega
      by_cases hlo : lo < l.length
      · obtain ⟨b1, o1, rfl, hb1, p1, p2⟩ := ha lo hlo
        have hsz : w.heap.size + 1 ≤ wr.heap.size := by have := hbel.size; simpa using this
        have hB : Below w.heap.size w wr := ((Below.refl _ _).alloc (Nat.le_refl _) _).trans (hbel.mono (by simp))
        have g1 := fun g : Gr wr => g.cell ((hB.cell (p := ⟨b1, o1 + lo * 2, none⟩) hb1).trans p1) (by omega)
        have g2 := fun g : Gr wr => g.cell ((hB.cell (p := ⟨b1, o1 + lo * 2 + 1, none⟩) hb1).trans p2) (by omega)
        have g3 := fun g : Gr wr => g.cell ((hbel.cell (p := ⟨w.heap.size, 0, none⟩) (by simp)).trans (cell_new0 w (.int .i64 c.1) (.int .i64 c.2) 36)) (by omega)
        have g4 := fun g : Gr wr => g.cell ((hbel.cell (p := ⟨w.heap.size, 1, none⟩) (by simp)).trans (cell_new1 w (.int .i64 c.1) (.int .i64 c.2) 36)) (by omega)
        change ∀ g : Gr wr, _ = some (Value.int .i64 (at_ l lo).1) at g1
        change ∀ g : Gr wr, _ = some (Value.int .i64 (at_ l lo).2) at g2
        clear p1 p2
        have HF := hid (found_iff HR.out I.out.1 I.out.2 hlo)
        have hne := Gr.ne wr
        generalize at_ l lo = x at *
        go_wp2
        refine wp_region_gr (by kernel_rfl) (by kernel_rfl) ?_
        repeat (go_big_quiet_step (first | (go_at_call 125; exact Calls.gr _ (c_compareCells x c _))))
        refine wpQuiet_nil ?_
        rintro _ ⟨g, rfl⟩
        clear g1 g2 g3 g4
        go_wp2
        go_ret2
        exact ⟨⟨lo, ret_two rfl (vbool (by rw [← HF.out]; rfl))⟩, hB.trans (g.below.mono hB.size)⟩
      · have hlo' : decide ((lo : Int) < (l.length : Int)) = false := by simp; omega
        have hne := Gr.ne wr
        go_wp2
        refine wp_region_gr (by kernel_rfl) (by kernel_rfl) ?_
        repeat (go_big_quiet_step (fail))
        refine wpQuiet_nil ?_
        rintro _ ⟨g, rfl⟩
        go_wp2
        go_ret2
        have hB : Below w.heap.size w wr := ((Below.refl _ _).alloc (Nat.le_refl _) _).trans (hbel.mono (by simp))
        exact ⟨⟨lo, ret_two rfl (vbool (notfound (fun t ht => I.out.1 t (by omega))).symm)⟩, hB.trans (g.below.mono hB.size)⟩

set_option maxHeartbeats 400000 in
theorem c_hasCell (a : Option Addr) (l : List Cl) (ca : Nat) (c : Cl) (w : World) (ha : Seg w a l) (hl : l.length ≤ 1048576) (hr : risTo l l.length = true) :
    Calls Try.prog 144 #[.slice a l.length ca, .agg #[.int .i64 c.1, .int .i64 c.2]] w fun e w' => e = .returned (.bool (decide (c ∈ l))) ∧ Below w.heap.size w w' := by
  have hb0 : Below w.heap.size w (w.alloc (.cells #[.int .i64 c.1, .int .i64 c.2] 36)) := (Below.refl _ _).alloc (Nat.le_refl _) _
  have HC := hid (c_search a l ca c _ (ha.below hb0) hl hr)
  clear hr ha
  go_enter Try.func144, Try.ntmps144
  go_wp2_with fail
  refine HC.out.mono ?_
  rintro e w1 ⟨⟨i, rfl⟩, hb1⟩
  go_wp2
  go_ret
  exact ⟨rfl, hb0.trans (hb1.mono hb0.size)⟩

/-- Is none of the first k the cell? -/
theorem not_mem_to {l : List Cl} {c : Cl} (h : ∀ t, t < l.length → at_ l t ≠ c) : decide (c ∈ l) = false := by
  rw [decide_eq_false_iff_not, mem_at]
  rintro ⟨t, ht, e⟩
  exact h t ht e

set_option maxHeartbeats 400000 in
theorem c_l1Alive (a : Option Addr) (l : List Cl) (ca : Nat) (c : Cl) (w : World) (ha : Seg w a l) (hl : l.length ≤ 1048576) :
    Calls Try.prog 75 #[.slice a l.length ca, .agg #[.int .i64 c.1, .int .i64 c.2]] w fun e w' => e = .returned (.bool (decide (c ∈ l))) ∧ Below w.heap.size w w' := by
  go_enter Try.func75, Try.ntmps75
  go_wp2
  go_loopw [9] (fun i wr => ∃ k : Nat, k ≤ l.length ∧ i = .int .i64 k ∧ Hid (∀ t, t < k → at_ l t ≠ c) ∧ Below (w.alloc (.cells #[.int .i64 c.1, .int .i64 c.2] 36)).heap.size (w.alloc (.cells #[.int .i64 c.1, .int .i64 c.2] 36)) wr) (fun i _ => l.length - (intOf i).toNat)
  case atStart => exact ⟨0, Nat.zero_le _, rfl, (fun t ht => absurd ht (Nat.not_lt_zero _)), Below.refl _ _⟩
  case round =>
    obtain ⟨k, hk, rfl, hT, hbel⟩ := hrel
    have hB : Below w.heap.size w wr := ((Below.refl _ _).alloc (Nat.le_refl _) _).trans (hbel.mono (by simp))
    by_cases hlt : k < l.length
    · obtain ⟨b1, o1, rfl, hb1, p1, p2⟩ := ha k hlt
      have g1 := (hB.cell (p := ⟨b1, o1 + k * 2, none⟩) hb1).trans p1
      have g2 := (hB.cell (p := ⟨b1, o1 + k * 2 + 1, none⟩) hb1).trans p2
      change _ = some (Value.int .i64 (at_ l k).1) at g1
      change _ = some (Value.int .i64 (at_ l k).2) at g2
      have g3 := (hbel.cell (p := ⟨w.heap.size, 0, none⟩) (by simp)).trans (cell_new0 w (.int .i64 c.1) (.int .i64 c.2) 36)
      have g4 := (hbel.cell (p := ⟨w.heap.size, 1, none⟩) (by simp)).trans (cell_new1 w (.int .i64 c.1) (.int .i64 c.2) 36)
      have hsz : w.heap.size < wr.heap.size := by have := hbel.size; simp at this; omega
      clear p1 p2
      have k0 : (0 : Int) ≤ (k : Int) := by omega
      have k1 : (k : Int) < (l.length : Int) := by omega
      have HM := hid (fun e : at_ l k = c => mem_at.2 ⟨k, hlt, e⟩)
      have HN := hid (show at_ l k ≠ c → ∀ t, t < k + 1 → at_ l t ≠ c from fun hn t ht => by
        by_cases e : t = k
        · rw [e]; exact hn
        · exact hT.out t (by omega))
      generalize at_ l k = x at *
      by_cases h1 : x.1 = c.1
      · by_cases h2 : x.2 = c.2
        · go_wp2
          go_ret
          exact ⟨ret_bool (by simp [HM.out (Prod.ext h1 h2)]), hB.alloc hB.size _⟩
        · have hn : x ≠ c := fun e => h2 (by rw [e])
          have HN' := hid (HN.out hn)
          clear hn HN HM
          go_wp2
          go_roundw
          case rel => exact ⟨k + 1, by omega, by go_num, HN'.out, hbel.alloc hbel.size _⟩
          case measure => simp [intOf]; omega
      · have hn : x ≠ c := fun e => h1 (by rw [e])
        have HN' := hid (HN.out hn)
        clear hn HN HM
        go_wp2
        go_roundw
        case rel => exact ⟨k + 1, by omega, by go_num, HN'.out, hbel.alloc hbel.size _⟩
        case measure => simp [intOf]; omega
    · go_wp2
      go_ret
      exact ⟨ret_bool (not_mem_to (fun t ht => hT.out t (by omega))).symm, hB⟩

/-- What IsAlive answers. -/
def aliveV (l : List Cl) (c : Cl) : Bool × Bool := if good l && inR c then (decide (c ∈ l), true) else (false, false)
theorem good_ris {l : List Cl} (h : good l = true) : risTo l l.length = true := by simp [good] at h; exact h.2

theorem inR_bd {c : Cl} (h : inR c = true) : -41 ≤ c.1 ∧ c.1 ≤ 41 ∧ -41 ≤ c.2 ∧ c.2 ≤ 41 := by
  simp [inR] at h; omega
theorem good_in {l : List Cl} (h : good l = true) : ∀ i, i < l.length → inR (at_ l i) = true := by
  simp [good, allTo] at h
  exact h.1.2

theorem c_sGood' (a : Option Addr) (l : List Cl) (ca : Nat) (v : Bool) (h : good l = v) (w : World) (ha : Seg w a l) (hl : l.length ≤ 1048576) :
    Calls Try.prog 72 #[.slice a l.length ca] w fun e w' => e = .returned (.bool v) ∧ Below w.heap.size w w' := by
  rw [← h]; exact c_sGood a l ca w ha hl
theorem c_iGood' (a : Option Addr) (l : List Cl) (ca : Nat) (v : Bool) (h : good l = v) (w : World) (ha : Seg w a l) (hl : l.length ≤ 1048576) :
    Calls Try.prog 66 #[.slice a l.length ca] w fun e w' => e = .returned (.bool v) ∧ Below w.heap.size w w' := by
  rw [← h]; exact c_iGood a l ca w ha hl
theorem c_inReach' (c : Cl) (v : Bool) (h : inR c = v) (w : World) :
    Calls Try.prog 140 #[.agg #[.int .i64 c.1, .int .i64 c.2]] w fun e w' => e = .returned (.bool v) ∧ Below w.heap.size w w' := by
  rw [← h]; exact c_inReach c w

end Go.Proofs.Ytgfdkolhldbehaa
