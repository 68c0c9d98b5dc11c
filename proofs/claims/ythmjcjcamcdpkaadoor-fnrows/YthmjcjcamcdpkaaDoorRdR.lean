/- Cells come back from their text: what is read of the text of cells is those cells. -/
import Derived.Test.YthmjcjcamcdpkaaDoorRdS
namespace Go.Proofs.YthmjcjcamcdpkaaDoor
set_option linter.unusedVariables false

theorem drop_at {s : Tx} {a t : Nat} {L : List UInt8} {b : UInt8} (h : s.data.toList.drop a = L) (hb : L[t]? = some b) : a + t < s.size ∧ byt s (a + t) = b.toNat := by
  subst h
  rw [List.getElem?_drop] at hb
  have hl : s.data.toList.length = s.size := by cases s; rfl
  have hlt : a + t < s.size := by
    have := (List.getElem?_eq_some_iff.1 hb).1
    omega
  rw [byt_list s (a + t) hlt] at hb
  simp only [Option.some.injEq] at hb
  refine ⟨hlt, ?_⟩
  unfold byt
  rw [hb]
theorem drop_on {s : Tx} {a k : Nat} {P rest : List UInt8} (h : s.data.toList.drop a = P ++ rest) (hk : a + P.length = k) : s.data.toList.drop k = rest := by
  rw [← hk, ← List.drop_drop, h, List.drop_left]
theorem sg_of {s : Tx} {a k : Nat} {P rest : List UInt8} (h : s.data.toList.drop a = P ++ rest) (hk : a + P.length = k) : sg s a k = P := by
  unfold sg
  rw [h, ← hk, Nat.add_sub_cancel_left, List.take_left]
theorem dg_of {s : Tx} {i : Nat} {b : UInt8} (h : byt s i = b.toNat) : dg s i = (decide (48 ≤ b.toNat) && decide (b.toNat ≤ 57)) := by
  unfold dg; rw [h]
theorem u8_nat {n : Nat} (h : n < 256) : (UInt8.ofNat n).toNat = n := by simp; omega

/-- What is read of one run. -/
theorem run_read {s : Tx} {a n : Nat} {b : UInt8} {rest : List UInt8} (h : s.data.toList.drop a = runB n b ++ rest) (h1 : 1 ≤ n) (h2 : n ≤ 31) (hb : 57 < b.toNat ∨ b.toNat < 48) :
    ∃ k, a < s.size ∧ sc s a = k ∧ a ≤ k ∧ k < s.size ∧ okN s a k = true ∧ nOf s a k = n ∧ byt s k = b.toNat ∧ s.data.toList.drop (k + 1) = rest := by
  have hnd : (decide (48 ≤ b.toNat) && decide (b.toNat ≤ 57)) = false := by
    rcases hb with hb | hb
    · simp; omega
    · simp; omega
  by_cases e1 : n = 1
  · subst e1
    have hr : runB 1 b = [b] := rfl
    rw [hr] at h
    obtain ⟨q1, q2⟩ := drop_at (t := 0) h rfl
    rw [Nat.add_zero] at q1 q2
    refine ⟨a, q1, sc_eq (Nat.le_refl _) (by omega) (fun j h1 h2 => absurd h2 (by omega)) (fun _ => by rw [dg_of q2]; exact hnd), Nat.le_refl _, q1, by simp [okN], by simp [nOf], q2, drop_on h rfl⟩
  · by_cases e2 : n < 10
    · have hr : runB n b = [UInt8.ofNat (48 + n), b] := by unfold runB; rw [if_neg (by omega), if_neg e1, dec_small e2]; rfl
      rw [hr] at h
      obtain ⟨q1, q2⟩ := drop_at (t := 0) h rfl
      obtain ⟨q3, q4⟩ := drop_at (t := 1) h rfl
      rw [Nat.add_zero] at q1 q2
      rw [u8_nat (by omega)] at q2
      have hsg : sg s a (a + 1) = [UInt8.ofNat (48 + n)] := sg_of (P := [UInt8.ofNat (48 + n)]) (rest := b :: rest) h rfl
      have hn : nOf s a (a + 1) = n := by
        unfold nOf
        rw [if_pos (by omega), hsg]
        simp only [digs, List.map_cons, List.map_nil, numCut]
        rw [u8_nat (by omega)]
        simp
      refine ⟨a + 1, q1, sc_eq (by omega) (by omega) (fun j h1 h2 => ?_) (fun _ => by rw [dg_of q4]; exact hnd), by omega, q3, ?_, hn, q4, drop_on h rfl⟩
      · obtain rfl : j = a := by omega
        unfold dg; rw [q2]; simp; omega
      · unfold okN
        rw [if_pos (by omega), hn, q2]
        simp; omega
    · have hr : runB n b = [UInt8.ofNat (48 + n / 10), UInt8.ofNat (48 + n % 10), b] := by unfold runB; rw [if_neg (by omega), if_neg e1, dec_big e2, dec_small (by omega)]; rfl
      rw [hr] at h
      obtain ⟨q1, q2⟩ := drop_at (t := 0) h rfl
      obtain ⟨q3, q4⟩ := drop_at (t := 1) h rfl
      obtain ⟨q5, q6⟩ := drop_at (t := 2) h rfl
      rw [Nat.add_zero] at q1 q2
      rw [u8_nat (by omega)] at q2
      rw [u8_nat (by omega)] at q4
      have hsg : sg s a (a + 2) = [UInt8.ofNat (48 + n / 10), UInt8.ofNat (48 + n % 10)] := sg_of (P := [UInt8.ofNat (48 + n / 10), UInt8.ofNat (48 + n % 10)]) (rest := b :: rest) h rfl
      have hn : nOf s a (a + 2) = n := by
        unfold nOf
        rw [if_pos (by omega), hsg]
        simp only [digs, List.map_cons, List.map_nil, numCut]
        rw [u8_nat (by omega), u8_nat (by omega)]
        rw [if_pos (by omega), if_pos (by omega)]
        omega
      refine ⟨a + 2, q1, sc_eq (by omega) (by omega) (fun j h1 h2 => ?_) (fun _ => by rw [dg_of q6]; exact hnd), by omega, q5, ?_, hn, q6, drop_on h rfl⟩
      · rcases (show j = a ∨ j = a + 1 by omega) with rfl | rfl
        · unfold dg; rw [q2]; simp; omega
        · unfold dg; rw [q4]; simp; omega
      · unfold okN
        rw [if_pos (by omega), hn, q2]
        simp; omega

section
variable {s : Tx} {F a x y n : Nat} {L : List Cl} {T : List Tx} {rest : List UInt8}
theorem go36 (h : s.data.toList.drop a = runB n 36 ++ rest) (h1 : 1 ≤ n) (h2 : n ≤ 31) (hF : s.size + 1 ≤ a + F) : ∃ a' F' T', rd s F a x y L T = rd s F' a' 0 (y + n) L T' ∧ s.data.toList.drop a' = rest ∧ s.size + 1 ≤ a' + F' := by
  obtain ⟨k, q1, q2, q3, q4, q5, q6, q7, q8⟩ := run_read h h1 h2 (by decide)
  obtain ⟨F', rfl⟩ : ∃ F', F = F' + 1 := ⟨F - 1, by omega⟩
  exact ⟨k + 1, F', _, by rw [rd_36 q1 q2 q5 q4 q7, q6], q8, by omega⟩
theorem go98 (h : s.data.toList.drop a = runB n 98 ++ rest) (h1 : 1 ≤ n) (h2 : n ≤ 31) (hF : s.size + 1 ≤ a + F) : ∃ a' F' T', rd s F a x y L T = rd s F' a' (x + n) y L T' ∧ s.data.toList.drop a' = rest ∧ s.size + 1 ≤ a' + F' := by
  obtain ⟨k, q1, q2, q3, q4, q5, q6, q7, q8⟩ := run_read h h1 h2 (by decide)
  obtain ⟨F', rfl⟩ : ∃ F', F = F' + 1 := ⟨F - 1, by omega⟩
  exact ⟨k + 1, F', _, by rw [rd_98 q1 q2 q5 q4 q7, q6], q8, by omega⟩
theorem go111 (h : s.data.toList.drop a = runB n 111 ++ rest) (h1 : 1 ≤ n) (h2 : n ≤ 31) (hr : room x y L.length n = true) (hF : s.size + 1 ≤ a + F) : ∃ a' F' T', rd s F a x y L T = rd s F' a' (x + n) y (L ++ runC x y n) T' ∧ s.data.toList.drop a' = rest ∧ s.size + 1 ≤ a' + F' := by
  obtain ⟨k, q1, q2, q3, q4, q5, q6, q7, q8⟩ := run_read h h1 h2 (by decide)
  obtain ⟨F', rfl⟩ : ∃ F', F = F' + 1 := ⟨F - 1, by omega⟩
  exact ⟨k + 1, F', _, by rw [rd_111 q1 q2 q5 q4 q7 (by rw [q6]; exact hr), q6], q8, by omega⟩
theorem go33 (h : s.data.toList.drop a = [33]) (hF : s.size + 1 ≤ a + F) : ∃ T', rd s F a x y L T = (L, T', 0) := by
  obtain ⟨k, q1, q2, q3, q4, q5, q6, q7, q8⟩ := run_read (n := 1) (b := 33) (rest := []) h (by omega) (by omega) (by decide)
  obtain ⟨F', rfl⟩ : ∃ F', F = F' + 1 := ⟨F - 1, by omega⟩
  have hl : s.data.toList.length = s.size := by cases s; rfl
  have hlen : s.size - a = 1 := by
    have := congrArg List.length h
    rw [List.length_drop, hl] at this
    simpa using this
  exact ⟨_, rd_33c q1 q2 q5 q4 q7 (by omega) (by omega)⟩
end
theorem take_run {l : List Cl} {i : Nat} (hi : i < l.length) {x y : Nat} (hx : (at_ l i).1 = (x : Int)) (hy : (at_ l i).2 = (y : Int)) : ∀ n, n ≤ sb l i → l.take i ++ runC x y n = l.take (i + n)
  | 0, _ => by simp [runC]
  | n + 1, h => by
    have hle := sb_le hi
    rw [runC_succ, ← List.append_assoc, take_run hi hx hy n (by omega)]
    have hlt : i + n < l.length := by omega
    rw [show i + (n + 1) = i + n + 1 by omega, List.take_succ_eq_append_getElem hlt]
    congr 2
    have h3 := sb_run l i n (by omega)
    have h4 : at_ l (i + n) = l[i + n] := by simp [at_, hlt]
    rw [← h4, h3, hx, hy]
    simp
theorem rd_go {l : List Cl} (ht : TextL l) (s : Tx) : ∀ f i (x y F a : Nat) (T : List Tx), Rch l i x y → s.data.toList.drop a = runsGo l f i x y → l.length ≤ i + f → i ≤ l.length → s.size + 1 ≤ a + F → ∃ T', rd s F a x y (l.take i) T = (l, T', 0)
  | 0, i, x, y, F, a, T, hr, hd, hf, hi, hF => by
    obtain rfl : i = l.length := by omega
    rw [List.take_length]
    exact go33 hd hF
  | f + 1, i, x, y, F, a, T, hr, hd, hf, hi, hF => by
    by_cases hlt : i < l.length
    · simp only [runsGo, if_pos hlt] at hd
      have hb := inTTo_at ht.inn hlt
      have hs1 := sb_ge l i
      have hs2 := sb_le hlt
      have hs3 := sb_bd ht hlt
      have hln := ht.len
      obtain ⟨hr', hy', hg0, hg1⟩ := rch_step ht hlt hr
      obtain ⟨X, hX⟩ : ∃ X : Nat, (at_ l i).1 = (X : Int) := ⟨(at_ l i).1.toNat, by omega⟩
      obtain ⟨Y, hY⟩ : ∃ Y : Nat, (at_ l i).2 = (Y : Int) := ⟨(at_ l i).2.toNat, by omega⟩
      rw [hy', hY] at hd hr'
      rw [hX] at hd hr' hg0 hg1
      simp only [List.append_assoc] at hd
      -- the rows
      obtain ⟨a1, F1, T1, x1, e1, d1, f1, hx1⟩ : ∃ a1 F1 T1 x1, rd s F a x y (l.take i) T = rd s F1 a1 x1 Y (l.take i) T1 ∧ s.data.toList.drop a1 = runB ((X : Int) - xOf (at_ l i) x y).toNat 98 ++ (runB (sb l i) 111 ++ runsGo l f (i + sb l i) ((X : Int) + (sb l i : Int)) (Y : Int)) ∧ s.size + 1 ≤ a1 + F1 ∧ xOf (at_ l i) x y = (x1 : Int) := by
        by_cases hyy : (y : Int) < (at_ l i).2
        · have hrow : rowB (at_ l i) (y : Int) = runB (Y - y) 36 := by
            unfold rowB; rw [if_pos hyy, hY]; congr 1; omega
          rw [hrow] at hd
          obtain ⟨a1, F1, T1, q1, q2, q3⟩ := go36 (x := x) (y := y) (L := l.take i) (T := T) hd (by omega) (by omega) hF
          rw [show y + (Y - y) = Y by omega] at q1
          exact ⟨a1, F1, T1, 0, q1, q2, q3, by unfold xOf; rw [if_pos hyy]; rfl⟩
        · have hrow : rowB (at_ l i) (y : Int) = [] := by unfold rowB; rw [if_neg hyy]
          rw [hrow, List.nil_append] at hd
          have hyY : y = Y := by
            unfold yOf at hy'
            rw [if_neg hyy] at hy'
            omega
          exact ⟨a, F, T, x, by rw [hyY], hd, hF, by unfold xOf; rw [if_neg hyy]⟩
      rw [hx1] at d1 hg0 hg1
      -- the gap
      obtain ⟨a2, F2, T2, e2, d2, f2⟩ : ∃ a2 F2 T2, rd s F1 a1 x1 Y (l.take i) T1 = rd s F2 a2 X Y (l.take i) T2 ∧ s.data.toList.drop a2 = runB (sb l i) 111 ++ runsGo l f (i + sb l i) ((X : Int) + (sb l i : Int)) (Y : Int) ∧ s.size + 1 ≤ a2 + F2 := by
        by_cases hg : x1 = X
        · have h0 : runB ((X : Int) - (x1 : Int)).toNat 98 = [] := by rw [hg]; simp [runB]
          rw [h0, List.nil_append] at d1
          exact ⟨a1, F1, T1, by rw [hg], d1, f1⟩
        · have h0 : ((X : Int) - (x1 : Int)).toNat = X - x1 := by omega
          rw [h0] at d1
          obtain ⟨a2, F2, T2, q1, q2, q3⟩ := go98 (x := x1) (y := Y) (L := l.take i) (T := T1) d1 (by omega) (by omega) f1
          rw [show x1 + (X - x1) = X by omega] at q1
          exact ⟨a2, F2, T2, q1, q2, q3⟩
      have hlen : (l.take i).length = i := by simp; omega
      obtain ⟨a3, F3, T3, e3, d3, f3⟩ := go111 (x := X) (y := Y) (L := l.take i) (T := T2) d2 hs1 (by omega) (by simp only [room, hlen, Bool.and_eq_true, decide_eq_true_eq]; omega) f2
      rw [take_run hlt hX hY _ (Nat.le_refl _)] at e3
      obtain ⟨T', e4⟩ := rd_go ht s f (i + sb l i) (X + sb l i) Y F3 a3 T3 (by simpa using hr') (by simpa using d3) (by omega) hs2 f3
      exact ⟨T', by rw [e1, e2, e3, e4]⟩
    · obtain rfl : i = l.length := by omega
      rw [runsGo_end hlt] at hd
      rw [List.take_length]
      exact go33 hd hF
/-- Cells come back from their text. -/
theorem rd_runs {l : List Cl} (ht : TextL l) {s : Tx} (hs : s.data.toList = runs l) : (rdAll s).1 = l ∧ (rdAll s).2.2 = 0 := by
  have h0 : Rch l 0 ((0 : Nat) : Int) ((0 : Nat) : Int) := by
    refine ⟨by omega, by omega, fun hi => ?_⟩
    have := inTTo_at ht.inn hi
    omega
  obtain ⟨T', e⟩ := rd_go ht s l.length 0 0 0 (s.size + 1) 0 [] h0 (by simpa [runs] using hs) (by omega) (by omega) (by omega)
  have e2 : rdAll s = (l, T', 0) := by unfold rdAll; simpa using e
  rw [e2]
  exact ⟨rfl, rfl⟩
end Go.Proofs.YthmjcjcamcdpkaaDoor
