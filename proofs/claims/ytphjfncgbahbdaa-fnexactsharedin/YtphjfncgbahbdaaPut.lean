/- Is a number there (l1Has); putting a number to its place, once (l1Put). -/
import Derived.Test.YtphjfncgbahbdaaInts
namespace Go.Proofs.Ytphjfncgbahbdaa
open Go.RowKit
set_option linter.unusedVariables false
set_option linter.unusedSimpArgs false
attribute [local go_sem ↓] Go.wp_at_zero Go.wp_at_succ

theorem mem_take_ia {l : List Int} {k : Nat} {n : Int} (h : ¬ n ∈ l.take k) (hk : k < l.length) (h2 : ¬ ia l k = n) : ¬ n ∈ l.take (k + 1) := by
  rw [List.take_succ_eq_append_getElem hk, List.mem_append]
  rintro (h1 | h1)
  · exact h h1
  · simp at h1
    exact h2 (by simp [ia, hk, h1])

set_option maxHeartbeats 400000 in
theorem c_l1Has (a : Option Addr) (l : List Int) (ca : Nat) (n : Int) (w : World) (ha : ISeg w a l) (hl : l.length ≤ 1048576) :
    Calls Try.prog 91 #[.slice a l.length ca, .int .i64 n] w fun e w' => e = .returned (.bool (decide (n ∈ l))) ∧ w' = w := by
  go_enter Try.func91, Try.ntmps91
  go_wp2
  go_loopw [9] (fun i wr => ∃ k : Nat, k ≤ l.length ∧ i = .int .i64 k ∧ Hid (¬ n ∈ l.take k) ∧ wr = w) (fun i _ => l.length - (intOf i).toNat)
  case atStart => exact ⟨0, Nat.zero_le _, rfl, (by show ¬ _; simp), rfl⟩
  case round =>
    obtain ⟨k, hk, rfl, HT, rfl⟩ := hrel
    by_cases hlt : k < l.length
    · obtain ⟨b1, o1, rfl, hb1, p1⟩ := ha k hlt
      have k0 : (0 : Int) ≤ (k : Int) := by omega
      have k1 : (k : Int) < (l.length : Int) := by omega
      have HM := hid (fun e : ia l k = n => (mem_ia.2 ⟨k, hlt, e⟩ : n ∈ l))
      have HN := hid (fun e : ¬ ia l k = n => mem_take_ia HT.out hlt e)
      generalize ia l k = x at *
      by_cases e : x = n
      · have d : (x == n) = true := by simp [e]
        have HV := hid (HM.out e)
        clear e
        go_wp2
        go_ret
        exact ⟨ret_bool (by simp [HV.out]), rfl⟩
      · have d : (x == n) = false := by simp [e]
        have HV := hid (HN.out e)
        clear e
        go_wp2
        go_roundw
        case rel => exact ⟨k + 1, by omega, by go_num, HV.out, by first | rfl | trivial⟩
        case measure => simp [intOf]; omega
    · go_wp2
      go_ret
      have : l.take k = l := List.take_of_length_le (by omega)
      have h := HT.out
      rw [this] at h
      exact ⟨ret_bool (by simp [h]), rfl⟩

set_option maxHeartbeats 2000000 in
theorem c_l1Put_some (g ca : Nat) (l : List Int) (n : Int) (w : World) (ha : ISeg w (some ⟨g, 0, none⟩) l) (hl : l.length ≤ 1048576) (hca : l.length ≤ ca) (hcm : ca ≤ maxLen) (hr : Asc l) :
    Calls Try.prog 92 #[.slice (some ⟨g, 0, none⟩) l.length ca, .int .i64 n] w fun e w' => ∃ v l', e = .returned v ∧ WithI l n l' ∧ Below w.heap.size w w' ∧ (OwnI w' w.heap.size v l' ∨ (v = .slice (some ⟨g, 0, none⟩) l.length ca ∧ l' = l)) := by
  have HR := hid hr
  have hcm' : ca ≤ 9223372036854775807 := by unfold maxLen at hcm; omega
  clear hr
  go_enter Try.func92, Try.ntmps92
  go_wp2
  go_loopw [5] (fun i wr => ∃ k : Nat, k ≤ l.length ∧ i = .int .i64 k ∧ Hid (∀ i, i < k → ia l i < n) ∧ wr = w) (fun i _ => l.length - (intOf i).toNat)
  case atStart => exact ⟨0, Nat.zero_le _, rfl, (fun i hi => absurd hi (Nat.not_lt_zero _)), rfl⟩
  case round =>
    obtain ⟨k, hk, rfl, hT, rfl⟩ := hrel
    have kk0 : (0 : Int) ≤ (k : Int) := by omega
    have kk1 : (k : Int) ≤ (l.length : Int) := by omega
    have kk2 : (k : Int) ≤ (ca : Int) := by omega
    have kk3 : (l.length : Int) ≤ (ca : Int) := by omega
    have HB6 := hid ((Below.refl wr.heap.size wr).alloc (Nat.le_refl _) (.cells #[] 3))
    have HO6 := hid (slice_empty_int wr)
    have HS6 := hid ((ha.take k).below HB6.out)
    by_cases hlt : k < l.length
    · obtain ⟨b1, o1, e1, hb1, p1⟩ := ha k hlt
      simp only [Option.some.injEq, Addr.mk.injEq, and_true] at e1
      obtain ⟨rfl, rfl⟩ := e1
      rw [Nat.zero_add] at p1
      have k1 : (k : Int) < (l.length : Int) := by omega
      have hd : decide ((k : Int) < (l.length : Int)) = true := by simp; omega
      have HN := hid (show ia l k < n → ∀ i, i < k + 1 → ia l i < n from fun hn t ht => by
        by_cases e : t = k
        · rw [e]; exact hn
        · exact hT.out t (by omega))
      have HM := hid (fun e : ia l k = n => withI_same HR.out (mem_ia.2 ⟨k, hlt, e⟩))
      have HW := hid (fun (h1 : n < ia l k) => withI_new HR.out hk hT.out (fun _ => h1))
      generalize ia l k = x at *
      rcases (show x < n ∨ x = n ∨ n < x by omega) with h | h | h
      · have d1 : decide (x < n) = true := decide_eq_true h
        go_wp2
        go_roundw
        case rel => exact ⟨k + 1, by omega, by go_num, HN.out h, by first | rfl | trivial⟩
        case measure => simp [intOf]; omega
      · have d1 : decide (x < n) = false := decide_eq_false (by omega)
        have d2 : (x == n) = true := by simp [h]
        have HW' := hid (HM.out h)
        clear h HB6 HO6 HS6
        go_wp2
        go_ret
        exact ⟨_, l, rfl, HW'.out, Below.refl _ _, .inr ⟨rfl, rfl⟩⟩
      · have d1 : decide (x < n) = false := decide_eq_false (by omega)
        have d2 : (x == n) = false := by simp; omega
        have HW' := hid (HW.out h)
        clear h
        go_wp2_with (first
          | (at_builtin; refine wpList_appI rfl (.tmp 34) (.tmp 37) rfl wr.heap.size _ [] (l.take k) (some ⟨g, 0, none⟩) k ca rfl HO6.out rfl (by rw [List.length_take]; omega) HS6.out (by intro h; cases h) (by simp; omega) HB6.out.size ?_; intro v6 w6 hO6 hG6 _; have HB7 := hid (below_grownI HB6.out HO6.out hG6); have HO7 := hid hO6; clear hO6 hG6)
          | (at_builtin; refine wpList_appI rfl (.tmp 39) (.tmp 41) rfl wr.heap.size v6 ([] ++ l.take k) [n] (some ⟨w6.heap.size, 0, none⟩) 1 1 rfl (HO7.out.below ((Below.refl w6.heap.size w6).alloc (Nat.le_refl _) (.cells #[.int .i64 n] 3))) rfl rfl (iseg_block (heap_alloc_new w6 _)) (by intro h; cases h) (by simp; omega) (HB7.out.alloc HB7.out.size _).size ?_; intro v7 w7 hO7 hG7 _; have HB8 := hid (below_grownI (HB7.out.alloc HB7.out.size _) (HO7.out.below ((Below.refl w6.heap.size w6).alloc (Nat.le_refl _) (.cells #[.int .i64 n] 3))) hG7); have HO8 := hid hO7; clear hO7 hG7)
          | (at_builtin; refine wpList_appI rfl (.tmp 43) (.tmp 46) rfl wr.heap.size v7 ([] ++ l.take k ++ [n]) (l.drop k) (some ⟨g, 0 + k, none⟩) (l.length - k) (ca - k) rfl HO8.out (by first | rfl | (rw [Nat.zero_add]; rfl)) (by simp) ((ha.drop k).below HB8.out) (by intro h; cases h) (by simp; omega) HB8.out.size ?_; intro v8 w8 hO9 hG9 _))
        go_ret
        exact ⟨_, _, rfl, by simpa using HW'.out, below_grownI HB8.out HO8.out hG9, .inl hO9⟩
    · have hd : decide ((k : Int) < (l.length : Int)) = false := by simp; omega
      have hle : l.length ≤ k := by omega
      have HWW : Hid (WithI l n ([] ++ l.take k ++ [n])) := hid (by have := withI_new (n := n) HR.out hk hT.out (fun h => absurd h hlt); rw [List.drop_eq_nil_of_le hle, List.append_nil] at this; exact this)
      go_wp2_with (first
        | (at_builtin; refine wpList_appI rfl (.tmp 34) (.tmp 37) rfl wr.heap.size _ [] (l.take k) (some ⟨g, 0, none⟩) k ca rfl HO6.out rfl (by rw [List.length_take]; omega) HS6.out (by intro h; cases h) (by simp; omega) HB6.out.size ?_; intro v6 w6 hO6 hG6 _; have HB7 := hid (below_grownI HB6.out HO6.out hG6); have HO7 := hid hO6; clear hO6 hG6)
        | (at_builtin; refine wpList_appI rfl (.tmp 39) (.tmp 41) rfl wr.heap.size v6 ([] ++ l.take k) [n] (some ⟨w6.heap.size, 0, none⟩) 1 1 rfl (HO7.out.below ((Below.refl w6.heap.size w6).alloc (Nat.le_refl _) (.cells #[.int .i64 n] 3))) rfl rfl (iseg_block (heap_alloc_new w6 _)) (by intro h; cases h) (by simp; omega) (HB7.out.alloc HB7.out.size _).size ?_; intro v7 w7 hO7 hG7 _; have HB8 := hid (below_grownI (HB7.out.alloc HB7.out.size _) (HO7.out.below ((Below.refl w6.heap.size w6).alloc (Nat.le_refl _) (.cells #[.int .i64 n] 3))) hG7); have HO8 := hid hO7; clear hO7 hG7)
        | (at_builtin; refine wpList_appI0 rfl (.tmp 43) (.tmp 46) rfl wr.heap.size v7 ([] ++ l.take k ++ [n]) rfl HO8.out ⟨_, _, _, rfl, by omega, by intro h; split at h <;> cases h⟩ (by simp; omega) HB8.out.size ?_; intro v8 w8 hO9 hG9 _))
      all_goals go_ret
      all_goals first
        | exact ⟨_, _, rfl, HWW.out, below_grownI HB8.out HO8.out hG9, .inl hO9⟩
        | exact ⟨_, rfl, _, HWW.out, below_grownI HB8.out HO8.out hG9, .inl hO9⟩

set_option maxHeartbeats 1000000 in
theorem c_l1Put_nil (n : Int) (w : World) :
    Calls Try.prog 92 #[.slice none 0 0, .int .i64 n] w fun e w' => ∃ v, e = .returned v ∧ Below w.heap.size w w' ∧ OwnI w' w.heap.size v [n] := by
  have HB6 := hid ((Below.refl w.heap.size w).alloc (Nat.le_refl _) (.cells #[] 3))
  have HO6 := hid (slice_empty_int w)
  have HN : ∀ W : World, Hid (ISeg W none []) := fun W i hi => by simp at hi
  go_enter Try.func92, Try.ntmps92
  go_wp2
  go_loopw [5] (fun i wr => i = .int .i64 0 ∧ wr = w) (fun _ _ => 0)
  case atStart => exact ⟨rfl, rfl⟩
  case round =>
    obtain ⟨rfl, rfl⟩ := hrel
    go_wp2_with (first
      | (at_builtin; refine wpList_appI rfl (.tmp 34) (.tmp 37) rfl wr.heap.size _ [] [] none 0 0 rfl HO6.out rfl rfl (HN _).out (fun _ => rfl) (by simp) HB6.out.size ?_; intro v6 w6 hO6 hG6 _; have HB7 := hid (below_grownI HB6.out HO6.out hG6); have HO7 := hid hO6; clear hO6 hG6)
      | (at_builtin; refine wpList_appI rfl (.tmp 39) (.tmp 41) rfl wr.heap.size v6 ([] ++ []) [n] (some ⟨w6.heap.size, 0, none⟩) 1 1 rfl (HO7.out.below ((Below.refl w6.heap.size w6).alloc (Nat.le_refl _) (.cells #[.int .i64 n] 3))) rfl rfl (iseg_block (heap_alloc_new w6 _)) (by intro h; cases h) (by simp) (HB7.out.alloc HB7.out.size _).size ?_; intro v7 w7 hO7 hG7 _; have HB8 := hid (below_grownI (HB7.out.alloc HB7.out.size _) (HO7.out.below ((Below.refl w6.heap.size w6).alloc (Nat.le_refl _) (.cells #[.int .i64 n] 3))) hG7); have HO8 := hid hO7; clear hO7 hG7)
      | (at_builtin; refine wpList_appI rfl (.tmp 43) (.tmp 46) rfl wr.heap.size v7 ([] ++ [] ++ [n]) [] none 0 0 rfl HO8.out rfl rfl (HN _).out (fun _ => rfl) (by simp) HB8.out.size ?_; intro v8 w8 hO9 hG9 _))
    go_ret
    exact ⟨_, rfl, below_grownI HB8.out HO8.out hG9, by simpa using hO9⟩

/-- Putting a number to its place, in memory of the call's own. -/
theorem c_l1Put (base : Nat) (v : Value) (l : List Int) (n : Int) (w : World) (h : OwnI w base v l) (hb : base ≤ w.heap.size) (hl : l.length ≤ 1048576) (hr : Asc l) :
    Calls Try.prog 92 #[v, .int .i64 n] w fun e w' => ∃ v' l', e = .returned v' ∧ WithI l n l' ∧ Below w.heap.size w w' ∧ OwnI w' base v' l' := by
  rcases h.form with ⟨rfl, rfl⟩ | ⟨g, cap, rfl, h1, h2, h3⟩
  · refine (c_l1Put_nil n w).mono ?_
    rintro e w' ⟨v, rfl, hB, hO⟩
    exact ⟨v, [n], rfl, ⟨List.pairwise_singleton _ _, fun d => by simp, by simp⟩, hB, hO.mono hb⟩
  · refine (c_l1Put_some g cap l n w h3 hl h1 h2 hr).mono ?_
    rintro e w' ⟨v, l', rfl, hW, hB, hO | ⟨rfl, rfl⟩⟩
    · exact ⟨v, l', rfl, hW, hB, hO.mono hb⟩
    · exact ⟨_, _, rfl, hW, hB, h.below hB⟩

end Go.Proofs.Ytphjfncgbahbdaa
