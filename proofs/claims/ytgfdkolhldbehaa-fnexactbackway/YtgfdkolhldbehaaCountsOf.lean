/- What countsOf counts: each cell as often as it is in one of the lists. -/
import Derived.Test.YtgfdkolhldbehaaCounts
namespace Go.Proofs.Ytgfdkolhldbehaa
open Go.RowKit Go.Maps
set_option linter.unusedVariables false

theorem range_cat (M : Nat → List Cl) (k : Nat) : (List.range (k + 1)).flatMap M = (List.range k).flatMap M ++ M k := by
  rw [List.range_succ, List.flatMap_append, List.flatMap_singleton]
theorem range_cat_len {M : Nat → List Cl} {m : Nat} : ∀ {k : Nat}, (∀ i, i < k → (M i).length ≤ m) → ((List.range k).flatMap M).length ≤ k * m
  | 0, _ => by simp
  | k + 1, h => by
    rw [range_cat, List.length_append]
    have h1 := range_cat_len (M := M) (m := m) (k := k) (fun i hi => h i (by omega))
    have h2 := h k (by omega)
    rw [Nat.succ_mul]; omega

set_option maxHeartbeats 1000000 in
theorem c_countsOf (g n : Nat) (A : Nat → Option Addr) (C : Nat → Nat) (M : Nat → List Cl) (w : World) (hn : n ≤ 2) (hg : g < w.heap.size)
    (hc : ∀ i, i < n → w.cell? ⟨g, i, none⟩ = some (.slice (A i) (M i).length (C i))) (hs : ∀ i, i < n → Seg w (A i) (M i)) (hl : ∀ i, i < n → (M i).length ≤ 1048576) (hf : ∀ i, i < n → ∀ c ∈ M i, fits c) :
    Calls Try.prog 80 #[.slice (some ⟨g, 0, none⟩) n n] w fun e w' => e = .returned (.map (some w.heap.size)) ∧ CntIs w' w.heap.size ((List.range n).flatMap M) ∧ Below w.heap.size w w' := by
  have hmm := @run_makeMap Try.prog
  have HF := hid hf
  have HS := hid hs
  have HL := hid hl
  have HC := hid hc
  clear hf hs hl hc
  go_enter Try.func80, Try.ntmps80
  go_wp2
  go_loopw [11] (fun i wr => ∃ k : Nat, k ≤ n ∧ i = .int .i64 k ∧ CntIs wr w.heap.size ((List.range k).flatMap M) ∧ Below w.heap.size w wr) (fun i _ => n - (intOf i).toNat)
  case atStart => exact ⟨0, Nat.zero_le _, rfl, CntIs.made w, (Below.refl _ _).alloc (Nat.le_refl _) _⟩
  case round =>
    clear hmm
    obtain ⟨k, hk, rfl, hC, hbel⟩ := hrel
    have HCN := hid hC
    have HB := hid hbel
    clear hC
    by_cases hlt : k < n
    · have g1 := (hbel.cell (p := ⟨g, k, none⟩) hg).trans (HC.out k hlt)
      have HSk := hid (HS.out k hlt)
      have HFk := hid (HF.out k hlt)
      have hlk := HL.out k hlt
      have HT := hid (range_cat M k)
      have HLN := hid (range_cat_len (M := M) (m := 1048576) (k := k) (fun i hi => HL.out i (by omega)))
      have k0 : (0 : Int) ≤ (k : Int) := by omega
      have k1 : (k : Int) < (n : Int) := by omega
      generalize M k = x at *
      generalize A k = ax at *
      generalize C k = cx at *
      clear hbel
      go_wp2_with fail
      go_loopw [17] (fun i wr => ∃ j : Nat, j ≤ x.length ∧ i = .int .i64 j ∧ CntIs wr w.heap.size ((List.range k).flatMap M ++ x.take j) ∧ Below w.heap.size w wr) (fun i _ => x.length - (intOf i).toNat)
      case atStart => exact ⟨0, Nat.zero_le _, rfl, by simpa using HCN.out, HB.out⟩
      case round =>
        clear HCN HB g1
        obtain ⟨j, hj, rfl, hC, hbel⟩ := hrel
        have HB := hid hbel
        have HCN := hid hC
        by_cases hjt : j < x.length
        · obtain ⟨b1, o1, rfl, hb1, p1, p2⟩ := HSk.out j hjt
          have g1 := (hbel.cell (p := ⟨b1, o1 + j * 2, none⟩) hb1).trans p1
          have g2 := (hbel.cell (p := ⟨b1, o1 + j * 2 + 1, none⟩) hb1).trans p2
          change _ = some (Value.int .i64 (at_ x j).1) at g1
          change _ = some (Value.int .i64 (at_ x j).2) at g2
          clear p1 p2
          have HFY := hid (HFk.out _ (mem_at.2 ⟨j, hjt, rfl⟩))
          have HSN := hid (take_snoc' (m := x) (j := j) hjt)
          have HLL : Hid (((List.range k).flatMap M ++ x.take j).length ≤ 67108864) := by
            show _ ≤ _
            have := HLN.out
            rw [List.length_append, List.length_take]
            have : k * 1048576 ≤ 2 * 1048576 := Nat.mul_le_mul_right _ (by omega)
            omega
          generalize at_ x j = y at *
          generalize hLL : (List.range k).flatMap M ++ x.take j = L at *
          have HEQ := hid hLL
          clear hLL hbel hC
          have j0 : (0 : Int) ≤ (j : Int) := by omega
          have j1 : (j : Int) < (x.length : Int) := by omega
          have hbd : Below wr.heap.size wr (wr.alloc (.cells #[.int .i64 y.1, .int .i64 y.2] 36)).drew := ((Below.refl wr.heap.size wr).alloc (Nat.le_refl _) _).drew
          have HB1 := hid (HB.out.trans (hbd.mono HB.out.size))
          obtain ⟨v0, st, W1, W2, e1, e2, e3, e4, hC2, hg2, hz2⟩ := (HCN.out.below hbd).step HFY.out HLL.out
          have q0 := cell_new0 wr (.int .i64 y.1) (.int .i64 y.2) 36
          have q1 := cell_new1 wr (.int .i64 y.1) (.int .i64 y.2) 36
          have hc1 := (cnt_le L y).1
          have hc2 : cnt L y ≤ 67108864 := by have := (cnt_le L y).2; have := HLL.out; omega
          have HC2 := hid hC2
          have HG2 := hid hg2
          clear hC2 hg2 hz2 hbd
          go_wp2
          go_region
          all_goals (try go_wp2)
          go_roundw
          case rel => exact ⟨j + 1, by omega, by go_num, by rw [HSN.out, ← List.append_assoc, HEQ.out]; exact HC2.out, HB1.out.grown HG2.out HB1.out.size (fun k e => by cases e; exact Nat.le_refl _)⟩
          case measure => simp [intOf]; omega
        · obtain rfl : j = x.length := by omega
          clear hC hbel
          go_wp2
          go_roundw
          case rel => exact ⟨k + 1, by omega, by go_num, by have := HCN.out; rw [List.take_length] at this; rw [HT.out]; exact this, HB.out⟩
          case measure => simp [intOf]; omega
    · clear hbel
      go_wp2
      go_ret
      have : k = n := by omega
      subst this
      exact ⟨rfl, HCN.out, HB.out⟩
end Go.Proofs.Ytgfdkolhldbehaa
