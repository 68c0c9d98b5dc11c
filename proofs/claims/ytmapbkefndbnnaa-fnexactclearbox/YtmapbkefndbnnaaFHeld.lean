/- Marking a forest of the call's own, and finding the marks. -/
import Derived.Test.YtmapbkefndbnnaaFMem
namespace Go.Proofs.Ytmapbkefndbnnaa
open Go.RowKit
set_option linter.unusedVariables false
set_option linter.unusedSimpArgs false
attribute [local go_sem ↓] Go.wp_at_zero Go.wp_at_succ

/-- Marks of kids. -/
def marksI (k : Int) (n : Nat) : List Int := (List.range n).map fun j : Nat => k + (j : Int)
theorem marksI_length (k : Int) (n : Nat) : (marksI k n).length = n := by simp [marksI]
theorem marksI_at (k : Int) {n j : Nat} (h : j < n) : ia (marksI k n) j = k + (j : Int) := by simp [ia, marksI, h]

set_option maxHeartbeats 400000 in
theorem c_heldInts (a : Option Addr) (n ca : Nat) (k : Int) (w : World) (h : ISeg w a (marksI k n)) (hn : n ≤ 16777216) (k0 : 0 ≤ k) (k1 : k ≤ 16777216) :
    Calls Try.prog 148 #[.slice a n ca, .int .i64 k] w fun e w' => e = .returned (.int .i64 (k + (n : Int))) ∧ w' = w := by
  have H := hid h
  clear h
  go_enter Try.func148, Try.ntmps148
  go_wp2
  go_loopw [1, 5] (fun s i wr => ∃ j : Nat, j ≤ n ∧ s = .int .i64 (k + (j : Int)) ∧ i = .int .i64 j ∧ wr = w) (fun _ i _ => n - (intOf i).toNat)
  case atStart => exact ⟨0, by omega, by simp, rfl, rfl⟩
  case round =>
    obtain ⟨j, hj, rfl, rfl, rfl⟩ := hrel
    by_cases hlt : j < n
    · have j0 : (0 : Int) ≤ (j : Int) := by omega
      have j1 : (j : Int) < (n : Int) := by omega
      obtain ⟨b1, o1, rfl, hb1, p1⟩ := H.out j (by rw [marksI_length]; exact hlt)
      rw [marksI_at k hlt] at p1
      have d0 : (k + (j : Int) != k + (j : Int)) = false := by simp
      go_wp2
      go_roundw
      case rel => exact ⟨j + 1, by omega, by go_num, by go_num, by first | rfl | trivial⟩
      case measure => simp [intOf]; omega
    · go_wp2
      go_ret
      obtain rfl : j = n := by omega
      exact ⟨rfl, rfl⟩

set_option maxHeartbeats 1000000 in
theorem c_heldQuads (a : Option Addr) (ca : Nat) (F : List Qd) (w : World) (h : QSeg w a (markF F)) (hp : posF (nsF F) F.length ≤ 8388608) :
    Calls Try.prog 126 #[.slice a F.length ca, .int .i64 1] w fun e w' => e = .returned (.int .i64 (posF (nsF F) F.length : Int)) ∧ w' = w := by
  have H := hid h
  have hN := posF_le (nsF F) F.length
  clear h
  go_enter Try.func126, Try.ntmps126
  go_wp2
  go_loopw [1, 5] (fun s i wr => ∃ j : Nat, j ≤ F.length ∧ s = .int .i64 (posF (nsF F) j : Int) ∧ i = .int .i64 j ∧ wr = w) (fun _ i _ => F.length - (intOf i).toNat)
  case atStart => exact ⟨0, by omega, rfl, rfl, rfl⟩
  case round =>
    obtain ⟨j, hj, rfl, rfl, rfl⟩ := hrel
    by_cases hlt : j < F.length
    · have j0 : (0 : Int) ≤ (j : Int) := by omega
      have j1 : (j : Int) < (F.length : Int) := by omega
      have HPS := hid (show posF (nsF F) (j + 1) = posF (nsF F) j + 1 + nsF F j from rfl)
      have hpm := posF_mono (nsF F) (show j + 1 ≤ F.length by omega)
      rw [HPS.out] at hpm
      obtain ⟨b1, o1, ak, ck, rfl, hb1, p1, p2, p3, p4⟩ := H.out j (by rw [markF_length]; exact hlt)
      rw [markF_at F hlt] at p1 p2 p3
      have e2 : ((List.range (nsF F j)).map fun c : Nat => (posF (nsF F) j : Int) + 1 + (c : Int)).length = nsF F j := by simp
      dsimp only at p1 p2 p3
      rw [e2] at p2
      have P3 : Hid (ISeg wr ak (marksI ((posF (nsF F) j : Int) + 1) (nsF F j))) := p3
      clear p3 p4 e2
      generalize nsF F j = n at *
      generalize posF (nsF F) j = P at *
      have d0 : ((P : Int) != (P : Int)) = false := by simp
      have d1 : ¬ (P : Int) + 1 + (n : Int) < 0 := by omega
      go_wp2_with fail
      refine (c_heldInts ak n ck _ _ P3.out (by omega) (by omega) (by omega)).mono ?_
      rintro e w2 ⟨rfl, rfl⟩
      go_wp2_with fail
      go_roundw
      case rel => exact ⟨j + 1, by omega, by rw [HPS.out]; go_num, by go_num, by first | rfl | trivial⟩
      case measure => simp [intOf]; omega
    · go_wp2
      go_ret
      obtain rfl : j = F.length := by omega
      exact ⟨rfl, rfl⟩

set_option maxHeartbeats 400000 in
theorem c_markForest (v : Value) (F : List Qd) (lo hi : Nat) (w : World) (h : FOwn w lo hi v F) (hp : posF (nsF F) F.length ≤ 8388608) :
    Calls Try.prog 70 #[.agg #[v], .int .i64 1] w fun e w' => e = .returned (.int .i64 (posF (nsF F) F.length : Int)) ∧ FOwn w' lo hi v (markF F) ∧ Grew w w' lo hi := by
  have B := hid ((Below.refl w.heap.size w).alloc (Nat.le_refl _) (.cells #[v] 25))
  rcases h with ⟨rfl, rfl⟩ | ⟨g, cap, ks, rfl, h1, h2, h3⟩
  · go_enter Try.func70, Try.ntmps70
    go_wp2_with fail
    refine Calls.mono (?_ : Calls Try.prog 125 #[.slice none 0 0, .int .i64 1] _ fun e w' => e = .returned (.int .i64 1) ∧ w' = w.alloc (.cells #[.slice none 0 0] 25)) ?_
    · go_enter Try.func125, Try.ntmps125
      go_wp2
      go_loopw [1, 5] (fun s i wr => s = .int .i64 1 ∧ i = .int .i64 0 ∧ wr = w.alloc (.cells #[.slice none 0 0] 25)) (fun _ _ _ => 0)
      case atStart => exact ⟨rfl, rfl, rfl⟩
      case round =>
        obtain ⟨rfl, rfl, rfl⟩ := hrel
        go_wp2
        go_ret
        exact ⟨rfl, rfl⟩
    · rintro e w1 ⟨rfl, rfl⟩
      go_wp2_with fail
      go_ret
      exact ⟨rfl, .inl ⟨rfl, rfl⟩, Grew.of_below B.out _ _⟩
  · have HC := hid (c_markQuads F.length g cap lo hi ks _ _ _ _ (h3.below B.out) hp)
    clear h3
    generalize posF (nsF F) F.length = P at *
    go_enter Try.func70, Try.ntmps70
    go_wp2_with fail
    refine HC.out.mono ?_
    rintro e w1 ⟨rfl, hM, hG⟩
    have HM := hid hM.marked
    clear HC hM
    go_wp2_with fail
    go_ret
    refine ⟨rfl, .inr ⟨g, cap, ks, by rw [markF_length], by rw [markF_length]; exact h1, h2, HM.out⟩, (Grew.of_below B.out _ _).trans hG⟩
set_option maxHeartbeats 400000 in
theorem c_heldForest (v : Value) (F : List Qd) (lo hi : Nat) (w : World) (h : FOwn w lo hi v (markF F)) (hp : posF (nsF F) F.length ≤ 8388608) :
    Calls Try.prog 71 #[.agg #[v], .int .i64 1] w fun e w' => e = .returned (.int .i64 (posF (nsF F) F.length : Int)) ∧ Below w.heap.size w w' := by
  have B := hid ((Below.refl w.heap.size w).alloc (Nat.le_refl _) (.cells #[v] 25))
  obtain ⟨a, cap, rfl, _, _, hs⟩ := h.form
  rw [markF_length] at B ⊢
  have HC := hid (c_heldQuads a cap F _ (hs.below B.out) hp)
  clear hs h
  have hd : ¬ (posF (nsF F) F.length : Int) < 0 := by omega
  generalize posF (nsF F) F.length = P at *
  go_enter Try.func71, Try.ntmps71
  go_wp2_with fail
  refine HC.out.mono ?_
  rintro e w1 ⟨rfl, rfl⟩
  clear HC
  go_wp2_with fail
  go_ret
  exact ⟨rfl, B.out⟩

end Go.Proofs.Ytmapbkefndbnnaa
