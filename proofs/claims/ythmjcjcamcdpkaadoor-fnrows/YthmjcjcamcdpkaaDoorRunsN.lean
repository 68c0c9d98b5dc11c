/- What the specification's l1Num and l2Run answer. -/
import Derived.Test.YthmjcjcamcdpkaaDoorRunsP
import Derived.Test.YthmjcjcamcdpkaaDoorMark
namespace Go.Proofs.YthmjcjcamcdpkaaDoor
open Go.RowKit
set_option linter.unusedVariables false

theorem sgn_dec {n : Nat} (h : n < 10) : sgn (48 + (n : Int)) = ⟨(Lib.decDigits n).toArray⟩ := by
  rw [dec_small h]
  have e : (48 + (n : Int)).toNat = 48 + n := by omega
  simp [sgn, strOfNums, e]
set_option maxHeartbeats 400000 in
theorem c_l1Num_one (n : Nat) (h : n < 10) (w : World) :
    Calls Tryd.prog 67 #[.int .i64 (n : Int)] w fun e w' => e = .returned (.string ⟨(Lib.decDigits n).toArray⟩) ∧ Below w.heap.size w w' := by
  have hcv := fun (n : Int) (W : World) => conv_one n W
  have HS := hid (sgn_dec h)
  go_enter Tryd.func67, Tryd.ntmps67
  go_wp2
  go_ret
  exact ⟨by rw [← HS.out]; rfl, (Below.refl _ _).alloc (Nat.le_refl _) _⟩
theorem conv_one_drew (n : Int) (W : World) :
    (convert 22 9 (.slice (some ⟨W.heap.size, 0, none⟩) 1 1)).run Tryd.prog (W.alloc (.cells #[.int .u8 n] 5)).drew = .ok (.string (sgn n)) (W.alloc (.cells #[.int .u8 n] 5)).drew := by
  refine run_convert_bytes_arg _ 22 5 Tryd.underlying22 Tryd.underlying5 _ 0 1 1 [n] rfl (fun i hi => ?_) 9 Tryd.underlying9
  have h0 : i = 0 := by omega
  subst h0
  show (W.alloc (.cells #[.int .u8 n] 5)).cell? _ = _
  unfold World.cell?; rw [heap_alloc_new]; rfl
theorem conv_below {n : Int} {W w1 : World} (h : Below (W.alloc (.cells #[.int .u8 n] 5)).heap.size (W.alloc (.cells #[.int .u8 n] 5)) w1) :
    (convert 22 9 (.slice (some ⟨W.heap.size, 0, none⟩) 1 1)).run Tryd.prog w1 = .ok (.string (sgn n)) w1 := by
  refine run_convert_bytes_arg _ 22 5 Tryd.underlying22 Tryd.underlying5 _ 0 1 1 [n] rfl (fun i hi => ?_) 9 Tryd.underlying9
  have h0 : i = 0 := by omega
  subst h0
  rw [h.cell (p := ⟨W.heap.size, 0 + 0, none⟩) (by simp)]
  unfold World.cell?; rw [heap_alloc_new]; rfl
theorem num_two {n : Nat} (h : ¬ n < 10) : (⟨(Lib.decDigits (n / 10)).toArray⟩ : Tx) ++ sgn (48 + (n : Int) % 10) = ⟨(Lib.decDigits n).toArray⟩ := by
  have e : sgn (48 + (n : Int) % 10) = ⟨(Lib.decDigits (n % 10)).toArray⟩ := by
    have := sgn_dec (n := n % 10) (by omega)
    rw [← this]
    congr 1
  rw [e, ByteArray.mk_append_mk, dec_big h, dec_small (n := n % 10) (by omega)]

set_option maxHeartbeats 1000000 in
set_option maxRecDepth 100000 in
theorem c_l1Num (n : Nat) (h : n < 100) (w : World) :
    Calls Tryd.prog 67 #[.int .i64 (n : Int)] w fun e w' => e = .returned (.string ⟨(Lib.decDigits n).toArray⟩) ∧ Below w.heap.size w w' := by
  by_cases h1 : n < 10
  · exact c_l1Num_one n h1 w
  · have hcv := fun (n : Int) (W : World) => conv_one_drew n W
    have hcv0 := fun (n : Int) (W : World) => conv_one n W
    have hw0 : (n : Int).tmod 10 = (n : Int) % 10 := Int.tmod_eq_emod_of_nonneg (by omega)
    have HC : Hid (∀ W : World, Calls Tryd.prog 67 #[.int .i64 ((n : Int) / 10)] W fun e w' => e = .returned (.string ⟨(Lib.decDigits (n / 10)).toArray⟩) ∧ Below W.heap.size W w') := by
      intro W
      have := c_l1Num_one (n / 10) (by omega) W
      rw [show ((n / 10 : Nat) : Int) = (n : Int) / 10 by omega] at this
      exact this
    have HT := hid (num_two h1)
    have hsz : ¬ 9223372036854775807 < ByteArray.size (⟨(Lib.decDigits (n / 10)).toArray⟩ : Tx) + ByteArray.size (sgn (48 + (n : Int) % 10)) := by
      rw [sgn_size]
      have := dec_len (n := n / 10) (by omega)
      have e : ByteArray.size (⟨(Lib.decDigits (n / 10)).toArray⟩ : Tx) = (Lib.decDigits (n / 10)).length := by simp [ByteArray.size]
      rw [e]; omega
    have hn : 10 ≤ (n : Int) := by omega
    have hw1 : IntKind.i64.wrap ((n : Int) / 10) = (n : Int) / 10 := IntWalk.i64_in _ (by omega)
    have hw2 : IntKind.i64.wrap ((n : Int) % 10) = (n : Int) % 10 := IntWalk.i64_in _ (by omega)
    have hw3 : IntKind.i64.wrap (48 + (n : Int) % 10) = 48 + (n : Int) % 10 := IntWalk.i64_in _ (by omega)
    have hw4 : IntKind.u8.wrap (48 + (n : Int) % 10) = 48 + (n : Int) % 10 := IntWalk.u8_in _ (by omega)
    generalize (⟨(Lib.decDigits (n / 10)).toArray⟩ : Tx) = s1 at *
    go_enter Tryd.func67, Tryd.ntmps67
    go_wp2_with fail
    go_region_with (go_at_call 67; refine (HC.out _).mono ?_; rintro e w1 ⟨rfl, hb1⟩; have hb2 := ofDrew hb1; try (have hcv2 := conv_below hb2))
    all_goals
      go_wp2
      go_ret
      refine ⟨by rw [← HT.out]; rfl, ?_⟩
      first
        | exact hb2.alloc hb2.size _
        | exact ((Below.refl _ _).alloc (Nat.le_refl _) _).trans (hb2.mono (by simp))

set_option maxHeartbeats 1000000 in
theorem c_l2Run (n : Nat) (b : UInt8) (h : n < 100) (w : World) :
    Calls Tryd.prog 61 #[.int .i64 (n : Int), .string ⟨#[b]⟩] w fun e w' => e = .returned (.string ⟨(runB n b).toArray⟩) ∧ Below w.heap.size w w' := by
  by_cases h0 : (n : Int) = 0
  · obtain rfl : n = 0 := by omega
    go_enter Tryd.func61, Tryd.ntmps61
    go_wp2
    go_ret
    exact ⟨rfl, Below.refl _ _⟩
  · by_cases h1 : (n : Int) = 1
    · obtain rfl : n = 1 := by omega
      go_enter Tryd.func61, Tryd.ntmps61
      go_wp2
      go_ret
      exact ⟨rfl, Below.refl _ _⟩
    · have HT : Hid ((⟨(Lib.decDigits n).toArray⟩ : Tx) ++ ⟨#[b]⟩ = ⟨(runB n b).toArray⟩) := by
        show _ = _
        have e : runB n b = Lib.decDigits n ++ [b] := by unfold runB; rw [if_neg (by omega), if_neg (by omega)]
        rw [e, ← ByteArray.mk_append_mk]
      have hsz : ¬ 9223372036854775807 < ByteArray.size (⟨(Lib.decDigits n).toArray⟩ : Tx) + ByteArray.size (⟨#[b]⟩ : Tx) := by
        have := dec_len h
        have e : ByteArray.size (⟨(Lib.decDigits n).toArray⟩ : Tx) = (Lib.decDigits n).length := by simp [ByteArray.size]
        have e2 : ByteArray.size (⟨#[b]⟩ : Tx) = 1 := rfl
        rw [e, e2]; omega
      have HC := hid (c_l1Num n h w)
      generalize (⟨(Lib.decDigits n).toArray⟩ : Tx) = s1 at *
      go_enter Tryd.func61, Tryd.ntmps61
      go_wp2_with (go_at_call 67; refine HC.out.mono ?_; rintro e w1 ⟨rfl, hb1⟩)
      go_ret
      exact ⟨by rw [← HT.out]; rfl, hb1⟩
theorem txs (l : List UInt8) : ByteArray.size (⟨l.toArray⟩ : Tx) = l.length := by simp [ByteArray.size]

theorem c_l2Run' (z : Int) (b : UInt8) (h0 : 0 ≤ z) (h : z < 100) (w : World) :
    Calls Tryd.prog 61 #[.int .i64 z, .string ⟨#[b]⟩] w fun e w' => e = .returned (.string ⟨(runB z.toNat b).toArray⟩) ∧ Below w.heap.size w w' := by
  have := c_l2Run z.toNat b (by omega) w
  rw [Int.toNat_of_nonneg h0] at this
  exact this
end Go.Proofs.YthmjcjcamcdpkaaDoor
