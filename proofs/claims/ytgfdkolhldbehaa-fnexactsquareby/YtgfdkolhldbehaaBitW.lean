/- Bits of numbers, as the program reads and writes them. -/
import Derived.Test.YtgfdkolhldbehaaClsP
import Derived.Laws.Bits64b
namespace Go.Proofs.Ytgfdkolhldbehaa
open Go.RowKit
set_option linter.unusedVariables false

theorem bits_and_i64_nat (a b : Nat) (ha : a < 9223372036854775808) (hb : b < 9223372036854775808) :
    bits .and .i64 (a : Int) (b : Int) = ((a &&& b : Nat) : Int) := by
  have hx : a &&& b < 2 ^ 63 := Nat.and_lt_two_pow _ (by omega)
  have h1 : (BitVec.ofInt 64 (a : Int)).toNat = a := by
    rw [BitVec.ofInt_natCast, BitVec.toNat_ofNat]; exact Nat.mod_eq_of_lt (by omega)
  have h2 : (BitVec.ofInt 64 (b : Int)).toNat = b := by
    rw [BitVec.ofInt_natCast, BitVec.toNat_ofNat]; exact Nat.mod_eq_of_lt (by omega)
  show IntKind.i64.wrap ((BitVec.ofInt 64 (a : Int) &&& BitVec.ofInt 64 (b : Int)).toNat : Int) = _
  rw [BitVec.toNat_and, h1, h2]
  exact IntWalk.i64_in _ ⟨by omega, by omega⟩
theorem bits_or_i64_nat (a b : Nat) (ha : a < 9223372036854775808) (hb : b < 9223372036854775808) :
    bits .or .i64 (a : Int) (b : Int) = ((a ||| b : Nat) : Int) := by
  have hx : a ||| b < 2 ^ 63 := Nat.or_lt_two_pow (by omega) (by omega)
  have h1 : (BitVec.ofInt 64 (a : Int)).toNat = a := by
    rw [BitVec.ofInt_natCast, BitVec.toNat_ofNat]; exact Nat.mod_eq_of_lt (by omega)
  have h2 : (BitVec.ofInt 64 (b : Int)).toNat = b := by
    rw [BitVec.ofInt_natCast, BitVec.toNat_ofNat]; exact Nat.mod_eq_of_lt (by omega)
  show IntKind.i64.wrap ((BitVec.ofInt 64 (a : Int) ||| BitVec.ofInt 64 (b : Int)).toNat : Int) = _
  rw [BitVec.toNat_or, h1, h2]
  exact IntWalk.i64_in _ ⟨by omega, by omega⟩
/-- A bit, read. -/
theorem bit_read (n k : Nat) (hn : n < 4096) (hk : k ≤ 9) : bits .and .i64 ((n : Int) / 2 ^ min ((k : Int).toNat) 64) 1 = if bitN n k then 1 else 0 := by
  have h0 : min ((k : Int).toNat) 64 = k := by omega
  have h1 : (n : Int) / 2 ^ k = ((n / 2 ^ k : Nat) : Int) := by simp
  have h2 : n / 2 ^ k ≤ n := Nat.div_le_self _ _
  rw [h0, h1]
  have h3 := bits_and_i64_nat (n / 2 ^ k) 1 (by omega) (by omega)
  rw [Nat.and_one_is_mod] at h3
  refine h3.trans ?_
  unfold bitN
  generalize n / 2 ^ k = m
  by_cases h : m % 2 = 1
  · rw [h]; rfl
  · have : m % 2 = 0 := by omega
    rw [this]; rfl
theorem bit_is (n k : Nat) (v : Bool) (h : bitN n k = v) (hn : n < 4096) (hk : k ≤ 9) : (bits .and .i64 ((n : Int) / 2 ^ k) 1 == 1) = v := by
  have h1 := bit_read n k hn hk
  rw [show min ((k : Int).toNat) 64 = k by omega, h] at h1
  rw [h1]
  cases v <;> rfl
end Go.Proofs.Ytgfdkolhldbehaa
