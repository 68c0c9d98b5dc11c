/- Texts of this seat, one behind the other: SpS. -/
import Derived.Test.YtgppcocfnbalfaaDoorInts
import Derived.Test.YtgppcocfnbalfaaDoorKb
namespace Go.Proofs.YtgppcocfnbalfaaDoor
open Go.RowKit
set_option linter.unusedVariables false
set_option linter.unusedSimpArgs false
attribute [local go_sem ↓] Go.wp_at_zero Go.wp_at_succ

/-- Is bit k of n set? -/
def bitB (n : Int) (k : Nat) : Bool := bits .and .i64 n (2 ^ k) != 0
def splK (n : Int) : Nat → List Int
  | 0 => []
  | k + 1 => splK n k ++ (if bitB n k then [2 ^ k] else [])
theorem bit_high : ∀ k : Nat, k < 10 → ∀ n : Nat, n < 1001 → n < 2 ^ k → bitB (n : Int) k = false := by decide +kernel
theorem spl_end {n : Int} (h0 : 0 ≤ n) (h1 : n ≤ 1000) {k : Nat} (hk : k ≤ 10) (h : n < 2 ^ k) : splK n 10 = splK n k := by
  have key : ∀ j, k + j ≤ 10 → splK n (k + j) = splK n k := by
    intro j
    induction j with
    | zero => intro _; rfl
    | succ j ih =>
      intro hj
      have hp : (2 : Int) ^ k ≤ 2 ^ (k + j) := by
        have : (2 : Nat) ^ k ≤ 2 ^ (k + j) := Nat.pow_le_pow_right (by decide) (by omega)
        exact_mod_cast this
      have hb := bit_high (k + j) (by omega) n.toNat (by omega) (by
        have h2 : n < 2 ^ (k + j) := by omega
        have : ((n.toNat : Nat) : Int) < ((2 ^ (k + j) : Nat) : Int) := by push_cast; omega
        exact_mod_cast this)
      rw [show ((n.toNat : Nat) : Int) = n by omega] at hb
      have e : splK n (k + (j + 1)) = splK n (k + j) ++ (if bitB n (k + j) then [2 ^ (k + j)] else []) := rfl
      rw [e, hb, ih (by omega)]
      simp
  have := key (10 - k) (by omega)
  rwa [show k + (10 - k) = 10 by omega] at this
theorem splK_len (n : Int) : ∀ k, (splK n k).length ≤ k
  | 0 => Nat.le_refl _
  | k + 1 => by
    have := splK_len n k
    simp only [splK, List.length_append]
    split <;> simp <;> omega
def splV (n : Int) : List Int := if inB 0 1000 n then splK n 10 else []
theorem splV_le (n : Int) : (splV n).length ≤ 10 := by
  unfold splV; split
  · exact splK_len n 10
  · simp
theorem pow_1024 {k : Nat} (h : k ≤ 10) : 1 ≤ (2 : Int) ^ k ∧ (2 : Int) ^ k ≤ 1024 := by
  rcases (show k = 0 ∨ k = 1 ∨ k = 2 ∨ k = 3 ∨ k = 4 ∨ k = 5 ∨ k = 6 ∨ k = 7 ∨ k = 8 ∨ k = 9 ∨ k = 10 by omega) with rfl | rfl | rfl | rfl | rfl | rfl | rfl | rfl | rfl | rfl | rfl <;> decide

set_option maxHeartbeats 4000000 in
set_option maxRecDepth 100000 in
theorem c_sSplit (n : Int) (w : World) :
    Calls Tryd.prog 9 #[.int .i64 n] w fun e w' => ∃ v, e = .returned (.tuple #[v, .bool (inB 0 1000 n)]) ∧ OwnI w' w.heap.size v (splV n) ∧ Below w.heap.size w w' := by
  cases hin : inB 0 1000 n
  · have HV := hid (show splV n = [] by simp [splV, hin])
    have HC := hid (fun (W : World) => c_l1In' n 0 1000 false hin W)
    go_enter Tryd.func9, Tryd.ntmps9
    go_wp2_with fail
    refine (HC.out _).mono ?_
    rintro e w1 ⟨rfl, rfl⟩
    go_wp2
    go_ret2
    exact ⟨_, rfl, by rw [HV.out]; exact OwnI.nil _ _, Below.refl _ _⟩
  · have hb := inB_bd hin
    have HV := hid (show splV n = splK n 10 by simp [splV, hin])
    have HC := hid (fun (W : World) => c_l1In' n 0 1000 true hin W)
    have HE := hid (fun (k : Nat) (hk : k ≤ 10) (h : n < 2 ^ k) => spl_end hb.1 hb.2 hk h)
    clear hin
    go_enter Tryd.func9, Tryd.ntmps9
    go_wp2_with fail
    refine (HC.out _).mono ?_
    rintro e w1 ⟨rfl, rfl⟩
    go_wp2
    go_loopw [4, 5] (fun v i wr => ∃ (k : Nat) (p : Int), k ≤ 10 ∧ i = .int .i64 p ∧ Hid (p = 2 ^ k) ∧ Hid (OwnI wr w1.heap.size v (splK n k)) ∧ Hid (Below w1.heap.size w1 wr)) (fun _ i _ => (2048 - intOf i).toNat)
    case atStart => exact ⟨0, 1, by omega, rfl, (rfl : _ = _), OwnI.nil _ _, Below.refl _ _⟩
    case round =>
      obtain ⟨k, p, hk, rfl, HP, HO, HB⟩ := hrel
      have hp := pow_1024 hk
      rw [← HP.out] at hp
      by_cases hlt : p ≤ n
      · have hk9 : k < 10 := by
          by_cases e : k = 10
          · have := HP.out; rw [e] at this; omega
          · omega
        have HP2 := hid (show p * 2 = 2 ^ (k + 1) by rw [HP.out, Int.pow_succ])
        have HL := hid (splK_len n k)
        cases hbit : bitB n k
        · have hz : (bits .and .i64 n p != 0) = false := by rw [HP.out]; exact hbit
          have HS := hid (show splK n (k + 1) = splK n k by simp [splK, hbit])
          go_wp2
          go_roundw
          case rel => exact ⟨k + 1, p * 2, by omega, by go_num, HP2.out, by rw [HS.out]; exact HO.out, HB.out⟩
          case measure => simp [intOf]; omega
        · have hz : (bits .and .i64 n p != 0) = true := by rw [HP.out]; exact hbit
          have HS := hid (show splK n (k + 1) = splK n k ++ [p] by rw [HP.out]; simp [splK, hbit])
          have ba := (Below.refl wr.heap.size wr).alloc (Nat.le_refl _) (.cells #[.int .i64 p] 3)
          have HO1 := hid (HO.out.below ba)
          have HB1 := hid (HB.out.trans (ba.mono HB.out.size))
          clear ba
          go_wp2_with (at_builtin; refine wpList_appI rfl (.tmp 18) (.tmp 20) rfl w1.heap.size _ (splK n k) [p] (some ⟨wr.heap.size, 0, none⟩) 1 1 rfl HO1.out rfl rfl (iseg_block (heap_alloc_new wr _)) (by intro h; cases h) (by have := HL.out; simp; omega) HB1.out.size ?_; intro v7 w7 hO7 hG7 _)
          go_roundw
          case rel => exact ⟨k + 1, p * 2, by omega, by go_num, HP2.out, by rw [HS.out]; exact hO7, below_grownI HB1.out HO1.out hG7⟩
          case measure => simp [intOf]; omega
      · go_wp2
        go_ret2
        exact ⟨_, rfl, by rw [HV.out, HE.out k hk (by rw [← HP.out]; omega)]; exact HO.out, HB.out⟩

set_option maxHeartbeats 4000000 in
set_option maxRecDepth 100000 in
theorem c_iSplit (n : Int) (w : World) (ht : ∀ k, k < 10 → w.cell? ⟨0, k, none⟩ = some (.int .i64 (2 ^ k))) :
    Calls Tryd.prog 8 #[.int .i64 n] w fun e w' => ∃ v, e = .returned (.tuple #[v, .bool (inB 0 1000 n)]) ∧ OwnI w' w.heap.size v (splV n) ∧ Below w.heap.size w w' := by
  by_cases h0 : n < 0
  · have HV := hid (show splV n = [] ∧ inB 0 1000 n = false by simp [splV, inB]; omega)
    clear ht
    go_enter Tryd.func8, Tryd.ntmps8
    go_wp2
    go_ret2
    exact ⟨_, by rw [HV.out.2]; rfl, by rw [HV.out.1]; exact OwnI.nil _ _, Below.refl _ _⟩
  · by_cases h1 : 1000 < n
    · have HV := hid (show splV n = [] ∧ inB 0 1000 n = false by simp [splV, inB]; omega)
      clear ht
      go_enter Tryd.func8, Tryd.ntmps8
      go_wp2
      go_ret2
      exact ⟨_, by rw [HV.out.2]; rfl, by rw [HV.out.1]; exact OwnI.nil _ _, Below.refl _ _⟩
    · have HV := hid (show splV n = splK n 10 ∧ inB 0 1000 n = true by simp [splV, inB]; omega)
      have t0 : w.cell? ⟨0, 0, none⟩ = some (.int .i64 1) := ht 0 (by omega)
      have t1 : w.cell? ⟨0, 1, none⟩ = some (.int .i64 2) := ht 1 (by omega)
      have t2 : w.cell? ⟨0, 2, none⟩ = some (.int .i64 4) := ht 2 (by omega)
      have t3 : w.cell? ⟨0, 3, none⟩ = some (.int .i64 8) := ht 3 (by omega)
      have t4 : w.cell? ⟨0, 4, none⟩ = some (.int .i64 16) := ht 4 (by omega)
      have t5 : w.cell? ⟨0, 5, none⟩ = some (.int .i64 32) := ht 5 (by omega)
      have t6 : w.cell? ⟨0, 6, none⟩ = some (.int .i64 64) := ht 6 (by omega)
      have t7 : w.cell? ⟨0, 7, none⟩ = some (.int .i64 128) := ht 7 (by omega)
      have t8 : w.cell? ⟨0, 8, none⟩ = some (.int .i64 256) := ht 8 (by omega)
      have t9 : w.cell? ⟨0, 9, none⟩ = some (.int .i64 512) := ht 9 (by omega)
      clear ht
      go_enter Tryd.func8, Tryd.ntmps8
      go_wp2
      go_loopw [4, 14] (fun v i wr => ∃ (k : Nat) (z : Int), k ≤ 10 ∧ i = .int .i64 z ∧ Hid (z = (k : Int)) ∧ Hid (OwnI wr w.heap.size v (splK n k)) ∧ Hid (Below w.heap.size w wr)) (fun _ i _ => 10 - (intOf i).toNat)
      case atStart => exact ⟨0, 0, by omega, rfl, (rfl : _ = _), OwnI.nil _ _, Below.refl _ _⟩
      case round =>
        clear t0 t1 t2 t3 t4 t5 t6 t7 t8 t9
        obtain ⟨k, z, hk, rfl, HZ, HO, HB⟩ := hrel
        have HL := hid (splK_len n k)
        rcases (show k = 0 ∨ k = 1 ∨ k = 2 ∨ k = 3 ∨ k = 4 ∨ k = 5 ∨ k = 6 ∨ k = 7 ∨ k = 8 ∨ k = 9 ∨ k = 10 by omega) with rfl | rfl | rfl | rfl | rfl | rfl | rfl | rfl | rfl | rfl | rfl
        · obtain rfl : z = 0 := HZ.out
          have ix : ∀ W, (Instr.index 63 (.agg #[.int .i64 1, .int .i64 2, .int .i64 4, .int .i64 8, .int .i64 16, .int .i64 32, .int .i64 64, .int .i64 128, .int .i64 256, .int .i64 512]) (.int .i64 0)).run Tryd.prog W = .ok (.int .i64 1) W := fun _ => by kernel_rfl
          cases hbit : bitB n 0
          · have hz : (bits .and .i64 n 1 != 0) = false := hbit
            have HS := hid (show splK n (0 + 1) = splK n 0 by simp [splK, hbit])
            go_wp2
            go_roundw
            case rel => exact ⟨0 + 1, 1, by omega, by go_num, (rfl : _ = _), by rw [HS.out]; exact HO.out, HB.out⟩
            case measure => simp [intOf]
          · have hz : (bits .and .i64 n 1 != 0) = true := hbit
            have HS := hid (show splK n (0 + 1) = splK n 0 ++ [1] by simp [splK, hbit])
            have ba := (Below.refl wr.heap.size wr).alloc (Nat.le_refl _) (.cells #[.int .i64 1] 3)
            have HO1 := hid (HO.out.below ba)
            have HB1 := hid (HB.out.trans (ba.mono HB.out.size))
            clear ba
            go_wp2_with (at_builtin; refine wpList_appI rfl (.tmp 21) (.tmp 23) rfl w.heap.size _ (splK n 0) [1] (some ⟨wr.heap.size, 0, none⟩) 1 1 rfl HO1.out rfl rfl (iseg_block (heap_alloc_new wr _)) (by intro h; cases h) (by have := HL.out; simp; omega) HB1.out.size ?_; intro v7 w7 hO7 hG7 _)
            go_roundw
            case rel => exact ⟨0 + 1, 1, by omega, by go_num, (rfl : _ = _), by rw [HS.out]; exact hO7, below_grownI HB1.out HO1.out hG7⟩
            case measure => simp [intOf]
        · obtain rfl : z = 1 := HZ.out
          have ix : ∀ W, (Instr.index 63 (.agg #[.int .i64 1, .int .i64 2, .int .i64 4, .int .i64 8, .int .i64 16, .int .i64 32, .int .i64 64, .int .i64 128, .int .i64 256, .int .i64 512]) (.int .i64 1)).run Tryd.prog W = .ok (.int .i64 2) W := fun _ => by kernel_rfl
          cases hbit : bitB n 1
          · have hz : (bits .and .i64 n 2 != 0) = false := hbit
            have HS := hid (show splK n (1 + 1) = splK n 1 by simp [splK, hbit])
            go_wp2
            go_roundw
            case rel => exact ⟨1 + 1, 2, by omega, by go_num, (rfl : _ = _), by rw [HS.out]; exact HO.out, HB.out⟩
            case measure => simp [intOf]
          · have hz : (bits .and .i64 n 2 != 0) = true := hbit
            have HS := hid (show splK n (1 + 1) = splK n 1 ++ [2] by simp [splK, hbit])
            have ba := (Below.refl wr.heap.size wr).alloc (Nat.le_refl _) (.cells #[.int .i64 2] 3)
            have HO1 := hid (HO.out.below ba)
            have HB1 := hid (HB.out.trans (ba.mono HB.out.size))
            clear ba
            go_wp2_with (at_builtin; refine wpList_appI rfl (.tmp 21) (.tmp 23) rfl w.heap.size _ (splK n 1) [2] (some ⟨wr.heap.size, 0, none⟩) 1 1 rfl HO1.out rfl rfl (iseg_block (heap_alloc_new wr _)) (by intro h; cases h) (by have := HL.out; simp; omega) HB1.out.size ?_; intro v7 w7 hO7 hG7 _)
            go_roundw
            case rel => exact ⟨1 + 1, 2, by omega, by go_num, (rfl : _ = _), by rw [HS.out]; exact hO7, below_grownI HB1.out HO1.out hG7⟩
            case measure => simp [intOf]
        · obtain rfl : z = 2 := HZ.out
          have ix : ∀ W, (Instr.index 63 (.agg #[.int .i64 1, .int .i64 2, .int .i64 4, .int .i64 8, .int .i64 16, .int .i64 32, .int .i64 64, .int .i64 128, .int .i64 256, .int .i64 512]) (.int .i64 2)).run Tryd.prog W = .ok (.int .i64 4) W := fun _ => by kernel_rfl
          cases hbit : bitB n 2
          · have hz : (bits .and .i64 n 4 != 0) = false := hbit
            have HS := hid (show splK n (2 + 1) = splK n 2 by simp [splK, hbit])
            go_wp2
            go_roundw
            case rel => exact ⟨2 + 1, 3, by omega, by go_num, (rfl : _ = _), by rw [HS.out]; exact HO.out, HB.out⟩
            case measure => simp [intOf]
          · have hz : (bits .and .i64 n 4 != 0) = true := hbit
            have HS := hid (show splK n (2 + 1) = splK n 2 ++ [4] by simp [splK, hbit])
            have ba := (Below.refl wr.heap.size wr).alloc (Nat.le_refl _) (.cells #[.int .i64 4] 3)
            have HO1 := hid (HO.out.below ba)
            have HB1 := hid (HB.out.trans (ba.mono HB.out.size))
            clear ba
            go_wp2_with (at_builtin; refine wpList_appI rfl (.tmp 21) (.tmp 23) rfl w.heap.size _ (splK n 2) [4] (some ⟨wr.heap.size, 0, none⟩) 1 1 rfl HO1.out rfl rfl (iseg_block (heap_alloc_new wr _)) (by intro h; cases h) (by have := HL.out; simp; omega) HB1.out.size ?_; intro v7 w7 hO7 hG7 _)
            go_roundw
            case rel => exact ⟨2 + 1, 3, by omega, by go_num, (rfl : _ = _), by rw [HS.out]; exact hO7, below_grownI HB1.out HO1.out hG7⟩
            case measure => simp [intOf]
        · obtain rfl : z = 3 := HZ.out
          have ix : ∀ W, (Instr.index 63 (.agg #[.int .i64 1, .int .i64 2, .int .i64 4, .int .i64 8, .int .i64 16, .int .i64 32, .int .i64 64, .int .i64 128, .int .i64 256, .int .i64 512]) (.int .i64 3)).run Tryd.prog W = .ok (.int .i64 8) W := fun _ => by kernel_rfl
          cases hbit : bitB n 3
          · have hz : (bits .and .i64 n 8 != 0) = false := hbit
            have HS := hid (show splK n (3 + 1) = splK n 3 by simp [splK, hbit])
            go_wp2
            go_roundw
            case rel => exact ⟨3 + 1, 4, by omega, by go_num, (rfl : _ = _), by rw [HS.out]; exact HO.out, HB.out⟩
            case measure => simp [intOf]
          · have hz : (bits .and .i64 n 8 != 0) = true := hbit
            have HS := hid (show splK n (3 + 1) = splK n 3 ++ [8] by simp [splK, hbit])
            have ba := (Below.refl wr.heap.size wr).alloc (Nat.le_refl _) (.cells #[.int .i64 8] 3)
            have HO1 := hid (HO.out.below ba)
            have HB1 := hid (HB.out.trans (ba.mono HB.out.size))
            clear ba
            go_wp2_with (at_builtin; refine wpList_appI rfl (.tmp 21) (.tmp 23) rfl w.heap.size _ (splK n 3) [8] (some ⟨wr.heap.size, 0, none⟩) 1 1 rfl HO1.out rfl rfl (iseg_block (heap_alloc_new wr _)) (by intro h; cases h) (by have := HL.out; simp; omega) HB1.out.size ?_; intro v7 w7 hO7 hG7 _)
            go_roundw
            case rel => exact ⟨3 + 1, 4, by omega, by go_num, (rfl : _ = _), by rw [HS.out]; exact hO7, below_grownI HB1.out HO1.out hG7⟩
            case measure => simp [intOf]
        · obtain rfl : z = 4 := HZ.out
          have ix : ∀ W, (Instr.index 63 (.agg #[.int .i64 1, .int .i64 2, .int .i64 4, .int .i64 8, .int .i64 16, .int .i64 32, .int .i64 64, .int .i64 128, .int .i64 256, .int .i64 512]) (.int .i64 4)).run Tryd.prog W = .ok (.int .i64 16) W := fun _ => by kernel_rfl
          cases hbit : bitB n 4
          · have hz : (bits .and .i64 n 16 != 0) = false := hbit
            have HS := hid (show splK n (4 + 1) = splK n 4 by simp [splK, hbit])
            go_wp2
            go_roundw
            case rel => exact ⟨4 + 1, 5, by omega, by go_num, (rfl : _ = _), by rw [HS.out]; exact HO.out, HB.out⟩
            case measure => simp [intOf]
          · have hz : (bits .and .i64 n 16 != 0) = true := hbit
            have HS := hid (show splK n (4 + 1) = splK n 4 ++ [16] by simp [splK, hbit])
            have ba := (Below.refl wr.heap.size wr).alloc (Nat.le_refl _) (.cells #[.int .i64 16] 3)
            have HO1 := hid (HO.out.below ba)
            have HB1 := hid (HB.out.trans (ba.mono HB.out.size))
            clear ba
            go_wp2_with (at_builtin; refine wpList_appI rfl (.tmp 21) (.tmp 23) rfl w.heap.size _ (splK n 4) [16] (some ⟨wr.heap.size, 0, none⟩) 1 1 rfl HO1.out rfl rfl (iseg_block (heap_alloc_new wr _)) (by intro h; cases h) (by have := HL.out; simp; omega) HB1.out.size ?_; intro v7 w7 hO7 hG7 _)
            go_roundw
            case rel => exact ⟨4 + 1, 5, by omega, by go_num, (rfl : _ = _), by rw [HS.out]; exact hO7, below_grownI HB1.out HO1.out hG7⟩
            case measure => simp [intOf]
        · obtain rfl : z = 5 := HZ.out
          have ix : ∀ W, (Instr.index 63 (.agg #[.int .i64 1, .int .i64 2, .int .i64 4, .int .i64 8, .int .i64 16, .int .i64 32, .int .i64 64, .int .i64 128, .int .i64 256, .int .i64 512]) (.int .i64 5)).run Tryd.prog W = .ok (.int .i64 32) W := fun _ => by kernel_rfl
          cases hbit : bitB n 5
          · have hz : (bits .and .i64 n 32 != 0) = false := hbit
            have HS := hid (show splK n (5 + 1) = splK n 5 by simp [splK, hbit])
            go_wp2
            go_roundw
            case rel => exact ⟨5 + 1, 6, by omega, by go_num, (rfl : _ = _), by rw [HS.out]; exact HO.out, HB.out⟩
            case measure => simp [intOf]
          · have hz : (bits .and .i64 n 32 != 0) = true := hbit
            have HS := hid (show splK n (5 + 1) = splK n 5 ++ [32] by simp [splK, hbit])
            have ba := (Below.refl wr.heap.size wr).alloc (Nat.le_refl _) (.cells #[.int .i64 32] 3)
            have HO1 := hid (HO.out.below ba)
            have HB1 := hid (HB.out.trans (ba.mono HB.out.size))
            clear ba
            go_wp2_with (at_builtin; refine wpList_appI rfl (.tmp 21) (.tmp 23) rfl w.heap.size _ (splK n 5) [32] (some ⟨wr.heap.size, 0, none⟩) 1 1 rfl HO1.out rfl rfl (iseg_block (heap_alloc_new wr _)) (by intro h; cases h) (by have := HL.out; simp; omega) HB1.out.size ?_; intro v7 w7 hO7 hG7 _)
            go_roundw
            case rel => exact ⟨5 + 1, 6, by omega, by go_num, (rfl : _ = _), by rw [HS.out]; exact hO7, below_grownI HB1.out HO1.out hG7⟩
            case measure => simp [intOf]
        · obtain rfl : z = 6 := HZ.out
          have ix : ∀ W, (Instr.index 63 (.agg #[.int .i64 1, .int .i64 2, .int .i64 4, .int .i64 8, .int .i64 16, .int .i64 32, .int .i64 64, .int .i64 128, .int .i64 256, .int .i64 512]) (.int .i64 6)).run Tryd.prog W = .ok (.int .i64 64) W := fun _ => by kernel_rfl
          cases hbit : bitB n 6
          · have hz : (bits .and .i64 n 64 != 0) = false := hbit
            have HS := hid (show splK n (6 + 1) = splK n 6 by simp [splK, hbit])
            go_wp2
            go_roundw
            case rel => exact ⟨6 + 1, 7, by omega, by go_num, (rfl : _ = _), by rw [HS.out]; exact HO.out, HB.out⟩
            case measure => simp [intOf]
          · have hz : (bits .and .i64 n 64 != 0) = true := hbit
            have HS := hid (show splK n (6 + 1) = splK n 6 ++ [64] by simp [splK, hbit])
            have ba := (Below.refl wr.heap.size wr).alloc (Nat.le_refl _) (.cells #[.int .i64 64] 3)
            have HO1 := hid (HO.out.below ba)
            have HB1 := hid (HB.out.trans (ba.mono HB.out.size))
            clear ba
            go_wp2_with (at_builtin; refine wpList_appI rfl (.tmp 21) (.tmp 23) rfl w.heap.size _ (splK n 6) [64] (some ⟨wr.heap.size, 0, none⟩) 1 1 rfl HO1.out rfl rfl (iseg_block (heap_alloc_new wr _)) (by intro h; cases h) (by have := HL.out; simp; omega) HB1.out.size ?_; intro v7 w7 hO7 hG7 _)
            go_roundw
            case rel => exact ⟨6 + 1, 7, by omega, by go_num, (rfl : _ = _), by rw [HS.out]; exact hO7, below_grownI HB1.out HO1.out hG7⟩
            case measure => simp [intOf]
        · obtain rfl : z = 7 := HZ.out
          have ix : ∀ W, (Instr.index 63 (.agg #[.int .i64 1, .int .i64 2, .int .i64 4, .int .i64 8, .int .i64 16, .int .i64 32, .int .i64 64, .int .i64 128, .int .i64 256, .int .i64 512]) (.int .i64 7)).run Tryd.prog W = .ok (.int .i64 128) W := fun _ => by kernel_rfl
          cases hbit : bitB n 7
          · have hz : (bits .and .i64 n 128 != 0) = false := hbit
            have HS := hid (show splK n (7 + 1) = splK n 7 by simp [splK, hbit])
            go_wp2
            go_roundw
            case rel => exact ⟨7 + 1, 8, by omega, by go_num, (rfl : _ = _), by rw [HS.out]; exact HO.out, HB.out⟩
            case measure => simp [intOf]
          · have hz : (bits .and .i64 n 128 != 0) = true := hbit
            have HS := hid (show splK n (7 + 1) = splK n 7 ++ [128] by simp [splK, hbit])
            have ba := (Below.refl wr.heap.size wr).alloc (Nat.le_refl _) (.cells #[.int .i64 128] 3)
            have HO1 := hid (HO.out.below ba)
            have HB1 := hid (HB.out.trans (ba.mono HB.out.size))
            clear ba
            go_wp2_with (at_builtin; refine wpList_appI rfl (.tmp 21) (.tmp 23) rfl w.heap.size _ (splK n 7) [128] (some ⟨wr.heap.size, 0, none⟩) 1 1 rfl HO1.out rfl rfl (iseg_block (heap_alloc_new wr _)) (by intro h; cases h) (by have := HL.out; simp; omega) HB1.out.size ?_; intro v7 w7 hO7 hG7 _)
            go_roundw
            case rel => exact ⟨7 + 1, 8, by omega, by go_num, (rfl : _ = _), by rw [HS.out]; exact hO7, below_grownI HB1.out HO1.out hG7⟩
            case measure => simp [intOf]
        · obtain rfl : z = 8 := HZ.out
          have ix : ∀ W, (Instr.index 63 (.agg #[.int .i64 1, .int .i64 2, .int .i64 4, .int .i64 8, .int .i64 16, .int .i64 32, .int .i64 64, .int .i64 128, .int .i64 256, .int .i64 512]) (.int .i64 8)).run Tryd.prog W = .ok (.int .i64 256) W := fun _ => by kernel_rfl
          cases hbit : bitB n 8
          · have hz : (bits .and .i64 n 256 != 0) = false := hbit
            have HS := hid (show splK n (8 + 1) = splK n 8 by simp [splK, hbit])
            go_wp2
            go_roundw
            case rel => exact ⟨8 + 1, 9, by omega, by go_num, (rfl : _ = _), by rw [HS.out]; exact HO.out, HB.out⟩
            case measure => simp [intOf]
          · have hz : (bits .and .i64 n 256 != 0) = true := hbit
            have HS := hid (show splK n (8 + 1) = splK n 8 ++ [256] by simp [splK, hbit])
            have ba := (Below.refl wr.heap.size wr).alloc (Nat.le_refl _) (.cells #[.int .i64 256] 3)
            have HO1 := hid (HO.out.below ba)
            have HB1 := hid (HB.out.trans (ba.mono HB.out.size))
            clear ba
            go_wp2_with (at_builtin; refine wpList_appI rfl (.tmp 21) (.tmp 23) rfl w.heap.size _ (splK n 8) [256] (some ⟨wr.heap.size, 0, none⟩) 1 1 rfl HO1.out rfl rfl (iseg_block (heap_alloc_new wr _)) (by intro h; cases h) (by have := HL.out; simp; omega) HB1.out.size ?_; intro v7 w7 hO7 hG7 _)
            go_roundw
            case rel => exact ⟨8 + 1, 9, by omega, by go_num, (rfl : _ = _), by rw [HS.out]; exact hO7, below_grownI HB1.out HO1.out hG7⟩
            case measure => simp [intOf]
        · obtain rfl : z = 9 := HZ.out
          have ix : ∀ W, (Instr.index 63 (.agg #[.int .i64 1, .int .i64 2, .int .i64 4, .int .i64 8, .int .i64 16, .int .i64 32, .int .i64 64, .int .i64 128, .int .i64 256, .int .i64 512]) (.int .i64 9)).run Tryd.prog W = .ok (.int .i64 512) W := fun _ => by kernel_rfl
          cases hbit : bitB n 9
          · have hz : (bits .and .i64 n 512 != 0) = false := hbit
            have HS := hid (show splK n (9 + 1) = splK n 9 by simp [splK, hbit])
            go_wp2
            go_roundw
            case rel => exact ⟨9 + 1, 10, by omega, by go_num, (rfl : _ = _), by rw [HS.out]; exact HO.out, HB.out⟩
            case measure => simp [intOf]
          · have hz : (bits .and .i64 n 512 != 0) = true := hbit
            have HS := hid (show splK n (9 + 1) = splK n 9 ++ [512] by simp [splK, hbit])
            have ba := (Below.refl wr.heap.size wr).alloc (Nat.le_refl _) (.cells #[.int .i64 512] 3)
            have HO1 := hid (HO.out.below ba)
            have HB1 := hid (HB.out.trans (ba.mono HB.out.size))
            clear ba
            go_wp2_with (at_builtin; refine wpList_appI rfl (.tmp 21) (.tmp 23) rfl w.heap.size _ (splK n 9) [512] (some ⟨wr.heap.size, 0, none⟩) 1 1 rfl HO1.out rfl rfl (iseg_block (heap_alloc_new wr _)) (by intro h; cases h) (by have := HL.out; simp; omega) HB1.out.size ?_; intro v7 w7 hO7 hG7 _)
            go_roundw
            case rel => exact ⟨9 + 1, 10, by omega, by go_num, (rfl : _ = _), by rw [HS.out]; exact hO7, below_grownI HB1.out HO1.out hG7⟩
            case measure => simp [intOf]
        · obtain rfl : z = 10 := HZ.out
          go_wp2
          go_ret2
          exact ⟨_, by rw [HV.out.2]; rfl, by rw [HV.out.1]; exact HO.out, HB.out⟩

end Go.Proofs.YtgppcocfnbalfaaDoor
