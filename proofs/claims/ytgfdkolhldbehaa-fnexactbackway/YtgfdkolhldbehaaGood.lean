/- What toCellS and both GoodCells answer: a list of cells taken over into new memory, and whether cells are good. -/
import Derived.Test.YtgfdkolhldbehaaEq
import Derived.Test.YtgfdkolhldbehaaPlain
namespace Go.Proofs.Ytgfdkolhldbehaa
open Go.RowKit
set_option linter.unusedVariables false
attribute [local go_sem ↓] Go.wp_at_zero Go.wp_at_succ

theorem info_Cell : (Try.prog.info? 36).map (fun i => (i.zero, i.size, i.bytes)) = some (some (.agg #[.int .i64 0, .int .i64 0]), 2, 16) := by kernel_rfl

theorem make_Cells (n : Nat) (hn : n ≤ 1048576) (w : World) :
    (Instr.makeSlice 23 (.int .i64 (n : Int)) (.int .i64 (n : Int))).run Try.prog w = .ok (.slice (some ⟨w.heap.size, 0, none⟩) n n) (w.alloc (.cells (madeCells #[.int .i64 0, .int .i64 0] (n * 2)) 36)) := by
  obtain ⟨i, hi, hz, hs, hb⟩ := info_parts info_Cell
  have := run_make (P := Try.prog) w 23 36 i _ Try.underlying23 hi hz .i64 .i64 n n (by omega) (Int.le_refl _) (by rw [hb]; omega) (by omega)
  simpa [hs, Value.cells] using this

/-- What stands in a row of cells of which the first k are laid. -/
def cellTo (l : List Cl) (k : Nat) (j : Nat) : Value := .int .i64 (if j < k * 2 then (if j % 2 = 0 then (at_ l (j / 2)).1 else (at_ l (j / 2)).2) else 0)

theorem made_row (w : World) (l : List Cl) : (w.alloc (.cells (madeCells #[.int .i64 0, .int .i64 0] (l.length * 2)) 36)).rowIs w.heap.size 36 (l.length * 2) (cellTo l 0) := by
  refine ⟨_, heap_alloc_new _ _, size_madeCells _ _, fun i hi => ?_⟩
  have h2 : i % 2 = 0 ∨ i % 2 = 1 := by omega
  rcases h2 with h2 | h2 <;> simp [madeCells, hi, h2, cellTo]

theorem row_step {w : World} {g : Nat} {l : List Cl} {k : Nat} (h : w.rowIs g 36 (l.length * 2) (cellTo l k)) (hk : k < l.length) :
    ((w.setCell ⟨g, k * 2, none⟩ (.int .i64 (at_ l k).1)).setCell ⟨g, k * 2 + 1, none⟩ (.int .i64 (at_ l k).2)).rowIs g 36 (l.length * 2) (cellTo l (k + 1)) := by
  refine ((h.set (k * 2) _).set (k * 2 + 1) _).congr fun j hj => ?_
  by_cases h1 : j = k * 2 + 1
  · have e1 : j % 2 = 1 := by omega
    have e2 : j / 2 = k := by omega
    have e3 : j < (k + 1) * 2 := by omega
    simp only [cellTo, if_pos h1, if_pos e3, e1, e2]
    rfl
  · by_cases h2 : j = k * 2
    · have e1 : j % 2 = 0 := by omega
      have e2 : j / 2 = k := by omega
      have e3 : j < (k + 1) * 2 := by omega
      simp only [cellTo, if_neg h1, if_pos h2, if_pos e3, e1, e2]
      rfl
    · simp only [cellTo, if_neg h1, if_neg h2]
      by_cases h3 : j < k * 2
      · rw [if_pos h3, if_pos (show j < (k + 1) * 2 by omega)]
      · rw [if_neg h3, if_neg (show ¬ j < (k + 1) * 2 by omega)]

theorem row_done {w : World} {g : Nat} {l : List Cl} (h : w.rowIs g 36 (l.length * 2) (cellTo l l.length)) : Row w g l :=
  h.congr fun j hj => by simp [cellTo, hj, at_]

set_option maxHeartbeats 400000 in
theorem c_toCellS (a : Option Addr) (l : List Cl) (ca : Nat) (w : World) (ha : Seg w a l) (hl : l.length ≤ 1048576) :
    Calls Try.prog 37 #[.slice a l.length ca] w fun e w' => e = .returned (.slice (some ⟨w.heap.size, 0, none⟩) l.length l.length) ∧ Row w' w.heap.size l ∧ Below w.heap.size w w' := by
  have hmk := make_Cells l.length hl
  have R0 := hid (made_row w l)
  go_enter Try.func37, Try.ntmps37
  go_wp2
  go_loopw [4] (fun i wr => ∃ k : Nat, k ≤ l.length ∧ i = .int .i64 k ∧ wr.rowIs w.heap.size 36 (l.length * 2) (cellTo l k) ∧ Below w.heap.size w wr) (fun i _ => l.length - (intOf i).toNat)
  case atStart => exact ⟨0, Nat.zero_le _, rfl, R0.out, (Below.refl _ _).alloc (Nat.le_refl _) _⟩
  case round =>
    clear R0 hmk
    obtain ⟨k, hk, rfl, hR, hbel⟩ := hrel
    by_cases hlt : k < l.length
    · obtain ⟨b1, o1, rfl, hb1, p1, p2⟩ := ha k hlt
      have g1 := (hbel.cell (p := ⟨b1, o1 + k * 2, none⟩) hb1).trans p1
      have g2 := (hbel.cell (p := ⟨b1, o1 + k * 2 + 1, none⟩) hb1).trans p2
      change _ = some (Value.int .i64 (at_ l k).1) at g1
      change _ = some (Value.int .i64 (at_ l k).2) at g2
      clear p1 p2
      have k0 : (0 : Int) ≤ (k : Int) := by omega
      have k1 : (k : Int) < (l.length : Int) := by omega
      have hR' := hid hR
      clear hR
      go_wp2_with (go_at_call 91; refine (c_toCell _ _ _).mono ?_; rintro e w1 ⟨rfl, hbq⟩; have hr1 := hR'.out.of_block (hbq.block _ hR'.out.lt); have c1 := hr1.cell (i := k * 2) (by omega); have c2 := hr1.cell (i := k * 2 + 1) (by omega); have f1 := hr1.frozen (k * 2); have f2 := hr1.frozen (k * 2 + 1))
      go_roundw
      case rel => exact ⟨k + 1, by omega, by go_num, row_step hr1 hlt, ((hbel.trans (hbq.mono hbel.size)).setCell (Nat.le_refl _) _).setCell (Nat.le_refl _) _⟩
      case measure => simp [intOf]; omega
    · go_wp2
      go_ret
      have : k = l.length := by omega
      subst this
      exact ⟨rfl, row_done hR, hbel⟩

set_option maxHeartbeats 400000 in
theorem c_allInReach (a : Option Addr) (l : List Cl) (ca : Nat) (w : World) (ha : Seg w a l) (hl : l.length ≤ 1048576) :
    Calls Try.prog 116 #[.slice a l.length ca] w fun e w' => e = .returned (.bool (allTo l l.length)) ∧ Below w.heap.size w w' := by
  go_enter Try.func116, Try.ntmps116
  go_wp2
  go_loopw [7] (fun i wr => ∃ k : Nat, k ≤ l.length ∧ i = .int .i64 k ∧ Hid (allTo l k = true) ∧ Below w.heap.size w wr) (fun i _ => l.length - (intOf i).toNat)
  case atStart => exact ⟨0, Nat.zero_le _, rfl, (rfl : _ = _), Below.refl _ _⟩
  case round =>
    obtain ⟨k, hk, rfl, hT, hbel⟩ := hrel
    by_cases hlt : k < l.length
    · obtain ⟨b1, o1, rfl, hb1, p1, p2⟩ := ha k hlt
      have g1 := (hbel.cell (p := ⟨b1, o1 + k * 2, none⟩) hb1).trans p1
      have g2 := (hbel.cell (p := ⟨b1, o1 + k * 2 + 1, none⟩) hb1).trans p2
      change _ = some (Value.int .i64 (at_ l k).1) at g1
      change _ = some (Value.int .i64 (at_ l k).2) at g2
      clear p1 p2
      have k0 : (0 : Int) ≤ (k : Int) := by omega
      have k1 : (k : Int) < (l.length : Int) := by omega
      cases hin : inR (at_ l k)
      · go_wp2_with (go_at_call 140; refine (c_inReach (at_ l k) _).mono ?_; rintro e w1 ⟨rfl, hbq⟩)
        go_ret
        exact ⟨ret_bool (allTo_false hlt hin).symm, (hbel.alloc hbel.size _).trans (hbq.mono (by simp; have := hbel.size; omega))⟩
      · go_wp2_with (go_at_call 140; refine (c_inReach (at_ l k) _).mono ?_; rintro e w1 ⟨rfl, hbq⟩)
        go_roundw
        case rel => exact ⟨k + 1, by omega, by go_num, (show _ = true by rw [allTo_succ, hT.out, hin]; rfl), (hbel.alloc hbel.size _).trans (hbq.mono (by simp; have := hbel.size; omega))⟩
        case measure => simp [intOf]; omega
    · go_wp2
      go_ret
      have : k = l.length := by omega
      subst this
      exact ⟨ret_bool hT.out.symm, hbel⟩


theorem c_l1There' (c : Cl) (v : Bool) (h : inR c = v) (w : World) :
    Calls Try.prog 119 #[.agg #[.int .i64 c.1, .int .i64 c.2]] w fun e w' => e = .returned (.bool v) ∧ Below w.heap.size w w' := by
  rw [← h]; exact c_l1There c w
theorem c_l1Less' (c d : Cl) (v : Bool) (h : ltC c d = v) (w : World) :
    Calls Try.prog 120 #[.agg #[.int .i64 c.1, .int .i64 c.2], .agg #[.int .i64 d.1, .int .i64 d.2]] w fun e w' => e = .returned (.bool v) ∧ Below w.heap.size w w' := by
  rw [← h]; exact c_l1Less c d w

set_option maxHeartbeats 400000 in
theorem c_areRising (a : Option Addr) (l : List Cl) (ca : Nat) (w : World) (ha : Seg w a l) (hl : l.length ≤ 1048576) :
    Calls Try.prog 117 #[.slice a l.length ca] w fun e w' => e = .returned (.bool (risTo l l.length)) ∧ Below w.heap.size w w' := by
  go_enter Try.func117, Try.ntmps117
  go_wp2
  go_loopw [3] (fun i wr => ∃ z : Int, 1 ≤ z ∧ (z ≤ l.length ∨ z = 1) ∧ i = .int .i64 z ∧ Hid (risTo l z.toNat = true) ∧ Below w.heap.size w wr) (fun i _ => l.length - (intOf i).toNat)
  case atStart => exact ⟨1, by omega, .inr rfl, rfl, (rfl : _ = _), Below.refl _ _⟩
  case round =>
    obtain ⟨z, hz1, hk, rfl, hT, hbel⟩ := hrel
    have HK := hid hk
    clear hk
    by_cases hlt : z < l.length
    · obtain ⟨b1, o1, rfl, hb1, p1, p2⟩ := ha z.toNat (by omega)
      obtain ⟨b2, o2, e2, hb2, q1, q2⟩ := ha (z.toNat - 1) (by omega)
      simp only [Option.some.injEq, Addr.mk.injEq, and_true] at e2
      obtain ⟨rfl, rfl⟩ := e2
      have hw1 : b1 < wr.heap.size := Nat.lt_of_lt_of_le hb1 hbel.size
      have g1 := fun g : Gr wr => g.cell ((hbel.cell (p := ⟨b1, o1 + z.toNat * 2, none⟩) hb1).trans p1) hw1
      have g2 := fun g : Gr wr => g.cell ((hbel.cell (p := ⟨b1, o1 + z.toNat * 2 + 1, none⟩) hb1).trans p2) hw1
      have g3 := fun g : Gr wr => g.cell ((hbel.cell (p := ⟨b1, o1 + (z.toNat - 1) * 2, none⟩) hb1).trans q1) hw1
      have g4 := fun g : Gr wr => g.cell ((hbel.cell (p := ⟨b1, o1 + (z.toNat - 1) * 2 + 1, none⟩) hb1).trans q2) hw1
      change ∀ g : Gr wr, _ = some (Value.int .i64 (at_ l z.toNat).1) at g1
      change ∀ g : Gr wr, _ = some (Value.int .i64 (at_ l z.toNat).2) at g2
      change ∀ g : Gr wr, _ = some (Value.int .i64 (at_ l (z.toNat - 1)).1) at g3
      change ∀ g : Gr wr, _ = some (Value.int .i64 (at_ l (z.toNat - 1)).2) at g4
      clear p1 p2 q1 q2
      have hne := Gr.ne wr
      have hS := risTo_succ l z.toNat
      rw [hT.out] at hS
      have hF := fun h => risTo_false (l := l) (k := z.toNat) (n := l.length) (by omega) (by omega) h
      generalize at_ l z.toNat = x at *
      generalize at_ l (z.toNat - 1) = y at *
      have HS := hid hS
      have HF := hid hF
      clear hS hF
      have hcl := cmpC_lt y x
      cases hin : ltC y x
      · rw [hin] at hcl
        have hge : 0 ≤ cmpC y x := by simpa using hcl
        clear hcl
        go_wp2
        refine wp_region_gr (by kernel_rfl) (by kernel_rfl) ?_
        repeat (go_big_quiet_step (first | (go_at_call 125; exact Calls.gr _ (c_compareCells y x _))))
        refine wpQuiet_nil ?_
        rintro _ ⟨g, rfl⟩
        clear g1 g2 g3 g4
        go_wp2
        go_ret
        exact ⟨ret_bool (HF.out hin).symm, hbel.trans (g.below.mono hbel.size)⟩
      · rw [hin] at hcl
        have hge : cmpC y x < 0 := by simpa using hcl
        clear hcl
        go_wp2
        refine wp_region_gr (by kernel_rfl) (by kernel_rfl) ?_
        repeat (go_big_quiet_step (first | (go_at_call 125; exact Calls.gr _ (c_compareCells y x _))))
        refine wpQuiet_nil ?_
        rintro _ ⟨g, rfl⟩
        clear g1 g2 g3 g4
        go_wp2
        go_roundw
        case rel => exact ⟨z + 1, by omega, .inl (by omega), by go_num, (show _ = true by rw [show (z + 1).toNat = z.toNat + 1 by omega, HS.out, hin]; simp), hbel.trans (g.below.mono hbel.size)⟩
        case measure => simp [intOf]; omega
    · have hge : (l.length : Int) ≤ z := by omega
      go_wp2
      go_ret
      refine ⟨ret_bool ?_, hbel⟩
      rcases HK.out with h | h
      · have : l.length = z.toNat := by omega
        rw [this, hT.out]
      · have h1 : l.length = 0 ∨ l.length = 1 := by omega
        rcases h1 with h1 | h1 <;> rw [h1] <;> rfl

theorem good_false_reach {l : List Cl} {k : Nat} (hlt : k < l.length) (h : inR (at_ l k) = false) : good l = false := by
  simp [good, allTo_false hlt h]
theorem good_false_rise {l : List Cl} {k : Nat} (hlt : k < l.length) (h0 : 0 < k) (h : ltC (at_ l (k - 1)) (at_ l k) = false) : good l = false := by
  simp [good, risTo_false hlt h0 h]

theorem cell_new0 (w : World) (u v : Value) (t : TypeId) : (w.alloc (.cells #[u, v] t)).cell? ⟨w.heap.size, 0, none⟩ = some u := by unfold World.cell?; rw [heap_alloc_new]; rfl
theorem cell_new1 (w : World) (u v : Value) (t : TypeId) : (w.alloc (.cells #[u, v] t)).cell? ⟨w.heap.size, 1, none⟩ = some v := by unfold World.cell?; rw [heap_alloc_new]; rfl
theorem cell_old (w : World) (o : Obj) {b i : Nat} {v : Value} (h : w.cell? ⟨b, i, none⟩ = some v) (hb : b < w.heap.size) : (w.alloc o).cell? ⟨b, i, none⟩ = some v :=
  (((Below.refl _ _).alloc (Nat.le_refl _) o).cell (p := ⟨b, i, none⟩) hb).trans h

set_option maxHeartbeats 400000 in
theorem c_sGood (a : Option Addr) (l : List Cl) (ca : Nat) (w : World) (ha : Seg w a l) (hl : l.length ≤ 1048576) :
    Calls Try.prog 72 #[.slice a l.length ca] w fun e w' => e = .returned (.bool (good l)) ∧ Below w.heap.size w w' := by
  go_enter Try.func72, Try.ntmps72
  go_wp2
  go_loopw [7] (fun i wr => ∃ k : Nat, k ≤ l.length ∧ i = .int .i64 k ∧ Hid (allTo l k = true ∧ risTo l k = true) ∧ Below w.heap.size w wr) (fun i _ => l.length - (intOf i).toNat)
  case atStart => exact ⟨0, Nat.zero_le _, rfl, (⟨rfl, rfl⟩ : _ ∧ _), Below.refl _ _⟩
  case round =>
    obtain ⟨k, hk, rfl, hT, hbel⟩ := hrel
    by_cases hlt : k < l.length
    · obtain ⟨b1, o1, rfl, hb1, p1, p2⟩ := ha k hlt
      have g1 := (hbel.cell (p := ⟨b1, o1 + k * 2, none⟩) hb1).trans p1
      have g2 := (hbel.cell (p := ⟨b1, o1 + k * 2 + 1, none⟩) hb1).trans p2
      change _ = some (Value.int .i64 (at_ l k).1) at g1
      change _ = some (Value.int .i64 (at_ l k).2) at g2
      clear p1 p2
      have hw1 : b1 < wr.heap.size := Nat.lt_of_lt_of_le hb1 hbel.size
      have k0 : (0 : Int) ≤ (k : Int) := by omega
      have k1 : (k : Int) < (l.length : Int) := by omega
      have HG1 := hid (good_false_reach hlt)
      have HG2 := hid (good_false_rise hlt)
      have HA := hid (allTo_succ l k)
      have HR := hid (risTo_succ l k)
      have hprev : ∀ j, j < l.length → wr.cell? ⟨b1, o1 + j * 2, none⟩ = some (.int .i64 (at_ l j).1) ∧ wr.cell? ⟨b1, o1 + j * 2 + 1, none⟩ = some (.int .i64 (at_ l j).2) := by
        intro j hj
        obtain ⟨b2, o2, e2, hb2, q1, q2⟩ := ha j hj
        simp only [Option.some.injEq, Addr.mk.injEq, and_true] at e2
        obtain ⟨rfl, rfl⟩ := e2
        exact ⟨(hbel.cell (p := ⟨b1, _, none⟩) hb1).trans q1, (hbel.cell (p := ⟨b1, _, none⟩) hb1).trans q2⟩
      have HP := hid (hprev (k - 1) (by omega))
      clear hprev ha
      generalize at_ l k = x at *
      generalize at_ l (k - 1) = y at *
      have n0 := fun g : Gr (wr.alloc (.cells #[.int .i64 x.1, .int .i64 x.2] 36)) => g.cell (cell_new0 wr (.int .i64 x.1) (.int .i64 x.2) 36) (by simp)
      have n1 := fun g : Gr (wr.alloc (.cells #[.int .i64 x.1, .int .i64 x.2] 36)) => g.cell (cell_new1 wr (.int .i64 x.1) (.int .i64 x.2) 36) (by simp)
      have hne := Gr.ne (wr.alloc (.cells #[.int .i64 x.1, .int .i64 x.2] 36))
      cases hin : inR x
      · go_wp2
        refine wp_region_gr (by kernel_rfl) (by kernel_rfl) ?_
        repeat (go_big_quiet_step (first | (go_at_call 119; exact Calls.gr _ (c_l1There' x false hin _))))
        refine wpQuiet_nil ?_
        rintro _ ⟨g, rfl⟩
        clear n0 n1
        go_wp2
        go_ret
        exact ⟨ret_bool (HG1.out hin).symm, (hbel.alloc hbel.size _).trans (g.below.mono (by simp; have := hbel.size; omega))⟩
      · by_cases hk0 : 0 < k
        · have m0 := fun g : Gr (wr.alloc (.cells #[.int .i64 x.1, .int .i64 x.2] 36)) => g.cell (cell_old wr (.cells #[.int .i64 x.1, .int .i64 x.2] 36) HP.out.1 hw1) (by simp; omega)
          have m1 := fun g : Gr (wr.alloc (.cells #[.int .i64 x.1, .int .i64 x.2] 36)) => g.cell (cell_old wr (.cells #[.int .i64 x.1, .int .i64 x.2] 36) HP.out.2 hw1) (by simp; omega)
          cases hin2 : ltC y x
          · go_wp2
            refine wp_region_gr (by kernel_rfl) (by kernel_rfl) ?_
            repeat (go_big_quiet_step (first | (go_at_call 119; exact Calls.gr _ (c_l1There' x true hin _)) | (go_at_call 120; exact Calls.gr _ (c_l1Less' y x false hin2 _))))
            refine wpQuiet_nil ?_
            rintro _ ⟨g, rfl⟩
            clear n0 n1 m0 m1
            go_wp2
            go_ret
            exact ⟨ret_bool (HG2.out hk0 hin2).symm, (hbel.alloc hbel.size _).trans (g.below.mono (by simp; have := hbel.size; omega))⟩
          · go_wp2
            refine wp_region_gr (by kernel_rfl) (by kernel_rfl) ?_
            repeat (go_big_quiet_step (first | (go_at_call 119; exact Calls.gr _ (c_l1There' x true hin _)) | (go_at_call 120; exact Calls.gr _ (c_l1Less' y x true hin2 _))))
            refine wpQuiet_nil ?_
            rintro _ ⟨g, rfl⟩
            clear n0 n1 m0 m1
            go_wp2
            go_roundw
            case rel => exact ⟨k + 1, by omega, by go_num, (show _ ∧ _ from ⟨by rw [HA.out, hT.out.1, hin]; rfl, by rw [HR.out, hT.out.2, hin2]; simp⟩), (hbel.alloc hbel.size _).trans (g.below.mono (by simp; have := hbel.size; omega))⟩
            case measure => simp [intOf]; omega
        · have hk0' : decide ((0 : Int) < (k : Int)) = false := by simp; omega
          go_wp2
          refine wp_region_gr (by kernel_rfl) (by kernel_rfl) ?_
          repeat (go_big_quiet_step (first | (go_at_call 119; exact Calls.gr _ (c_l1There' x true hin _))))
          refine wpQuiet_nil ?_
          rintro _ ⟨g, rfl⟩
          clear n0 n1
          go_wp2
          go_roundw
          case rel => exact ⟨k + 1, by omega, by go_num, (show _ ∧ _ from ⟨by rw [HA.out, hT.out.1, hin]; rfl, by rw [HR.out, hT.out.2, show k = 0 by omega]; simp⟩), (hbel.alloc hbel.size _).trans (g.below.mono (by simp; have := hbel.size; omega))⟩
          case measure => simp [intOf]; omega
    · go_wp2
      go_ret
      have : k = l.length := by omega
      subst this
      exact ⟨ret_bool (by simp [good, hT.out.1, hT.out.2]; omega), hbel⟩

theorem c_allInReach' (a : Option Addr) (l : List Cl) (ca : Nat) (v : Bool) (h : allTo l l.length = v) (w : World) (ha : Seg w a l) (hl : l.length ≤ 1048576) :
    Calls Try.prog 116 #[.slice a l.length ca] w fun e w' => e = .returned (.bool v) ∧ Below w.heap.size w w' := by
  rw [← h]; exact c_allInReach a l ca w ha hl

set_option maxHeartbeats 400000 in
theorem c_iGood (a : Option Addr) (l : List Cl) (ca : Nat) (w : World) (ha : Seg w a l) (hl : l.length ≤ 1048576) :
    Calls Try.prog 66 #[.slice a l.length ca] w fun e w' => e = .returned (.bool (good l)) ∧ Below w.heap.size w w' := by
  by_cases h1 : l.length ≤ 120
  · cases h2 : allTo l l.length
    · go_enter Try.func66, Try.ntmps66
      go_wp2_with (go_at_call 116; refine (c_allInReach' a l ca false h2 _ ha hl).mono ?_; rintro e w1 ⟨rfl, hb1⟩)
      go_ret
      exact ⟨ret_bool (by simp [good, h2]), hb1⟩
    · go_enter Try.func66, Try.ntmps66
      go_wp2_with (first | (go_at_call 116; refine (c_allInReach' a l ca true h2 _ ha hl).mono ?_; rintro e w1 ⟨rfl, hb1⟩) | (go_at_call 117; refine (c_areRising a l ca _ (ha.below hb1) hl).mono ?_; rintro e w2 ⟨rfl, hb2⟩))
      go_ret
      exact ⟨ret_bool (by simp [good, h1, h2]), hb1.trans (hb2.mono hb1.size)⟩
  · go_enter Try.func66, Try.ntmps66
    go_wp2
    go_ret
    exact ⟨ret_bool (by simp [good, h1]), Below.refl _ _⟩

set_option maxHeartbeats 400000 in
theorem c_szCellS_no (a : Option Addr) (n ca : Nat) (left : Int) (w : World) (h0 : 0 ≤ left) (h1 : left ≤ 1048576) (hn : n ≤ 9223372036854775807) (h : left < n) :
    Calls Try.prog 36 #[.slice a n ca, .int .i64 left] w fun e w' => e = .returned (.int .i64 (-1)) ∧ w' = w := by
  have h' : left - (n : Int) < 0 := by omega
  go_enter Try.func36, Try.ntmps36
  go_wp2
  go_ret
  exact ⟨rfl, rfl⟩

set_option maxHeartbeats 400000 in
theorem c_szCellS (a : Option Addr) (n ca : Nat) (left : Int) (w : World) (h1 : left ≤ 1048576) (h : n ≤ left) :
    Calls Try.prog 36 #[.slice a n ca, .int .i64 left] w fun e w' => e = .returned (.int .i64 (left - n)) ∧ w' = w := by
  have h' : 0 ≤ left - (n : Int) := by omega
  go_enter Try.func36, Try.ntmps36
  go_wp2
  go_ret
  exact ⟨rfl, rfl⟩
end Go.Proofs.Ytgfdkolhldbehaa
