/- What both RowsOf answer. -/
import Derived.Test.YthmjcjcamcdpkaaDoorMark
import Derived.Test.YthmjcjcamcdpkaaDoorRowsT
import Derived.Test.YthmjcjcamcdpkaaDoorOpenT
import Derived.Test.YthmjcjcamcdpkaaDoorMove
import Derived.Laws.BytesArg
namespace Go.Proofs.YthmjcjcamcdpkaaDoor
open Go.RowKit
set_option linter.unusedVariables false

/-- The sign for a cell. -/
def sigB (l : List Cl) (y x : Nat) : Bool := decide (((x : Int), (y : Int)) ∈ l)
def sigN (l : List Cl) (y x : Nat) : Int := if sigB l y x then 35 else 46
/-- The first x signs of the row y. -/
def rowTx (l : List Cl) (y x : Nat) : Tx := strOfNums ((List.range x).map (sigN l y))
theorem rowTx_size (l : List Cl) (y x : Nat) : (rowTx l y x).size = x := by simp [rowTx, strOfNums_size]
theorem rowTx_succ (l : List Cl) (y x : Nat) : rowTx l y (x + 1) = rowTx l y x ++ ⟨#[UInt8.ofNat (sigN l y x).toNat]⟩ := by
  apply ByteArray.ext
  simp [rowTx, strOfNums, List.range_succ, ByteArray.data_append]
theorem rowTx_hash {l : List Cl} {y x : Nat} (h : sigB l y x = true) : rowTx l y x ++ ⟨#[35]⟩ = rowTx l y (x + 1) := by rw [rowTx_succ, sigN, h]; rfl
theorem rowTx_dot {l : List Cl} {y x : Nat} (h : sigB l y x = false) : rowTx l y x ++ ⟨#[46]⟩ = rowTx l y (x + 1) := by rw [rowTx_succ, sigN, h]; rfl
/-- The first k rows. -/
def rowsL (l : List Cl) (wide k : Nat) : List Tx := (List.range k).map fun y => rowTx l y wide
theorem rowsL_length (l : List Cl) (wide k : Nat) : (rowsL l wide k).length = k := by simp [rowsL]
theorem rowsL_succ (l : List Cl) (wide k : Nat) : rowsL l wide (k + 1) = rowsL l wide k ++ [rowTx l k wide] := by simp [rowsL, List.range_succ]
theorem rowsL_at {l : List Cl} {wide k y : Nat} (h : y < k) : tx (rowsL l wide k) y = rowTx l y wide := by simp [tx, rowsL, h]
/-- May rows be so wide, so high? -/
def inS (n : Int) : Bool := decide (0 ≤ n) && decide (n ≤ 20)
theorem inS_bd {n : Int} (h : inS n = true) : 0 ≤ n ∧ n ≤ 20 := by simp [inS] at h; exact h
/-- What RowsOf answers. -/
def rowsOfOk (l : List Cl) (wide high : Int) : Bool := good l && inS wide && inS high
def rowsOfL (l : List Cl) (wide high : Int) : List Tx := if rowsOfOk l wide high then rowsL l wide.toNat high.toNat else []

theorem c_l1InT (n : Int) (v : Bool) (h : inS n = v) (w : World) : Calls Tryd.prog 22 #[.int .i64 n, .int .i64 0, .int .i64 20] w fun e w' => e = .returned (.bool v) ∧ w' = w := by
  rw [← h]; exact c_l1In n 0 20 w
theorem c_l1AliveT (a : Option Addr) (l : List Cl) (ca : Nat) (c : Cl) (v : Bool) (h : decide (c ∈ l) = v) (w : World) (ha : Seg w a l) (hl : l.length ≤ 1048576) :
    Calls Tryd.prog 23 #[.slice a l.length ca, .agg #[.int .i64 c.1, .int .i64 c.2]] w fun e w' => e = .returned (.bool v) ∧ Below w.heap.size w w' := by
  rw [← h]; exact c_l1Alive a l ca c w ha hl

set_option maxHeartbeats 1000000 in
theorem c_sRowsOf_yes (a : Option Addr) (l : List Cl) (ca : Nat) (wide high : Nat) (w : World) (ha : Seg w a l) (hg : good l = true) (hw : wide ≤ 20) (hh : high ≤ 20) :
    Calls Tryd.prog 6 #[.slice a l.length ca, .int .i64 (wide : Int), .int .i64 (high : Int)] w fun e w' => ∃ v, e = .returned (.tuple #[v, .bool true]) ∧ OwnT w' w.heap.size v (rowsL l wide high) ∧ Below w.heap.size w w' := by
  have hl : l.length ≤ 120 := good_len hg
  have HC := hid (c_sGood' a l ca true hg w ha (by omega))
  have HI := hid (c_l1InT (wide : Int) true (by simp [inS]; omega))
  have HJ := hid (c_l1InT (high : Int) true (by simp [inS]; omega))
  go_enter Tryd.func6, Tryd.ntmps6
  go_wp2_with fail
  refine HC.out.mono ?_
  rintro e w1 ⟨rfl, hb1⟩
  have HB1 := hid hb1
  clear hb1
  go_wp2_with fail
  refine (HI.out _).mono ?_
  rintro e w2 ⟨rfl, rfl⟩
  go_wp2_with fail
  refine (HJ.out _).mono ?_
  rintro e w3 ⟨rfl, rfl⟩
  go_wp2
  go_loopw [8, 9] (fun o i wr => ∃ y : Nat, y ≤ high ∧ i = .int .i64 y ∧ OwnT wr w.heap.size o (rowsL l wide y) ∧ Below w.heap.size w wr) (fun _ i _ => high - (intOf i).toNat)
  case atStart => exact ⟨0, Nat.zero_le _, rfl, OwnT.nil _ _, HB1.out⟩
  case round =>
    clear HC HI HJ HB1
    obtain ⟨y, hy, rfl, hO, hbel⟩ := hrel
    have HO := hid hO
    have HB := hid hbel
    clear hO hbel
    rename World => wo
    by_cases hlt : (y : Int) < (high : Int)
    · go_wp2
      go_loopw [10, 11] (fun s i w2 => ∃ x : Nat, x ≤ wide ∧ i = .int .i64 x ∧ s = .string (rowTx l y x) ∧ Below wo.heap.size wo w2) (fun _ i _ => wide - (intOf i).toNat)
      case atStart => exact ⟨0, Nat.zero_le _, rfl, rfl, Below.refl _ _⟩
      case round =>
        rename World => w2
        obtain ⟨x, hx, rfl, rfl, hb2⟩ := hrel
        have HB2 := hid hb2
        have hsz := rowTx_size l y x
        clear hb2
        by_cases hxt : (x : Int) < (wide : Int)
        · have HS := hid (((ha.below HB.out).below HB2.out))
          cases hsb : sigB l y x
          · have HC := hid (c_l1AliveT a l ca ((x : Int), (y : Int)) false hsb w2 HS.out (by omega))
            have HT := hid (rowTx_dot hsb)
            have hs2 : ¬ 9223372036854775807 < ByteArray.size (rowTx l y x) + ByteArray.size (⟨#[46]⟩ : Tx) := by
              have : ByteArray.size (⟨#[46]⟩ : Tx) = 1 := rfl
              rw [this, hsz]; omega
            generalize rowTx l y x = sx at *
            go_wp2_with (go_at_call 23; refine HC.out.mono ?_; rintro e w3 ⟨rfl, hb3⟩)
            go_roundw
            case rel => exact ⟨x + 1, by omega, by go_num, by rw [HT.out], HB2.out.trans (hb3.mono HB2.out.size)⟩
            case measure => simp [intOf]; omega
          · have HC := hid (c_l1AliveT a l ca ((x : Int), (y : Int)) true hsb w2 HS.out (by omega))
            have HT := hid (rowTx_hash hsb)
            have hs2 : ¬ 9223372036854775807 < ByteArray.size (rowTx l y x) + ByteArray.size (⟨#[35]⟩ : Tx) := by
              have : ByteArray.size (⟨#[35]⟩ : Tx) = 1 := rfl
              rw [this, hsz]; omega
            generalize rowTx l y x = sx at *
            go_wp2_with (go_at_call 23; refine HC.out.mono ?_; rintro e w3 ⟨rfl, hb3⟩)
            go_roundw
            case rel => exact ⟨x + 1, by omega, by go_num, by rw [HT.out], HB2.out.trans (hb3.mono HB2.out.size)⟩
            case measure => simp [intOf]; omega
        · obtain rfl : x = wide := by omega
          have HRS := hid (rowsL_succ l x y)
          have HO2 := hid (HO.out.below HB2.out)
          have HB3 := hid (HB.out.trans (HB2.out.mono HB.out.size))
          have HRN := hid (rowsL_length l x y)
          generalize rowTx l y x = sx at *
          have HO3 := hid (HO2.out.below ((Below.refl w2.heap.size w2).alloc (Nat.le_refl _) (.cells #[.string sx] 9)))
          have HB4 := hid (HB3.out.alloc HB3.out.size (.cells #[.string sx] 9))
          go_wp2_with (at_builtin; refine wpList_appT rfl _ _ rfl w.heap.size _ (rowsL l x y) sx ⟨w2.heap.size, 0, none⟩ rfl HO3.out rfl (segT_block (heap_alloc_new _ _)) (by rw [HRN.out]; omega) HB4.out.size ?_; intro v4 w4 hO4 hG4)
          go_roundw
          case rel => exact ⟨y + 1, by omega, by go_num, by rw [HRS.out]; exact hO4, below_grownT HB4.out HO3.out hG4⟩
          case measure => simp [intOf]; omega
    · obtain rfl : y = high := by omega
      go_wp2
      go_ret2
      exact ⟨_, rfl, HO.out, HB.out⟩

theorem c_sRowsOf (a : Option Addr) (l : List Cl) (ca : Nat) (x y : Int) (w : World) (ha : Seg w a l) (hl : l.length ≤ 1048576) :
    Calls Tryd.prog 6 #[.slice a l.length ca, .int .i64 x, .int .i64 y] w fun e w' => ∃ v, e = .returned (.tuple #[v, .bool (rowsOfOk l x y)]) ∧ OwnT w' w.heap.size v (rowsOfL l x y) ∧ Below w.heap.size w w' := by
  cases hg : good l
  · have HC := hid (c_sGood' a l ca false hg _ ha hl)
    have HV : Hid (rowsOfL l x y = [] ∧ rowsOfOk l x y = false) := by simp [Hid, rowsOfL, rowsOfOk, hg]
    clear ha
    go_enter Tryd.func6, Tryd.ntmps6
    go_wp2_with fail
    refine HC.out.mono ?_
    rintro e w1 ⟨rfl, hb1⟩
    go_wp2
    go_ret2
    exact ⟨_, by rw [HV.out.2]; rfl, by rw [HV.out.1]; exact OwnT.nil _ _, hb1⟩
  · have HC := hid (c_sGood' a l ca true hg _ ha hl)
    cases hx : inS x
    · have HV : Hid (rowsOfL l x y = [] ∧ rowsOfOk l x y = false) := by simp [Hid, rowsOfL, rowsOfOk, hg, hx]
      have HI := hid (c_l1InT x false hx)
      clear ha
      go_enter Tryd.func6, Tryd.ntmps6
      go_wp2_with fail
      refine HC.out.mono ?_
      rintro e w1 ⟨rfl, hb1⟩
      go_wp2_with fail
      refine (HI.out _).mono ?_
      rintro e w2 ⟨rfl, rfl⟩
      go_wp2
      go_ret2
      exact ⟨_, by rw [HV.out.2]; rfl, by rw [HV.out.1]; exact OwnT.nil _ _, hb1⟩
    · have HI := hid (c_l1InT x true hx)
      cases hy : inS y
      · have HV : Hid (rowsOfL l x y = [] ∧ rowsOfOk l x y = false) := by simp [Hid, rowsOfL, rowsOfOk, hg, hx, hy]
        have HJ := hid (c_l1InT y false hy)
        clear ha
        go_enter Tryd.func6, Tryd.ntmps6
        go_wp2_with fail
        refine HC.out.mono ?_
        rintro e w1 ⟨rfl, hb1⟩
        go_wp2_with fail
        refine (HI.out _).mono ?_
        rintro e w2 ⟨rfl, rfl⟩
        go_wp2_with fail
        refine (HJ.out _).mono ?_
        rintro e w3 ⟨rfl, rfl⟩
        go_wp2
        go_ret2
        exact ⟨_, by rw [HV.out.2]; rfl, by rw [HV.out.1]; exact OwnT.nil _ _, hb1⟩
      · have HV : rowsOfL l x y = rowsL l x.toNat y.toNat ∧ rowsOfOk l x y = true := by simp [rowsOfL, rowsOfOk, hg, hx, hy]
        have bx := inS_bd hx
        have b_y := inS_bd hy
        have := c_sRowsOf_yes a l ca x.toNat y.toNat w ha hg (by omega) (by omega)
        rw [Int.toNat_of_nonneg bx.1, Int.toNat_of_nonneg b_y.1] at this
        rw [HV.1, HV.2]
        exact this

/-! The program's own. -/

theorem info_u8 : (Tryd.prog.info? 5).map (fun i => (i.zero, i.size, i.bytes)) = some (some (.int .u8 0), 1, 1) := by kernel_rfl
theorem make_Bytes (n : Nat) (hn : n ≤ 1048576) (w : World) :
    (Instr.makeSlice 22 (.int .i64 (n : Int)) (.int .i64 (n : Int))).run Tryd.prog w = .ok (.slice (some ⟨w.heap.size, 0, none⟩) n n) (w.alloc (.cells (madeCells #[.int .u8 0] n) 5)) := by
  obtain ⟨i, hi, hz, hs, hb⟩ := info_parts info_u8
  have := run_make (P := Tryd.prog) w 22 5 i _ Tryd.underlying22 hi hz .i64 .i64 n n (by omega) (Int.le_refl _) (by rw [hb]; omega) (by omega)
  simpa [hs, Value.cells] using this
/-- What stands in a row of signs of which the first x are laid. -/
def bytTo (l : List Cl) (y x j : Nat) : Value := .int .u8 (if j < x then sigN l y j else 0)
theorem made_bytes (w : World) (l : List Cl) (y n : Nat) : (w.alloc (.cells (madeCells #[.int .u8 0] n) 5)).rowIs w.heap.size 5 n (bytTo l y 0) := by
  refine ⟨_, heap_alloc_new _ _, size_madeCells _ _, fun i hi => ?_⟩
  have h2 : i % 1 = 0 := by omega
  simp [madeCells, hi, h2, bytTo]
theorem bytes_dot {w : World} {g n : Nat} {l : List Cl} {y x : Nat} (h : w.rowIs g 5 n (bytTo l y x)) (hs : sigB l y x = false) : (w.setCell ⟨g, x, none⟩ (.int .u8 46)).rowIs g 5 n (bytTo l y (x + 1)) := by
  refine (h.set x _).congr fun j hj => ?_
  by_cases h1 : j = x
  · subst h1
    simp [bytTo, sigN, hs]
  · simp only [bytTo, if_neg h1]
    by_cases h3 : j < x
    · rw [if_pos h3, if_pos (show j < x + 1 by omega)]
    · rw [if_neg h3, if_neg (show ¬ j < x + 1 by omega)]
theorem bytes_hash {w : World} {g n : Nat} {l : List Cl} {y x : Nat} {f : Nat → Value} (h : w.rowIs g 5 n f) (hf : ∀ j, j ≠ x → f j = bytTo l y x j) (hs : sigB l y x = true) : (w.setCell ⟨g, x, none⟩ (.int .u8 35)).rowIs g 5 n (bytTo l y (x + 1)) := by
  refine (h.set x _).congr fun j hj => ?_
  by_cases h1 : j = x
  · subst h1
    simp [bytTo, sigN, hs]
  · rw [if_neg h1, hf j h1]
    simp only [bytTo]
    by_cases h3 : j < x
    · rw [if_pos h3, if_pos (show j < x + 1 by omega)]
    · rw [if_neg h3, if_neg (show ¬ j < x + 1 by omega)]
theorem c_hasCellT (a : Option Addr) (l : List Cl) (ca : Nat) (c : Cl) (v : Bool) (h : decide (c ∈ l) = v) (w : World) (ha : Seg w a l) (hl : l.length ≤ 1048576) (hr : risTo l l.length = true) :
    Calls Tryd.prog 38 #[.slice a l.length ca, .agg #[.int .i64 c.1, .int .i64 c.2]] w fun e w' => e = .returned (.bool v) ∧ Below w.heap.size w w' := by
  rw [← h]; exact c_hasCell a l ca c w ha hl hr

set_option maxHeartbeats 1000000 in
theorem c_rowText (a : Option Addr) (l : List Cl) (ca : Nat) (y wide : Nat) (w : World) (ha : Seg w a l) (hg : good l = true) (hy : y ≤ 20) (hw : wide ≤ 20) :
    Calls Tryd.prog 20 #[.slice a l.length ca, .int .i64 (y : Int), .int .i64 (wide : Int)] w fun e w' => e = .returned (.string (rowTx l y wide)) ∧ Below w.heap.size w w' := by
  have hl : l.length ≤ 120 := good_len hg
  have hmk := make_Bytes wide (by omega)
  have R0 := hid (made_bytes w l y wide)
  have HR := hid (good_ris hg)
  clear hg
  go_enter Tryd.func20, Tryd.ntmps20
  go_wp2
  go_loopw [13] (fun i wr => ∃ x : Nat, x ≤ wide ∧ i = .int .i64 x ∧ wr.rowIs w.heap.size 5 wide (bytTo l y x) ∧ Below w.heap.size w wr) (fun i _ => wide - (intOf i).toNat)
  case atStart => exact ⟨0, Nat.zero_le _, rfl, R0.out, (Below.refl _ _).alloc (Nat.le_refl _) _⟩
  case round =>
    clear R0 hmk
    obtain ⟨x, hx, rfl, hR, hbel⟩ := hrel
    have HRW := hid hR
    have HB := hid hbel
    by_cases hlt : (x : Int) < (wide : Int)
    · have c1 := hR.cell (i := x) (by omega)
      have f1 := hR.frozen x
      have HB1 := hid (hbel.setCell (Nat.le_refl _) (.int .u8 46) (p := ⟨w.heap.size, x, none⟩))
      have x0 : (0 : Int) ≤ (x : Int) := by omega
      clear hR hbel
      cases hsb : sigB l y x
      · have HC := hid (c_hasCellT a l ca ((x : Int), (y : Int)) false hsb _ (ha.below HB1.out) (by omega) HR.out)
        have HD := hid (bytes_dot HRW.out hsb)
        go_wp2_with (go_at_call 38; refine HC.out.mono ?_; rintro e w2 ⟨rfl, hb2⟩)
        go_roundw
        case rel => exact ⟨x + 1, by omega, by go_num, HD.out.of_block (hb2.block _ HD.out.lt), HB1.out.trans (hb2.mono HB1.out.size)⟩
        case measure => simp [intOf]; omega
      · have HC := hid (c_hasCellT a l ca ((x : Int), (y : Int)) true hsb _ (ha.below HB1.out) (by omega) HR.out)
        have HD := hid (HRW.out.set x (.int .u8 46))
        go_wp2_with (go_at_call 38; refine HC.out.mono ?_; rintro e w2 ⟨rfl, hb2⟩; have r2 := HD.out.of_block (hb2.block _ HD.out.lt); have c2 := r2.cell (i := x) (by omega); have f2 := r2.frozen x)
        go_roundw
        case rel => exact ⟨x + 1, by omega, by go_num, bytes_hash r2 (fun j hj => by simp [hj]) hsb, (HB1.out.trans (hb2.mono HB1.out.size)).setCell (Nat.le_refl _) _⟩
        case measure => simp [intOf]; omega
    · obtain rfl : x = wide := by omega
      have hcv := run_convert_bytes_arg (P := Tryd.prog) wr 22 5 Tryd.underlying22 Tryd.underlying5 w.heap.size 0 x x ((List.range x).map (sigN l y)) (by simp) (fun i hi => by
        have := hR.cell (i := i) hi
        rw [Nat.zero_add, this]
        simp [bytTo, hi]) 9 Tryd.underlying9
      change _ = Result.ok (Value.string (rowTx l y x)) _ at hcv
      clear hR hbel
      go_wp2
      go_ret
      exact ⟨rfl, HB.out⟩

set_option maxHeartbeats 400000 in
theorem c_isSide (n : Int) (w : World) : Calls Tryd.prog 19 #[.int .i64 n] w fun e w' => e = .returned (.bool (inS n)) ∧ w' = w := by
  by_cases h1 : 0 ≤ n <;> by_cases h2 : n ≤ 20
  all_goals
    go_enter Tryd.func19, Tryd.ntmps19
    go_wp2
    go_ret
    exact ⟨ret_bool (by simp [inS, h1, h2] <;> omega), rfl⟩
theorem c_isSide' (n : Int) (v : Bool) (h : inS n = v) (w : World) : Calls Tryd.prog 19 #[.int .i64 n] w fun e w' => e = .returned (.bool v) ∧ w' = w := by
  rw [← h]; exact c_isSide n w

set_option maxHeartbeats 1000000 in
theorem c_iRowsOf_yes (a : Option Addr) (l : List Cl) (ca : Nat) (wide high : Nat) (w : World) (ha : Seg w a l) (hg : good l = true) (hw : wide ≤ 20) (hh : high ≤ 20) :
    Calls Tryd.prog 5 #[.slice a l.length ca, .int .i64 (wide : Int), .int .i64 (high : Int)] w fun e w' => ∃ v, e = .returned (.tuple #[v, .bool true]) ∧ OwnT w' w.heap.size v (rowsL l wide high) ∧ Below w.heap.size w w' := by
  have hl : l.length ≤ 120 := good_len hg
  have HG := hid hg
  have HC := hid (c_iGood' a l ca true hg w ha (by omega))
  have HI := hid (c_isSide' (wide : Int) true (by simp [inS]; omega))
  have HJ := hid (c_isSide' (high : Int) true (by simp [inS]; omega))
  have hmk := make_Strs high (by omega)
  clear hg
  go_enter Tryd.func5, Tryd.ntmps5
  go_wp2_with fail
  refine HC.out.mono ?_
  rintro e w1 ⟨rfl, hb1⟩
  have HB1 := hid hb1
  clear hb1
  go_wp2_with fail
  refine (HI.out _).mono ?_
  rintro e w2 ⟨rfl, rfl⟩
  go_wp2_with fail
  refine (HJ.out _).mono ?_
  rintro e w3 ⟨rfl, rfl⟩
  have R0 := hid ((made_own w3 high (by omega)).mono HB1.out.size)
  have HB0 := hid (HB1.out.alloc HB1.out.size (.cells (madeCells #[.string ByteArray.empty] high) 9))
  have hbl := hid (blanks_length high)
  have hrl := hid (rowsL_length l wide high)
  go_wp2
  generalize hgg : w3.heap.size = g at *
  generalize w3.alloc (.cells (madeCells #[.string ByteArray.empty] high) 9) = W0 at *
  have HGG := hid (show w.heap.size ≤ g by rw [← hgg]; exact HB1.out.size)
  clear hgg hmk HC HI HJ
  go_loopw [27] (fun i wr => ∃ y : Nat, y ≤ high ∧ i = .int .i64 y ∧ OwnT wr w.heap.size (.slice (some ⟨g, 0, none⟩) high high) (setTo (rowsL l wide high) (blanks high) y) ∧ Below w.heap.size w wr) (fun i _ => high - (intOf i).toNat)
  case atStart => exact ⟨0, Nat.zero_le _, rfl, by rw [setTo_zero]; exact R0.out, HB0.out⟩
  case round =>
    clear R0 HB0 HB1
    obtain ⟨y, hy, rfl, hO, hbel⟩ := hrel
    have HO : Hid (OwnT wr w.heap.size (.slice (some ⟨g, 0, none⟩) (blanks high).length high) (setTo (rowsL l wide high) (blanks high) y)) := by rw [hbl.out]; exact hO
    have HB := hid hbel
    by_cases hlt : (y : Int) < (high : Int)
    · have HC := hid (c_rowText a l ca y wide wr (ha.below hbel) HG.out (by omega) hw)
      have HAT := hid (rowsL_at (l := l) (wide := wide) (show y < high by omega))
      have HLL := hid (show (rowsL l wide high).length = (blanks high).length by rw [hbl.out, hrl.out])
      have y0 : (0 : Int) ≤ (y : Int) := by omega
      clear hO hbel
      go_wp2_with (go_at_call 20; refine HC.out.mono ?_; rintro e w2 ⟨rfl, hb2⟩; have HO2 := hid (HO.out.below hb2); have c2 := (ownT_cell HO2.out HLL.out (by rw [hbl.out]; omega)).1; have f2 := (ownT_cell HO2.out HLL.out (by rw [hbl.out]; omega)).2; have S2 := hid (ownT_store HO2.out HLL.out (by rw [hbl.out]; omega)); rw [HAT.out, hbl.out] at S2)
      go_roundw
      case rel => exact ⟨y + 1, by omega, by go_num, S2.out.1, below_row (HB.out.trans (hb2.mono HB.out.size)) S2.out.2 (fun k e => by simp only [Option.some.injEq] at e; subst e; exact HGG.out)⟩
      case measure => simp [intOf]; omega
    · obtain rfl : y = high := by omega
      have e1 := setTo_all (M := rowsL l wide y) (L := blanks y) (by rw [hbl.out, hrl.out])
      rw [hbl.out] at e1
      rw [e1] at hO
      go_wp2
      go_ret2
      exact ⟨_, rfl, hO, HB.out⟩

theorem c_iRowsOf (a : Option Addr) (l : List Cl) (ca : Nat) (x y : Int) (w : World) (ha : Seg w a l) (hl : l.length ≤ 1048576) :
    Calls Tryd.prog 5 #[.slice a l.length ca, .int .i64 x, .int .i64 y] w fun e w' => ∃ v, e = .returned (.tuple #[v, .bool (rowsOfOk l x y)]) ∧ OwnT w' w.heap.size v (rowsOfL l x y) ∧ Below w.heap.size w w' := by
  cases hg : good l
  · have HC := hid (c_iGood' a l ca false hg _ ha hl)
    have HV : Hid (rowsOfL l x y = [] ∧ rowsOfOk l x y = false) := by simp [Hid, rowsOfL, rowsOfOk, hg]
    clear ha
    go_enter Tryd.func5, Tryd.ntmps5
    go_wp2_with fail
    refine HC.out.mono ?_
    rintro e w1 ⟨rfl, hb1⟩
    go_wp2
    go_ret2
    exact ⟨_, by rw [HV.out.2]; rfl, by rw [HV.out.1]; exact OwnT.nil _ _, hb1⟩
  · have HC := hid (c_iGood' a l ca true hg _ ha hl)
    cases hx : inS x
    · have HV : Hid (rowsOfL l x y = [] ∧ rowsOfOk l x y = false) := by simp [Hid, rowsOfL, rowsOfOk, hg, hx]
      have HI := hid (c_isSide' x false hx)
      clear ha
      go_enter Tryd.func5, Tryd.ntmps5
      go_wp2_with fail
      refine HC.out.mono ?_
      rintro e w1 ⟨rfl, hb1⟩
      go_wp2_with fail
      refine (HI.out _).mono ?_
      rintro e w2 ⟨rfl, rfl⟩
      go_wp2
      go_ret2
      exact ⟨_, by rw [HV.out.2]; rfl, by rw [HV.out.1]; exact OwnT.nil _ _, hb1⟩
    · have HI := hid (c_isSide' x true hx)
      cases hy : inS y
      · have HV : Hid (rowsOfL l x y = [] ∧ rowsOfOk l x y = false) := by simp [Hid, rowsOfL, rowsOfOk, hg, hx, hy]
        have HJ := hid (c_isSide' y false hy)
        clear ha
        go_enter Tryd.func5, Tryd.ntmps5
        go_wp2_with fail
        refine HC.out.mono ?_
        rintro e w1 ⟨rfl, hb1⟩
        go_wp2_with fail
        refine (HI.out _).mono ?_
        rintro e w2 ⟨rfl, rfl⟩
        go_wp2_with fail
        refine (HJ.out _).mono ?_
        rintro e w3 ⟨rfl, rfl⟩
        go_wp2
        go_ret2
        exact ⟨_, by rw [HV.out.2]; rfl, by rw [HV.out.1]; exact OwnT.nil _ _, hb1⟩
      · have HV : rowsOfL l x y = rowsL l x.toNat y.toNat ∧ rowsOfOk l x y = true := by simp [rowsOfL, rowsOfOk, hg, hx, hy]
        have bx := inS_bd hx
        have b_y := inS_bd hy
        have := c_iRowsOf_yes a l ca x.toNat y.toNat w ha hg (by omega) (by omega)
        rw [Int.toNat_of_nonneg bx.1, Int.toNat_of_nonneg b_y.1] at this
        rw [HV.1, HV.2]
        exact this
theorem rowsOfL_le (l : List Cl) (x y : Int) : (rowsOfL l x y).length ≤ 20 := by
  unfold rowsOfL rowsOfOk
  split
  · rename_i h
    simp only [Bool.and_eq_true] at h
    have := inS_bd h.2
    rw [rowsL_length]; omega
  · simp
end Go.Proofs.YthmjcjcamcdpkaaDoor
