/- What both OfRows answer. -/
import Derived.Test.YthmjcjcamcdpkaaDoorMark
import Derived.Test.YthmjcjcamcdpkaaDoorByt
import Derived.Test.YthmjcjcamcdpkaaDoorOpenT
import Derived.Test.YthmjcjcamcdpkaaDoorMove
import Derived.Lib.OthersKept
namespace Go.Proofs.YthmjcjcamcdpkaaDoor
open Go.RowKit
set_option linter.unusedVariables false

/-- Are the first k signs of a row such as may stand there? -/
def signsTo (s : Tx) (k : Nat) : Bool := (List.range k).all fun i => decide (byt s i = 35) || decide (byt s i = 46)
/-- The cells of the first k signs of the row y. -/
def cellsTo (s : Tx) (y k : Nat) : List Cl := ((List.range k).filter fun i => decide (byt s i = 35)).map fun i : Nat => ((i : Int), (y : Int))
theorem signsTo_succ (s : Tx) (k : Nat) : signsTo s (k + 1) = (signsTo s k && (decide (byt s k = 35) || decide (byt s k = 46))) := by simp [signsTo, List.range_succ]
theorem cellsTo_hash {s : Tx} {y k : Nat} (h : byt s k = 35) : cellsTo s y (k + 1) = cellsTo s y k ++ [((k : Int), (y : Int))] := by simp [cellsTo, List.range_succ, h]
theorem cellsTo_dot {s : Tx} {y k : Nat} (h : ¬ byt s k = 35) : cellsTo s y (k + 1) = cellsTo s y k := by simp [cellsTo, List.range_succ, h]
theorem cellsTo_le (s : Tx) (y k : Nat) : (cellsTo s y k).length ≤ k := by
  unfold cellsTo
  rw [List.length_map]
  exact Nat.le_trans (List.length_filter_le _ _) (by simp)
theorem signsTo_false {s : Tx} {k n : Nat} (h : k < n) (h1 : ¬ byt s k = 35) (h2 : ¬ byt s k = 46) : signsTo s n = false := by
  simp only [signsTo, List.all_eq_false]
  exact ⟨k, List.mem_range.2 h, by simp [h1, h2]⟩
/-- May the row y stand among rows? -/
def rowFine (R : List Tx) (y : Nat) : Bool := decide ((tx R y).size = (tx R 0).size) && decide ((tx R y).size ≤ 20) && signsTo (tx R y) (tx R y).size
def fineTo (R : List Tx) (k : Nat) : Bool := (List.range k).all (rowFine R)
/-- The cells of the first k rows. -/
def rowsTo (R : List Tx) : Nat → List Cl
  | 0 => []
  | k + 1 => rowsTo R k ++ cellsTo (tx R k) k (tx R k).size
theorem fineTo_succ (R : List Tx) (k : Nat) : fineTo R (k + 1) = (fineTo R k && rowFine R k) := by simp [fineTo, List.range_succ]
theorem fineTo_false {R : List Tx} {k n : Nat} (h : k < n) (hk : rowFine R k = false) : fineTo R n = false := by
  simp only [fineTo, List.all_eq_false]
  exact ⟨k, List.mem_range.2 h, by simp [hk]⟩
theorem rowsTo_le (R : List Tx) (k : Nat) : (rowsTo R k).length ≤ totTo R k := by
  induction k with
  | zero => simp [rowsTo, totTo]
  | succ k ih =>
    have := cellsTo_le (tx R k) k (tx R k).size
    simp only [rowsTo, totTo, List.length_append]; omega
/-- What OfRows answers. -/
def rowsOk (R : List Tx) : Bool := fineTo R R.length && decide (R.length ≤ 20)
def ofRowsOk (R : List Tx) : Bool := rowsOk R && good (rowsTo R R.length)
def ofRowsL (R : List Tx) : List Cl := if rowsOk R then tellV (rowsTo R R.length) else []

theorem rowFine_true {R : List Tx} {k : Nat} (h1 : (tx R k).size = (tx R 0).size) (h2 : (tx R k).size ≤ 20) (h3 : signsTo (tx R k) (tx R k).size = true) : rowFine R k = true := by
  simp only [rowFine, h3, Bool.and_true, Bool.and_eq_true, decide_eq_true_eq]
  exact ⟨h1, h2⟩
theorem rowFine_len {R : List Tx} {k : Nat} (h1 : ¬ (tx R k).size = (tx R 0).size) : rowFine R k = false := by simp [rowFine, h1]
theorem rowFine_long {R : List Tx} {k : Nat} (h1 : ¬ (tx R k).size ≤ 20) : rowFine R k = false := by simp [rowFine, h1]
theorem rowFine_sign {R : List Tx} {k j : Nat} (h : j < (tx R k).size) (h1 : ¬ byt (tx R k) j = 35) (h2 : ¬ byt (tx R k) j = 46) : rowFine R k = false := by simp [rowFine, signsTo_false h h1 h2]
/-- A row that may not stand there: nothing is told. -/
theorem ofRows_no {R : List Tx} {k : Nat} (hk : k < R.length) (h : rowFine R k = false) : ofRowsOk R = false ∧ ofRowsL R = [] := by
  have e : rowsOk R = false := by simp [rowsOk, fineTo_false hk h]
  simp [ofRowsOk, ofRowsL, e]

set_option maxHeartbeats 1000000 in
theorem c_sOfRows (a : Option Addr) (R : List Tx) (ca : Nat) (w : World) (ha : TSeg w a R) (hl : tot R ≤ 1048576) :
    Calls Tryd.prog 14 #[.slice a R.length ca] w fun e w' => ∃ v, e = .returned (.tuple #[v, .bool (ofRowsOk R)]) ∧ OwnS w' w.heap.size v (ofRowsL R) ∧ Below w.heap.size w w' := by
  have hR : R.length ≤ 1048576 := by unfold tot at hl; omega
  have HL := hid hl
  clear hl
  go_enter Tryd.func14, Tryd.ntmps14
  go_wp2
  go_loopw [4, 10] (fun l i wr => ∃ k : Nat, k ≤ R.length ∧ i = .int .i64 k ∧ OwnS wr w.heap.size l (rowsTo R k) ∧ Hid (fineTo R k = true) ∧ Below w.heap.size w wr) (fun _ i _ => R.length - (intOf i).toNat)
  case atStart => exact ⟨0, Nat.zero_le _, rfl, OwnS.nil _ _, (rfl : _ = _), Below.refl _ _⟩
  case round =>
    rename_i v0
    obtain ⟨k, hk, rfl, hO, hF, hbel⟩ := hrel
    have HO := hid hO
    have HB := hid hbel
    clear hO
    by_cases hlt : k < R.length
    · obtain ⟨b1, o1, rfl, hb1, p1⟩ := ha k hlt
      obtain ⟨b2, o2, e2, hb2, p2⟩ := ha 0 (by omega)
      simp only [Option.some.injEq, Addr.mk.injEq, and_true] at e2
      obtain ⟨rfl, rfl⟩ := e2
      have g1 := (hbel.cell (p := ⟨b1, o1 + k, none⟩) hb1).trans p1
      have g2 := (hbel.cell (p := ⟨b1, o1 + 0, none⟩) hb1).trans p2
      rw [Nat.add_zero] at g2
      clear p1 p2 hbel
      have k0 : (0 : Int) ≤ (k : Int) := by omega
      have k1 : (k : Int) < (R.length : Int) := by omega
      have k2 : (0 : Int) < (R.length : Int) := by omega
      have HN := hid (ofRows_no hlt)
      have HT := hid (rowFine_true (R := R) (k := k))
      have HSG := hid (fun j h h1 h2 => rowFine_sign (R := R) (k := k) (j := j) h h1 h2)
      have HLN := hid (rowFine_len (R := R) (k := k))
      have HLG := hid (rowFine_long (R := R) (k := k))
      have HTL := hid (totTo_le R hlt)
      have HRS := hid (show rowsTo R (k + 1) = rowsTo R k ++ cellsTo (tx R k) k (tx R k).size from rfl)
      have HRL : Hid ((rowsTo R k).length ≤ 1048576) := by
        show _ ≤ _
        have h1 := rowsTo_le R k
        have h2 := totTo_mono R hk
        have h3 := HL.out
        unfold tot at h3
        omega
      generalize tx R k = s at *
      generalize tx R 0 = s0 at *
      by_cases hse : s.size = s0.size
      · by_cases h20 : (s.size : Int) ≤ 20
        · have hse' : ((s.size : Int) != (s0.size : Int)) = false := by simp [hse]
          have HSE := hid hse
          clear hse
          go_wp2
          go_loopw [4, 7] (fun l x wr => ∃ j : Nat, j ≤ s.size ∧ x = .int .i64 j ∧ OwnS wr w.heap.size l (rowsTo R k ++ cellsTo s k j) ∧ Hid (signsTo s j = true) ∧ Below w.heap.size w wr) (fun _ x _ => s.size - (intOf x).toNat)
          case atStart => exact ⟨0, Nat.zero_le _, rfl, by simpa [cellsTo] using HO.out, (rfl : _ = _), HB.out⟩
          case round =>
            clear HO HB g1 g2 hse'
            rename_i v1
            obtain ⟨j, hj, rfl, hO, hS, hbel⟩ := hrel
            have HO := hid hO
            have HB := hid hbel
            have HCL := hid (cellsTo_le s k j)
            clear hO hbel
            by_cases hjt : j < s.size
            · have j0 : (0 : Int) ≤ (j : Int) := by omega
              have j1 : (j : Int) < (s.size : Int) := by omega
              have hbt := byt_get s j hjt
              have HSS := hid (signsTo_succ s j)
              have HH := hid (cellsTo_hash (s := s) (y := k) (k := j))
              have HD := hid (cellsTo_dot (s := s) (y := k) (k := j))
              have HNO := hid (fun h1 h2 => HN.out (HSG.out j hjt h1 h2))
              generalize byt s j = q at *
              by_cases h35 : (q : Int) = 35
              · have hq : q = 35 := by omega
                have HQ := hid hq
                clear hq
                have HO2 := hid (HO.out.below ((Below.refl wr.heap.size wr).alloc (Nat.le_refl _) (.cells #[.int .i64 (j : Int), .int .i64 (k : Int)] 33)))
                have HB2 := hid (HB.out.alloc HB.out.size (.cells #[.int .i64 (j : Int), .int .i64 (k : Int)] 33))
                go_wp2_with (at_builtin; refine wpList_app' rfl _ _ rfl w.heap.size _ (rowsTo R k ++ cellsTo s k j) [((j : Int), (k : Int))] (some ⟨wr.heap.size, 0, none⟩) 1 1 rfl HO2.out rfl rfl (seg_block (heap_alloc_new _ _)) (by intro h; cases h) (by have h1 := HRL.out; have h2 := HCL.out; simp; omega) HB2.out.size ?_; intro v3 w3 hO3 hG3)
                go_roundw
                case rel => exact ⟨j + 1, by omega, by go_num, by rw [HH.out HQ.out, ← List.append_assoc]; exact hO3, (show _ = true by rw [HSS.out, hS.out, HQ.out]; rfl), below_grown HB2.out HO2.out hG3⟩
                case measure => simp [intOf]; omega
              · by_cases h46 : (q : Int) = 46
                · have hq : q = 46 := by omega
                  have HQ := hid hq
                  clear hq
                  have h46' : ((q : Int) != 46) = false := by simp [h46]
                  go_wp2
                  go_roundw
                  case rel => exact ⟨j + 1, by omega, by go_num, by rw [HD.out (by rw [HQ.out]; omega)]; exact HO.out, (show _ = true by rw [HSS.out, hS.out, HQ.out]; rfl), HB.out⟩
                  case measure => simp [intOf]; omega
                · have h46' : ((q : Int) != 46) = true := by simp [h46]
                  have HQ := hid (HNO.out (by omega) (by omega))
                  go_wp2
                  go_ret2
                  exact ⟨_, by rw [HQ.out.1]; rfl, by rw [HQ.out.2]; exact OwnS.nil _ _, HB.out⟩
            · obtain rfl : j = s.size := by omega
              have HFT := hid (HT.out HSE.out (by omega) hS.out)
              go_wp2
              go_roundw
              case rel => exact ⟨k + 1, by omega, by go_num, by rw [HRS.out]; exact HO.out, (show _ = true by rw [fineTo_succ, hF.out, HFT.out]; rfl), HB.out⟩
              case measure => simp [intOf]; omega
        · have hse' : ((s.size : Int) != (s0.size : Int)) = false := by simp [hse]
          have HQ := hid (HN.out (HLG.out (by omega)))
          clear hse
          go_wp2
          go_ret2
          exact ⟨_, by rw [HQ.out.1]; rfl, by rw [HQ.out.2]; exact OwnS.nil _ _, HB.out⟩
      · have hse' : ((s.size : Int) != (s0.size : Int)) = true := by simp; omega
        have HQ := hid (HN.out (HLN.out hse))
        clear hse
        go_wp2
        go_ret2
        exact ⟨_, by rw [HQ.out.1]; rfl, by rw [HQ.out.2]; exact OwnS.nil _ _, HB.out⟩
    · obtain rfl : k = R.length := by omega
      clear hbel
      by_cases h20 : (R.length : Int) ≤ 20
      · have HV : Hid (ofRowsOk R = good (rowsTo R R.length) ∧ ofRowsL R = tellV (rowsTo R R.length)) := by
          have e : rowsOk R = true := by simp [rowsOk, hF.out]; omega
          simp [Hid, ofRowsOk, ofRowsL, e]
        have HRL : Hid ((rowsTo R R.length).length ≤ 1048576) := by
          show _ ≤ _
          have h1 := rowsTo_le R R.length
          have h3 := HL.out
          unfold tot at h3
          omega
        generalize rowsTo R R.length = X at *
        obtain ⟨av, cv, rfl, hSv⟩ := HO.out.form
        have hnv := HO.out.cap0
        have HT := hid (c_l1Tell av X cv wr hSv HRL.out hnv)
        clear hSv
        go_wp2_with fail
        refine HT.out.mono ?_
        rintro e w5 ⟨v5, rfl, hO5, hB5⟩
        go_wp2
        go_ret2
        exact ⟨_, by rw [HV.out.1]; rfl, by rw [HV.out.2]; exact hO5.mono HB.out.size, HB.out.trans (hB5.mono HB.out.size)⟩
      · have HV : Hid (ofRowsOk R = false ∧ ofRowsL R = []) := by
          have e : rowsOk R = false := by simp [rowsOk]; intro; omega
          simp [Hid, ofRowsOk, ofRowsL, e]
        go_wp2
        go_ret2
        exact ⟨_, by rw [HV.out.1]; rfl, by rw [HV.out.2]; exact OwnS.nil _ _, HB.out⟩

theorem iterAt_grown {w : World} {B : Nat} (s : ByteArray) (pos : Nat) : w.grownBy (w.iterAt B s pos) (some B) :=
  ⟨rfl, rfl, rfl, by rw [Lib.iterAt_size]; exact Nat.le_refl _, fun k _ hne => Lib.iterAt_other w B k s pos (fun e => hne (by rw [e]))⟩
theorem OwnS.ne_iter {w : World} {base B : Nat} {v : Value} {l : List Cl} {s : ByteArray} {pos : Nat} (h : OwnS w base v l) (hk : w.heap[B]? = some (.stringIter s pos)) : ∀ k, v.ownBlock = some k → some B ≠ some k := by
  intro k hv e
  simp only [Option.some.injEq] at e
  subst e
  rcases h.2 with ⟨rfl, _⟩ | ⟨g, cap, cur, rfl, _, hg, _⟩
  · simp [Value.ownBlock] at hv
  · simp [Value.ownBlock] at hv
    subst hv
    rw [hg] at hk
    cases hk
theorem OwnS.iterAt {w : World} {base B : Nat} {v : Value} {l : List Cl} {s : ByteArray} {pos : Nat} (h : OwnS w base v l) (hk : w.heap[B]? = some (.stringIter s pos)) (pos' : Nat) : OwnS (w.iterAt B s pos') base v l :=
  own_keep h (iterAt_grown s pos') (h.ne_iter hk)
theorem iter_lt {w : World} {B : Nat} {s : ByteArray} {pos : Nat} (hk : w.heap[B]? = some (.stringIter s pos)) : B < w.heap.size := (Array.getElem?_eq_some_iff.1 hk).1
theorem iter_alloc {w : World} {B : Nat} {s : ByteArray} {pos : Nat} (hk : w.heap[B]? = some (.stringIter s pos)) (o : Obj) : (w.alloc o).heap[B]? = some (.stringIter s pos) := by
  have := iter_lt hk
  rw [← hk]
  exact ((Below.refl w.heap.size w).alloc (Nat.le_refl _) o).block B this
theorem iter_grown {w w' : World} {B : Nat} {s : ByteArray} {pos : Nat} {row : Option Nat} (hk : w.heap[B]? = some (.stringIter s pos)) (hG : w.grownBy w' row) (hne : row ≠ some B) : w'.heap[B]? = some (.stringIter s pos) :=
  (hG.block B (iter_lt hk) (fun e => hne e.symm)).trans hk

set_option maxHeartbeats 1000000 in
theorem c_iOfRows (a : Option Addr) (R : List Tx) (ca : Nat) (w : World) (ha : TSeg w a R) (hl : tot R ≤ 1048576) :
    Calls Tryd.prog 8 #[.slice a R.length ca] w fun e w' => ∃ v, e = .returned (.tuple #[v, .bool (ofRowsOk R)]) ∧ OwnS w' w.heap.size v (ofRowsL R) ∧ Below w.heap.size w w' := by
  have hR : R.length ≤ 1048576 := by unfold tot at hl; omega
  have HL := hid hl
  clear hl
  by_cases hr20 : (R.length : Int) ≤ 20
  · go_enter Tryd.func8, Tryd.ntmps8
    go_wp2
    go_loopw [4, 14] (fun l i wr => ∃ k : Nat, k ≤ R.length ∧ i = .int .i64 k ∧ OwnS wr w.heap.size l (rowsTo R k) ∧ Hid (fineTo R k = true) ∧ Below w.heap.size w wr) (fun _ i _ => R.length - (intOf i).toNat)
    case atStart => exact ⟨0, Nat.zero_le _, rfl, OwnS.nil _ _, (rfl : _ = _), Below.refl _ _⟩
    case round =>
      rename_i v0
      obtain ⟨k, hk, rfl, hO, hF, hbel⟩ := hrel
      have HO := hid hO
      have HB := hid hbel
      clear hO
      by_cases hlt : k < R.length
      · obtain ⟨b1, o1, rfl, hb1, p1⟩ := ha k hlt
        obtain ⟨b2, o2, e2, hb2, p2⟩ := ha 0 (by omega)
        simp only [Option.some.injEq, Addr.mk.injEq, and_true] at e2
        obtain ⟨rfl, rfl⟩ := e2
        have g1 := (hbel.cell (p := ⟨b1, o1 + k, none⟩) hb1).trans p1
        have g2 := (hbel.cell (p := ⟨b1, o1 + 0, none⟩) hb1).trans p2
        rw [Nat.add_zero] at g2
        clear p1 p2 hbel
        have k0 : (0 : Int) ≤ (k : Int) := by omega
        have k1 : (k : Int) < (R.length : Int) := by omega
        have k2 : (0 : Int) < (R.length : Int) := by omega
        have HN := hid (ofRows_no hlt)
        have HT := hid (rowFine_true (R := R) (k := k))
        have HSG := hid (fun j h h1 h2 => rowFine_sign (R := R) (k := k) (j := j) h h1 h2)
        have HLN := hid (rowFine_len (R := R) (k := k))
        have HLG := hid (rowFine_long (R := R) (k := k))
        have HRS := hid (show rowsTo R (k + 1) = rowsTo R k ++ cellsTo (tx R k) k (tx R k).size from rfl)
        have HRL : Hid ((rowsTo R k).length ≤ 1048576) := by
          show _ ≤ _
          have h1 := rowsTo_le R k
          have h2 := totTo_mono R hk
          have h3 := HL.out
          unfold tot at h3
          omega
        generalize tx R k = s at *
        generalize tx R 0 = s0 at *
        by_cases h20 : (s.size : Int) ≤ 20
        · by_cases hse : s.size = s0.size
          · have hse' : ((s.size : Int) != (s0.size : Int)) = false := by simp [hse]
            have HSE := hid hse
            clear hse
            have HBI := hid HB.out.size
            have HB0 := hid (HB.out.alloc HB.out.size (.stringIter s 0))
            have HO0 := hid (HO.out.below ((Below.refl wr.heap.size wr).alloc (Nat.le_refl _) (.stringIter s 0)))
            have HI0 := hid (show (wr.alloc (.stringIter s 0)).heap[wr.heap.size]? = some (.stringIter s 0) from heap_alloc_new _ _)
            go_wp2
            change Code.wp _ _ _ _ (wr.alloc (.stringIter s 0))
            generalize hBB : wr.heap.size = B at *
            generalize wr.alloc (.stringIter s 0) = W0 at *
            clear hBB
            go_loopw [4] (fun l w2 => ∃ j : Nat, j ≤ s.size ∧ OwnS w2 w.heap.size l (rowsTo R k ++ cellsTo s k j) ∧ w2.heap[B]? = some (.stringIter s j) ∧ Hid (signsTo s j = true) ∧ Below w.heap.size w w2) (fun _ w2 => s.size - w2.iterPos B)
            case atStart => exact ⟨0, Nat.zero_le _, by simpa [cellsTo] using HO0.out, HI0.out, (rfl : _ = _), HB0.out⟩
            case round =>
              clear HO HB g1 g2 hse' HO0 HB0 HI0
              obtain ⟨j, hj, hO, hit, hS, hbel⟩ := hrel
              have HP : Hid (wr.iterPos B = j) := by simp [Hid, World.iterPos, hit]
              have HCL := hid (cellsTo_le s k j)
              by_cases hjt : j < s.size
              · have HSS := hid (signsTo_succ s j)
                have HH := hid (cellsTo_hash (s := s) (y := k) (k := j))
                have HD := hid (cellsTo_dot (s := s) (y := k) (k := j))
                have HNO := hid (fun h1 h2 => HN.out (HSG.out j hjt h1 h2))
                by_cases hasc : byt s j < 128
                · have hnx : ∀ ty, (Instr.next (.pointer (some ⟨B, 0, none⟩)) true ty).run Tryd.prog wr = .ok (.tuple #[.bool true, .int .i64 j, .int .i32 (byt s j)]) (wr.iterAt B s (j + 1)) := by
                    intro ty
                    rw [Lib.run_next_ascii_at wr B s j ty hit hjt (by rw [byt_get]; exact hasc), byt_get]
                  have HO := hid (hO.iterAt hit (j + 1))
                  have HI := hid (Lib.iterAt_heap wr B s j (j + 1) hit)
                  have HB := hid (Lib.below_iterAt hbel HBI.out s (j + 1))
                  have HPO := hid (show s.size - (wr.iterAt B s (j + 1)).iterPos B < s.size - wr.iterPos B by rw [HP.out]; simp [World.iterPos, HI.out]; omega)
                  clear hO hit hbel HP
                  generalize byt s j = q at *
                  generalize wr.iterAt B s (j + 1) = W1 at *
                  by_cases h35 : (q : Int) = 35
                  · have hq : q = 35 := by omega
                    have HQ := hid hq
                    clear hq
                    have HO2 := hid (HO.out.below ((Below.refl W1.heap.size W1).alloc (Nat.le_refl _) (.cells #[.int .i64 (j : Int), .int .i64 (k : Int)] 33)))
                    have HB2 := hid (HB.out.alloc HB.out.size (.cells #[.int .i64 (j : Int), .int .i64 (k : Int)] 33))
                    have HI2 := hid (iter_alloc HI.out (.cells #[.int .i64 (j : Int), .int .i64 (k : Int)] 33))
                    go_wp2_with (at_builtin; refine wpList_app' rfl _ _ rfl w.heap.size _ (rowsTo R k ++ cellsTo s k j) [((j : Int), (k : Int))] (some ⟨W1.heap.size, 0, none⟩) 1 1 rfl HO2.out rfl rfl (seg_block (heap_alloc_new _ _)) (by intro h; cases h) (by have h1 := HRL.out; have h2 := HCL.out; simp; omega) HB2.out.size ?_; intro v3 w3 hO3 hG3)
                    have HI3 := hid (iter_grown HI2.out hG3 (fun e => HO2.out.ne_iter HI2.out _ e rfl))
                    have HP3 : Hid (s.size - w3.iterPos B < s.size - wr.iterPos B) := by
                      show _ < _
                      have h1 := HPO.out
                      simp only [World.iterPos, HI.out, HI3.out] at h1 ⊢
                      exact h1
                    go_roundw
                    case rel => exact ⟨j + 1, by omega, by rw [HH.out HQ.out, ← List.append_assoc]; exact hO3, HI3.out, (show _ = true by rw [HSS.out, hS.out, HQ.out]; rfl), below_grown HB2.out HO2.out hG3⟩
                    case measure => exact HP3.out
                  · by_cases h46 : (q : Int) = 46
                    · have hq : q = 46 := by omega
                      have HQ := hid hq
                      clear hq
                      go_wp2
                      go_roundw
                      case rel => exact ⟨j + 1, by omega, by rw [HD.out (by rw [HQ.out]; omega)]; exact HO.out, HI.out, (show _ = true by rw [HSS.out, hS.out, HQ.out]; rfl), HB.out⟩
                      case measure => exact HPO.out
                    · have HQ := hid (HNO.out (by omega) (by omega))
                      go_wp2
                      go_ret2
                      exact ⟨_, by rw [HQ.out.1]; rfl, by rw [HQ.out.2]; exact OwnS.nil _ _, HB.out⟩
                · have HQ := hid (HNO.out (by omega) (by omega))
                  have hdh := (decode_high s j hjt (by rw [byt_get]; omega)).1
                  have hnx : ∀ ty, (Instr.next (.pointer (some ⟨B, 0, none⟩)) true ty).run Tryd.prog wr = _ := fun ty => Lib.run_next_any_at wr B s j ty hit hjt
                  have HB := hid (Lib.below_iterAt hbel HBI.out s (j + (Utf8.decode s j).2))
                  clear hO hit hbel HP
                  generalize (Utf8.decode s j).1 = r at *
                  generalize wr.iterAt B s (j + (Utf8.decode s j).2) = W1 at *
                  have n35 : ¬ (r : Int) = 35 := by omega
                  have n46 : ¬ (r : Int) = 46 := by omega
                  go_wp2
                  go_ret2
                  exact ⟨_, by rw [HQ.out.1]; rfl, by rw [HQ.out.2]; exact OwnS.nil _ _, HB.out⟩
              · obtain rfl : j = s.size := by omega
                have hnx : ∀ ty, (Instr.next (.pointer (some ⟨B, 0, none⟩)) true ty).run Tryd.prog wr = _ := fun ty => Lib.run_next_end_at wr B s s.size ty hit hjt
                have HFT := hid (HT.out HSE.out (by omega) hS.out)
                have HO := hid hO
                have HB := hid hbel
                clear hO hit hbel HP
                go_wp2
                go_roundw
                case rel => exact ⟨k + 1, by omega, by go_num, by rw [HRS.out]; exact HO.out, (show _ = true by rw [fineTo_succ, hF.out, HFT.out]; rfl), HB.out⟩
                case measure => simp [intOf]; omega
          · have hse' : ((s.size : Int) != (s0.size : Int)) = true := by simp; omega
            have HQ := hid (HN.out (HLN.out hse))
            clear hse
            go_wp2
            go_ret2
            exact ⟨_, by rw [HQ.out.1]; rfl, by rw [HQ.out.2]; exact OwnS.nil _ _, HB.out⟩
        · have HQ := hid (HN.out (HLG.out (by omega)))
          go_wp2
          go_ret2
          exact ⟨_, by rw [HQ.out.1]; rfl, by rw [HQ.out.2]; exact OwnS.nil _ _, HB.out⟩
      · obtain rfl : k = R.length := by omega
        clear hbel
        have HV : Hid (ofRowsOk R = good (rowsTo R R.length) ∧ ofRowsL R = tellV (rowsTo R R.length)) := by
          have e : rowsOk R = true := by simp [rowsOk, hF.out]; omega
          simp [Hid, ofRowsOk, ofRowsL, e]
        have HRL : Hid ((rowsTo R R.length).length ≤ 1048576) := by
          show _ ≤ _
          have h1 := rowsTo_le R R.length
          have h3 := HL.out
          unfold tot at h3
          omega
        generalize rowsTo R R.length = X at *
        obtain ⟨av, cv, rfl, hSv⟩ := HO.out.form
        have HT := hid (c_onlyGood av X cv w.heap.size wr HO.out hSv HRL.out)
        clear hSv
        go_wp2_with fail
        refine HT.out.mono ?_
        rintro e w5 ⟨v5, rfl, hO5, hB5⟩
        go_wp2
        go_ret2
        exact ⟨_, by rw [HV.out.1]; rfl, by rw [HV.out.2]; exact hO5, HB.out.trans (hB5.mono HB.out.size)⟩
  · have HV : Hid (ofRowsOk R = false ∧ ofRowsL R = []) := by
      have e : rowsOk R = false := by simp [rowsOk]; intro; omega
      simp [Hid, ofRowsOk, ofRowsL, e]
    go_enter Tryd.func8, Tryd.ntmps8
    go_wp2
    go_ret2
    exact ⟨_, by rw [HV.out.1]; rfl, by rw [HV.out.2]; exact OwnS.nil _ _, Below.refl _ _⟩

end Go.Proofs.YthmjcjcamcdpkaaDoor
