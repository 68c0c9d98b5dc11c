/- FnRows answers true at every argument: cells come back from their rows, and a text is its signs one behind the other, for drawn cells. The listed variables hold what their initialisers lay (the card ties them). (Written by wip/tools/mkrows.py.) -/
import Derived.Test.YthmjcjcamcdpkaaDoorCards
import Derived.Test.YthmjcjcamcdpkaaDoorTie
import Derived.Test.YthmjcjcamcdpkaaDoorOpen
import Derived.Test.YthmjcjcamcdpkaaDoorDrawX
import Derived.Test.YthmjcjcamcdpkaaDoorRowsM
import Derived.Test.YthmjcjcamcdpkaaDoorRdC
import Derived.Test.YthmjcjcamcdpkaaDoorErr
import Derived.Deep.DeepHandedRow
import Derived.Deep.DeepWitnessRowRef
import Derived.Lib.LaidTab
namespace Go.Proofs.YthmjcjcamcdpkaaDoor.lRows
open Go.RowKit Go.ChangeShapes Go.WideShapes Go.ChangeAt
set_option linter.unusedVariables false

theorem ofRowsL_le' (R : List Tx) : (ofRowsL R).length ≤ 120 := by
  unfold ofRowsL
  split
  · exact tellV_le _
  · simp
theorem rowsOfL_len (l : List Cl) (x y : Int) : (rowsOfL l x y).length ≤ 20 := by
  unfold rowsOfL
  split
  · rename_i ho
    rw [rowsL_length]
    unfold rowsOfOk at ho
    simp only [Bool.and_eq_true] at ho
    have := inS_bd ho.2
    omega
  · simp
def catB (T : List Tx) : Tx := ⟨(catT T).toArray⟩
theorem catB_step {T : List Tx} {k : Nat} (h : k < T.length) : catB (T.take k) ++ tx T k = catB (T.take (k + 1)) := by
  have e : T.take (k + 1) = T.take k ++ [tx T k] := by
    rw [List.take_succ_eq_append_getElem h]
    simp [tx, h]
  rw [e]
  apply ByteArray.ext
  rw [ByteArray.data_append]
  simp [catB, catT_snoc]
theorem catB_eq {T : List Tx} {t : Tx} (h : catT T = t.data.toList) : catB T = t := by
  unfold catB
  rw [h]
theorem catB_take_le (T : List Tx) (j : Nat) : (catB (T.take j)).size ≤ (catB T).size := by
  have e : catT T = catT (T.take j) ++ catT (T.drop j) := by
    unfold catT
    rw [← List.flatMap_append, List.take_append_drop]
  show (catT (T.take j)).toArray.size ≤ (catT T).toArray.size
  rw [e]
  simp
theorem c_lhasCell' (a : Option Addr) (l : List Cl) (ca : Nat) (c : Cl) (v : Bool) (hv : decide (c ∈ l) = v) (w : World) (ha : Seg w a l) (hl : l.length ≤ 1048576) :
    Calls Tryd.prog 9 #[.slice a l.length ca, .agg #[.int .i64 c.1, .int .i64 c.2]] w fun e w' => e = .returned (.bool v) ∧ Below w.heap.size w w' := by
  rw [← hv]; exact c_lhasCell a l ca c w ha hl

set_option maxHeartbeats 8000000 in
set_option maxRecDepth 100000 in
theorem walk (a0 : Option Addr) (l0 : List Int) (c0 : Nat) (a1 : Option Addr) (l1 : List Int) (c1 : Nat) (w0 : World) (ha : BSeg w0 a0 l0) (hm0 : l0.length ≤ maxLen) (hb : BSeg w0 a1 l1) (hm1 : l1.length ≤ maxLen) (hL : laidMetH Tryd.prog Rows.fnRowsRow.laid w0) :
    Calls Tryd.prog 3 #[.slice a0 l0.length c0, .slice a1 l1.length c1] w0 fun e w' => e = .returned (.bool true) ∧ Below w0.heap.size w0 w' := by
  obtain ⟨ev, hv, hev⟩ := errRange hL
  have EV := hid (show EvAt w0 ev from ⟨hv, lt_cell hv⟩)
  have HE := hid hev
  clear hL hv hev
  unfold maxLen at hm0 hm1
  by_cases hl : wrap64 ((l0.length : Int) + (l1.length : Int)) ≤ 1048576
  · have SM := hid hb
    have BB := hid (Below.refl w0.heap.size w0)
    have HA := hid ha
    clear ha hb
    go_enter Tryd.func3, Tryd.ntmps3
    go_wp2_with fail
    refine (c_DrawRowsOf a0 l0 c0 w0 HA.out (by omega)).mono ?_
    rintro e w1 ⟨v, L, x, y, rfl, o, hL, hsL, hx1, hx2, hy1, hy2, b⟩
    replace SM := hid (SM.out.below b)
    replace EV := hid (EV.out.below b)
    replace BB := hid (BB.out.trans (b.mono BB.out.size))
    clear b
    obtain ⟨aL, cL, rfl, _⟩ := o.form
    have OL := hid o
    clear o
    clear hsL HA
    go_wp2_with fail
    refine (c_iRowsOf aL L cL x y w1 OL.out.seg (by omega)).mono ?_
    rintro e w2 ⟨v, rfl, o, b⟩
    replace SM := hid (SM.out.below b)
    replace EV := hid (EV.out.below b)
    replace OL := hid (OL.out.below b)
    replace BB := hid (BB.out.trans (b.mono BB.out.size))
    clear b
    obtain ⟨aR, cR, rfl, _⟩ := o.form
    have OR := hid o
    clear o
    go_wp2_with fail
    refine (c_sRowsOf aL L cL x y w2 OL.out.seg (by omega)).mono ?_
    rintro e w3 ⟨v, rfl, o, b⟩
    replace SM := hid (SM.out.below b)
    replace EV := hid (EV.out.below b)
    replace OL := hid (OL.out.below b)
    replace OR := hid (OR.out.below b)
    replace BB := hid (BB.out.trans (b.mono BB.out.size))
    clear b
    obtain ⟨aW, cW, rfl, _⟩ := o.form
    have OW := hid o
    clear o
    have RB := hid (ofRows_rows (l := L) (x := x) (y := y))
    have hRl := rowsOfL_len L x y
    have HT := hid (tot_le (rowsOfL_size L x y))
    generalize rowsOfOk L x y = ok at *
    generalize rowsOfL L x y = R at *
    have d0 : decide (R = R) = true := by simp
    have d9 : (ok != ok) = false := by simp
    go_wp2_with fail
    refine (c_sameTexts aR aW R R cR cW w3 OR.out.seg OW.out.seg (by omega) (by omega)).mono ?_
    rintro e w4 ⟨rfl, b⟩
    replace SM := hid (SM.out.below b)
    replace EV := hid (EV.out.below b)
    replace OL := hid (OL.out.below b)
    replace OR := hid (OR.out.below b)
    replace OW := hid (OW.out.below b)
    replace BB := hid (BB.out.trans (b.mono BB.out.size))
    clear b
    clear OW
    cases ok
    case false =>
      clear RB d9 d0 HT
      clear OL OR
      go_wp2_with fail
      refine (c_DrawRunTokens a1 l1 c1 w4 SM.out (by omega)).mono ?_
      rintro e w5 ⟨t, rfl, ht, b⟩
      replace SM := hid (SM.out.below b)
      replace EV := hid (EV.out.below b)
      replace BB := hid (BB.out.trans (b.mono BB.out.size))
      clear b
      have F := hid (tok_cat (s := t))
      have hk := tokT_le t
      go_wp2_with fail
      refine (c_iRunTokens t w5 ev (by unfold maxLen; omega) EV.out.1 HE.out).mono ?_
      rintro e w6 ⟨v, rfl, o, b⟩
      replace SM := hid (SM.out.below b)
      replace EV := hid (EV.out.below b)
      replace BB := hid (BB.out.trans (b.mono BB.out.size))
      clear b
      obtain ⟨aK, cK, rfl, _⟩ := o.form
      have OK := hid o
      clear o
      go_wp2_with fail
      refine (c_sRunTokens t w6 (by unfold maxLen; omega)).mono ?_
      rintro e w7 ⟨v, rfl, o, b⟩
      replace SM := hid (SM.out.below b)
      replace EV := hid (EV.out.below b)
      replace OK := hid (OK.out.below b)
      replace BB := hid (BB.out.trans (b.mono BB.out.size))
      clear b
      obtain ⟨aT, cT, rfl, _⟩ := o.form
      have OT := hid o
      clear o
      go_wp2_with fail
      refine (c_DrawOfRows a1 l1 c1 w7 SM.out (by omega)).mono ?_
      rintro e w8 ⟨v, Q, rfl, o, hq1, hq2, b⟩
      replace SM := hid (SM.out.below b)
      replace EV := hid (EV.out.below b)
      replace OK := hid (OK.out.below b)
      replace OT := hid (OT.out.below b)
      replace BB := hid (BB.out.trans (b.mono BB.out.size))
      clear b
      obtain ⟨aQ, cQ, rfl, _⟩ := o.form
      have OQ := hid o
      clear o
      have HQ := hid hq1
      clear hq1
      have hle := ofRowsL_le' Q
      go_wp2_with fail
      refine (c_iOfRows aQ Q cQ w8 OQ.out.seg HQ.out).mono ?_
      rintro e w9 ⟨v, rfl, o, b⟩
      replace SM := hid (SM.out.below b)
      replace EV := hid (EV.out.below b)
      replace OK := hid (OK.out.below b)
      replace OT := hid (OT.out.below b)
      replace OQ := hid (OQ.out.below b)
      replace BB := hid (BB.out.trans (b.mono BB.out.size))
      clear b
      obtain ⟨aX, cX, rfl, _⟩ := o.form
      have OX := hid o
      clear o
      go_wp2_with fail
      refine (c_sOfRows aQ Q cQ w9 OQ.out.seg HQ.out).mono ?_
      rintro e w10 ⟨v, rfl, o, b⟩
      replace SM := hid (SM.out.below b)
      replace EV := hid (EV.out.below b)
      replace OK := hid (OK.out.below b)
      replace OT := hid (OT.out.below b)
      replace OQ := hid (OQ.out.below b)
      replace OX := hid (OX.out.below b)
      replace BB := hid (BB.out.trans (b.mono BB.out.size))
      clear b
      obtain ⟨aY, cY, rfl, _⟩ := o.form
      have OY := hid o
      clear o
      clear OQ
      clear HQ
      generalize ofOk t = ok at *
      generalize tokT t = T at *
      generalize ofRowsOk Q = oq at *
      generalize ofRowsL Q = X at *
      have d1 : decide (T = T) = true := by simp
      have d2 : (ok != ok) = false := by simp
      have d3 : (oq != oq) = false := by simp
      have d4 : decide (X = X) = true := by simp
      go_wp2_with fail
      refine (c_sameTexts aK aT T T cK cT w10 OK.out.seg OT.out.seg (by omega) (by omega)).mono ?_
      rintro e w11 ⟨rfl, b⟩
      replace SM := hid (SM.out.below b)
      replace EV := hid (EV.out.below b)
      replace OK := hid (OK.out.below b)
      replace OT := hid (OT.out.below b)
      replace OX := hid (OX.out.below b)
      replace OY := hid (OY.out.below b)
      replace BB := hid (BB.out.trans (b.mono BB.out.size))
      clear b
      clear OT
      go_wp2_with fail
      refine (c_sameCells aX aY X X cX cY w11 OX.out.seg OY.out.seg (by omega) (by omega)).mono ?_
      rintro e w12 ⟨rfl, b⟩
      replace SM := hid (SM.out.below b)
      replace EV := hid (EV.out.below b)
      replace OK := hid (OK.out.below b)
      replace OX := hid (OX.out.below b)
      replace OY := hid (OY.out.below b)
      replace BB := hid (BB.out.trans (b.mono BB.out.size))
      clear b
      clear OX OY
      clear SM EV
      cases ok
      case false =>
        go_wp2
        go_ret
        exact ⟨rfl, BB.out⟩
      case true =>
        have F' := hid (F.out (by first | rfl | trivial))
        clear F d1 d2 d3 d4
        go_wp2
        go_loopw [28, 166] (fun a i wr => ∃ k : Nat, k ≤ T.length ∧ i = .int .i64 k ∧ a = .string (catB (T.take k)) ∧ Below w12.heap.size w12 wr) (fun _ i _ => T.length - (intOf i).toNat)
        case atStart => exact ⟨0, Nat.zero_le _, rfl, rfl, Below.refl _ _⟩
        case round =>
          obtain ⟨k, hkk, rfl, rfl, hbel⟩ := hrel
          by_cases hlt : k < T.length
          · obtain ⟨b1, o1, rfl, hb1, p1⟩ := OK.out.seg k hlt
            have g1 := (hbel.cell (p := ⟨b1, o1 + k, none⟩) hb1).trans p1
            have hw1 : b1 < wr.heap.size := Nat.lt_of_lt_of_le hb1 hbel.size
            clear p1
            have k0 : (0 : Int) ≤ (k : Int) := by omega
            have k1 : (k : Int) < (T.length : Int) := by omega
            have HS := hid (catB_step hlt)
            have hsz : (catB (T.take k)).size + (tx T k).size ≤ 183 := by rw [← ByteArray.size_append', HS.out]; exact Nat.le_trans (catB_take_le T _) (by rw [catB_eq F'.out]; exact ht)
            go_wp2
            go_roundw
            case rel => exact ⟨k + 1, by omega, by go_num, by rw [HS.out], hbel⟩
            case measure => simp [intOf]; omega
          · have hkl : k = T.length := by omega
            subst hkl
            have d5 : catB (T.take T.length) = t := by rw [List.take_length]; exact catB_eq F'.out
            rw [d5] at *
            have d6 : (t.toList == t.toList) = true := by rw [bytes_beq]; simp
            go_wp2
            go_ret
            first | exact ⟨rfl, BB.out.trans (hbel.mono BB.out.size)⟩ | exact ⟨ret_bool (by simp), BB.out.trans (hbel.mono BB.out.size)⟩
    case true =>
      have R0 := hid (RB.out (by first | rfl | trivial))
      clear RB d9
      go_wp2_with fail
      refine (c_iOfRows aR R cR w4 OR.out.seg (by have := HT.out; omega)).mono ?_
      rintro e w5 ⟨v, rfl, o, b⟩
      replace SM := hid (SM.out.below b)
      replace EV := hid (EV.out.below b)
      replace OL := hid (OL.out.below b)
      replace OR := hid (OR.out.below b)
      replace BB := hid (BB.out.trans (b.mono BB.out.size))
      clear b
      obtain ⟨aB, cB, rfl, _⟩ := o.form
      have OB := hid o
      clear o
      clear HT
      have hlB := ofRowsL_le' R
      generalize ofRowsOk R = one at *
      generalize ofRowsL R = B at *
      cases one
      case false =>
        clear R0 d0
        clear OL OR OB
        go_wp2_with fail
        refine (c_DrawRunTokens a1 l1 c1 w5 SM.out (by omega)).mono ?_
        rintro e w6 ⟨t, rfl, ht, b⟩
        replace SM := hid (SM.out.below b)
        replace EV := hid (EV.out.below b)
        replace BB := hid (BB.out.trans (b.mono BB.out.size))
        clear b
        have F := hid (tok_cat (s := t))
        have hk := tokT_le t
        go_wp2_with fail
        refine (c_iRunTokens t w6 ev (by unfold maxLen; omega) EV.out.1 HE.out).mono ?_
        rintro e w7 ⟨v, rfl, o, b⟩
        replace SM := hid (SM.out.below b)
        replace EV := hid (EV.out.below b)
        replace BB := hid (BB.out.trans (b.mono BB.out.size))
        clear b
        obtain ⟨aK, cK, rfl, _⟩ := o.form
        have OK := hid o
        clear o
        go_wp2_with fail
        refine (c_sRunTokens t w7 (by unfold maxLen; omega)).mono ?_
        rintro e w8 ⟨v, rfl, o, b⟩
        replace SM := hid (SM.out.below b)
        replace EV := hid (EV.out.below b)
        replace OK := hid (OK.out.below b)
        replace BB := hid (BB.out.trans (b.mono BB.out.size))
        clear b
        obtain ⟨aT, cT, rfl, _⟩ := o.form
        have OT := hid o
        clear o
        go_wp2_with fail
        refine (c_DrawOfRows a1 l1 c1 w8 SM.out (by omega)).mono ?_
        rintro e w9 ⟨v, Q, rfl, o, hq1, hq2, b⟩
        replace SM := hid (SM.out.below b)
        replace EV := hid (EV.out.below b)
        replace OK := hid (OK.out.below b)
        replace OT := hid (OT.out.below b)
        replace BB := hid (BB.out.trans (b.mono BB.out.size))
        clear b
        obtain ⟨aQ, cQ, rfl, _⟩ := o.form
        have OQ := hid o
        clear o
        have HQ := hid hq1
        clear hq1
        have hle := ofRowsL_le' Q
        go_wp2_with fail
        refine (c_iOfRows aQ Q cQ w9 OQ.out.seg HQ.out).mono ?_
        rintro e w10 ⟨v, rfl, o, b⟩
        replace SM := hid (SM.out.below b)
        replace EV := hid (EV.out.below b)
        replace OK := hid (OK.out.below b)
        replace OT := hid (OT.out.below b)
        replace OQ := hid (OQ.out.below b)
        replace BB := hid (BB.out.trans (b.mono BB.out.size))
        clear b
        obtain ⟨aX, cX, rfl, _⟩ := o.form
        have OX := hid o
        clear o
        go_wp2_with fail
        refine (c_sOfRows aQ Q cQ w10 OQ.out.seg HQ.out).mono ?_
        rintro e w11 ⟨v, rfl, o, b⟩
        replace SM := hid (SM.out.below b)
        replace EV := hid (EV.out.below b)
        replace OK := hid (OK.out.below b)
        replace OT := hid (OT.out.below b)
        replace OQ := hid (OQ.out.below b)
        replace OX := hid (OX.out.below b)
        replace BB := hid (BB.out.trans (b.mono BB.out.size))
        clear b
        obtain ⟨aY, cY, rfl, _⟩ := o.form
        have OY := hid o
        clear o
        clear OQ
        clear HQ
        generalize ofOk t = ok at *
        generalize tokT t = T at *
        generalize ofRowsOk Q = oq at *
        generalize ofRowsL Q = X at *
        have d1 : decide (T = T) = true := by simp
        have d2 : (ok != ok) = false := by simp
        have d3 : (oq != oq) = false := by simp
        have d4 : decide (X = X) = true := by simp
        go_wp2_with fail
        refine (c_sameTexts aK aT T T cK cT w11 OK.out.seg OT.out.seg (by omega) (by omega)).mono ?_
        rintro e w12 ⟨rfl, b⟩
        replace SM := hid (SM.out.below b)
        replace EV := hid (EV.out.below b)
        replace OK := hid (OK.out.below b)
        replace OT := hid (OT.out.below b)
        replace OX := hid (OX.out.below b)
        replace OY := hid (OY.out.below b)
        replace BB := hid (BB.out.trans (b.mono BB.out.size))
        clear b
        clear OT
        go_wp2_with fail
        refine (c_sameCells aX aY X X cX cY w12 OX.out.seg OY.out.seg (by omega) (by omega)).mono ?_
        rintro e w13 ⟨rfl, b⟩
        replace SM := hid (SM.out.below b)
        replace EV := hid (EV.out.below b)
        replace OK := hid (OK.out.below b)
        replace OX := hid (OX.out.below b)
        replace OY := hid (OY.out.below b)
        replace BB := hid (BB.out.trans (b.mono BB.out.size))
        clear b
        clear OX OY
        clear SM EV
        cases ok
        case false =>
          go_wp2
          go_ret
          exact ⟨rfl, BB.out⟩
        case true =>
          have F' := hid (F.out (by first | rfl | trivial))
          clear F d1 d2 d3 d4
          go_wp2
          go_loopw [28, 166] (fun a i wr => ∃ k : Nat, k ≤ T.length ∧ i = .int .i64 k ∧ a = .string (catB (T.take k)) ∧ Below w13.heap.size w13 wr) (fun _ i _ => T.length - (intOf i).toNat)
          case atStart => exact ⟨0, Nat.zero_le _, rfl, rfl, Below.refl _ _⟩
          case round =>
            obtain ⟨k, hkk, rfl, rfl, hbel⟩ := hrel
            by_cases hlt : k < T.length
            · obtain ⟨b1, o1, rfl, hb1, p1⟩ := OK.out.seg k hlt
              have g1 := (hbel.cell (p := ⟨b1, o1 + k, none⟩) hb1).trans p1
              have hw1 : b1 < wr.heap.size := Nat.lt_of_lt_of_le hb1 hbel.size
              clear p1
              have k0 : (0 : Int) ≤ (k : Int) := by omega
              have k1 : (k : Int) < (T.length : Int) := by omega
              have HS := hid (catB_step hlt)
              have hsz : (catB (T.take k)).size + (tx T k).size ≤ 183 := by rw [← ByteArray.size_append', HS.out]; exact Nat.le_trans (catB_take_le T _) (by rw [catB_eq F'.out]; exact ht)
              go_wp2
              go_roundw
              case rel => exact ⟨k + 1, by omega, by go_num, by rw [HS.out], hbel⟩
              case measure => simp [intOf]; omega
            · have hkl : k = T.length := by omega
              subst hkl
              have d5 : catB (T.take T.length) = t := by rw [List.take_length]; exact catB_eq F'.out
              rw [d5] at *
              have d6 : (t.toList == t.toList) = true := by rw [bytes_beq]; simp
              go_wp2
              go_ret
              first | exact ⟨rfl, BB.out.trans (hbel.mono BB.out.size)⟩ | exact ⟨ret_bool (by simp), BB.out.trans (hbel.mono BB.out.size)⟩
      case true =>
        have R1 := R0.out (by first | rfl | trivial)
        have F1 := hid R1.1
        have F2 := hid R1.2.1
        have F3 := hid R1.2.2
        clear R0 R1
        go_wp2
        go_loopw [75] (fun i wr => ∃ k : Nat, k ≤ L.length ∧ i = .int .i64 k ∧ Below w5.heap.size w5 wr) (fun i _ => L.length - (intOf i).toNat)
        case atStart => exact ⟨0, Nat.zero_le _, rfl, Below.refl _ _⟩
        case round =>
          obtain ⟨k, hkk, rfl, hbel⟩ := hrel
          by_cases hlt : k < L.length
          · obtain ⟨b1, o1, rfl, hb1, p1, p2⟩ := OL.out.seg k hlt
            have g1 := (hbel.cell (p := ⟨b1, o1 + k * 2, none⟩) hb1).trans p1
            have g2 := (hbel.cell (p := ⟨b1, o1 + k * 2 + 1, none⟩) hb1).trans p2
            change _ = some (Value.int .i64 (at_ L k).1) at g1
            change _ = some (Value.int .i64 (at_ L k).2) at g2
            clear p1 p2
            have hw1 : b1 < wr.heap.size := Nat.lt_of_lt_of_le hb1 hbel.size
            have k0 : (0 : Int) ≤ (k : Int) := by omega
            have k1 : (k : Int) < (L.length : Int) := by omega
            have SB := hid (OB.out.seg.below hbel)
            have hm : decide (at_ L k ∈ L) = true := by simpa using mem_at.2 ⟨k, hlt, rfl⟩
            have HF := F1.out (at_ L k)
            rw [hm] at HF
            clear hm
            generalize at_ L k = c at *
            have n0 := fun g : Gr (wr.alloc (.cells #[.int .i64 c.1, .int .i64 c.2] 33)) => g.cell (cell_new0 wr (.int .i64 c.1) (.int .i64 c.2) 33) (by simp)
            have n1 := fun g : Gr (wr.alloc (.cells #[.int .i64 c.1, .int .i64 c.2] 33)) => g.cell (cell_new1 wr (.int .i64 c.1) (.int .i64 c.2) 33) (by simp)
            have hne := Gr.ne (wr.alloc (.cells #[.int .i64 c.1, .int .i64 c.2] 33))
            have SG := fun g : Gr (wr.alloc (.cells #[.int .i64 c.1, .int .i64 c.2] 33)) => hid ((SB.out.below ((Below.refl _ _).alloc (Nat.le_refl _) _)).below g.below)
            clear F1 F2 F3 OL OB OR BB SM EV SB
            by_cases h1 : 0 ≤ c.1
            · have e1 : decide (0 ≤ c.1) = true := decide_eq_true h1
              by_cases h2 : c.1 < x
              · have e2 : decide (c.1 < x) = true := decide_eq_true h2
                by_cases h3 : 0 ≤ c.2
                · have e3 : decide (0 ≤ c.2) = true := decide_eq_true h3
                  by_cases h4 : c.2 < y
                  · have e4 : decide (c.2 < y) = true := decide_eq_true h4
                    have HV : Hid (decide (c ∈ B) = true) := by show decide (c ∈ B) = true; rw [HF, e1, e2, e3, e4]; simp
                    clear HF
                    go_wp2
                    refine wp_region_gr (by kernel_rfl) (by kernel_rfl) ?_
                    repeat (go_big_quiet_step (first | (go_at_call 9; exact Calls.gr _ (c_lhasCell' aB B cB c true HV.out _ (SG _).out (by omega)))))
                    refine wpQuiet_nil ?_
                    rintro _ ⟨g, rfl⟩
                    clear n0 n1
                    go_wp2
                    go_roundw
                    case rel => exact ⟨k + 1, by omega, by go_num, (hbel.alloc hbel.size _).trans (g.below.mono (by simp; have := hbel.size; omega))⟩
                    case measure => simp [intOf]; omega
                  · have e4 : decide (c.2 < y) = false := decide_eq_false h4
                    have HV : Hid (decide (c ∈ B) = false) := by show decide (c ∈ B) = false; rw [HF, e1, e2, e3, e4]; simp
                    clear HF
                    go_wp2
                    refine wp_region_gr (by kernel_rfl) (by kernel_rfl) ?_
                    repeat (go_big_quiet_step (first | (go_at_call 9; exact Calls.gr _ (c_lhasCell' aB B cB c false HV.out _ (SG _).out (by omega)))))
                    refine wpQuiet_nil ?_
                    rintro _ ⟨g, rfl⟩
                    clear n0 n1
                    go_wp2
                    go_roundw
                    case rel => exact ⟨k + 1, by omega, by go_num, (hbel.alloc hbel.size _).trans (g.below.mono (by simp; have := hbel.size; omega))⟩
                    case measure => simp [intOf]; omega
                · have e3 : decide (0 ≤ c.2) = false := decide_eq_false h3
                  have HV : Hid (decide (c ∈ B) = false) := by show decide (c ∈ B) = false; rw [HF, e1, e2, e3]; simp
                  clear HF
                  go_wp2
                  refine wp_region_gr (by kernel_rfl) (by kernel_rfl) ?_
                  repeat (go_big_quiet_step (first | (go_at_call 9; exact Calls.gr _ (c_lhasCell' aB B cB c false HV.out _ (SG _).out (by omega)))))
                  refine wpQuiet_nil ?_
                  rintro _ ⟨g, rfl⟩
                  clear n0 n1
                  go_wp2
                  go_roundw
                  case rel => exact ⟨k + 1, by omega, by go_num, (hbel.alloc hbel.size _).trans (g.below.mono (by simp; have := hbel.size; omega))⟩
                  case measure => simp [intOf]; omega
              · have e2 : decide (c.1 < x) = false := decide_eq_false h2
                have HV : Hid (decide (c ∈ B) = false) := by show decide (c ∈ B) = false; rw [HF, e1, e2]; simp
                clear HF
                go_wp2
                refine wp_region_gr (by kernel_rfl) (by kernel_rfl) ?_
                repeat (go_big_quiet_step (first | (go_at_call 9; exact Calls.gr _ (c_lhasCell' aB B cB c false HV.out _ (SG _).out (by omega)))))
                refine wpQuiet_nil ?_
                rintro _ ⟨g, rfl⟩
                clear n0 n1
                go_wp2
                go_roundw
                case rel => exact ⟨k + 1, by omega, by go_num, (hbel.alloc hbel.size _).trans (g.below.mono (by simp; have := hbel.size; omega))⟩
                case measure => simp [intOf]; omega
            · have e1 : decide (0 ≤ c.1) = false := decide_eq_false h1
              have HV : Hid (decide (c ∈ B) = false) := by show decide (c ∈ B) = false; rw [HF, e1]; simp
              clear HF
              go_wp2
              refine wp_region_gr (by kernel_rfl) (by kernel_rfl) ?_
              repeat (go_big_quiet_step (first | (go_at_call 9; exact Calls.gr _ (c_lhasCell' aB B cB c false HV.out _ (SG _).out (by omega)))))
              refine wpQuiet_nil ?_
              rintro _ ⟨g, rfl⟩
              clear n0 n1
              go_wp2
              go_roundw
              case rel => exact ⟨k + 1, by omega, by go_num, (hbel.alloc hbel.size _).trans (g.below.mono (by simp; have := hbel.size; omega))⟩
              case measure => simp [intOf]; omega
          · have k1 : (L.length : Int) ≤ (k : Int) := by omega
            replace SM := hid (SM.out.below hbel)
            replace EV := hid (EV.out.below hbel)
            replace OL := hid (OL.out.below hbel)
            replace OR := hid (OR.out.below hbel)
            replace OB := hid (OB.out.below hbel)
            replace BB := hid (BB.out.trans (hbel.mono BB.out.size))
            clear F1 hbel
            have CC := hid (c_iRowsOf aB B cB x y wr OB.out.seg (by omega))
            rw [F2.out, F3.out] at CC
            go_wp2_with fail
            refine CC.out.mono ?_
            rintro e w6 ⟨v, rfl, o, b⟩
            replace SM := hid (SM.out.below b)
            replace EV := hid (EV.out.below b)
            replace OL := hid (OL.out.below b)
            replace OR := hid (OR.out.below b)
            replace OB := hid (OB.out.below b)
            replace BB := hid (BB.out.trans (b.mono BB.out.size))
            clear b CC
            obtain ⟨aA, cA, rfl, _⟩ := o.form
            have OA := hid o
            clear o
            go_wp2_with fail
            refine (c_sameTexts aA aR R R cA cR w6 OA.out.seg OR.out.seg (by omega) (by omega)).mono ?_
            rintro e w7 ⟨rfl, b⟩
            replace SM := hid (SM.out.below b)
            replace EV := hid (EV.out.below b)
            replace OL := hid (OL.out.below b)
            replace OR := hid (OR.out.below b)
            replace OB := hid (OB.out.below b)
            replace OA := hid (OA.out.below b)
            replace BB := hid (BB.out.trans (b.mono BB.out.size))
            clear b
            clear F2 F3 d0
            clear OA OB OL OR
            go_wp2_with fail
            refine (c_DrawRunTokens a1 l1 c1 w7 SM.out (by omega)).mono ?_
            rintro e w8 ⟨t, rfl, ht, b⟩
            replace SM := hid (SM.out.below b)
            replace EV := hid (EV.out.below b)
            replace BB := hid (BB.out.trans (b.mono BB.out.size))
            clear b
            have F := hid (tok_cat (s := t))
            have hk := tokT_le t
            go_wp2_with fail
            refine (c_iRunTokens t w8 ev (by unfold maxLen; omega) EV.out.1 HE.out).mono ?_
            rintro e w9 ⟨v, rfl, o, b⟩
            replace SM := hid (SM.out.below b)
            replace EV := hid (EV.out.below b)
            replace BB := hid (BB.out.trans (b.mono BB.out.size))
            clear b
            obtain ⟨aK, cK, rfl, _⟩ := o.form
            have OK := hid o
            clear o
            go_wp2_with fail
            refine (c_sRunTokens t w9 (by unfold maxLen; omega)).mono ?_
            rintro e w10 ⟨v, rfl, o, b⟩
            replace SM := hid (SM.out.below b)
            replace EV := hid (EV.out.below b)
            replace OK := hid (OK.out.below b)
            replace BB := hid (BB.out.trans (b.mono BB.out.size))
            clear b
            obtain ⟨aT, cT, rfl, _⟩ := o.form
            have OT := hid o
            clear o
            go_wp2_with fail
            refine (c_DrawOfRows a1 l1 c1 w10 SM.out (by omega)).mono ?_
            rintro e w11 ⟨v, Q, rfl, o, hq1, hq2, b⟩
            replace SM := hid (SM.out.below b)
            replace EV := hid (EV.out.below b)
            replace OK := hid (OK.out.below b)
            replace OT := hid (OT.out.below b)
            replace BB := hid (BB.out.trans (b.mono BB.out.size))
            clear b
            obtain ⟨aQ, cQ, rfl, _⟩ := o.form
            have OQ := hid o
            clear o
            have HQ := hid hq1
            clear hq1
            have hle := ofRowsL_le' Q
            go_wp2_with fail
            refine (c_iOfRows aQ Q cQ w11 OQ.out.seg HQ.out).mono ?_
            rintro e w12 ⟨v, rfl, o, b⟩
            replace SM := hid (SM.out.below b)
            replace EV := hid (EV.out.below b)
            replace OK := hid (OK.out.below b)
            replace OT := hid (OT.out.below b)
            replace OQ := hid (OQ.out.below b)
            replace BB := hid (BB.out.trans (b.mono BB.out.size))
            clear b
            obtain ⟨aX, cX, rfl, _⟩ := o.form
            have OX := hid o
            clear o
            go_wp2_with fail
            refine (c_sOfRows aQ Q cQ w12 OQ.out.seg HQ.out).mono ?_
            rintro e w13 ⟨v, rfl, o, b⟩
            replace SM := hid (SM.out.below b)
            replace EV := hid (EV.out.below b)
            replace OK := hid (OK.out.below b)
            replace OT := hid (OT.out.below b)
            replace OQ := hid (OQ.out.below b)
            replace OX := hid (OX.out.below b)
            replace BB := hid (BB.out.trans (b.mono BB.out.size))
            clear b
            obtain ⟨aY, cY, rfl, _⟩ := o.form
            have OY := hid o
            clear o
            clear OQ
            clear HQ
            generalize ofOk t = ok at *
            generalize tokT t = T at *
            generalize ofRowsOk Q = oq at *
            generalize ofRowsL Q = X at *
            have d1 : decide (T = T) = true := by simp
            have d2 : (ok != ok) = false := by simp
            have d3 : (oq != oq) = false := by simp
            have d4 : decide (X = X) = true := by simp
            go_wp2_with fail
            refine (c_sameTexts aK aT T T cK cT w13 OK.out.seg OT.out.seg (by omega) (by omega)).mono ?_
            rintro e w14 ⟨rfl, b⟩
            replace SM := hid (SM.out.below b)
            replace EV := hid (EV.out.below b)
            replace OK := hid (OK.out.below b)
            replace OT := hid (OT.out.below b)
            replace OX := hid (OX.out.below b)
            replace OY := hid (OY.out.below b)
            replace BB := hid (BB.out.trans (b.mono BB.out.size))
            clear b
            clear OT
            go_wp2_with fail
            refine (c_sameCells aX aY X X cX cY w14 OX.out.seg OY.out.seg (by omega) (by omega)).mono ?_
            rintro e w15 ⟨rfl, b⟩
            replace SM := hid (SM.out.below b)
            replace EV := hid (EV.out.below b)
            replace OK := hid (OK.out.below b)
            replace OX := hid (OX.out.below b)
            replace OY := hid (OY.out.below b)
            replace BB := hid (BB.out.trans (b.mono BB.out.size))
            clear b
            clear OX OY
            clear SM EV
            cases ok
            case false =>
              go_wp2
              go_ret
              exact ⟨rfl, BB.out⟩
            case true =>
              have F' := hid (F.out (by first | rfl | trivial))
              clear F d1 d2 d3 d4
              go_wp2
              go_loopw [28, 166] (fun a i wr => ∃ k : Nat, k ≤ T.length ∧ i = .int .i64 k ∧ a = .string (catB (T.take k)) ∧ Below w15.heap.size w15 wr) (fun _ i _ => T.length - (intOf i).toNat)
              case atStart => exact ⟨0, Nat.zero_le _, rfl, rfl, Below.refl _ _⟩
              case round =>
                obtain ⟨k, hkk, rfl, rfl, hbel⟩ := hrel
                by_cases hlt : k < T.length
                · obtain ⟨b1, o1, rfl, hb1, p1⟩ := OK.out.seg k hlt
                  have g1 := (hbel.cell (p := ⟨b1, o1 + k, none⟩) hb1).trans p1
                  have hw1 : b1 < wr.heap.size := Nat.lt_of_lt_of_le hb1 hbel.size
                  clear p1
                  have k0 : (0 : Int) ≤ (k : Int) := by omega
                  have k1 : (k : Int) < (T.length : Int) := by omega
                  have HS := hid (catB_step hlt)
                  have hsz : (catB (T.take k)).size + (tx T k).size ≤ 183 := by rw [← ByteArray.size_append', HS.out]; exact Nat.le_trans (catB_take_le T _) (by rw [catB_eq F'.out]; exact ht)
                  go_wp2
                  go_roundw
                  case rel => exact ⟨k + 1, by omega, by go_num, by rw [HS.out], hbel⟩
                  case measure => simp [intOf]; omega
                · have hkl : k = T.length := by omega
                  subst hkl
                  have d5 : catB (T.take T.length) = t := by rw [List.take_length]; exact catB_eq F'.out
                  rw [d5] at *
                  have d6 : (t.toList == t.toList) = true := by rw [bytes_beq]; simp
                  go_wp2
                  go_ret
                  first | exact ⟨rfl, BB.out.trans (hbel.mono BB.out.size)⟩ | exact ⟨ret_bool (by simp), BB.out.trans (hbel.mono BB.out.size)⟩
  · have hz : (1048576 : Int) < wrap64 ((l0.length : Int) + (l1.length : Int)) := by omega
    go_enter Tryd.func3, Tryd.ntmps3
    go_wp2
    go_ret
    exact ⟨rfl, Below.refl _ _⟩

set_option maxRecDepth 100000 in
theorem contract (H : Type) (enc : TypeId × Value → H) (W : World) (base : Nat) (args : Array Value) (ds gs : List (DataW H)) (before : List MemPlace)
    (hval0 : ∀ (j : Nat) t v, Tryd.f3.params[j]? = some t → args[j]? = some v → Value.okWide Tryd.prog W .any base t v)
    (hW : DataW.Whole enc Tryd.prog Tryd.f3.params.toList Rows.fnRowsSpec.vars false W args.toList ds gs before) (hL : laidMetH Tryd.prog Rows.fnRowsRow.laid W) :
    Calls Tryd.prog 3 args W fun e W' => ∃ v, e = .returned v ∧ Rows.fnRowsSpec.post enc Tryd.prog Tryd.f3 false true false false W args v W' := by
  have hcnd : True := trivial
  have hval : ∀ (j : Nat) t v, Tryd.f3.params[j]? = some t → args[j]? = some v → Value.okWide Tryd.prog W .any base t v := hval0
  have hW' := hW
  obtain ⟨p, q, hA0, hV, rfl, hfz, hnd⟩ := hW
  have hA : DataW.TrodAll enc Tryd.prog W 0 (fun _ => true) true Tryd.f3.params.toList args.toList ds p := hA0
  rw [Tryd.params3] at hA hval
  obtain ⟨v0, vs0, d0, ds0, p0, q0, hargs, rfl, rfl, h0, r0⟩ := trodAll_cons hA
  obtain ⟨v1, vs1, d1, ds1, p1, q1, rfl, rfl, rfl, h1, r1⟩ := trodAll_cons r0
  obtain ⟨rfl, rfl, rfl⟩ := trodAll_nil r1
  obtain rfl : args = #[v0, v1] := by cases args; simp_all
  obtain ⟨rfl, rfl⟩ := trodVars_none hV
  have k0 := h0
  have lt0 : ∀ x ∈ p0, x.block < W.heap.size := by obtain ⟨m, hm⟩ := k0; exact DataW.trod_lt m _ _ _ hm
  obtain ⟨a0, len0, cap0, rfl⟩ := okWide_slice Tryd.underlying22 (hval 0 22 v0 rfl rfl)
  obtain ⟨l0, rfl, m0, s0⟩ : ∃ l : List Int, l.length = len0 ∧ l.length ≤ maxLen ∧ BSeg W a0 l := by
    obtain ⟨fuel, hf⟩ := h0
    exact open_bytes hf
  have k1 := h1
  have lt1 : ∀ x ∈ p1, x.block < W.heap.size := by obtain ⟨m, hm⟩ := k1; exact DataW.trod_lt m _ _ _ hm
  obtain ⟨a1, len1, cap1, rfl⟩ := okWide_slice Tryd.underlying22 (hval 1 22 v1 rfl rfl)
  obtain ⟨l1, rfl, m1, s1⟩ : ∃ l : List Int, l.length = len1 ∧ l.length ≤ maxLen ∧ BSeg W a1 l := by
    obtain ⟨fuel, hf⟩ := h1
    exact open_bytes hf
  clear hA0 hval0
  refine (walk a0 l0 cap0 a1 l1 cap1 W s0 m0 s1 m1 hL).mono fun e W' ⟨he, bel⟩ => ?_
  subst he
  exact ⟨_, rfl, _, _, _, [], _, [], hW', trodAll_mk1 (shut_bool Tryd.underlying4 _), (trodAll_cons_mk (Below.trod laidOut (by kernel_rfl) (of_decide_eq_true (by kernel_rfl)) k0 bel lt0) (trodAll_cons_mk (Below.trod laidOut (by kernel_rfl) (of_decide_eq_true (by kernel_rfl)) k1 bel lt1) trodAll_mk0)), rfl, bel.frame _, fun h => by cases h⟩

/-- A world for the witness: the settled one, the listed variables holding what their initialisers lay. -/
noncomputable def laidWorld (os : Os) : World :=
  { (World.holding Tryd.prog os ⟨#[], #[], []⟩) with heap := ((((((((World.holding Tryd.prog os ⟨#[], #[], []⟩).heap.modify 3 fun
      | .cells _ t frozen => .cells #[.int .u8 0, .int .u8 1, .int .u8 28, .int .u8 2, .int .u8 29, .int .u8 14, .int .u8 24, .int .u8 3, .int .u8 30, .int .u8 22, .int .u8 20, .int .u8 15, .int .u8 25, .int .u8 17, .int .u8 4, .int .u8 8, .int .u8 31, .int .u8 27, .int .u8 13, .int .u8 23, .int .u8 21, .int .u8 19, .int .u8 16, .int .u8 7, .int .u8 26, .int .u8 12, .int .u8 18, .int .u8 6, .int .u8 11, .int .u8 5, .int .u8 10, .int .u8 9] t frozen
      | o => o).modify 4 fun
      | .cells _ t frozen => .cells #[.int .u8 0, .int .u8 1, .int .u8 56, .int .u8 2, .int .u8 57, .int .u8 49, .int .u8 28, .int .u8 3, .int .u8 61, .int .u8 58, .int .u8 42, .int .u8 50, .int .u8 38, .int .u8 29, .int .u8 17, .int .u8 4, .int .u8 62, .int .u8 47, .int .u8 59, .int .u8 36, .int .u8 45, .int .u8 43, .int .u8 51, .int .u8 22, .int .u8 53, .int .u8 39, .int .u8 33, .int .u8 30, .int .u8 24, .int .u8 18, .int .u8 12, .int .u8 5, .int .u8 63, .int .u8 55, .int .u8 48, .int .u8 27, .int .u8 60, .int .u8 41, .int .u8 37, .int .u8 16, .int .u8 46, .int .u8 35, .int .u8 44, .int .u8 21, .int .u8 52, .int .u8 32, .int .u8 23, .int .u8 11, .int .u8 54, .int .u8 26, .int .u8 40, .int .u8 15, .int .u8 34, .int .u8 20, .int .u8 31, .int .u8 10, .int .u8 25, .int .u8 14, .int .u8 19, .int .u8 9, .int .u8 13, .int .u8 8, .int .u8 7, .int .u8 6] t frozen
      | o => o).modify 2 fun
      | .cells _ t frozen => .cells #[.int .u64 1, .int .u64 10, .int .u64 100, .int .u64 1000, .int .u64 10000, .int .u64 100000, .int .u64 1000000, .int .u64 10000000, .int .u64 100000000, .int .u64 1000000000, .int .u64 10000000000, .int .u64 100000000000, .int .u64 1000000000000, .int .u64 10000000000000, .int .u64 100000000000000, .int .u64 1000000000000000, .int .u64 10000000000000000, .int .u64 100000000000000000, .int .u64 1000000000000000000, .int .u64 10000000000000000000] t frozen
      | o => o).modify 1 fun
      | .cells _ t frozen => .cells #[.iface 116 (.pointer (some ⟨(World.holding Tryd.prog os ⟨#[], #[], []⟩).heap.size + 0, 0, none⟩))] t frozen
      | o => o).modify 0 fun
      | .cells _ t frozen => .cells #[.iface 116 (.pointer (some ⟨(World.holding Tryd.prog os ⟨#[], #[], []⟩).heap.size + 1, 0, none⟩))] t frozen
      | o => o).push (.cells #[.string ⟨#[118, 97, 108, 117, 101, 32, 111, 117, 116, 32, 111, 102, 32, 114, 97, 110, 103, 101]⟩] 118)).push (.cells #[.string ⟨#[105, 110, 118, 97, 108, 105, 100, 32, 115, 121, 110, 116, 97, 120]⟩] 118)) }
theorem laid_met (os : Os) : laidMet Tryd.prog Rows.fnRowsRow.laid ((laidWorld os).forCall (fun _ _ => 0) ⟨#[], #[.slice none 0 0, .slice none 0 0], []⟩).memory :=
  laidMet_of_run' 8 (by kernel_rfl) (by kernel_rfl)
theorem reads (os : Os) {H : Type} (enc : TypeId × Value → H) : ∃ places, DataW.whole enc Tryd.prog ((laidWorld os).forCall (fun _ _ => 0) ⟨#[], #[.slice none 0 0, .slice none 0 0], []⟩).memory Tryd.f3.params.toList Rows.fnRowsSpec.vars false (#[.slice none 0 0, .slice none 0 0] : Array Value).toList 8 = some ([.nil, .nil], [], places) :=
  ⟨[], by kernel_rfl⟩
set_option maxRecDepth 100000 in
theorem lifted (os : Os) (started : os.Started) (H : Type) (enc : TypeId × Value → H) (F' : Stop.Interp) :
    ReturnsInHanded {} Tryd.checked os 3 .any ((OpenSpec.ofChange Rows.fnRowsSpec).preRow enc Tryd.prog Tryd.f3 Rows.fnRowsRow.domain false Rows.fnRowsRow.laid) (((OpenSpec.ofChange Rows.fnRowsSpec).at F').post enc Tryd.prog Tryd.f3 false true false false) := by
  obtain ⟨places, hx⟩ := reads os enc
  refine returnsInHanded_of_row (C := Tryd.checked) (s := OpenSpec.ofChange Rows.fnRowsSpec) own started (by kernel_rfl) Tryd.func3
    (witness_row_atRef (enc := enc) (C := Tryd.checked) false (laidWorld os) #[.slice none 0 0, .slice none 0 0] rfl (by kernel_rfl) (by kernel_rfl) (by kernel_rfl)
      (OpenSpec.preRow_of_cond 8 hx (by kernel_rfl) (fun k hk => by cases hk) (by kernel_rfl) (laid_met os))) ?_
  intro W base args ds gs before hval hW _ _ _ hL _ _
  exact contract H enc W base args ds gs before hval hW hL
theorem said : Rows.FnRowsSaid :=
  OpenClaim.holds_of_cond 3 Tryd.f3 rfl rfl rfl rfl rfl rfl rfl ⟨rfl, rfl, rfl, rfl, rfl⟩ rfl rfl rfl rfl rfl (by kernel_rfl) Tryd.func3 (by kernel_rfl)
    (of_decide_eq_true (by kernel_rfl)) (by unfold Func.isWrapper; first | (rw [if_pos (by decide +kernel)]; kernel_rfl) | (rw [if_neg (by decide +kernel)]; exact ⟨rfl, rfl⟩))
    (fun os started H enc _ F' => by rw [OpenClaim.pre_eq_preRow]; exact lifted os started H enc F')
theorem plain (f : FuncId) (fn : Func) (hf : Tryd.pinned.checked.prog.funcNamed "loop.example/g00613/laws.FnRows" = some f) (hfn : Tryd.pinned.checked.prog.funcs[f]? = some fn) :
    true = Tryd.pinned.checked.prog.looks [] ∧ ∀ (j : Nat) t, fn.params[j]? = some t → Tryd.pinned.checked.prog.wantsStandIn t = false := by
  obtain rfl : f = 3 := Option.some.inj ((show Tryd.prog.funcNamed "loop.example/g00613/laws.FnRows" = some 3 by kernel_rfl).symm.trans hf) |>.symm
  obtain rfl : fn = Tryd.f3 := (Option.some.inj (Tryd.func3.symm.trans hfn)).symm
  refine ⟨by kernel_rfl, fun j t ht => ?_⟩
  rw [Tryd.params3] at ht
  obtain rfl : t = 22 := by simpa using Array.mem_of_getElem? ht
  exact (show Tryd.prog.wantsStandIn 22 = false by kernel_rfl)
theorem card : Rows.FnRowsCardSaid :=
  Claim7.holds_tied_plain_at .later [] _ _ _ _ said (fun _ h => by cases h) (by kernel_rfl) (fun _ h => by cases h) fnRows_row_tie rfl ⟨rfl, rfl⟩ (by kernel_rfl) rfl plain (by kernel_rfl)
end Go.Proofs.YthmjcjcamcdpkaaDoor.lRows
namespace Go.Proofs.YthmjcjcamcdpkaaDoor
/-- THE STATEMENT. -/
theorem rows_holds : Rows.FnRowsCardSaid := lRows.card
#print axioms rows_holds
end Go.Proofs.YthmjcjcamcdpkaaDoor
