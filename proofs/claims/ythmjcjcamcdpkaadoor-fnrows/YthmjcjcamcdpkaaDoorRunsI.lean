/- What the program's runsText answers. -/
import Derived.Test.YthmjcjcamcdpkaaDoorRunsN
import Derived.Test.YthmjcjcamcdpkaaDoorBld
namespace Go.Proofs.YthmjcjcamcdpkaaDoor
open Go.RowKit
set_option linter.unusedVariables false

set_option maxHeartbeats 1000000 in
set_option maxRecDepth 100000 in
theorem c_writeRun (B b : Nat) (acc : List UInt8) (z : Int) (s : UInt8) (w : World) (h : BI B b (Lib.byteCells acc) w) (hz0 : 0 ≤ z) (hz : z < 100) (hl : acc.length ≤ 100000) (hBw : B ≤ w.heap.size) :
    Calls Tryd.prog 57 #[.pointer (some ⟨b, 0, none⟩), .int .i64 z, .int .u8 (s.toNat : Int)] w fun e w' => e = .returned (.tuple #[]) ∧ BI B b (Lib.byteCells (acc ++ runB z.toNat s)) w' ∧ Below B w w' ∧ OK b w w' := by
  by_cases h0 : z ≤ 0
  · obtain rfl : z = 0 := by omega
    have HI := hid h
    clear h
    go_enter Tryd.func57, Tryd.ntmps57
    go_wp2
    go_end0
    exact ⟨rfl, by simpa [runB] using HI.out, Below.refl _ _, Lib.OthersKept.refl _ _ _⟩
  · by_cases h1 : z ≤ 1
    · obtain rfl : z = 1 := by omega
      have HC := hid (c_WriteByte B b (Lib.byteCells acc) (s.toNat : Int) w h (by rw [Lib.byteCells_length]; omega) hBw)
      clear h
      go_enter Tryd.func57, Tryd.ntmps57
      go_wp2_with (go_at_call 59; refine HC.out.mono ?_; rintro e w1 ⟨rfl, hb1, hB1, hK1⟩)
      go_end0
      refine ⟨rfl, ?_, hB1, hK1⟩
      have e : Lib.byteCells (acc ++ runB (1 : Int).toNat s) = Lib.byteCells acc ++ [.int .u8 (s.toNat : Int)] := by
        rw [Lib.byteCells_append]; rfl
      rw [e]
      exact .inr hb1
    · have HI := hid (Tryd.strconv_Itoa_small z.toNat (by omega) w)
      rw [Int.toNat_of_nonneg hz0] at HI
      have HD := hid (dec_len (n := z.toNat) (by omega))
      have HS := hid (txs (Lib.decDigits z.toNat))
      have HC := hid (c_WriteString B b (Lib.byteCells acc) ⟨(Lib.decDigits z.toNat).toArray⟩ w h (by rw [Lib.byteCells_length, HS.out]; have := HD.out; omega) hBw)
      have HE : Hid (Lib.byteCells acc ++ Lib.strCells ⟨(Lib.decDigits z.toNat).toArray⟩ = Lib.byteCells (acc ++ Lib.decDigits z.toNat)) := by
        show _ = _
        rw [Lib.byteCells_append]; rfl
      rw [HE.out] at HC
      have HR : Hid (acc ++ runB z.toNat s = (acc ++ Lib.decDigits z.toNat) ++ [s]) := by
        show _ = _
        unfold runB
        rw [if_neg (by omega), if_neg (by omega), List.append_assoc]
      have HL : Hid ((acc ++ Lib.decDigits z.toNat).length ≤ 100002) := by
        show _ ≤ _
        have := HD.out
        simp only [List.length_append]; omega
      generalize acc ++ Lib.decDigits z.toNat = acc2 at *
      generalize (⟨(Lib.decDigits z.toNat).toArray⟩ : Tx) = sD at *
      clear h HE HD HS
      go_enter Tryd.func57, Tryd.ntmps57
      go_wp2_with fail
      refine HI.out.mono ?_
      rintro e w0 ⟨rfl, rfl⟩
      go_wp2_with fail
      refine HC.out.mono ?_
      rintro e w1 ⟨rfl, hb1, hB1, hK1⟩
      have HC2 := hid (c_WriteByte B b (Lib.byteCells acc2) (s.toNat : Int) w1 (.inr hb1) (by rw [Lib.byteCells_length]; have := HL.out; omega) (Nat.le_trans hBw hB1.size))
      have HB1 := hid hB1
      have HK1 := hid hK1
      clear hb1 hB1 hK1
      go_wp2_with fail
      refine HC2.out.mono ?_
      rintro e w2 ⟨rfl, hb2, hB2, hK2⟩
      go_wp2
      go_end0
      refine ⟨rfl, ?_, HB1.out.trans hB2, HK1.out.trans hK2⟩
      have e : Lib.byteCells (acc2 ++ [s]) = Lib.byteCells acc2 ++ [.int .u8 (s.toNat : Int)] := by
        rw [Lib.byteCells_append]; rfl
      rw [HR.out, e]
      exact .inr hb2
theorem at_drop (l : List Cl) (i n : Nat) : (l.drop i).getD n (0, 0) = at_ l (i + n) := by
  unfold at_
  rw [List.getD_eq_getElem?_getD, List.getElem?_drop, ← List.getD_eq_getElem?_getD]

set_option maxHeartbeats 1000000 in
theorem c_sideBySide (a : Option Addr) (l : List Cl) (i m ca : Nat) (w : World) (hm : m = l.length - i) (ha : Seg w a (l.drop i)) (hi : i < l.length) (hl : l.length ≤ 120) (hT : 0 ≤ (at_ l i).1 ∧ (at_ l i).1 ≤ 30) :
    Calls Tryd.prog 58 #[.slice a m ca] w fun e w' => e = .returned (.int .i64 (sb l i : Int)) ∧ Below w.heap.size w w' := by
  have hdl : (l.drop i).length = m := by rw [List.length_drop, hm]
  obtain ⟨b1, o1, rfl, hb1, p1, p2⟩ := ha 0 (by rw [hdl]; omega)
  rw [at_drop] at p1 p2
  simp only [Nat.zero_mul, Nat.add_zero] at p1 p2
  have hm0 : (0 : Int) < (m : Int) := by omega
  obtain ⟨t0, t1⟩ := hT
  have HM := hid hm
  have HDL := hid hdl
  have hmi : i + m = l.length := by omega
  clear hm hdl
  generalize hc : at_ l i = c at *
  have HCC := hid hc
  clear hc
  go_enter Tryd.func58, Tryd.ntmps58
  go_wp2
  go_loopw [3] (fun v w2 => ∃ n g : Nat, v = .int .i64 n ∧ 1 ≤ n ∧ i + n ≤ l.length ∧ l.length ≤ i + n + g ∧ Hid (sbGo l i g n = sb l i) ∧ Below w.heap.size w w2) (fun v _ => l.length - (intOf v).toNat)
  case atStart => exact ⟨1, l.length, rfl, by omega, by omega, by omega, (show _ = _ from rfl), Below.refl _ _⟩
  case round =>
    obtain ⟨n, g, rfl, hn1, hin, hgl, hsg, hb2⟩ := hrel
    have hw1 : b1 < wr.heap.size := Nat.lt_of_lt_of_le hb1 hb2.size
    have gc0 := fun z : Gr wr => z.cell ((hb2.cell (p := ⟨b1, o1, none⟩) hb1).trans p1) hw1
    have gc1 := fun z : Gr wr => z.cell ((hb2.cell (p := ⟨b1, o1 + 1, none⟩) hb1).trans p2) hw1
    have n0 : (0 : Int) ≤ (n : Int) := by omega
    have HB2 := hid hb2
    by_cases hlt : i + n < l.length
    · obtain ⟨b3, o3, e3, hb3, q1, q2⟩ := ha n (by rw [HDL.out]; omega)
      simp only [Option.some.injEq, Addr.mk.injEq, and_true] at e3
      obtain ⟨rfl, rfl⟩ := e3
      rw [at_drop] at q1 q2
      have gd0 := fun z : Gr wr => z.cell ((hb2.cell (p := ⟨b1, o1 + n * 2, none⟩) hb3).trans q1) hw1
      have gd1 := fun z : Gr wr => z.cell ((hb2.cell (p := ⟨b1, o1 + n * 2 + 1, none⟩) hb3).trans q2) hw1
      have kn1 : (n : Int) < (m : Int) := by omega
      have hw5 : IntKind.i64.wrap (c.1 + (n : Int)) = c.1 + (n : Int) := IntWalk.i64_in _ (by omega)
      have HGO := hid (show at_ l (i + n) = ((at_ l i).1 + (n : Int), (at_ l i).2) → ∀ g', g = g' + 1 → sbGo l i g' (n + 1) = sb l i from fun e g' eg => by
        rw [← hsg.out, eg, sbGo, if_pos ⟨hlt, e⟩])
      have HST := hid (show ¬ at_ l (i + n) = ((at_ l i).1 + (n : Int), (at_ l i).2) → n = sb l i from fun e => by
        rw [← hsg.out, sbGo_stop l i g n (fun h => e h.2)])
      clear q1 q2 hb2
      rw [HCC.out] at HGO HST
      generalize at_ l (i + n) = d at *
      by_cases hx : d.1 = c.1 + (n : Int)
      · by_cases hy : d.2 = c.2
        · have HN := hid (HGO.out (Prod.ext hx hy) (g - 1) (by omega))
          go_wp2_with fail
          refine wp_region_gr (by kernel_rfl) (by kernel_rfl) ?_
          repeat (go_big_quiet_step (first | exact rfl))
          refine wpQuiet_nil ?_
          rintro _ ⟨z, rfl⟩
          clear gc0 gc1 gd0 gd1
          go_wp2
          go_roundw
          case rel => exact ⟨n + 1, g - 1, by go_num, by omega, by omega, by omega, HN.out, HB2.out.trans (z.below.mono HB2.out.size)⟩
          case measure => simp [intOf]; omega
        · have HN := hid (HST.out (fun e => hy (by rw [e])))
          go_wp2_with fail
          refine wp_region_gr (by kernel_rfl) (by kernel_rfl) ?_
          repeat (go_big_quiet_step (first | exact rfl))
          refine wpQuiet_nil ?_
          rintro _ ⟨z, rfl⟩
          clear gc0 gc1 gd0 gd1
          go_wp2
          go_ret
          exact ⟨by rw [← HN.out]; rfl, HB2.out.trans (z.below.mono HB2.out.size)⟩
      · have HN := hid (HST.out (fun e => hx (by rw [e])))
        go_wp2_with fail
        refine wp_region_gr (by kernel_rfl) (by kernel_rfl) ?_
        repeat (go_big_quiet_step (first | exact rfl))
        refine wpQuiet_nil ?_
        rintro _ ⟨z, rfl⟩
        clear gc0 gc1 gd0 gd1
        go_wp2
        go_ret
        exact ⟨by rw [← HN.out]; rfl, HB2.out.trans (z.below.mono HB2.out.size)⟩
    · have hnm : ¬ n < m := by omega
      have kn1 : decide ((n : Int) < (m : Int)) = false := by simp; omega
      have kn2 : decide (n < m) = false := by simp; omega
      have HN := hid (show n = sb l i by rw [← hsg.out, sbGo_stop l i g n (fun h => hlt h.1)])
      clear hb2 hlt
      go_wp2_with fail
      refine wp_region_gr (by kernel_rfl) (by kernel_rfl) ?_
      repeat (go_big_quiet_step (first | exact rfl))
      refine wpQuiet_nil ?_
      rintro _ ⟨z, rfl⟩
      clear gc0 gc1
      go_wp2
      go_ret
      exact ⟨by rw [← HN.out]; rfl, HB2.out.trans (z.below.mono HB2.out.size)⟩

/-- What stands while runsText runs: its builder, the place that was reached, the cell at hand. -/
structure RT (w W : World) (cb : Nat) (acc : List UInt8) (X Y : Int) (c : Cl) : Prop where
  bi : BI w.heap.size w.heap.size (Lib.byteCells acc) W
  nx : W.heap[w.heap.size + 1]? = some (.cells #[.int .i64 X, .int .i64 Y] 33 (0, 0))
  cc : W.heap[cb]? = some (.cells #[.int .i64 c.1, .int .i64 c.2] 33 (0, 0))
  bel : Below w.heap.size w W
  gt : w.heap.size + 1 < cb
theorem noByte (cs : Array Value) (fr : Nat × Nat) : ∀ c fz, Obj.cells cs 33 fr ≠ .cells c 5 fz := by
  intro c fz h
  injection h with _ h2 _
  exact absurd h2 (by decide)
theorem BI.grown {B b k : Nat} {bs : List Value} {w w' : World} (h : BI B b bs w) (hg : w.grownBy w' (some k)) (hkb : k ≠ b) {cs : Array Value} {fr : Nat × Nat} (hk : w.heap[k]? = some (.cells cs 33 fr)) : BI B b bs w' := by
  have one : ∀ p, Lib.BuilderAtF 80 5 B b p bs w → Lib.BuilderAtF 80 5 B b p bs w' := by
    rintro p ⟨hB, v, hb, ho, hne⟩
    have hvk : v.ownBlock ≠ some k := by
      intro e
      obtain ⟨c, fz, hc⟩ := Lib.ownsRowF_kind ho k e
      rw [hk] at hc
      exact noByte cs fr c fz (Option.some.inj hc)
    refine ⟨hB, v, (hg.block b (Array.getElem?_eq_some_iff.1 hb).1 (fun e => hkb (by simpa using e.symm))).trans hb, ho.kept hg (.inr hvk), hne⟩
  exact h.elim (fun x => .inl (one _ x)) (fun x => .inr (one _ x))
theorem BI.below {B b : Nat} {bs : List Value} {w w' : World} (h : BI B b bs w) (hb : Below w.heap.size w w') : BI B b bs w' := by
  have one : ∀ p, Lib.BuilderAtF 80 5 B b p bs w → Lib.BuilderAtF 80 5 B b p bs w' := by
    rintro p ⟨hB, v, hbk, ho, hne⟩
    exact ⟨hB, v, (hb.block b (Array.getElem?_eq_some_iff.1 hbk).1).trans hbk, ho.kept (grown_of_below hb none) (by cases v.ownBlock <;> simp), hne⟩
  exact h.elim (fun x => .inl (one _ x)) (fun x => .inr (one _ x))
theorem RT.wrote {w W W' : World} {cb : Nat} {acc acc' : List UInt8} {X Y : Int} {c : Cl} (h : RT w W cb acc X Y c) (hb : BI w.heap.size w.heap.size (Lib.byteCells acc') W') (hB : Below w.heap.size W W') (hK : OK w.heap.size W W') : RT w W' cb acc' X Y c :=
  ⟨hb, hK _ _ h.nx (by simp) (noByte _ _), hK _ _ h.cc (by have := h.gt; simp; omega) (noByte _ _), h.bel.trans hB, h.gt⟩
theorem RT.below {w W W' : World} {cb : Nat} {acc : List UInt8} {X Y : Int} {c : Cl} (h : RT w W cb acc X Y c) (hB : Below W.heap.size W W') : RT w W' cb acc X Y c :=
  ⟨BI.below h.bi hB, (hB.block _ (Array.getElem?_eq_some_iff.1 h.nx).1).trans h.nx, (hB.block _ (Array.getElem?_eq_some_iff.1 h.cc).1).trans h.cc, h.bel.trans (hB.mono h.bel.size), h.gt⟩
theorem RT.facts {w W : World} {cb : Nat} {acc : List UInt8} {X Y : Int} {c : Cl} (h : RT w W cb acc X Y c) :
    W.cell? ⟨w.heap.size + 1, 0, none⟩ = some (.int .i64 X) ∧ W.cell? ⟨w.heap.size + 1, 1, none⟩ = some (.int .i64 Y) ∧ W.cell? ⟨cb, 0, none⟩ = some (.int .i64 c.1) ∧ W.cell? ⟨cb, 1, none⟩ = some (.int .i64 c.2) ∧
    W.frozen? ⟨w.heap.size + 1, 0, none⟩ = false ∧ W.frozen? ⟨w.heap.size + 1, 1, none⟩ = false := by
  refine ⟨?_, ?_, ?_, ?_, Lib.frozen_of_heap h.nx 0, Lib.frozen_of_heap h.nx 1⟩
  · rw [Lib.cell_of_heap h.nx]; rfl
  · rw [Lib.cell_of_heap h.nx]; rfl
  · rw [Lib.cell_of_heap h.cc]; rfl
  · rw [Lib.cell_of_heap h.cc]; rfl
theorem set_heap {w : World} {k j : Nat} {cs : Array Value} {T : TypeId} {fr : Nat × Nat} (h : w.heap[k]? = some (.cells cs T fr)) (v : Value) : (w.setCell ⟨k, j, none⟩ v).heap[k]? = some (.cells (cs.setIfInBounds j v) T fr) := by
  simp [World.setCell, Array.getElem?_modify, h]
theorem set_grown (w : World) (k j : Nat) (v : Value) : w.grownBy (w.setCell ⟨k, j, none⟩ v) (some k) :=
  ⟨rfl, rfl, rfl, by simp [World.setCell], fun i _ hk => Below.heap_setCell _ _ _ _ (fun e => hk (by simp [e]))⟩
theorem RT.setX {w W : World} {cb : Nat} {acc : List UInt8} {X Y : Int} {c : Cl} (h : RT w W cb acc X Y c) (x : Int) : RT w (W.setCell ⟨w.heap.size + 1, 0, none⟩ (.int .i64 x)) cb acc x Y c :=
  ⟨BI.grown h.bi (set_grown _ _ _ _) (by omega) h.nx, set_heap h.nx _, ((set_grown W (w.heap.size + 1) 0 (.int .i64 x)).block cb (Array.getElem?_eq_some_iff.1 h.cc).1 (by have := h.gt; simp; omega)).trans h.cc, h.bel.setCell (p := ⟨w.heap.size + 1, 0, none⟩) (by simp) _, h.gt⟩
theorem RT.setY {w W : World} {cb : Nat} {acc : List UInt8} {X Y : Int} {c : Cl} (h : RT w W cb acc X Y c) (y : Int) : RT w (W.setCell ⟨w.heap.size + 1, 1, none⟩ (.int .i64 y)) cb acc X y c :=
  ⟨BI.grown h.bi (set_grown _ _ _ _) (by omega) h.nx, set_heap h.nx _, ((set_grown W (w.heap.size + 1) 1 (.int .i64 y)).block cb (Array.getElem?_eq_some_iff.1 h.cc).1 (by have := h.gt; simp; omega)).trans h.cc, h.bel.setCell (p := ⟨w.heap.size + 1, 1, none⟩) (by simp) _, h.gt⟩
end Go.Proofs.YthmjcjcamcdpkaaDoor
