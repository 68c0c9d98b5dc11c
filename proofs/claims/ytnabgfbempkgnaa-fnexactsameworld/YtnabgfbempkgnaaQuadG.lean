/- What the specification's GoodForest answers. -/
import Derived.Test.YtnabgfbempkgnaaQuadT
namespace Go.Proofs.Ytnabgfbempkgnaa
open Go.RowKit
set_option linter.unusedVariables false
attribute [local go_sem ↓] Go.wp_at_zero Go.wp_at_succ

/-- A thing holds at all numbers below k. -/
def allB (p : Nat → Bool) (k : Nat) : Bool := (List.range k).all p
theorem allB_succ (p : Nat → Bool) (k : Nat) : allB p (k + 1) = (allB p k && p k) := by simp [allB, List.range_succ]
theorem allB_iff {p : Nat → Bool} {k : Nat} : allB p k = true ↔ ∀ i, i < k → p i = true := by simp [allB]
theorem allB_false {p : Nat → Bool} {k n : Nat} (hk : k < n) (h : p k = false) : allB p n = false := by
  cases e : allB p n
  · rfl
  · have := allB_iff.1 e k hk
    rw [h] at this; cases this
def inB (lo hi x : Int) : Bool := decide (lo ≤ x) && decide (x ≤ hi)
def allIn (l : List Int) (lo hi : Int) : Bool := allB (fun i => inB lo hi (ia l i)) l.length
def levB (F : List Qd) (l : List Int) (v : Int) : Bool := allB (fun i => decide ((qa F (ia l i).toNat).1 = v)) l.length
def newB (F : List Qd) (i : Nat) : Bool := allB (fun j => !decide ((qa F j).2 = (qa F i).2)) i
/-- Is quad i as the quads ahead of it ask? -/
def fineQ (F : List Qd) (i : Nat) : Bool :=
  if i < 2 then decide ((qa F i).1 = 0) && decide ((qa F i).2.length = 0)
  else decide ((qa F i).2.length = 4) && allIn (qa F i).2 0 ((i : Int) - 1) && inB 1 5 (qa F i).1 && levB F (qa F i).2 ((qa F i).1 - 1) && newB F i
/-- Is the forest good? -/
def goodF (F : List Qd) : Bool := inB 2 400 (F.length : Int) && allB (fineQ F) F.length
theorem goodF_no {F : List Qd} {k : Nat} (hk : k < F.length) (h : fineQ F k = false) : goodF F = false := by
  simp [goodF, allB_false hk h]

theorem c_l1In' (n lo hi : Int) (v : Bool) (h : inB lo hi n = v) (w : World) :
    Calls Try.prog 37 #[.int .i64 n, .int .i64 lo, .int .i64 hi] w fun e w' => e = .returned (.bool v) ∧ w' = w := by
  rw [← h]; exact c_l1In n lo hi w

set_option maxHeartbeats 400000 in
theorem c_l1All (a : Option Addr) (l : List Int) (ca : Nat) (lo hi : Int) (w : World) (ha : ISeg w a l) (hl : l.length ≤ 1048576) :
    Calls Try.prog 111 #[.slice a l.length ca, .int .i64 lo, .int .i64 hi] w fun e w' => e = .returned (.bool (allIn l lo hi)) ∧ Below w.heap.size w w' := by
  go_enter Try.func111, Try.ntmps111
  go_wp2
  go_loopw [11] (fun i wr => ∃ k : Nat, k ≤ l.length ∧ i = .int .i64 k ∧ Hid (allB (fun i => inB lo hi (ia l i)) k = true) ∧ Below w.heap.size w wr) (fun i _ => l.length - (intOf i).toNat)
  case atStart => exact ⟨0, Nat.zero_le _, rfl, (rfl : _ = _), Below.refl _ _⟩
  case round =>
    obtain ⟨k, hk, rfl, hT, hbel⟩ := hrel
    by_cases hlt : k < l.length
    · obtain ⟨b1, o1, rfl, hb1, p1⟩ := ha k hlt
      have g1 := (hbel.cell (p := ⟨b1, o1 + k, none⟩) hb1).trans p1
      clear p1
      have k0 : (0 : Int) ≤ (k : Int) := by omega
      have k1 : (k : Int) < (l.length : Int) := by omega
      have HS := hid (allB_succ (fun i => inB lo hi (ia l i)) k)
      have HN := hid (fun h => allB_false (p := fun i => inB lo hi (ia l i)) hlt h)
      cases hin : inB lo hi (ia l k)
      · have HC := hid (c_l1In' (ia l k) lo hi false hin wr)
        have HV := hid (HN.out hin)
        generalize ia l k = x at *
        go_wp2_with fail
        refine HC.out.mono ?_
        rintro e w1 ⟨rfl, rfl⟩
        go_wp2
        go_ret
        exact ⟨ret_bool HV.out.symm, hbel⟩
      · have HC := hid (c_l1In' (ia l k) lo hi true hin wr)
        have HV := hid (show allB (fun i => inB lo hi (ia l i)) (k + 1) = true by rw [HS.out, hT.out]; simpa using hin)
        generalize ia l k = x at *
        go_wp2_with fail
        refine HC.out.mono ?_
        rintro e w1 ⟨rfl, rfl⟩
        go_wp2
        go_roundw
        case rel => exact ⟨k + 1, by omega, by go_num, HV.out, hbel⟩
        case measure => simp [intOf]; omega
    · go_wp2
      go_ret
      obtain rfl : k = l.length := by omega
      exact ⟨ret_bool hT.out.symm, hbel⟩
theorem c_l1All' (a : Option Addr) (l : List Int) (ca : Nat) (lo hi : Int) (v : Bool) (h : allIn l lo hi = v) (w : World) (ha : ISeg w a l) (hl : l.length ≤ 1048576) :
    Calls Try.prog 111 #[.slice a l.length ca, .int .i64 lo, .int .i64 hi] w fun e w' => e = .returned (.bool v) ∧ Below w.heap.size w w' := by
  rw [← h]; exact c_l1All a l ca lo hi w ha hl
theorem c_l3Same' (a b : Option Addr) (l m : List Int) (ca cb : Nat) (v : Bool) (h : decide (l = m) = v) (w : World) (ha : ISeg w a l) (hb : ISeg w b m) (hl : l.length ≤ 1048576) (hm : m.length ≤ 1048576) :
    Calls Try.prog 89 #[.slice a l.length ca, .slice b m.length cb] w fun e w' => e = .returned (.bool v) ∧ Below w.heap.size w w' := by
  rw [← h]; exact c_l3Same a b l m ca cb w ha hb hl hm

/-- A value's box of one cell at the heap's end of w, kept in all that has grown out of w. -/
def Box1 (w W : World) (v : Value) : Prop := W.cell? ⟨w.heap.size, 0, none⟩ = some v ∧ w.heap.size < W.heap.size ∧ Below w.heap.size w W
theorem Box1.step {w W W' : World} {v : Value} (h : Box1 w W v) (hb : Below W.heap.size W W') : Box1 w W' v :=
  ⟨(hb.cell (p := ⟨w.heap.size, 0, none⟩) h.2.1).trans h.1, Nat.lt_of_lt_of_le h.2.1 hb.size, h.2.2.trans (hb.mono h.2.2.size)⟩
theorem Box1.new (w : World) (v : Value) (t : TypeId) : Box1 w (w.alloc (.cells #[v] t)) v := by
  refine ⟨?_, by simp, (Below.refl _ _).alloc (Nat.le_refl _) _⟩
  unfold World.cell?; rw [heap_alloc_new]; rfl
/-- A quad's box at the heap's end of w. -/
def Box2 (w W : World) (u v : Value) : Prop := W.cell? ⟨w.heap.size, 0, none⟩ = some u ∧ W.cell? ⟨w.heap.size, 1, none⟩ = some v ∧ w.heap.size < W.heap.size ∧ Below w.heap.size w W
theorem Box2.step {w W W' : World} {u v : Value} (h : Box2 w W u v) (hb : Below W.heap.size W W') : Box2 w W' u v :=
  ⟨(hb.cell (p := ⟨w.heap.size, 0, none⟩) h.2.2.1).trans h.1, (hb.cell (p := ⟨w.heap.size, 1, none⟩) h.2.2.1).trans h.2.1, Nat.lt_of_lt_of_le h.2.2.1 hb.size, h.2.2.2.trans (hb.mono h.2.2.2.size)⟩
theorem Box2.new (w : World) (u v : Value) (t : TypeId) : Box2 w (w.alloc (.cells #[u, v] t)) u v := by
  refine ⟨cell_new0 _ _ _ _, cell_new1 _ _ _ _, by simp, (Below.refl _ _).alloc (Nat.le_refl _) _⟩

theorem fine_low {F : List Qd} {k : Nat} (h : k < 2) (h1 : (qa F k).1 = 0) (h2 : (qa F k).2.length = 0) : fineQ F k = true := by
  simp [fineQ, h, h1, h2]
theorem fine_low_lev {F : List Qd} {k : Nat} (h : k < 2) (h1 : ¬ (qa F k).1 = 0) : fineQ F k = false := by simp [fineQ, h, h1]
theorem fine_low_kids {F : List Qd} {k : Nat} (h : k < 2) (h1 : ¬ (qa F k).2.length = 0) : fineQ F k = false := by
  unfold fineQ
  rw [if_pos h, decide_eq_false h1, Bool.and_false]
theorem fine_len {F : List Qd} {k : Nat} (h : ¬ k < 2) (h1 : ¬ (qa F k).2.length = 4) : fineQ F k = false := by
  unfold fineQ
  rw [if_neg h, decide_eq_false h1]; simp
theorem fine_in {F : List Qd} {k : Nat} (h : ¬ k < 2) (h1 : allIn (qa F k).2 0 ((k : Int) - 1) = false) : fineQ F k = false := by
  unfold fineQ
  rw [if_neg h, h1]; simp
theorem fine_lev {F : List Qd} {k : Nat} (h : ¬ k < 2) (h1 : inB 1 5 (qa F k).1 = false) : fineQ F k = false := by
  unfold fineQ
  rw [if_neg h, h1]; simp
theorem fine_levs {F : List Qd} {k : Nat} (h : ¬ k < 2) (h1 : levB F (qa F k).2 ((qa F k).1 - 1) = false) : fineQ F k = false := by
  unfold fineQ
  rw [if_neg h, h1]; simp
theorem fine_new {F : List Qd} {k : Nat} (h : ¬ k < 2) (h1 : newB F k = false) : fineQ F k = false := by
  unfold fineQ
  rw [if_neg h, h1]; simp
theorem fine_yes {F : List Qd} {k : Nat} (h : ¬ k < 2) (h1 : (qa F k).2.length = 4) (h2 : allIn (qa F k).2 0 ((k : Int) - 1) = true) (h3 : inB 1 5 (qa F k).1 = true) (h4 : levB F (qa F k).2 ((qa F k).1 - 1) = true) (h5 : newB F k = true) : fineQ F k = true := by
  unfold fineQ
  rw [if_neg h, h2, h3, h4, h5, decide_eq_true h1]; rfl
theorem inB_bd {lo hi x : Int} (h : inB lo hi x = true) : lo ≤ x ∧ x ≤ hi := by simpa [inB] using h

set_option maxHeartbeats 4000000 in
set_option maxRecDepth 100000 in
theorem c_sGoodForest (a : Option Addr) (F : List Qd) (ca : Nat) (w : World) (ha : QSeg w a F) (hl : F.length ≤ 1048576) (hk : KidsLe F) (hca : F.length ≤ ca) (hcm : ca ≤ 9223372036854775807) :
    Calls Try.prog 105 #[.agg #[.slice a F.length ca]] w fun e w' => e = .returned (.bool (goodF F)) ∧ Below w.heap.size w w' := by
  have BX := hid (Box1.new w (.slice a F.length ca) 69)
  cases hin : inB 2 400 (F.length : Int)
  · have HC := hid (c_l1In' (F.length : Int) 2 400 false hin)
    have HG : Hid (goodF F = false) := by simp [Hid, goodF, hin]
    clear ha
    go_enter Try.func105, Try.ntmps105
    go_wp2_with fail
    refine (HC.out _).mono ?_
    rintro e w1 ⟨rfl, rfl⟩
    clear HC
    go_wp2
    go_ret
    exact ⟨ret_bool HG.out.symm, BX.out.2.2⟩
  · have HC := hid (c_l1In' (F.length : Int) 2 400 true hin)
    have hbd := inB_bd hin
    have HIN := hid hin
    clear hin
    go_enter Try.func105, Try.ntmps105
    go_wp2_with fail
    refine (HC.out _).mono ?_
    rintro e w1 ⟨rfl, rfl⟩
    clear HC
    go_wp2
    go_loopw [17] (fun i wr => ∃ k : Nat, k ≤ F.length ∧ i = .int .i64 k ∧ Hid (allB (fineQ F) k = true) ∧ Hid (Box1 w wr (.slice a F.length ca))) (fun i _ => F.length - (intOf i).toNat)
    case atStart => exact ⟨0, Nat.zero_le _, rfl, (rfl : _ = _), BX.out⟩
    case round =>
      clear BX
      obtain ⟨k, hkk, rfl, hT, HX⟩ := hrel
      by_cases hlt : k < F.length
      · obtain ⟨b1, o1, ak, ck, rfl, hb1, p1, p2, p3, p4⟩ := ha k hlt
        have hbel := HX.out.2.2
        have g1 := (hbel.cell (p := ⟨b1, o1 + k * 2, none⟩) hb1).trans p1
        have g2 := (hbel.cell (p := ⟨b1, o1 + k * 2 + 1, none⟩) hb1).trans p2
        have P3 := hid (p3.below hbel)
        have HQ := hid (ha.below hbel)
        have hw1 : b1 < wr.heap.size := Nat.lt_of_lt_of_le hb1 hbel.size
        clear p1 p2 p3 hbel
        have k0 : (0 : Int) ≤ (k : Int) := by omega
        have k1 : (k : Int) < (F.length : Int) := by omega
        have HN := hid (fun h => goodF_no (F := F) hlt h)
        have HS := hid (allB_succ (fineQ F) k)
        have hkk' := hk k hlt
        have HB := hid ((Below.refl wr.heap.size wr).alloc (Nat.le_refl _) (.cells #[.int .i64 (qa F k).1, .slice ak (qa F k).2.length ck] 85))
        have HX1 := hid (HX.out.step HB.out)
        by_cases h2 : k < 2
        · have h2' : (k : Int) < 2 := by omega
          by_cases h3 : (qa F k).1 = 0
          · have d3 : ((qa F k).1 != 0) = false := by simp [h3]
            by_cases h4 : (qa F k).2.length = 0
            · have d4 : (((qa F k).2.length : Int) != 0) = false := by simp [h4]
              have HV := hid (show allB (fineQ F) (k + 1) = true by rw [HS.out, hT.out, fine_low h2 h3 h4]; rfl)
              clear HN HS h3 h4 HQ P3
              generalize qa F k = q at *
              go_wp2
              go_roundw
              case rel => exact ⟨k + 1, by omega, by go_num, HV.out, HX1.out⟩
              case measure => simp [intOf]; omega
            · have d4 : (((qa F k).2.length : Int) != 0) = true := by simp; simpa using h4
              have HV := hid (HN.out (fine_low_kids h2 h4))
              clear HN HS h3 h4 HQ P3
              generalize qa F k = q at *
              go_wp2
              go_ret
              exact ⟨ret_bool HV.out.symm, HX1.out.2.2⟩
          · have d3 : ((qa F k).1 != 0) = true := by simp [h3]
            have HV := hid (HN.out (fine_low_lev h2 h3))
            clear HN HS h3 HQ P3
            generalize qa F k = q at *
            go_wp2
            go_ret
            exact ⟨ret_bool HV.out.symm, HX1.out.2.2⟩
        · have h2' : ¬ (k : Int) < 2 := by omega
          by_cases h3 : (qa F k).2.length = 4
          · have d3 : (((qa F k).2.length : Int) != 4) = false := by simp [h3]
            have P4 := hid (P3.out.below HB.out)
            cases h4 : allIn (qa F k).2 0 ((k : Int) - 1)
            · have HV := hid (HN.out (fine_in h2 h4))
              have HC := hid (c_l1All' ak (qa F k).2 ck 0 ((k : Int) - 1) false h4 _ P4.out hkk')
              clear HN HS h3 h4 HQ P3
              generalize qa F k = q at *
              go_wp2_with fail
              refine HC.out.mono ?_
              rintro e w2 ⟨rfl, hb2⟩
              clear HC
              go_wp2
              go_ret
              exact ⟨ret_bool HV.out.symm, (HX1.out.step hb2).2.2⟩
            · have HC := hid (c_l1All' ak (qa F k).2 ck 0 ((k : Int) - 1) true h4 _ P4.out hkk')
              have BQ := hid (Box2.new wr (.int .i64 (qa F k).1) (.slice ak (qa F k).2.length ck) 85)
              cases h5 : inB 1 5 (qa F k).1
              · have HV := hid (HN.out (fine_lev h2 h5))
                have HD := hid (c_l1In' (qa F k).1 1 5 false h5)
                clear HN HS h3 h4 h5 HQ P3
                generalize qa F k = q at *
                go_wp2_with fail
                refine HC.out.mono ?_
                rintro e w2 ⟨rfl, hb2⟩
                have BQ2 := hid (BQ.out.step hb2)
                have c1 := BQ2.out.1
                have c2 := BQ2.out.2.1
                clear HC
                go_wp2_with fail
                refine (HD.out _).mono ?_
                rintro e w3 ⟨rfl, rfl⟩
                go_wp2
                go_ret
                exact ⟨ret_bool HV.out.symm, (HX1.out.step hb2).2.2⟩
              · have HD := hid (c_l1In' (qa F k).1 1 5 true h5)
                have hq5 := inB_bd h5
                have HLV := hid (fun h => HN.out (fine_levs h2 h))
                have HNW := hid (fun h => HN.out (fine_new h2 h))
                have HYS := hid (fun h h' => fine_yes h2 h3 h4 h5 h h')
                have HIN2 := hid (allB_iff.1 h4)
                have HLS := hid (fun j => allB_succ (fun i => decide ((qa F (ia (qa F k).2 i).toNat).1 = (qa F k).1 - 1)) j)
                have HLF := hid (fun j (hj : j < (qa F k).2.length) h => allB_false (p := fun i => decide ((qa F (ia (qa F k).2 i).toNat).1 = (qa F k).1 - 1)) hj h)
                have HNB := hid (show newB F k = allB (fun j => !decide ((qa F j).2 = (qa F k).2)) k from rfl)
                have h3' := hid h3
                clear HN h4 h5 h3
                generalize hq : qa F k = q at *
                have HEQ := hid hq
                clear hq
                go_wp2_with fail
                refine HC.out.mono ?_
                rintro e w2 ⟨rfl, hb2⟩
                have BQ2 := hid (BQ.out.step hb2)
                have BX2 := hid (HX1.out.step hb2)
                have c1 := BQ2.out.1
                have c2 := BQ2.out.2.1
                clear HC hb2
                go_wp2_with fail
                refine (HD.out _).mono ?_
                rintro e w3 ⟨rfl, rfl⟩
                clear HD
                go_wp2
                go_loopw [54] (fun i wt => ∃ j : Nat, j ≤ q.2.length ∧ i = .int .i64 j ∧ Hid (allB (fun i => decide ((qa F (ia q.2 i).toNat).1 = q.1 - 1)) j = true) ∧ Below w3.heap.size w3 wt) (fun i _ => q.2.length - (intOf i).toNat)
                case atStart => exact ⟨0, Nat.zero_le _, rfl, (rfl : _ = _), Below.refl _ _⟩
                case round =>
                  rename World => wt
                  obtain ⟨j, hjj, rfl, hTj, hbt⟩ := hrel
                  have BQ3 := hid (BQ2.out.step hbt)
                  have BX3 := hid (BX2.out.step hbt)
                  have x1 := BX3.out.1
                  have x2 := BQ3.out.1
                  have x3 := BQ3.out.2.1
                  clear c1 c2
                  have hbw : Below wr.heap.size wr wt := BQ3.out.2.2.2
                  have HBW := hid hbw
                  by_cases hj : j < q.2.length
                  · obtain ⟨b2, o2, rfl, hb2, r1⟩ := P3.out j hj
                    have y1 := (hbw.cell (p := ⟨b2, o2 + j, none⟩) hb2).trans r1
                    have hin := inB_bd (HIN2.out j hj)
                    have hkid : (ia q.2 j).toNat < F.length := by omega
                    obtain ⟨b3, o3, a3, c3, e3, hb3, r3, _, _, _⟩ := HQ.out (ia q.2 j).toNat hkid
                    simp only [Option.some.injEq, Addr.mk.injEq, and_true] at e3
                    obtain ⟨rfl, rfl⟩ := e3
                    have y3 := (hbw.cell (p := ⟨b1, o1 + (ia q.2 j).toNat * 2, none⟩) hb3).trans r3
                    have hS := HLS.out j
                    have hF := HLF.out j hj
                    clear r1 r3 hbw
                    have j0 : (0 : Int) ≤ (j : Int) := by omega
                    have j1 : (j : Int) < (q.2.length : Int) := by omega
                    have i0 : 0 ≤ ia q.2 j := hin.1
                    have i1 : ia q.2 j < (F.length : Int) := by omega
                    have HS2 := hid hS
                    have HF2 := hid hF
                    clear hS hF
                    by_cases hv : (qa F (ia q.2 j).toNat).1 = q.1 - 1
                    · have d5 : ((qa F (ia q.2 j).toNat).1 != q.1 - 1) = false := by simp [hv]
                      have HV := hid (show allB (fun i => decide ((qa F (ia q.2 i).toNat).1 = q.1 - 1)) (j + 1) = true by rw [HS2.out, hTj.out]; simpa using hv)
                      clear hv HS2 HF2
                      generalize ia q.2 j = kd at *
                      generalize (qa F kd.toNat).1 = lk at *
                      go_wp2
                      go_region
                      go_wp2
                      go_roundw
                      case rel => exact ⟨j + 1, by omega, by go_num, HV.out, by first | exact hbt | exact hbt.drew⟩
                      case measure => simp [intOf]; omega
                    · have d5 : ((qa F (ia q.2 j).toNat).1 != q.1 - 1) = true := by simp [hv]
                      have HV := hid (HLV.out (HF2.out (by simpa using hv)))
                      clear hv HS2 HF2
                      generalize ia q.2 j = kd at *
                      generalize (qa F kd.toNat).1 = lk at *
                      go_wp2
                      go_region
                      go_wp2
                      go_ret
                      exact ⟨ret_bool HV.out.symm, by first | exact BX3.out.2.2 | exact BX3.out.2.2.drew⟩
                  · obtain rfl : j = q.2.length := by omega
                    have HLT := hid (show levB F q.2 (q.1 - 1) = true from hTj.out)
                    have kca : (k : Int) ≤ (ca : Int) := by omega
                    clear HLS HLF HIN2 hTj hbw x2
                    go_wp2
                    go_loopw [74] (fun i wu => ∃ m : Nat, m ≤ k ∧ i = .int .i64 m ∧ Hid (allB (fun j => !decide ((qa F j).2 = q.2)) m = true) ∧ Below wt.heap.size wt wu) (fun i _ => k - (intOf i).toNat)
                    case atStart => exact ⟨0, Nat.zero_le _, rfl, (rfl : _ = _), Below.refl _ _⟩
                    case round =>
                      rename World => wu
                      obtain ⟨m, hmm, rfl, hTm, hbu⟩ := hrel
                      have BQ4 := hid (BQ3.out.step hbu)
                      have BX4 := hid (BX3.out.step hbu)
                      by_cases hm : m < k
                      · obtain ⟨b3, o3, am, cm, e3, hb3, r3, r4, r5, _⟩ := HQ.out m (by omega)
                        simp only [Option.some.injEq, Addr.mk.injEq, and_true] at e3
                        obtain ⟨rfl, rfl⟩ := e3
                        have hbw : Below wr.heap.size wr wu := BQ4.out.2.2.2
                        have y3 := (hbw.cell (p := ⟨b1, o1 + m * 2, none⟩) hb3).trans r3
                        have y4 := (hbw.cell (p := ⟨b1, o1 + m * 2 + 1, none⟩) hb3).trans r4
                        have HB2 := hid ((Below.refl wu.heap.size wu).alloc (Nat.le_refl _) (.cells #[.int .i64 (qa F m).1, .slice am (qa F m).2.length cm] 85))
                        have Y5 := hid ((r5.below hbw).below HB2.out)
                        have Y6 := hid ((P3.out.below hbw).below HB2.out)
                        have BQ5 := hid (BQ4.out.step HB2.out)
                        have BX5 := hid (BX4.out.step HB2.out)
                        have z2 := BQ5.out.2.1
                        have m0 : (0 : Int) ≤ (m : Int) := by omega
                        have m1 : (m : Int) < (k : Int) := by omega
                        have hkm := hk m (by omega)
                        have HS2 := hid (allB_succ (fun j => !decide ((qa F j).2 = q.2)) m)
                        have HF2 := hid (fun h => allB_false (p := fun j => !decide ((qa F j).2 = q.2)) hm h)
                        have HBU := hid (hbu.trans ((HB2.out).mono hbu.size))
                        clear r3 r4 r5 hbw x1 x3
                        cases hsm : decide ((qa F m).2 = q.2)
                        · have HC := hid (c_l3Same' am ak (qa F m).2 q.2 cm ck false hsm _ Y5.out Y6.out hkm hkk')
                          have HV := hid (show allB (fun j => !decide ((qa F j).2 = q.2)) (m + 1) = true by rw [HS2.out, hTm.out]; simp only [hsm]; rfl)
                          clear HS2 HF2 hsm
                          generalize qa F m = r at *
                          go_wp2_with fail
                          refine HC.out.mono ?_
                          rintro e w5 ⟨rfl, hb5⟩
                          clear HC
                          go_wp2
                          go_roundw
                          case rel => exact ⟨m + 1, by omega, by go_num, HV.out, HBU.out.trans (hb5.mono (by have := HBU.out.size; simpa using this))⟩
                          case measure => simp [intOf]; omega
                        · have HC := hid (c_l3Same' am ak (qa F m).2 q.2 cm ck true hsm _ Y5.out Y6.out hkm hkk')
                          have HV := hid (HNW.out (by rw [HNB.out]; exact HF2.out (by simp only [hsm]; rfl)))
                          clear HS2 HF2 hsm
                          generalize qa F m = r at *
                          go_wp2_with fail
                          refine HC.out.mono ?_
                          rintro e w5 ⟨rfl, hb5⟩
                          clear HC
                          go_wp2
                          go_ret
                          exact ⟨ret_bool HV.out.symm, (BX5.out.step hb5).2.2⟩
                      · obtain rfl : m = k := by omega
                        have HV := hid (show allB (fineQ F) (m + 1) = true by rw [HS.out, hT.out, HYS.out HLT.out (by rw [HNB.out]; exact hTm.out)]; rfl)
                        clear x1 x3
                        go_wp2
                        go_roundw
                        case rel => exact ⟨m + 1, by omega, by go_num, HV.out, BX4.out⟩
                        case measure => simp [intOf]; omega
          · have d3 : (((qa F k).2.length : Int) != 4) = true := by simp; omega
            have HV := hid (HN.out (fine_len h2 h3))
            clear HN HS h3 HQ P3
            generalize qa F k = q at *
            go_wp2
            go_ret
            exact ⟨ret_bool HV.out.symm, HX1.out.2.2⟩
      · go_wp2
        go_ret
        obtain rfl : k = F.length := by omega
        exact ⟨ret_bool (by simp [goodF, HIN.out, hT.out]), HX.out.2.2⟩

end Go.Proofs.Ytnabgfbempkgnaa
