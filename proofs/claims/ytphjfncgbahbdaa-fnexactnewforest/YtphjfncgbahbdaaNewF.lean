/- The forest of two cells, made by both, marked and found marked. -/
import Derived.Test.YtphjfncgbahbdaaGrove
namespace Go.Proofs.Ytphjfncgbahbdaa
open Go.RowKit Go.Maps
set_option linter.unusedVariables false
set_option linter.unusedSimpArgs false
attribute [local go_sem ↓] Go.wp_at_zero Go.wp_at_succ

def qn (f : Nat → Int) (j : Nat) : Value := if j % 2 = 0 then .int .i64 (f (j / 2)) else .slice none 0 0
/-- Two quads without kids are all of block g. -/
def NRow (w : World) (g : Nat) (f : Nat → Int) : Prop := w.rowIs g 60 4 (qn f)
def two' (f : Nat → Int) : List Qd := [(f 0, []), (f 1, [])]
theorem NRow.lev {w : World} {g : Nat} {f : Nat → Int} (h : NRow w g f) {i : Nat} (hi : i < 2) : w.cell? ⟨g, i * 2, none⟩ = some (.int .i64 (f i)) := by
  have := World.rowIs.cell h (i := i * 2) (by omega)
  have e1 : i * 2 % 2 = 0 := by omega
  have e2 : i * 2 / 2 = i := by omega
  simpa [qn, e1, e2] using this
theorem NRow.kid {w : World} {g : Nat} {f : Nat → Int} (h : NRow w g f) {i : Nat} (hi : i < 2) : w.cell? ⟨g, i * 2 + 1, none⟩ = some (.slice none 0 0) := by
  have := World.rowIs.cell h (i := i * 2 + 1) (by omega)
  have e1 : (i * 2 + 1) % 2 = 1 := by omega
  simpa [qn, e1] using this
theorem NRow.seg {w : World} {g : Nat} {f : Nat → Int} (h : NRow w g f) : QSeg w (some ⟨g, 0, none⟩) (two' f) := by
  intro i hi
  have hi' : i < 2 := by simpa [two'] using hi
  have e : qa (two' f) i = (f i, []) := by
    rcases (show i = 0 ∨ i = 1 by omega) with rfl | rfl <;> rfl
  rw [e]
  exact ⟨g, 0, none, 0, rfl, World.rowIs.lt h, by simpa using h.lev hi', by simpa using h.kid hi', fun j hj => by simp at hj, by simp⟩
theorem NRow.below {w w' : World} {g : Nat} {f : Nat → Int} (h : NRow w g f) (hb : Below w.heap.size w w') : NRow w' g f := World.rowIs.of_block h (hb.block _ (World.rowIs.lt h))
theorem NRow.put {w : World} {g : Nat} {f : Nat → Int} (h : NRow w g f) (i : Nat) (hi : i < 2) (v : Int) : NRow (w.setCell ⟨g, i * 2, none⟩ (.int .i64 v)) g (fun j => if j = i then v else f j) := by
  refine (World.rowIs.set h (i * 2) (.int .i64 v)).congr fun j hj => ?_
  rcases (show j = 0 ∨ j = 1 ∨ j = 2 ∨ j = 3 by omega) with rfl | rfl | rfl | rfl <;> rcases (show i = 0 ∨ i = 1 by omega) with rfl | rfl <;> simp [qn]
theorem NRow.fun_eq {w : World} {g : Nat} {f f' : Nat → Int} (h : NRow w g f) (e : ∀ i, i < 2 → f i = f' i) : NRow w g f' := by
  refine World.rowIs.congr h fun j hj => ?_
  unfold qn
  rw [e (j / 2) (by omega)]

set_option maxHeartbeats 400000 in
theorem c_markNil (k : Int) (w : World) : Calls Try.prog 25 #[.slice none 0 0, .int .i64 k] w fun e w' => e = .returned (.int .i64 k) ∧ w' = w := by
  go_enter Try.func25, Try.ntmps25
  go_wp2
  go_loopw [1, 5] (fun s i wr => s = .int .i64 k ∧ i = .int .i64 0 ∧ wr = w) (fun _ _ _ => 0)
  case atStart => exact ⟨rfl, rfl, rfl⟩
  case round =>
    obtain ⟨rfl, rfl, rfl⟩ := hrel
    go_wp2
    go_ret
    exact ⟨rfl, rfl⟩
set_option maxHeartbeats 400000 in
theorem c_heldNil (k : Int) (w : World) : Calls Try.prog 43 #[.slice none 0 0, .int .i64 k] w fun e w' => e = .returned (.int .i64 k) ∧ w' = w := by
  go_enter Try.func43, Try.ntmps43
  go_wp2
  go_loopw [1, 5] (fun s i wr => s = .int .i64 k ∧ i = .int .i64 0 ∧ wr = w) (fun _ _ _ => 0)
  case atStart => exact ⟨rfl, rfl, rfl⟩
  case round =>
    obtain ⟨rfl, rfl, rfl⟩ := hrel
    go_wp2
    go_ret
    exact ⟨rfl, rfl⟩
theorem grown_set {w W : World} {g i : Nat} (h : w.grownBy W (some g)) (v : Value) : w.grownBy (W.setCell ⟨g, i, none⟩ v) (some g) :=
  ⟨h.os, h.tape, h.output, by simpa using h.size, fun k hk hne => (Below.heap_setCell W ⟨g, i, none⟩ v k (fun e => hne (by rw [e]))).trans (h.block k hk hne)⟩
theorem grown_same (w : World) (r : Option Nat) : w.grownBy w r := ⟨rfl, rfl, rfl, Nat.le_refl _, fun _ _ _ => rfl⟩

set_option maxHeartbeats 1000000 in
theorem c_markTwo (g : Nat) (f : Nat → Int) (w : World) (h : NRow w g f) :
    Calls Try.prog 47 #[.slice (some ⟨g, 0, none⟩) 2 2, .int .i64 1] w fun e w' => e = .returned (.int .i64 3) ∧ NRow w' g (fun i => (i : Int) + 1) ∧ w.grownBy w' (some g) := by
  have H0 := hid h
  clear h
  go_enter Try.func47, Try.ntmps47
  go_wp2
  go_loopw [1, 5] (fun s i wr => ∃ j : Nat, j ≤ 2 ∧ s = .int .i64 ((j : Int) + 1) ∧ i = .int .i64 j ∧ Hid (NRow wr g (fun i => if i < j then (i : Int) + 1 else f i)) ∧ Hid (w.grownBy wr (some g))) (fun _ i _ => 2 - (intOf i).toNat)
  case atStart => exact ⟨0, by omega, rfl, rfl, (H0.out.fun_eq fun i hi => by simp : NRow _ _ _), grown_same _ _⟩
  case round =>
    clear H0
    obtain ⟨j, hj, rfl, rfl, HR, HG⟩ := hrel
    by_cases hlt : j < 2
    · have k0 : (0 : Int) ≤ (j : Int) := by omega
      have k1 : (j : Int) < 2 := by omega
      have c0 := HR.out.lev hlt
      have f0 := World.rowIs.frozen HR.out (j * 2)
      have HR2 := hid ((HR.out.put j hlt ((j : Int) + 1)).fun_eq (f' := fun i => if i < j + 1 then (i : Int) + 1 else f i) (fun i hi => by
        by_cases e : i = j
        · subst e; simp
        · have e2 : (i < j + 1) = (i < j) := by apply propext; omega
          simp [e, e2]))
      have HG2 := hid (grown_set (i := j * 2) HG.out (.int .i64 ((j : Int) + 1)))
      have c1 := HR2.out.kid hlt
      go_wp2_with fail
      refine (c_markNil _ _).mono ?_
      rintro e w2 ⟨rfl, rfl⟩
      go_wp2
      go_roundw
      case rel => exact ⟨j + 1, by omega, by go_num, by go_num, HR2.out, HG2.out⟩
      case measure => simp [intOf]; omega
    · go_wp2
      go_ret
      obtain rfl : j = 2 := by omega
      exact ⟨rfl, HR.out.fun_eq fun i hi => by simp [hi], HG.out⟩

set_option maxHeartbeats 1000000 in
theorem c_heldTwo (g : Nat) (w : World) (h : NRow w g (fun i => (i : Int) + 1)) :
    Calls Try.prog 48 #[.slice (some ⟨g, 0, none⟩) 2 2, .int .i64 1] w fun e w' => e = .returned (.int .i64 3) ∧ w' = w := by
  have H0 := hid h
  clear h
  go_enter Try.func48, Try.ntmps48
  go_wp2
  go_loopw [1, 5] (fun s i wr => ∃ j : Nat, j ≤ 2 ∧ s = .int .i64 ((j : Int) + 1) ∧ i = .int .i64 j ∧ wr = w) (fun _ i _ => 2 - (intOf i).toNat)
  case atStart => exact ⟨0, by omega, rfl, rfl, rfl⟩
  case round =>
    obtain ⟨j, hj, rfl, rfl, rfl⟩ := hrel
    by_cases hlt : j < 2
    · have k0 : (0 : Int) ≤ (j : Int) := by omega
      have k1 : (j : Int) < 2 := by omega
      have c0 := H0.out.lev hlt
      have c1 := H0.out.kid hlt
      have d0 : ((j : Int) + 1 != (j : Int) + 1) = false := by simp
      have d1 : ¬ (j : Int) + 1 + 1 < 0 := by omega
      go_wp2_with fail
      refine (c_heldNil _ _).mono ?_
      rintro e w2 ⟨rfl, rfl⟩
      go_wp2
      go_roundw
      case rel => exact ⟨j + 1, by omega, by go_num, by go_num, by first | rfl | trivial⟩
      case measure => simp [intOf]; omega
    · go_wp2
      go_ret
      obtain rfl : j = 2 := by omega
      exact ⟨rfl, rfl⟩

set_option maxHeartbeats 400000 in
theorem c_markForest2 (g : Nat) (f : Nat → Int) (w : World) (h : NRow w g f) :
    Calls Try.prog 15 #[.agg #[.slice (some ⟨g, 0, none⟩) 2 2], .int .i64 1] w fun e w' => e = .returned (.int .i64 3) ∧ NRow w' g (fun i => (i : Int) + 1) ∧ w.grownBy w' (some g) := by
  have B := hid ((Below.refl w.heap.size w).alloc (Nat.le_refl _) (.cells #[.slice (some ⟨g, 0, none⟩) 2 2] 24))
  have HC := hid (c_markTwo g f _ (h.below B.out))
  clear h
  go_enter Try.func15, Try.ntmps15
  go_wp2_with fail
  refine HC.out.mono ?_
  rintro e w1 ⟨rfl, hR, hg⟩
  clear HC
  go_wp2
  go_ret
  refine ⟨rfl, hR, hg.os.trans B.out.os, hg.tape.trans B.out.tape, hg.output.trans B.out.output, Nat.le_trans B.out.size hg.size, fun k hk hne => (hg.block k (Nat.lt_of_lt_of_le hk B.out.size) hne).trans (B.out.block k hk)⟩
set_option maxHeartbeats 400000 in
theorem c_heldForest2 (g : Nat) (w : World) (h : NRow w g (fun i => (i : Int) + 1)) :
    Calls Try.prog 16 #[.agg #[.slice (some ⟨g, 0, none⟩) 2 2], .int .i64 1] w fun e w' => e = .returned (.int .i64 3) ∧ Below w.heap.size w w' := by
  have B := hid ((Below.refl w.heap.size w).alloc (Nat.le_refl _) (.cells #[.slice (some ⟨g, 0, none⟩) 2 2] 24))
  have HC := hid (c_heldTwo g _ (h.below B.out))
  clear h
  go_enter Try.func16, Try.ntmps16
  go_wp2_with fail
  refine HC.out.mono ?_
  rintro e w1 ⟨rfl, rfl⟩
  clear HC
  go_wp2
  go_ret
  exact ⟨rfl, B.out⟩

theorem nrow_of {w : World} {g : Nat} (h : w.heap[g]? = some (.cells #[.int .i64 0, .slice none 0 0, .int .i64 0, .slice none 0 0] 60)) : NRow w g (fun _ => 0) := by
  refine ⟨_, h, rfl, fun i hi => ?_⟩
  rcases (show i = 0 ∨ i = 1 ∨ i = 2 ∨ i = 3 by omega) with rfl | rfl | rfl | rfl <;> rfl
set_option maxHeartbeats 400000 in
theorem c_sNewForest (w : World) :
    Calls Try.prog 12 #[] w fun e w' => e = .returned (.agg #[.slice (some ⟨w.heap.size + 1, 0, none⟩) 2 2]) ∧ NRow w' (w.heap.size + 1) (fun _ => 0) ∧ Below w.heap.size w w' := by
  go_enter Try.func12, Try.ntmps12
  go_wp2
  refine bodyPost_ret (v := .agg #[.slice (some ⟨w.heap.size + 1, 0, none⟩) 2 2]) (by simp [results, Try.results12, go_sem]) rfl ⟨rfl, ?_, ?_⟩
  · refine nrow_of ?_
    have := heap_alloc_new (w.alloc (.cells #[.slice (some ⟨w.heap.size + 1, 0, none⟩) 2 2] 24)) (.cells #[.int .i64 0, .slice none 0 0, .int .i64 0, .slice none 0 0] 60)
    rw [show (w.alloc (.cells #[.slice (some ⟨w.heap.size + 1, 0, none⟩) 2 2] 24)).heap.size = w.heap.size + 1 by simp] at this
    exact this
  · exact ((Below.refl _ _).alloc (Nat.le_refl _) _).alloc (by simp) _

theorem two_lev {w : World} {base p g cap mb : Nat} (h : Grv w base p g cap mb two) {i : Nat} (hi : i < 2) : ∀ j, j < 5 → w.cell? ⟨g, i * 5 + j, none⟩ = some (.int .i64 0) := by
  intro j hj
  have h1 := World.ownsRow.cellAt h.own (i * 5 + j) (by have : two.length = 2 := rfl; omega)
  have e := nflat_at (G := two) (i := i) (j := j) (by have : two.length = 2 := rfl; omega) hj
  rw [h1, e]
  rcases (show i = 0 ∨ i = 1 by omega) with rfl | rfl <;> rcases (show j = 0 ∨ j = 1 ∨ j = 2 ∨ j = 3 ∨ j = 4 by omega) with rfl | rfl | rfl | rfl | rfl <;> rfl
theorem nrow_made (w : World) : NRow (w.alloc (.cells (madeCells #[.int .i64 0, .slice none 0 0] (2 * 2)) 60)) w.heap.size (fun _ => 0) := by
  refine ⟨_, heap_alloc_new _ _, size_madeCells _ _, fun i hi => ?_⟩
  rcases (show i = 0 ∨ i = 1 ∨ i = 2 ∨ i = 3 by omega) with rfl | rfl | rfl | rfl <;> simp [madeCells, qn]

set_option maxHeartbeats 1000000 in
set_option maxRecDepth 100000 in
theorem c_forest2 (w : World) {base p g cap mb : Nat} (h : Grv w base p g cap mb two) :
    Calls Try.prog 45 #[.pointer (some ⟨p, 0, none⟩)] w fun e w' => e = .returned (.agg #[.slice (some ⟨w.heap.size + 1, 0, none⟩) 2 2]) ∧ NRow w' (w.heap.size + 1) (fun _ => 0) ∧ Below w.heap.size w w' := by
  have hmk : ∀ w : World, (Instr.makeSlice 22 (.int .i64 2) (.int .i64 2)).run Try.prog w = .ok (.slice (some ⟨w.heap.size, 0, none⟩) 2 2) (w.alloc (.cells (madeCells #[.int .i64 0, .slice none 0 0] (2 * 2)) 60)) := fun w => make_Quads 2 (by omega) w
  have c0 := h.c0
  rw [show two.length = 2 from rfl] at c0
  have HL := hid h.box.lt
  have hpl := h.box.lt
  have B1 := hid ((Below.refl w.heap.size w).alloc (Nat.le_refl _) (.cells #[.slice none 0 0] 24))
  have B2 := hid (B1.out.alloc (by simp) (.cells (madeCells #[.int .i64 0, .slice none 0 0] (2 * 2)) 60))
  have R2 := nrow_made (w.alloc (.cells #[.slice none 0 0] 24))
  rw [show (w.alloc (.cells #[.slice none 0 0] 24)).heap.size = w.heap.size + 1 by simp] at R2
  have RR2 := hid R2
  have X1 := Box1.new w (.slice none 0 0) 24
  have HG := hid h
  clear h R2
  go_enter Try.func45, Try.ntmps45
  go_wp2
  go_loopw [17] (fun i wr => ∃ k : Nat, k ≤ 2 ∧ i = .int .i64 k ∧ Hid (NRow wr (w.heap.size + 1) (fun _ => 0)) ∧ Hid (wr.rowIs w.heap.size 24 1 (fun _ => .slice none 0 0)) ∧ Hid (Below w.heap.size w wr)) (fun i _ => 2 - (intOf i).toNat)
  case atStart => exact ⟨0, by omega, rfl, RR2.out, ((one_row (heap_alloc_new _ _) : World.rowIs _ _ _ _ _).alloc _ : World.rowIs _ _ _ _ _), B2.out⟩
  case round =>
    clear RR2 B1 B2 hmk c0 X1
    obtain ⟨k, hk, rfl, HR, HX, HB⟩ := hrel
    have HGw := hid (HG.out.below HB.out)
    by_cases hlt : k < 2
    · have k0 : (0 : Int) ≤ (k : Int) := by omega
      have k1 : (k : Int) < 2 := by omega
      have hk2 : ¬ (2 : Int) ≤ (k : Int) := by omega
      have hcell := two_lev HGw.out hlt
      have n0 := hcell 0 (by omega)
      rw [Nat.add_zero] at n0
      have n1 := hcell 1 (by omega)
      have n2 := hcell 2 (by omega)
      have n3 := hcell 3 (by omega)
      have n4 := hcell 4 (by omega)
      have hgl := HGw.out.lt.2
      have hrl := World.rowIs.lt HR.out
      have r0 := HR.out.lev hlt
      have f0 := World.rowIs.frozen HR.out (k * 2)
      have HR2 := hid (((HR.out.put k hlt 0).fun_eq (f' := fun _ => 0) (fun i hi => by simp)).below ((Below.refl _ _).alloc (Nat.le_refl _) (.cells #[.int .i64 0, .int .i64 0, .int .i64 0, .int .i64 0, .int .i64 0] 95)))
      have HX2 := hid ((HX.out.setOther (a := ⟨w.heap.size + 1, k * 2, none⟩) (by dsimp only; omega) (.int .i64 0)).alloc (.cells #[.int .i64 0, .int .i64 0, .int .i64 0, .int .i64 0, .int .i64 0] 95))
      have HBz := HB.out.setCell (p := ⟨w.heap.size + 1, k * 2, none⟩) (by dsimp only; omega) (.int .i64 0)
      have HB2 := hid (HBz.alloc HBz.size (.cells #[.int .i64 0, .int .i64 0, .int .i64 0, .int .i64 0, .int .i64 0] 95))
      clear HBz
      clear hcell HR HX HB HGw
      go_wp2
      go_roundw
      case rel => exact ⟨k + 1, by omega, by go_num, HR2.out, HX2.out, HB2.out⟩
      case measure => simp [intOf]; omega
    · obtain rfl : k = 2 := by omega
      have x0 := HX.out.cell (i := 0) (by omega)
      have f0 := HX.out.frozen 0
      have e0 := (HX.out.set 0 (.slice (some ⟨w.heap.size + 1, 0, none⟩) 2 2)).cell (i := 0) (by omega)
      simp only [if_true] at e0
      have E0 := hid e0
      have HRS := hid (World.rowIs.setOther HR.out (a := ⟨w.heap.size, 0, none⟩) (by dsimp only; omega) (.slice (some ⟨w.heap.size + 1, 0, none⟩) 2 2))
      have HBS := hid (HB.out.setCell (p := ⟨w.heap.size, 0, none⟩) (Nat.le_refl _) (.slice (some ⟨w.heap.size + 1, 0, none⟩) 2 2))
      clear e0 HR HX HB HGw
      go_wp2
      refine bodyPost_ret (v := .agg #[.slice (some ⟨w.heap.size + 1, 0, none⟩) 2 2]) (by simp [results, Try.results45, go_sem, E0.out]) rfl ⟨rfl, HRS.out, HBS.out⟩

set_option maxHeartbeats 1000000 in
theorem c_iNewForest (w : World) :
    Calls Try.prog 13 #[] w fun e w' => ∃ g, e = .returned (.agg #[.slice (some ⟨g, 0, none⟩) 2 2]) ∧ NRow w' g (fun _ => 0) ∧ w.heap.size < g ∧ Below w.heap.size w w' := by
  have X1 := hid (show (w.alloc (.cells #[.slice none 0 0] 24)).rowIs w.heap.size 24 1 (fun _ => .slice none 0 0) from one_row (heap_alloc_new _ _))
  have B1 := hid ((Below.refl w.heap.size w).alloc (Nat.le_refl _) (.cells #[.slice none 0 0] 24))
  have HC := hid (c_newGrove (w.alloc (.cells #[.slice none 0 0] 24)))
  have hs1 : (w.alloc (.cells #[.slice none 0 0] 24)).heap.size = w.heap.size + 1 := by simp
  have HS1 := hid hs1
  rw [hs1] at HC
  clear hs1
  go_enter Try.func13, Try.ntmps13
  go_wp2_with fail
  refine HC.out.mono ?_
  rintro e w1 ⟨rfl, hG, hb⟩
  have hb' : Below (w.alloc (.cells #[.slice none 0 0] 24)).heap.size (w.alloc (.cells #[.slice none 0 0] 24)) w1 := by rw [HS1.out]; exact hb
  have X2 := hid (X1.out.of_block (hb'.block _ X1.out.lt))
  have B2 := hid (Below.then B1.out hb' (by simp))
  have HG := hid hG
  clear HC X1 B1 hG hb hb'
  have hw1 := X2.out.lt
  go_wp2_with fail
  refine (c_forest2 w1 HG.out).mono ?_
  rintro e w2 ⟨rfl, hR, hb⟩
  have X3 := hid (X2.out.of_block (hb.block _ X2.out.lt))
  have B3 := hid (B2.out.trans (hb.mono B2.out.size))
  have HR := hid hR
  clear X2 B2 HG hR hb
  have x0 := X3.out.cell (i := 0) (by omega)
  have f0 := X3.out.frozen 0
  have e0 := (X3.out.set 0 (.slice (some ⟨w1.heap.size + 1, 0, none⟩) 2 2)).cell (i := 0) (by omega)
  simp only [if_true] at e0
  have E0 := hid e0
  have HRS := hid (World.rowIs.setOther HR.out (a := ⟨w.heap.size, 0, none⟩) (by dsimp only; omega) (.slice (some ⟨w1.heap.size + 1, 0, none⟩) 2 2))
  have HBS := hid (B3.out.setCell (p := ⟨w.heap.size, 0, none⟩) (Nat.le_refl _) (.slice (some ⟨w1.heap.size + 1, 0, none⟩) 2 2))
  clear e0 X3 B3 HR
  go_wp2
  exact bodyPost_ret (v := .agg #[.slice (some ⟨w1.heap.size + 1, 0, none⟩) 2 2]) (by simp [results, Try.results13, go_sem, E0.out]) rfl ⟨w1.heap.size + 1, rfl, HRS.out, by omega, HBS.out⟩

end Go.Proofs.Ytphjfncgbahbdaa
