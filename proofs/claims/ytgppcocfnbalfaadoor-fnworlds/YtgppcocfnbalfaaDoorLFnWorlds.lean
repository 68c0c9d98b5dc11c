/- FnWorlds answers true at every argument: a square holds its world far enough inside, parted steps are powers of two that add up, what is moved is the same but for where it is, for drawn worlds. The listed variable (the table of powers of two) holds what its initialiser lays (the card ties it). (Written by wip/tools/mkwld.py.) -/
import Derived.Test.YtgppcocfnbalfaaDoorCards
import Derived.Test.YtgppcocfnbalfaaDoorTie
import Derived.Test.YtgppcocfnbalfaaDoorKa
import Derived.Test.YtgppcocfnbalfaaDoorWvd
import Derived.Test.YtgppcocfnbalfaaDoorSqI
import Derived.Deep.DeepHandedRow
import Derived.Deep.DeepWitnessRowRef
import Derived.Lib.LaidTab
import Derived.Deep.RegionHeld3
namespace Go.Proofs.YtgppcocfnbalfaaDoor.lWorlds
open Go.RowKit Go.ChangeShapes Go.WideShapes Go.ChangeAt
set_option linter.unusedVariables false
attribute [local go_sem ↓] Go.wp_at_zero Go.wp_at_succ

/-- The table's cells. -/
theorem parts_tab {W : World} (h : laidMetH Tryd.prog Rows.fnWorldsRow.laid W) : ∀ k, k < 10 → W.cell? ⟨0, k, none⟩ = some (.int .i64 (2 ^ k)) := by
  have h0 : laidMet Tryd.prog (("loop.example/g00613/impl.parts", Lib.tabData .i64 [1, 2, 4, 8, 16, 32, 64, 128, 256, 512]) :: []) W := h
  have hg : Tryd.prog.globalNamed "loop.example/g00613/impl.parts" = some 0 := by kernel_rfl
  have T := Lib.tabIs_of_head hg (t := 63) (e := 3) (n := 10) (by kernel_rfl) Tryd.underlying63 Tryd.underlying3 (by kernel_rfl) (by kernel_rfl) h0
  intro k hk
  have := T.cell hg k (by simpa using hk)
  rcases (show k = 0 ∨ k = 1 ∨ k = 2 ∨ k = 3 ∨ k = 4 ∨ k = 5 ∨ k = 6 ∨ k = 7 ∨ k = 8 ∨ k = 9 by omega) with rfl | rfl | rfl | rfl | rfl | rfl | rfl | rfl | rfl | rfl <;> simpa using this
/-- What the first numbers of a list are together. -/
def preS (L : List Int) (j : Nat) : Int := (L.take j).foldl (· + ·) 0
theorem preS_succ {L : List Int} {j : Nat} (h : j < L.length) : preS L (j + 1) = preS L j + ia L j := by
  unfold preS
  rw [List.take_succ_eq_append_getElem h, List.foldl_append]
  simp [ia, h]
theorem bx_bel {w w' : World} {b : Nat} {c : Cl} (h : BoxAt w b c) (hb : Below w.heap.size w w') : BoxAt w' b c := h.below hb h.2.2.2.2
theorem preS_all (L : List Int) : preS L L.length = L.foldl (· + ·) 0 := by unfold preS; rw [List.take_length]

set_option maxHeartbeats 4000000 in
set_option maxRecDepth 100000 in
theorem walk (a0 : Option Addr) (l0 : List Int) (c0 : Nat) (a1 : Option Addr) (l1 : List Int) (c1 : Nat) (w0 : World) (ha : BSeg w0 a0 l0) (hm0 : l0.length ≤ maxLen) (hb : BSeg w0 a1 l1) (hm1 : l1.length ≤ maxLen) (hL : laidMetH Tryd.prog Rows.fnWorldsRow.laid w0) :
    Calls Tryd.prog 3 #[.slice a0 l0.length c0, .slice a1 l1.length c1] w0 fun e w' => e = .returned (.bool true) ∧ Below w0.heap.size w0 w' := by
  unfold maxLen at hm0 hm1
  by_cases hl : wrap64 ((l0.length : Int) + (l1.length : Int)) ≤ 1048576
  · have HTB := hid (parts_tab hL)
    have HLT := hid (lt_of_cell (HTB.out 0 (by omega)))
    have SM := hid hb
    have BB := hid (Below.refl w0.heap.size w0)
    have HA := hid ha
    clear ha hb hL
    go_enter Tryd.func3, Tryd.ntmps3
    go_wp2_with fail
    refine (c_DrawSquareFor a0 l0 c0 w0 HA.out (by omega)).mono ?_
    rintro e w1 ⟨v, L, t, s, rfl, o, hL, hsL, ht, hst, b⟩
    have HLL := hid hL
    clear hL hsL ht HA
    obtain ⟨a5, c5, rfl, _⟩ := o.form
    have V5 := hid (WV.new (t := t) o)
    have bb := b.trans (((Below.refl w1.heap.size w1).alloc (Nat.le_refl _) (.cells #[.slice a5 L.length c5, .int .i64 t] 25)).mono b.size)
    replace SM := hid (SM.out.below bb)
    replace BB := hid (BB.out.trans (bb.mono BB.out.size))
    clear b bb o
    have IS := hid (fun (W : World) (h : WV W w1.heap.size a5 L c5 t) => c_iSquareFor a5 L c5 t s W h.seg (by have := HLL.out; omega))
    have SS := hid (fun (W : World) (h : WV W w1.heap.size a5 L c5 t) => c_sSquareFor a5 L c5 t s W h.seg (by have := HLL.out; omega))
    have MID := hid (fun (h : sqOk L t s = true) => sq_mid h)
    generalize sqC L t s = C at *
    generalize sqV L t s = V at *
    generalize sqOk L t s = ok at *
    have e1 : (ok != ok) = false := by simp
    have e2 : (C.1 == C.1) = true := by simp
    have e3 : (C.2 == C.2) = true := by simp
    have e4 : (V != V) = false := by simp
    have x0 := V5.out.c0
    have x1 := V5.out.c1
    go_wp2_with fail
    generalize w1.alloc (.cells #[.slice a5 L.length c5, .int .i64 t] 25) = W1 at *
    clear x0 x1
    refine (IS.out W1 V5.out).mono ?_
    rintro e w2 ⟨rfl, b⟩
    have X7 := hid (BoxAt.new w2 C)
    have bb := b.trans (((Below.refl w2.heap.size w2).alloc (Nat.le_refl _) (.cells #[.int .i64 C.1, .int .i64 C.2] 29)).mono b.size)
    replace SM := hid (SM.out.below bb)
    replace V5 := hid (V5.out.below bb)
    replace BB := hid (BB.out.trans (bb.mono BB.out.size))
    clear b bb
    have x0 := V5.out.c0
    have x1 := V5.out.c1
    go_wp2_with fail
    generalize w2.alloc (.cells #[.int .i64 C.1, .int .i64 C.2] 29) = W2 at *
    clear x0 x1
    refine (SS.out W2 V5.out).mono ?_
    rintro e w3 ⟨rfl, b⟩
    have X10 := hid (BoxAt.new w3 C)
    have bb := b.trans (((Below.refl w3.heap.size w3).alloc (Nat.le_refl _) (.cells #[.int .i64 C.1, .int .i64 C.2] 29)).mono b.size)
    replace X7 := hid (bx_bel X7.out bb)
    replace SM := hid (SM.out.below bb)
    replace V5 := hid (V5.out.below bb)
    replace BB := hid (BB.out.trans (bb.mono BB.out.size))
    clear b bb
    obtain ⟨f0, g0, _, _, k0⟩ := X7.out
    obtain ⟨f1, g1, _, _, k1⟩ := X10.out
    go_upto_region 6 with fail
    generalize w3.alloc (.cells #[.int .i64 C.1, .int .i64 C.2] 29) = W3 at *
    clear IS SS
    go_upto_if 84 with fail
    refine wp_cut (fun a' wx => ∃ sl : Nat → Value, a' = Act.mk #[.slice a0 l0.length c0, .slice a1 l1.length c1, sl 2, sl 3, sl 4, sl 5, sl 6, sl 7, sl 8, sl 9, sl 10, sl 11, sl 12, sl 13, sl 14, sl 15, sl 16, sl 17, sl 18, sl 19, sl 20, sl 21, sl 22, sl 23, sl 24, sl 25, sl 26, sl 27, sl 28, sl 29, sl 30, sl 31, sl 32, sl 33, sl 34, sl 35, sl 36, sl 37, sl 38, sl 39, sl 40, sl 41, sl 42, sl 43, sl 44, sl 45, sl 46, sl 47, sl 48, sl 49, sl 50, sl 51, sl 52, sl 53, sl 54, sl 55, sl 56, sl 57, sl 58, sl 59, sl 60, sl 61, sl 62, sl 63, sl 64, sl 65, sl 66, sl 67, sl 68, sl 69, sl 70, sl 71, sl 72, sl 73, sl 74, sl 75, sl 76, sl 77, sl 78, sl 79, sl 80, sl 81, sl 82, sl 83, sl 84, sl 85, sl 86, sl 87, sl 88, sl 89, sl 90, sl 91, sl 92, sl 93, sl 94, sl 95, sl 96, sl 97, sl 98, sl 99, sl 100, sl 101, sl 102, sl 103, sl 104, sl 105, sl 106, sl 107, sl 108, sl 109, sl 110, sl 111, sl 112, sl 113, sl 114, sl 115, sl 116, sl 117, sl 118, sl 119, sl 120, sl 121, sl 122, sl 123, sl 124, sl 125, sl 126, sl 127, sl 128, sl 129, sl 130, sl 131, sl 132, sl 133, sl 134, sl 135, sl 136, sl 137, sl 138, sl 139, sl 140, sl 141, sl 142, sl 143, sl 144, sl 145, sl 146, sl 147, sl 148, sl 149, sl 150, sl 151, sl 152, sl 153, sl 154, sl 155, sl 156, sl 157, sl 158, sl 159, sl 160, sl 161, sl 162, sl 163, sl 164, sl 165, sl 166, sl 167, sl 168, sl 169, sl 170, sl 171, sl 172, sl 173, sl 174, sl 175, sl 176, sl 177, sl 178, sl 179, sl 180, sl 181, sl 182, sl 183, sl 184, sl 185, sl 186, sl 187, sl 188, sl 189, sl 190, sl 191, sl 192, sl 193, sl 194, sl 195, sl 196, sl 197, sl 198, sl 199, sl 200, sl 201, sl 202, sl 203, sl 204, sl 205, sl 206, sl 207, sl 208, sl 209, sl 210, sl 211, sl 212, sl 213, sl 214, sl 215, sl 216, sl 217, sl 218, sl 219, sl 220, sl 221, sl 222, sl 223, sl 224, sl 225, sl 226, sl 227, sl 228, sl 229, sl 230, sl 231, sl 232, sl 233, sl 234, sl 235, sl 236, sl 237, sl 238, sl 239, sl 240, sl 241, sl 242, sl 243, sl 244, sl 245, sl 246, sl 247, sl 248, sl 249, sl 250, sl 251, sl 252, sl 253, sl 254, sl 255, sl 256, sl 257, sl 258, sl 259, sl 260, sl 261, sl 262, sl 263, sl 264, sl 265, sl 266, sl 267, sl 268, sl 269, sl 270, sl 271, sl 272, sl 273, sl 274, sl 275, sl 276, sl 277, sl 278, sl 279, sl 280] [] ∧ Hid (BSeg wx a1 l1) ∧ Hid (Below w0.heap.size w0 wx)) ?rest ?first
    case first =>
      intro J K' hJ hK
      cases ok
      case false =>
        go_wp2_with fail
        refine Met.intro (hJ _ _ (meet_fun ⟨hid SM.out, hid BB.out⟩ ?_))
        kernel_rfl
      case true =>
        obtain ⟨n, n2, n5, hv, hs, hC, hmid⟩ := MID.out (by first | rfl | trivial)
        have HM := hid hmid
        clear hmid MID X10 e1 e2 e3 e4 f1 g1 k1 f0 g0 k0
        rcases (show n = 2 ∨ n = 3 ∨ n = 4 ∨ n = 5 by omega) with rfl | rfl | rfl | rfl
        · have hv' : V = 2 := hv
          subst hv'
          clear hv n2 n5
          have HQ := hid (fun (k : Nat) (hk : k < L.length) => (show (1 + s ≤ (at_ L k).1 - C.1 ∧ (at_ L k).1 - C.1 < 3 - s) ∧ (1 + s ≤ (at_ L k).2 - C.2 ∧ (at_ L k).2 - C.2 < 3 - s) from HM.out k hk))
          have hll := HLL.out
          have x0 := V5.out.c0
          have x1 := V5.out.c1
          go_wp2
          go_loopw [92] (fun iv wr => ∃ k : Nat, k ≤ L.length ∧ iv = .int .i64 k ∧ Hid (Below W3.heap.size W3 wr)) (fun iv _ => L.length - (intOf iv).toNat)
          case atStart => exact ⟨0, Nat.zero_le _, rfl, Below.refl _ _⟩
          case round =>
            obtain ⟨k, hk, rfl, bl⟩ := hrel
            clear x0 x1
            by_cases hlt : k < L.length
            · obtain ⟨b1, o1, rfl, hb1, p1, p2⟩ := V5.out.seg k hlt
              have g1 := (bl.out.cell (p := ⟨b1, o1 + k * 2, none⟩) hb1).trans p1
              have g2 := (bl.out.cell (p := ⟨b1, o1 + k * 2 + 1, none⟩) hb1).trans p2
              change _ = some (Value.int .i64 (at_ L k).1) at g1
              change _ = some (Value.int .i64 (at_ L k).2) at g2
              clear p1 p2
              obtain ⟨⟨m1, m2⟩, m3, m4⟩ := HQ.out k hlt
              exfalso
              omega
            · go_wp2_with fail
              refine Met.intro (hJ _ _ (meet_fun ⟨hid (SM.out.below bl.out), hid (BB.out.trans (bl.out.mono BB.out.size))⟩ ?_))
              kernel_rfl
        · have hv' : V = 3 := hv
          subst hv'
          clear hv n2 n5
          have HQ := hid (fun (k : Nat) (hk : k < L.length) => (show (2 + s ≤ (at_ L k).1 - C.1 ∧ (at_ L k).1 - C.1 < 6 - s) ∧ (2 + s ≤ (at_ L k).2 - C.2 ∧ (at_ L k).2 - C.2 < 6 - s) from HM.out k hk))
          have hll := HLL.out
          have x0 := V5.out.c0
          have x1 := V5.out.c1
          go_wp2
          go_loopw [92] (fun iv wr => ∃ k : Nat, k ≤ L.length ∧ iv = .int .i64 k ∧ Hid (Below W3.heap.size W3 wr)) (fun iv _ => L.length - (intOf iv).toNat)
          case atStart => exact ⟨0, Nat.zero_le _, rfl, Below.refl _ _⟩
          case round =>
            obtain ⟨k, hk, rfl, bl⟩ := hrel
            clear x0 x1
            by_cases hlt : k < L.length
            · obtain ⟨b1, o1, rfl, hb1, p1, p2⟩ := V5.out.seg k hlt
              have g1 := (bl.out.cell (p := ⟨b1, o1 + k * 2, none⟩) hb1).trans p1
              have g2 := (bl.out.cell (p := ⟨b1, o1 + k * 2 + 1, none⟩) hb1).trans p2
              change _ = some (Value.int .i64 (at_ L k).1) at g1
              change _ = some (Value.int .i64 (at_ L k).2) at g2
              clear p1 p2
              obtain ⟨⟨m1, m2⟩, m3, m4⟩ := HQ.out k hlt
              generalize at_ L k = y at *
              have XB := hid (bx_bel (bx_bel X7.out bl.out) ((Below.refl wr.heap.size wr).alloc (Nat.le_refl _) (.cells #[.int .i64 y.1, .int .i64 y.2] 29)))
              have XY := hid (BoxAt.new wr y)
              have BN := hid (bl.out.trans (((Below.refl wr.heap.size wr).alloc (Nat.le_refl _) (.cells #[.int .i64 y.1, .int .i64 y.2] 29)).mono bl.out.size))
              have k0 : (0 : Int) ≤ (k : Int) := by omega
              have k1 : (k : Int) < (L.length : Int) := by omega
              go_upto_region 13 with fail
              generalize wr.alloc (.cells #[.int .i64 y.1, .int .i64 y.2] 29) = wn at *
              have z0 := XB.out.1
              have z1 := XB.out.2.1
              have z2 := XY.out.1
              have z3 := XY.out.2.1
              have u1 : IntKind.i64.wrap (y.1 - C.1) = y.1 - C.1 := IntWalk.i64_in _ ⟨by omega, by omega⟩
              have u2 : IntKind.i64.wrap (y.2 - C.2) = y.2 - C.2 := IntWalk.i64_in _ ⟨by omega, by omega⟩
              go_wp2
              go_roundw
              case rel => exact ⟨k + 1, by omega, by go_num, BN.out⟩
              case measure => simp [intOf]; omega
            · go_wp2_with fail
              refine Met.intro (hJ _ _ (meet_fun ⟨hid (SM.out.below bl.out), hid (BB.out.trans (bl.out.mono BB.out.size))⟩ ?_))
              kernel_rfl
        · have hv' : V = 4 := hv
          subst hv'
          clear hv n2 n5
          have HQ := hid (fun (k : Nat) (hk : k < L.length) => (show (4 + s ≤ (at_ L k).1 - C.1 ∧ (at_ L k).1 - C.1 < 12 - s) ∧ (4 + s ≤ (at_ L k).2 - C.2 ∧ (at_ L k).2 - C.2 < 12 - s) from HM.out k hk))
          have hll := HLL.out
          have x0 := V5.out.c0
          have x1 := V5.out.c1
          go_wp2
          go_loopw [92] (fun iv wr => ∃ k : Nat, k ≤ L.length ∧ iv = .int .i64 k ∧ Hid (Below W3.heap.size W3 wr)) (fun iv _ => L.length - (intOf iv).toNat)
          case atStart => exact ⟨0, Nat.zero_le _, rfl, Below.refl _ _⟩
          case round =>
            obtain ⟨k, hk, rfl, bl⟩ := hrel
            clear x0 x1
            by_cases hlt : k < L.length
            · obtain ⟨b1, o1, rfl, hb1, p1, p2⟩ := V5.out.seg k hlt
              have g1 := (bl.out.cell (p := ⟨b1, o1 + k * 2, none⟩) hb1).trans p1
              have g2 := (bl.out.cell (p := ⟨b1, o1 + k * 2 + 1, none⟩) hb1).trans p2
              change _ = some (Value.int .i64 (at_ L k).1) at g1
              change _ = some (Value.int .i64 (at_ L k).2) at g2
              clear p1 p2
              obtain ⟨⟨m1, m2⟩, m3, m4⟩ := HQ.out k hlt
              generalize at_ L k = y at *
              have XB := hid (bx_bel (bx_bel X7.out bl.out) ((Below.refl wr.heap.size wr).alloc (Nat.le_refl _) (.cells #[.int .i64 y.1, .int .i64 y.2] 29)))
              have XY := hid (BoxAt.new wr y)
              have BN := hid (bl.out.trans (((Below.refl wr.heap.size wr).alloc (Nat.le_refl _) (.cells #[.int .i64 y.1, .int .i64 y.2] 29)).mono bl.out.size))
              have k0 : (0 : Int) ≤ (k : Int) := by omega
              have k1 : (k : Int) < (L.length : Int) := by omega
              go_upto_region 13 with fail
              generalize wr.alloc (.cells #[.int .i64 y.1, .int .i64 y.2] 29) = wn at *
              have z0 := XB.out.1
              have z1 := XB.out.2.1
              have z2 := XY.out.1
              have z3 := XY.out.2.1
              have u1 : IntKind.i64.wrap (y.1 - C.1) = y.1 - C.1 := IntWalk.i64_in _ ⟨by omega, by omega⟩
              have u2 : IntKind.i64.wrap (y.2 - C.2) = y.2 - C.2 := IntWalk.i64_in _ ⟨by omega, by omega⟩
              go_wp2
              go_roundw
              case rel => exact ⟨k + 1, by omega, by go_num, BN.out⟩
              case measure => simp [intOf]; omega
            · go_wp2_with fail
              refine Met.intro (hJ _ _ (meet_fun ⟨hid (SM.out.below bl.out), hid (BB.out.trans (bl.out.mono BB.out.size))⟩ ?_))
              kernel_rfl
        · have hv' : V = 5 := hv
          subst hv'
          clear hv n2 n5
          have HQ := hid (fun (k : Nat) (hk : k < L.length) => (show (8 + s ≤ (at_ L k).1 - C.1 ∧ (at_ L k).1 - C.1 < 24 - s) ∧ (8 + s ≤ (at_ L k).2 - C.2 ∧ (at_ L k).2 - C.2 < 24 - s) from HM.out k hk))
          have hll := HLL.out
          have x0 := V5.out.c0
          have x1 := V5.out.c1
          go_wp2
          go_loopw [92] (fun iv wr => ∃ k : Nat, k ≤ L.length ∧ iv = .int .i64 k ∧ Hid (Below W3.heap.size W3 wr)) (fun iv _ => L.length - (intOf iv).toNat)
          case atStart => exact ⟨0, Nat.zero_le _, rfl, Below.refl _ _⟩
          case round =>
            obtain ⟨k, hk, rfl, bl⟩ := hrel
            clear x0 x1
            by_cases hlt : k < L.length
            · obtain ⟨b1, o1, rfl, hb1, p1, p2⟩ := V5.out.seg k hlt
              have g1 := (bl.out.cell (p := ⟨b1, o1 + k * 2, none⟩) hb1).trans p1
              have g2 := (bl.out.cell (p := ⟨b1, o1 + k * 2 + 1, none⟩) hb1).trans p2
              change _ = some (Value.int .i64 (at_ L k).1) at g1
              change _ = some (Value.int .i64 (at_ L k).2) at g2
              clear p1 p2
              obtain ⟨⟨m1, m2⟩, m3, m4⟩ := HQ.out k hlt
              generalize at_ L k = y at *
              have XB := hid (bx_bel (bx_bel X7.out bl.out) ((Below.refl wr.heap.size wr).alloc (Nat.le_refl _) (.cells #[.int .i64 y.1, .int .i64 y.2] 29)))
              have XY := hid (BoxAt.new wr y)
              have BN := hid (bl.out.trans (((Below.refl wr.heap.size wr).alloc (Nat.le_refl _) (.cells #[.int .i64 y.1, .int .i64 y.2] 29)).mono bl.out.size))
              have k0 : (0 : Int) ≤ (k : Int) := by omega
              have k1 : (k : Int) < (L.length : Int) := by omega
              go_upto_region 13 with fail
              generalize wr.alloc (.cells #[.int .i64 y.1, .int .i64 y.2] 29) = wn at *
              have z0 := XB.out.1
              have z1 := XB.out.2.1
              have z2 := XY.out.1
              have z3 := XY.out.2.1
              have u1 : IntKind.i64.wrap (y.1 - C.1) = y.1 - C.1 := IntWalk.i64_in _ ⟨by omega, by omega⟩
              have u2 : IntKind.i64.wrap (y.2 - C.2) = y.2 - C.2 := IntWalk.i64_in _ ⟨by omega, by omega⟩
              go_wp2
              go_roundw
              case rel => exact ⟨k + 1, by omega, by go_num, BN.out⟩
              case measure => simp [intOf]; omega
            · go_wp2_with fail
              refine Met.intro (hJ _ _ (meet_fun ⟨hid (SM.out.below bl.out), hid (BB.out.trans (bl.out.mono BB.out.size))⟩ ?_))
              kernel_rfl
    case rest =>
      clear SM BB V5 X7 X10 MID HLL e1 e2 e3 e4 f1 g1 k1 f0 g0 k0
      rintro _ wc ⟨sl, rfl, SM, BB⟩
      go_wp2_with fail
      refine (c_DrawSplitSteps a1 l1 c1 wc SM.out (by omega)).mono ?_
      rintro e v1 ⟨n, rfl, hn, b⟩
      replace SM := hid (SM.out.below b)
      replace BB := hid (BB.out.trans (b.mono BB.out.size))
      clear b hn
      have SPF := hid (fun (h : inB 0 1000 n = true) => spl_facts h)
      have SPL := splV_le n
      have IC := hid (fun (W : World) (h : Below w0.heap.size w0 W) => c_iSplit n W (fun k hk => (h.cell (p := ⟨0, k, none⟩) HLT.out).trans (HTB.out k hk)))
      have SC := hid (fun (W : World) => c_sSplit n W)
      generalize splV n = P at *
      generalize inB 0 1000 n = one at *
      have d1 : (one != one) = false := by simp
      go_wp2_with fail
      refine (IC.out v1 BB.out).mono ?_
      rintro e v2 ⟨pv, rfl, oI, b⟩
      obtain ⟨pa, pc, rfl, _⟩ := oI.seg
      have PI := hid (show ISeg v2 pa P by obtain ⟨_, _, e1, h⟩ := oI.seg; simp only [Value.slice.injEq] at e1; obtain ⟨rfl, _, rfl⟩ := e1; exact h)
      replace SM := hid (SM.out.below b)
      replace BB := hid (BB.out.trans (b.mono BB.out.size))
      clear b oI
      go_wp2_with fail
      refine (SC.out v2).mono ?_
      rintro e v3 ⟨qv, rfl, oI, b⟩
      obtain ⟨qa, qc, rfl, _⟩ := oI.seg
      have QI := hid (show ISeg v3 qa P by obtain ⟨_, _, e1, h⟩ := oI.seg; simp only [Value.slice.injEq] at e1; obtain ⟨rfl, _, rfl⟩ := e1; exact h)
      replace SM := hid (SM.out.below b)
      replace PI := hid (PI.out.below b)
      replace BB := hid (BB.out.trans (b.mono BB.out.size))
      clear b oI IC SC
      go_wp2_with fail
      refine (c_DrawMoveWorld a1 l1 c1 v3 SM.out (by omega)).mono ?_
      rintro e v4 ⟨v, M, u, x, y, rfl, o, hM, hsM, hu, hxy, b⟩
      have HML := hid hM
      clear hM hsM hu
      obtain ⟨a23, c23, rfl, _⟩ := o.form
      have V23 := hid (WV.new (t := u) o)
      have bb := b.trans (((Below.refl v4.heap.size v4).alloc (Nat.le_refl _) (.cells #[.slice a23 M.length c23, .int .i64 u] 25)).mono b.size)
      replace SM := hid (SM.out.below bb)
      replace PI := hid (PI.out.below bb)
      replace QI := hid (QI.out.below bb)
      replace BB := hid (BB.out.trans (bb.mono BB.out.size))
      clear b bb o
      have IM := hid (fun (W : World) (h : WV W v4.heap.size a23 M c23 u) => c_iMoveWorld a23 M c23 u x y W h.seg (by have := HML.out; omega))
      have SMV := hid (fun (W : World) (h : WV W v4.heap.size a23 M c23 u) => c_sMoveWorld a23 M c23 u x y W h.seg (by have := HML.out; omega))
      have SAM := hid (fun (h : mwOk M u x y = true) => same_moved h)
      have MLE := hid (mwL_le M u x y)
      generalize mwL M u x y = MR at *
      generalize mwT M u x y = MT at *
      generalize mwOk M u x y = three at *
      clear hxy
      have d2 : (three != three) = false := by simp
      have x0 := V23.out.c0
      have x1 := V23.out.c1
      go_wp2_with fail
      generalize v4.alloc (.cells #[.slice a23 M.length c23, .int .i64 u] 25) = U4 at *
      clear x0 x1
      refine (IM.out U4 V23.out).mono ?_
      rintro e v5 ⟨v, rfl, o, b⟩
      obtain ⟨a26, c26, rfl, _⟩ := o.form
      have V26 := hid (WV.new (t := MT) o)
      have bb := b.trans (((Below.refl v5.heap.size v5).alloc (Nat.le_refl _) (.cells #[.slice a26 MR.length c26, .int .i64 MT] 25)).mono b.size)
      replace SM := hid (SM.out.below bb)
      replace PI := hid (PI.out.below bb)
      replace QI := hid (QI.out.below bb)
      replace V23 := hid (V23.out.below bb)
      replace BB := hid (BB.out.trans (bb.mono BB.out.size))
      clear b bb o
      have x0 := V23.out.c0
      have x1 := V23.out.c1
      go_wp2_with fail
      generalize v5.alloc (.cells #[.slice a26 MR.length c26, .int .i64 MT] 25) = U5 at *
      clear x0 x1 IM
      refine (SMV.out U5 V23.out).mono ?_
      rintro e v6 ⟨v, rfl, o, b⟩
      obtain ⟨a28, c28, rfl, _⟩ := o.form
      have V28 := hid (WV.new (t := MT) o)
      have bb := b.trans (((Below.refl v6.heap.size v6).alloc (Nat.le_refl _) (.cells #[.slice a28 MR.length c28, .int .i64 MT] 25)).mono b.size)
      replace SM := hid (SM.out.below bb)
      replace PI := hid (PI.out.below bb)
      replace QI := hid (QI.out.below bb)
      replace V23 := hid (V23.out.below bb)
      replace V26 := hid (V26.out.below bb)
      replace BB := hid (BB.out.trans (bb.mono BB.out.size))
      clear b bb o
      go_wp2_with fail
      generalize v6.alloc (.cells #[.slice a28 MR.length c28, .int .i64 MT] 25) = U6 at *
      clear SMV
      refine (c_DrawSameWorld a1 l1 c1 U6 SM.out (by omega)).mono ?_
      rintro e v7 ⟨v, u2, B, D, t2, s2, rfl, oB, hB, oD, hD, b⟩
      obtain ⟨a30, c30, rfl, _⟩ := oB.form
      obtain ⟨a31, c31, rfl, _⟩ := oD.form
      have k1 := (Below.refl v7.heap.size v7).alloc (Nat.le_refl _) (.cells #[.slice a30 B.length c30, .int .i64 t2] 25)
      have V30 := hid ((WV.new (t := t2) oB).below ((Below.refl _ _).alloc (Nat.le_refl _) (.cells #[.slice a31 D.length c31, .int .i64 s2] 25)))
      have V31 := hid (WV.new (t := s2) (oD.below k1))
      have bb := b.trans ((k1.alloc k1.size (.cells #[.slice a31 D.length c31, .int .i64 s2] 25)).mono b.size)
      have hz7 : (v7.alloc (.cells #[.slice a30 B.length c30, .int .i64 t2] 25)).heap.size = v7.heap.size + 1 := by simp
      rw [hz7] at V31
      replace SM := hid (SM.out.below bb)
      replace PI := hid (PI.out.below bb)
      replace QI := hid (QI.out.below bb)
      replace V23 := hid (V23.out.below bb)
      replace V26 := hid (V26.out.below bb)
      replace V28 := hid (V28.out.below bb)
      replace BB := hid (BB.out.trans (bb.mono BB.out.size))
      clear b bb k1 hz7 oB oD
      have ISW := hid (fun (W : World) (h : Seg W a30 B) (h' : Seg W a31 D) => c_iSameWorld a30 a31 B D c30 c31 t2 s2 W h h' (by omega) (by omega))
      have SSW := hid (fun (W : World) (h : Seg W a30 B) (h' : Seg W a31 D) => c_sSameWorld a30 a31 B D c30 c31 t2 s2 W h h' (by omega) (by omega))
      generalize smB B D t2 s2 = smb at *
      generalize smOk B D t2 s2 = smk at *
      have d5 : (smk != smk) = false := by simp
      have d6 : (smb != smb) = false := by simp
      have x0 := V30.out.c0
      have x1 := V30.out.c1
      have y0 := V31.out.c0
      have y1 := V31.out.c1
      go_wp2_with fail
      generalize (v7.alloc (.cells #[.slice a30 B.length c30, .int .i64 t2] 25)).alloc (.cells #[.slice a31 D.length c31, .int .i64 s2] 25) = U7 at *
      refine (ISW.out U7 V30.out.seg V31.out.seg).mono ?_
      rintro e v8 ⟨rfl, b⟩
      clear x0 x1 y0 y1 ISW
      replace SM := hid (SM.out.below b)
      replace PI := hid (PI.out.below b)
      replace QI := hid (QI.out.below b)
      replace V23 := hid (V23.out.below b)
      replace V26 := hid (V26.out.below b)
      replace V28 := hid (V28.out.below b)
      replace V30 := hid (V30.out.below b)
      replace V31 := hid (V31.out.below b)
      replace BB := hid (BB.out.trans (b.mono BB.out.size))
      clear b
      have x0 := V30.out.c0
      have x1 := V30.out.c1
      have y0 := V31.out.c0
      have y1 := V31.out.c1
      go_wp2_with fail
      refine (SSW.out v8 V30.out.seg V31.out.seg).mono ?_
      rintro e v9 ⟨rfl, b⟩
      clear x0 x1 y0 y1 SSW
      replace SM := hid (SM.out.below b)
      replace PI := hid (PI.out.below b)
      replace QI := hid (QI.out.below b)
      replace V23 := hid (V23.out.below b)
      replace V26 := hid (V26.out.below b)
      replace V28 := hid (V28.out.below b)
      replace V30 := hid (V30.out.below b)
      replace V31 := hid (V31.out.below b)
      replace BB := hid (BB.out.trans (b.mono BB.out.size))
      clear b V30 V31
      go_wp2_with fail
      refine (c_DrawNewWorld a1 l1 c1 v9 SM.out (by omega)).mono ?_
      rintro e v10 ⟨v, E, rfl, o, hE, hsE, b⟩
      clear hsE
      replace SM := hid (SM.out.below b)
      replace PI := hid (PI.out.below b)
      replace QI := hid (QI.out.below b)
      replace V23 := hid (V23.out.below b)
      replace V26 := hid (V26.out.below b)
      replace V28 := hid (V28.out.below b)
      replace BB := hid (BB.out.trans (b.mono BB.out.size))
      clear b SM
      obtain ⟨aE, cE, rfl, _⟩ := o.form
      have OE := hid o
      clear o
      have INW := hid (fun (W : World) (h : OwnS W v9.heap.size (.slice aE E.length cE) E) => c_iNewWorld aE E cE W h.seg (by omega) h.cap0)
      have SNW := hid (fun (W : World) (h : OwnS W v9.heap.size (.slice aE E.length cE) E) => c_sNewWorld aE E cE W h.seg (by omega) h.cap0)
      have hER : (tellV E).length ≤ 120 := by unfold tellV; split <;> first | exact good_le (by assumption) | simp
      generalize tellV E = ER at *
      generalize good E = ge at *
      have d7 : (ge != ge) = false := by simp
      go_wp2_with fail
      refine (INW.out v10 OE.out).mono ?_
      rintro e v11 ⟨v, rfl, o, b⟩
      obtain ⟨a37, c37, rfl, _⟩ := o.form
      have V37 := hid (WV.new (t := 0) o)
      have bb := b.trans (((Below.refl v11.heap.size v11).alloc (Nat.le_refl _) (.cells #[.slice a37 ER.length c37, .int .i64 0] 25)).mono b.size)
      replace PI := hid (PI.out.below bb)
      replace QI := hid (QI.out.below bb)
      replace V23 := hid (V23.out.below bb)
      replace V26 := hid (V26.out.below bb)
      replace V28 := hid (V28.out.below bb)
      replace OE := hid (OE.out.below bb)
      replace BB := hid (BB.out.trans (bb.mono BB.out.size))
      clear b bb o
      go_wp2_with fail
      generalize v11.alloc (.cells #[.slice a37 ER.length c37, .int .i64 0] 25) = U11 at *
      refine (SNW.out U11 OE.out).mono ?_
      rintro e v12 ⟨v, rfl, o, b⟩
      obtain ⟨a39, c39, rfl, _⟩ := o.form
      have V39 := hid (WV.new (t := 0) o)
      have bb := b.trans (((Below.refl v12.heap.size v12).alloc (Nat.le_refl _) (.cells #[.slice a39 ER.length c39, .int .i64 0] 25)).mono b.size)
      replace PI := hid (PI.out.below bb)
      replace QI := hid (QI.out.below bb)
      replace V23 := hid (V23.out.below bb)
      replace V26 := hid (V26.out.below bb)
      replace V28 := hid (V28.out.below bb)
      replace OE := hid (OE.out.below bb)
      replace V37 := hid (V37.out.below bb)
      replace BB := hid (BB.out.trans (bb.mono BB.out.size))
      clear b bb o
      clear INW SNW OE
      go_wp2_with fail
      generalize v12.alloc (.cells #[.slice a39 ER.length c39, .int .i64 0] 25) = U12 at *
      refine (c_sameInts pa qa P pc qc U12 PI.out QI.out (by omega)).mono ?_
      rintro e v13 ⟨rfl, b⟩
      replace PI := hid (PI.out.below b)
      replace QI := hid (QI.out.below b)
      replace V23 := hid (V23.out.below b)
      replace V26 := hid (V26.out.below b)
      replace V28 := hid (V28.out.below b)
      replace V37 := hid (V37.out.below b)
      replace V39 := hid (V39.out.below b)
      replace BB := hid (BB.out.trans (b.mono BB.out.size))
      clear b QI
      have x0 := V26.out.c0
      have x1 := V26.out.c1
      have y0 := V28.out.c0
      have y1 := V28.out.c1
      go_wp2_with fail
      refine (c_sameWorld a26 a28 MR c26 c28 MT v13 V26.out.seg V28.out.seg (by have := MLE.out; omega)).mono ?_
      rintro e v14 ⟨rfl, b⟩
      clear x0 x1 y0 y1
      replace PI := hid (PI.out.below b)
      replace V23 := hid (V23.out.below b)
      replace V26 := hid (V26.out.below b)
      replace V28 := hid (V28.out.below b)
      replace V37 := hid (V37.out.below b)
      replace V39 := hid (V39.out.below b)
      replace BB := hid (BB.out.trans (b.mono BB.out.size))
      clear b V28
      have x0 := V37.out.c0
      have x1 := V37.out.c1
      have y0 := V39.out.c0
      have y1 := V39.out.c1
      go_wp2_with fail
      refine (c_sameWorld a37 a39 ER c37 c39 0 v14 V37.out.seg V39.out.seg (by omega)).mono ?_
      rintro e v15 ⟨rfl, b⟩
      clear x0 x1 y0 y1
      replace PI := hid (PI.out.below b)
      replace V23 := hid (V23.out.below b)
      replace V26 := hid (V26.out.below b)
      replace V37 := hid (V37.out.below b)
      replace V39 := hid (V39.out.below b)
      replace BB := hid (BB.out.trans (b.mono BB.out.size))
      clear b V37 V39 hER
      have HSA := hid (fun (W : World) (h : Seg W a23 M) (h' : Seg W a26 MR) => c_iSameWorld a23 a26 M MR c23 c26 u MT W h h' (by have := HML.out; omega) (by have := MLE.out; omega))
      cases one
      case false =>
        cases three
        case false =>
          go_wp2_with fail
          go_ret
          exact ⟨rfl, BB.out⟩
        case true =>
          obtain ⟨q1, q2⟩ := SAM.out (by first | rfl | trivial)
          rw [q1, q2] at HSA
          have x0 := V23.out.c0
          have x1 := V23.out.c1
          have y0 := V26.out.c0
          have y1 := V26.out.c1
          go_wp2_with fail
          refine (HSA.out v15 V23.out.seg V26.out.seg).mono ?_
          rintro e v16 ⟨rfl, b⟩
          clear x0 x1 y0 y1
          replace PI := hid (PI.out.below b)
          replace V23 := hid (V23.out.below b)
          replace V26 := hid (V26.out.below b)
          replace BB := hid (BB.out.trans (b.mono BB.out.size))
          go_wp2_with fail
          go_ret
          exact ⟨rfl, BB.out⟩
      case true =>
        obtain ⟨hsum, hpw, hasc⟩ := SPF.out (by first | rfl | trivial)
        have HPW := hid hpw
        have HASC := hid hasc
        have hnn : (preS P P.length != n) = false := by rw [preS_all, hsum]; simp
        clear hpw hasc hsum SPF
        have HPI := hid PI.out
        go_wp2_with fail
        go_loopw [41, 240] (fun sv iv wr => ∃ j : Nat, j ≤ P.length ∧ iv = .int .i64 (j : Int) ∧ sv = .int .i64 (preS P j) ∧ (0 ≤ preS P j ∧ preS P j ≤ 512 * (j : Int)) ∧ Hid (Below v15.heap.size v15 wr)) (fun _ iv _ => P.length - (intOf iv).toNat)
        case atStart => exact ⟨0, Nat.zero_le _, rfl, rfl, by simp [preS], Below.refl _ _⟩
        case round =>
          obtain ⟨j, hj, rfl, rfl, ⟨hp0, hp1⟩, bl⟩ := hrel
          by_cases hlt : j < P.length
          · obtain ⟨b1, o1, rfl, hb1, p1⟩ := HPI.out j hlt
            obtain ⟨t1, t2', t3⟩ := HPW.out j hlt
            have g1 := (bl.out.cell (p := ⟨b1, o1 + j, none⟩) hb1).trans p1
            have hs := preS_succ hlt
            have HS := hid hs
            have j0 : (0 : Int) ≤ (j : Int) := by omega
            have j1 : (j : Int) < (P.length : Int) := by omega
            have hPl : P.length ≤ 1048576 := by omega
            clear p1 hs
            by_cases hpos : 0 < j
            · obtain ⟨b2, o2, e2, hb2, p2⟩ := HPI.out (j - 1) (by omega)
              simp only [Option.some.injEq, Addr.mk.injEq, and_true] at e2
              obtain ⟨rfl, rfl⟩ := e2
              have g2 := (bl.out.cell (p := ⟨b1, o1 + (j - 1), none⟩) hb1).trans p2
              have hac := HASC.out (j - 1) (by omega)
              rw [show j - 1 + 1 = j by omega] at hac
              have kp : (0 : Int) < (j : Int) := by omega
              clear p2
              generalize ia P j = x at *
              generalize ia P (j - 1) = y at *
              generalize preS P j = sj at *
              have hge : ¬ x ≤ y := by omega
              go_wp2
              go_roundw
              case rel => exact ⟨j + 1, by omega, by go_num, by rw [HS.out], ⟨by rw [HS.out]; omega, by rw [HS.out]; push_cast; omega⟩, bl.out⟩
              case measure => simp [intOf]; omega
            · have kp : ¬ (0 : Int) < (j : Int) := by omega
              generalize ia P j = x at *
              generalize preS P j = sj at *
              go_wp2
              go_roundw
              case rel => exact ⟨j + 1, by omega, by go_num, by rw [HS.out], ⟨by rw [HS.out]; omega, by rw [HS.out]; push_cast; omega⟩, bl.out⟩
              case measure => simp [intOf]; omega
          · have hje : j = P.length := by omega
            subst hje
            have b := bl.out
            replace PI := hid (PI.out.below b)
            replace V23 := hid (V23.out.below b)
            replace V26 := hid (V26.out.below b)
            replace BB := hid (BB.out.trans (b.mono BB.out.size))
            clear b bl HPI HPW HASC PI
            cases three
            case false =>
              go_wp2_with fail
              go_ret
              exact ⟨rfl, BB.out⟩
            case true =>
              obtain ⟨q1, q2⟩ := SAM.out (by first | rfl | trivial)
              rw [q1, q2] at HSA
              have x0 := V23.out.c0
              have x1 := V23.out.c1
              have y0 := V26.out.c0
              have y1 := V26.out.c1
              go_wp2_with fail
              refine (HSA.out wr V23.out.seg V26.out.seg).mono ?_
              rintro e v16 ⟨rfl, b⟩
              clear x0 x1 y0 y1
              replace V23 := hid (V23.out.below b)
              replace V26 := hid (V26.out.below b)
              replace BB := hid (BB.out.trans (b.mono BB.out.size))
              go_wp2_with fail
              go_ret
              exact ⟨rfl, BB.out⟩
  · have hz : (1048576 : Int) < wrap64 ((l0.length : Int) + (l1.length : Int)) := by omega
    go_enter Tryd.func3, Tryd.ntmps3
    go_wp2
    go_ret
    exact ⟨rfl, Below.refl _ _⟩

theorem var_below {W W' : World} {n : String} {g : Nat} {cs : Array Value} (hB : Below W.heap.size W W') (hg : Tryd.prog.globalNamed n = some g) (h : g < W.heap.size) (hv : W.var? Tryd.prog n = some cs) : W'.var? Tryd.prog n = some cs := by
  simp only [World.var?, hg, Option.bind_some] at hv ⊢
  rw [hB.block g h]
  exact hv
set_option maxRecDepth 100000 in
theorem contract (H : Type) (enc : TypeId × Value → H) (W : World) (base : Nat) (args : Array Value) (ds gs : List (DataW H)) (before : List MemPlace)
    (hval0 : ∀ (j : Nat) t v, Tryd.f3.params[j]? = some t → args[j]? = some v → Value.okWide Tryd.prog W .any base t v)
    (hW : DataW.Whole enc Tryd.prog Tryd.f3.params.toList Rows.fnWorldsSpec.vars false W args.toList ds gs before) (hL : laidMetH Tryd.prog Rows.fnWorldsRow.laid W) :
    Calls Tryd.prog 3 args W fun e W' => ∃ v, e = .returned v ∧ Rows.fnWorldsSpec.post enc Tryd.prog Tryd.f3 false true false false W args v W' := by
  have hcnd : True := trivial
  have hval : ∀ (j : Nat) t v, Tryd.f3.params[j]? = some t → args[j]? = some v → Value.okWide Tryd.prog W .any base t v := hval0
  have hW' := hW
  obtain ⟨p, q, hA0, hV, rfl, hfz, hnd⟩ := hW
  have hA : DataW.TrodAll enc Tryd.prog W 0 (fun _ => true) true Tryd.f3.params.toList args.toList ds p := hA0
  rw [Tryd.params3] at hA hval
  obtain ⟨v0, vs0, d0, ds0, p0, q0, hargs, rfl, rfl, h0, r0⟩ := trodAll_cons hA
  obtain ⟨v1, vs1, d1, ds1, p1, q1, rfl, rfl, rfl, h1, r1⟩ := trodAll_cons r0
  obtain ⟨rfl, rfl, rfl⟩ := trodAll_nil r1
  obtain rfl : args = #[v0, v1] := by cases args; simp_all
  have hV1 : DataW.TrodVars enc Tryd.prog W (fun _ => true) ["loop.example/g00613/impl.parts"] gs q := hV
  obtain ⟨gg, gt, gcs, gfuel, gd, gp, rfl, hg, hgt, hvar, hgd, rfl⟩ := trodVars_one hV1
  obtain rfl := Option.some.inj ((show Tryd.prog.globalNamed "loop.example/g00613/impl.parts" = some 0 by kernel_rfl).symm.trans hg)
  obtain rfl := Option.some.inj ((show (Tryd.prog.globals[0]?).map (·.type) = some 63 by kernel_rfl).symm.trans hgt)
  have glt : ∀ x ∈ gp, x.block < W.heap.size := fun x hx => hW'.lt x (List.mem_append_right _ (List.mem_append_right _ hx))
  have g0lt : 0 < W.heap.size := lt_of_cell (parts_tab hL 0 (by omega))
  have k0 := h0
  have lt0 : ∀ x ∈ p0, x.block < W.heap.size := by obtain ⟨m, hm⟩ := k0; exact DataW.trod_lt m _ _ _ hm
  obtain ⟨a0, len0, cap0, rfl⟩ := okWide_slice Tryd.underlying22 (hval 0 22 v0 rfl rfl)
  obtain ⟨l0, rfl, m0, s0⟩ : ∃ l : List Int, l.length = len0 ∧ l.length ≤ maxLen ∧ BSeg W a0 l := by
    obtain ⟨fuel, hf⟩ := h0
    exact open_bytes hf
  have k1 := h1
  have lt1 : ∀ x ∈ p1, x.block < W.heap.size := by obtain ⟨m, hm⟩ := k1; exact DataW.trod_lt m _ _ _ hm
  obtain ⟨a1, len1, cap1, rfl⟩ := okWide_slice Tryd.underlying22 (hval 1 22 v1 rfl rfl)
  obtain ⟨l1, rfl, m1, s1⟩ : ∃ l : List Int, l.length = len1 ∧ l.length ≤ maxLen ∧ BSeg W a1 l := by
    obtain ⟨fuel, hf⟩ := h1
    exact open_bytes hf
  clear hA0 hval0
  refine (walk a0 l0 cap0 a1 l1 cap1 W s0 m0 s1 m1 hL).mono fun e W' ⟨he, bel⟩ => ?_
  subst he
  obtain ⟨gf, ghd⟩ := Below.trod laidOut (by kernel_rfl) (of_decide_eq_true (by kernel_rfl)) (v := .agg gcs) (⟨gfuel, by simpa [Value.cells] using hgd⟩ : DataW.Trod enc Tryd.prog W 0 (fun _ => true) true 63 (.agg gcs) gd gp) bel glt
  exact ⟨_, rfl, _, _, _, [], _, _, hW', trodAll_mk1 (shut_bool Tryd.underlying4 _), (trodAll_cons_mk (Below.trod laidOut (by kernel_rfl) (of_decide_eq_true (by kernel_rfl)) k0 bel lt0) (trodAll_cons_mk (Below.trod laidOut (by kernel_rfl) (of_decide_eq_true (by kernel_rfl)) k1 bel lt1) trodAll_mk0)), trodVars_mk1 (enc := enc) (spare := fun b => decide (b < W.heap.size)) hg hgt (var_below bel hg g0lt hvar) (by simpa [Value.cells] using ghd), bel.frame _, fun h => by cases h⟩

/-- A world for the witness: the settled one, the listed variables holding what their initialisers lay. -/
noncomputable def laidWorld (os : Os) : World :=
  { (World.holding Tryd.prog os ⟨#[], #[], []⟩) with heap := ((World.holding Tryd.prog os ⟨#[], #[], []⟩).heap.modify 0 fun
      | .cells _ t frozen => .cells #[.int .i64 1, .int .i64 2, .int .i64 4, .int .i64 8, .int .i64 16, .int .i64 32, .int .i64 64, .int .i64 128, .int .i64 256, .int .i64 512] t frozen
      | o => o) }
theorem laid_met (os : Os) : laidMet Tryd.prog Rows.fnWorldsRow.laid ((laidWorld os).forCall (fun _ _ => 0) ⟨#[], #[.slice none 0 0, .slice none 0 0], []⟩).memory :=
  laidMet_of_run' 8 (by kernel_rfl) (by kernel_rfl)
theorem reads (os : Os) {H : Type} (enc : TypeId × Value → H) : ∃ places, DataW.whole enc Tryd.prog ((laidWorld os).forCall (fun _ _ => 0) ⟨#[], #[.slice none 0 0, .slice none 0 0], []⟩).memory Tryd.f3.params.toList Rows.fnWorldsSpec.vars false (#[.slice none 0 0, .slice none 0 0] : Array Value).toList 8 = some ([.nil, .nil], [.agg [.lit (.int .i64 1), .lit (.int .i64 2), .lit (.int .i64 4), .lit (.int .i64 8), .lit (.int .i64 16), .lit (.int .i64 32), .lit (.int .i64 64), .lit (.int .i64 128), .lit (.int .i64 256), .lit (.int .i64 512)]], places) :=
  ⟨MemPlace.row ⟨0, 0, none⟩ 10, by kernel_rfl⟩
set_option maxRecDepth 100000 in
theorem lifted (os : Os) (started : os.Started) (H : Type) (enc : TypeId × Value → H) (F' : Stop.Interp) :
    ReturnsInHanded {} Tryd.checked os 3 .any ((OpenSpec.ofChange Rows.fnWorldsSpec).preRow enc Tryd.prog Tryd.f3 Rows.fnWorldsRow.domain false Rows.fnWorldsRow.laid) (((OpenSpec.ofChange Rows.fnWorldsSpec).at F').post enc Tryd.prog Tryd.f3 false true false false) := by
  obtain ⟨places, hx⟩ := reads os enc
  refine returnsInHanded_of_row (C := Tryd.checked) (s := OpenSpec.ofChange Rows.fnWorldsSpec) own started (by kernel_rfl) Tryd.func3
    (witness_row_at (enc := enc) (C := Tryd.checked) false (laidWorld os) #[.slice none 0 0, .slice none 0 0] rfl (by kernel_rfl) (by kernel_rfl) (by kernel_rfl)
      (OpenSpec.preRow_of_cond 8 hx (by kernel_rfl) (fun k hk => by cases hk) (by kernel_rfl) (laid_met os))) ?_
  intro W base args ds gs before hval hW _ _ _ hL _ _
  exact contract H enc W base args ds gs before hval hW hL
theorem said : Rows.FnWorldsSaid :=
  OpenClaim.holds_of_cond 3 Tryd.f3 rfl rfl rfl rfl rfl rfl rfl ⟨rfl, rfl, rfl, rfl, rfl⟩ rfl rfl rfl rfl rfl (by kernel_rfl) Tryd.func3 (by kernel_rfl)
    (of_decide_eq_true (by kernel_rfl)) (by unfold Func.isWrapper; first | (rw [if_pos (by decide +kernel)]; kernel_rfl) | (rw [if_neg (by decide +kernel)]; exact ⟨rfl, rfl⟩))
    (fun os started H enc _ F' => by rw [OpenClaim.pre_eq_preRow]; exact lifted os started H enc F')
theorem plain (f : FuncId) (fn : Func) (hf : Tryd.pinned.checked.prog.funcNamed "loop.example/g00613/laws.FnWorlds" = some f) (hfn : Tryd.pinned.checked.prog.funcs[f]? = some fn) :
    false = Tryd.pinned.checked.prog.looks [] ∧ ∀ (j : Nat) t, fn.params[j]? = some t → Tryd.pinned.checked.prog.wantsStandIn t = false := by
  obtain rfl : f = 3 := Option.some.inj ((show Tryd.prog.funcNamed "loop.example/g00613/laws.FnWorlds" = some 3 by kernel_rfl).symm.trans hf) |>.symm
  obtain rfl : fn = Tryd.f3 := (Option.some.inj (Tryd.func3.symm.trans hfn)).symm
  refine ⟨by kernel_rfl, fun j t ht => ?_⟩
  rw [Tryd.params3] at ht
  obtain rfl : t = 22 := by simpa using Array.mem_of_getElem? ht
  exact (show Tryd.prog.wantsStandIn 22 = false by kernel_rfl)
theorem card : Rows.FnWorldsCardSaid :=
  Claim7.holds_tied_plain_at .later [] _ _ _ _ said (fun _ h => by cases h) (by kernel_rfl) (fun _ h => by cases h) fnWorlds_row_tie rfl ⟨rfl, rfl⟩ (by kernel_rfl) rfl plain (by kernel_rfl)
end Go.Proofs.YtgppcocfnbalfaaDoor.lWorlds
namespace Go.Proofs.YtgppcocfnbalfaaDoor
/-- THE STATEMENT. -/
theorem worlds_holds : Rows.FnWorldsCardSaid := lWorlds.card
#print axioms worlds_holds
end Go.Proofs.YtgppcocfnbalfaaDoor
