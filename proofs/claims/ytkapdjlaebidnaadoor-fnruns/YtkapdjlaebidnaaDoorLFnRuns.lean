/- FnRuns answers true at every argument: cells come back from their text, each in one form alone, for drawn cells. The listed variables hold what their initialisers lay (the card ties them). (Written by wip/tools/mkruns.py.) -/
import Derived.Test.YtkapdjlaebidnaaDoorCards
import Derived.Test.YtkapdjlaebidnaaDoorTie
import Derived.Test.YtkapdjlaebidnaaDoorOpen
import Derived.Test.YtkapdjlaebidnaaDoorDrawR
import Derived.Test.YtkapdjlaebidnaaDoorErr
import Derived.Deep.DeepHandedRow
import Derived.Deep.DeepWitnessRowRef
import Derived.Lib.LaidTab
namespace Go.Proofs.YtkapdjlaebidnaaDoor.lRuns
open Go.RowKit Go.ChangeShapes Go.WideShapes Go.ChangeAt
set_option linter.unusedVariables false

set_option maxHeartbeats 4000000 in
set_option maxRecDepth 100000 in
theorem walk (a0 : Option Addr) (l0 : List Int) (c0 : Nat) (a1 : Option Addr) (l1 : List Int) (c1 : Nat) (w0 : World) (ha : BSeg w0 a0 l0) (hm0 : l0.length ≤ maxLen) (hb : BSeg w0 a1 l1) (hm1 : l1.length ≤ maxLen) (hL : laidMetH Tryd.prog Rows.fnRunsRow.laid w0) :
    Calls Tryd.prog 3 #[.slice a0 l0.length c0, .slice a1 l1.length c1] w0 fun e w' => e = .returned (.bool true) ∧ Below w0.heap.size w0 w' := by
  obtain ⟨ev, hv, hev⟩ := errRange hL
  have EV := hid (show EvAt w0 ev from ⟨hv, lt_cell hv⟩)
  have HE := hid hev
  clear hL hv hev
  unfold maxLen at hm0 hm1
  by_cases hl : wrap64 ((l0.length : Int) + (l1.length : Int)) ≤ 1048576
  · have SM := hid hb
    have BB := hid (Below.refl w0.heap.size w0)
    have HA := hid ha
    clear ha hb
    go_enter Tryd.func3, Tryd.ntmps3
    go_wp2_with fail
    refine (c_DrawRunsOf a0 l0 c0 w0 HA.out (by omega)).mono ?_
    rintro e w1 ⟨v, L, rfl, o, hL, hsL, b⟩
    replace SM := hid (SM.out.below b)
    replace EV := hid (EV.out.below b)
    replace BB := hid (BB.out.trans (b.mono BB.out.size))
    clear b
    obtain ⟨aL, cL, rfl, _⟩ := o.form
    have OL := hid o
    clear o
    clear hsL HA
    have hT := runsTx_size hL
    have RB := hid (runs_back (l := L))
    go_wp2_with fail
    refine (c_iRunsOf aL L cL w1 OL.out.seg (by omega) (own_cap OL.out).1 (own_cap OL.out).2).mono ?_
    rintro e w2 ⟨rfl, b⟩
    replace SM := hid (SM.out.below b)
    replace EV := hid (EV.out.below b)
    replace OL := hid (OL.out.below b)
    replace BB := hid (BB.out.trans (b.mono BB.out.size))
    clear b
    go_wp2_with fail
    refine (c_sRunsOf aL L cL w2 OL.out.seg (by omega)).mono ?_
    rintro e w3 ⟨rfl, b⟩
    replace SM := hid (SM.out.below b)
    replace EV := hid (EV.out.below b)
    replace OL := hid (OL.out.below b)
    replace BB := hid (BB.out.trans (b.mono BB.out.size))
    clear b
    generalize runsOk L = ok at *
    generalize runsTx L = s at *
    have d0 : (s.toList == s.toList) = true := by rw [bytes_beq]; simp
    have d6 : (ok != ok) = false := by simp
    cases ok
    case false =>
      clear RB d6
      clear OL
      go_wp2_with fail
      refine (c_DrawOfRuns a1 l1 c1 w3 SM.out (by omega)).mono ?_
      rintro e w4 ⟨t, rfl, ht, b⟩
      replace SM := hid (SM.out.below b)
      replace EV := hid (EV.out.below b)
      replace BB := hid (BB.out.trans (b.mono BB.out.size))
      clear b
      have F := hid (runs_again (s := t))
      have hle := ofL_le t
      go_wp2_with fail
      refine (c_iOfRuns t w4 ev (by unfold maxLen; omega) EV.out.1 HE.out).mono ?_
      rintro e w5 ⟨v, rfl, o, b⟩
      replace SM := hid (SM.out.below b)
      replace EV := hid (EV.out.below b)
      replace BB := hid (BB.out.trans (b.mono BB.out.size))
      clear b
      obtain ⟨aA, cA, rfl, _⟩ := o.form
      have OA := hid o
      clear o
      go_wp2_with fail
      refine (c_sOfRuns t w5 (by unfold maxLen; omega)).mono ?_
      rintro e w6 ⟨v, rfl, o, b⟩
      replace SM := hid (SM.out.below b)
      replace EV := hid (EV.out.below b)
      replace OA := hid (OA.out.below b)
      replace BB := hid (BB.out.trans (b.mono BB.out.size))
      clear b
      obtain ⟨aC, cC, rfl, _⟩ := o.form
      have OC := hid o
      clear o
      go_wp2_with fail
      refine (c_iCountIn t w6 ev (by unfold maxLen; omega) EV.out.1 HE.out).mono ?_
      rintro e w7 ⟨rfl, b⟩
      replace SM := hid (SM.out.below b)
      replace EV := hid (EV.out.below b)
      replace OA := hid (OA.out.below b)
      replace OC := hid (OC.out.below b)
      replace BB := hid (BB.out.trans (b.mono BB.out.size))
      clear b
      go_wp2_with fail
      refine (c_sCountIn t w7 (by unfold maxLen; omega)).mono ?_
      rintro e w8 ⟨rfl, b⟩
      replace SM := hid (SM.out.below b)
      replace EV := hid (EV.out.below b)
      replace OA := hid (OA.out.below b)
      replace OC := hid (OC.out.below b)
      replace BB := hid (BB.out.trans (b.mono BB.out.size))
      clear b
      generalize ofOk t = ok at *
      generalize ofCode t = cd at *
      generalize ofL t = R at *
      have d1 : decide (R = R) = true := by simp
      have d2 : (ok != ok) = false := by simp
      have d3 : ((cd : Int) != (cd : Int)) = false := by simp
      have d4 : ((R.length : Int) != (R.length : Int)) = false := by simp
      go_wp2_with fail
      refine (c_sameCells aA aC R R cA cC w8 OA.out.seg OC.out.seg (by omega) (by omega)).mono ?_
      rintro e w9 ⟨rfl, b⟩
      replace SM := hid (SM.out.below b)
      replace EV := hid (EV.out.below b)
      replace OA := hid (OA.out.below b)
      replace OC := hid (OC.out.below b)
      replace BB := hid (BB.out.trans (b.mono BB.out.size))
      clear b
      clear OC
      cases ok
      case false =>
        go_wp2
        go_ret
        exact ⟨rfl, BB.out⟩
      case true =>
        have F' := F.out (by first | rfl | trivial)
        have d5 : (t.toList == t.toList) = true := by rw [bytes_beq]; simp
        have CC := hid (c_iRunsOf aA R cA w9 OA.out.seg (by omega) (own_cap OA.out).1 (own_cap OA.out).2)
        rw [F'.1, F'.2] at CC
        go_wp2_with fail
        refine CC.out.mono ?_
        rintro e w10 ⟨rfl, b⟩
        replace SM := hid (SM.out.below b)
        replace EV := hid (EV.out.below b)
        replace OA := hid (OA.out.below b)
        replace BB := hid (BB.out.trans (b.mono BB.out.size))
        clear b CC
        clear F F'
        go_wp2
        go_ret
        first | exact ⟨rfl, BB.out⟩ | exact ⟨ret_bool (by simp), BB.out⟩
    case true =>
      have R0 := RB.out (by first | rfl | trivial) (by omega)
      have R1 := hid R0.1
      have R2 := hid R0.2.1
      have R3 := hid R0.2.2
      clear R0 RB d6
      have hs4 : (s.size : Int) ≤ 400 := by omega
      have CC := hid (c_iOfRuns s w3 ev (by unfold maxLen; omega) EV.out.1 HE.out)
      rw [R1.out, R2.out, R3.out] at CC
      rw [show ((0 : Nat) : Int) = 0 from rfl] at CC
      go_wp2_with fail
      refine CC.out.mono ?_
      rintro e w4 ⟨v, rfl, o, b⟩
      replace SM := hid (SM.out.below b)
      replace EV := hid (EV.out.below b)
      replace OL := hid (OL.out.below b)
      replace BB := hid (BB.out.trans (b.mono BB.out.size))
      clear b CC
      obtain ⟨aB, cB, rfl, _⟩ := o.form
      have OB := hid o
      clear o
      have CC := hid (c_iCountIn s w4 ev (by unfold maxLen; omega) EV.out.1 HE.out)
      rw [R1.out, R3.out] at CC
      go_wp2_with fail
      refine CC.out.mono ?_
      rintro e w5 ⟨rfl, b⟩
      replace SM := hid (SM.out.below b)
      replace EV := hid (EV.out.below b)
      replace OL := hid (OL.out.below b)
      replace OB := hid (OB.out.below b)
      replace BB := hid (BB.out.trans (b.mono BB.out.size))
      clear b CC
      have d7 : decide (L = L) = true := by simp
      have d8 : ((L.length : Int) != (L.length : Int)) = false := by simp
      go_wp2_with fail
      refine (c_sameCells aB aL L L cB cL w5 OB.out.seg OL.out.seg (by omega) (by omega)).mono ?_
      rintro e w6 ⟨rfl, b⟩
      replace SM := hid (SM.out.below b)
      replace EV := hid (EV.out.below b)
      replace OL := hid (OL.out.below b)
      replace OB := hid (OB.out.below b)
      replace BB := hid (BB.out.trans (b.mono BB.out.size))
      clear b
      clear R1 R2 R3
      clear OB OL
      go_wp2_with fail
      refine (c_DrawOfRuns a1 l1 c1 w6 SM.out (by omega)).mono ?_
      rintro e w7 ⟨t, rfl, ht, b⟩
      replace SM := hid (SM.out.below b)
      replace EV := hid (EV.out.below b)
      replace BB := hid (BB.out.trans (b.mono BB.out.size))
      clear b
      have F := hid (runs_again (s := t))
      have hle := ofL_le t
      go_wp2_with fail
      refine (c_iOfRuns t w7 ev (by unfold maxLen; omega) EV.out.1 HE.out).mono ?_
      rintro e w8 ⟨v, rfl, o, b⟩
      replace SM := hid (SM.out.below b)
      replace EV := hid (EV.out.below b)
      replace BB := hid (BB.out.trans (b.mono BB.out.size))
      clear b
      obtain ⟨aA, cA, rfl, _⟩ := o.form
      have OA := hid o
      clear o
      go_wp2_with fail
      refine (c_sOfRuns t w8 (by unfold maxLen; omega)).mono ?_
      rintro e w9 ⟨v, rfl, o, b⟩
      replace SM := hid (SM.out.below b)
      replace EV := hid (EV.out.below b)
      replace OA := hid (OA.out.below b)
      replace BB := hid (BB.out.trans (b.mono BB.out.size))
      clear b
      obtain ⟨aC, cC, rfl, _⟩ := o.form
      have OC := hid o
      clear o
      go_wp2_with fail
      refine (c_iCountIn t w9 ev (by unfold maxLen; omega) EV.out.1 HE.out).mono ?_
      rintro e w10 ⟨rfl, b⟩
      replace SM := hid (SM.out.below b)
      replace EV := hid (EV.out.below b)
      replace OA := hid (OA.out.below b)
      replace OC := hid (OC.out.below b)
      replace BB := hid (BB.out.trans (b.mono BB.out.size))
      clear b
      go_wp2_with fail
      refine (c_sCountIn t w10 (by unfold maxLen; omega)).mono ?_
      rintro e w11 ⟨rfl, b⟩
      replace SM := hid (SM.out.below b)
      replace EV := hid (EV.out.below b)
      replace OA := hid (OA.out.below b)
      replace OC := hid (OC.out.below b)
      replace BB := hid (BB.out.trans (b.mono BB.out.size))
      clear b
      generalize ofOk t = ok at *
      generalize ofCode t = cd at *
      generalize ofL t = R at *
      have d1 : decide (R = R) = true := by simp
      have d2 : (ok != ok) = false := by simp
      have d3 : ((cd : Int) != (cd : Int)) = false := by simp
      have d4 : ((R.length : Int) != (R.length : Int)) = false := by simp
      go_wp2_with fail
      refine (c_sameCells aA aC R R cA cC w11 OA.out.seg OC.out.seg (by omega) (by omega)).mono ?_
      rintro e w12 ⟨rfl, b⟩
      replace SM := hid (SM.out.below b)
      replace EV := hid (EV.out.below b)
      replace OA := hid (OA.out.below b)
      replace OC := hid (OC.out.below b)
      replace BB := hid (BB.out.trans (b.mono BB.out.size))
      clear b
      clear OC
      cases ok
      case false =>
        go_wp2
        go_ret
        exact ⟨rfl, BB.out⟩
      case true =>
        have F' := F.out (by first | rfl | trivial)
        have d5 : (t.toList == t.toList) = true := by rw [bytes_beq]; simp
        have CC := hid (c_iRunsOf aA R cA w12 OA.out.seg (by omega) (own_cap OA.out).1 (own_cap OA.out).2)
        rw [F'.1, F'.2] at CC
        go_wp2_with fail
        refine CC.out.mono ?_
        rintro e w13 ⟨rfl, b⟩
        replace SM := hid (SM.out.below b)
        replace EV := hid (EV.out.below b)
        replace OA := hid (OA.out.below b)
        replace BB := hid (BB.out.trans (b.mono BB.out.size))
        clear b CC
        clear F F'
        go_wp2
        go_ret
        first | exact ⟨rfl, BB.out⟩ | exact ⟨ret_bool (by simp), BB.out⟩
  · have hz : (1048576 : Int) < wrap64 ((l0.length : Int) + (l1.length : Int)) := by omega
    go_enter Tryd.func3, Tryd.ntmps3
    go_wp2
    go_ret
    exact ⟨rfl, Below.refl _ _⟩

set_option maxRecDepth 100000 in
theorem contract (H : Type) (enc : TypeId × Value → H) (W : World) (base : Nat) (args : Array Value) (ds gs : List (DataW H)) (before : List MemPlace)
    (hval0 : ∀ (j : Nat) t v, Tryd.f3.params[j]? = some t → args[j]? = some v → Value.okWide Tryd.prog W .any base t v)
    (hW : DataW.Whole enc Tryd.prog Tryd.f3.params.toList Rows.fnRunsSpec.vars false W args.toList ds gs before) (hL : laidMetH Tryd.prog Rows.fnRunsRow.laid W) :
    Calls Tryd.prog 3 args W fun e W' => ∃ v, e = .returned v ∧ Rows.fnRunsSpec.post enc Tryd.prog Tryd.f3 false true false false W args v W' := by
  have hcnd : True := trivial
  have hval : ∀ (j : Nat) t v, Tryd.f3.params[j]? = some t → args[j]? = some v → Value.okWide Tryd.prog W .any base t v := hval0
  have hW' := hW
  obtain ⟨p, q, hA0, hV, rfl, hfz, hnd⟩ := hW
  have hA : DataW.TrodAll enc Tryd.prog W 0 (fun _ => true) true Tryd.f3.params.toList args.toList ds p := hA0
  rw [Tryd.params3] at hA hval
  obtain ⟨v0, vs0, d0, ds0, p0, q0, hargs, rfl, rfl, h0, r0⟩ := trodAll_cons hA
  obtain ⟨v1, vs1, d1, ds1, p1, q1, rfl, rfl, rfl, h1, r1⟩ := trodAll_cons r0
  obtain ⟨rfl, rfl, rfl⟩ := trodAll_nil r1
  obtain rfl : args = #[v0, v1] := by cases args; simp_all
  obtain ⟨rfl, rfl⟩ := trodVars_none hV
  have k0 := h0
  have lt0 : ∀ x ∈ p0, x.block < W.heap.size := by obtain ⟨m, hm⟩ := k0; exact DataW.trod_lt m _ _ _ hm
  obtain ⟨a0, len0, cap0, rfl⟩ := okWide_slice Tryd.underlying22 (hval 0 22 v0 rfl rfl)
  obtain ⟨l0, rfl, m0, s0⟩ : ∃ l : List Int, l.length = len0 ∧ l.length ≤ maxLen ∧ BSeg W a0 l := by
    obtain ⟨fuel, hf⟩ := h0
    exact open_bytes hf
  have k1 := h1
  have lt1 : ∀ x ∈ p1, x.block < W.heap.size := by obtain ⟨m, hm⟩ := k1; exact DataW.trod_lt m _ _ _ hm
  obtain ⟨a1, len1, cap1, rfl⟩ := okWide_slice Tryd.underlying22 (hval 1 22 v1 rfl rfl)
  obtain ⟨l1, rfl, m1, s1⟩ : ∃ l : List Int, l.length = len1 ∧ l.length ≤ maxLen ∧ BSeg W a1 l := by
    obtain ⟨fuel, hf⟩ := h1
    exact open_bytes hf
  clear hA0 hval0
  refine (walk a0 l0 cap0 a1 l1 cap1 W s0 m0 s1 m1 hL).mono fun e W' ⟨he, bel⟩ => ?_
  subst he
  exact ⟨_, rfl, _, _, _, [], _, [], hW', trodAll_mk1 (shut_bool Tryd.underlying4 _), (trodAll_cons_mk (Below.trod laidOut (by kernel_rfl) (of_decide_eq_true (by kernel_rfl)) k0 bel lt0) (trodAll_cons_mk (Below.trod laidOut (by kernel_rfl) (of_decide_eq_true (by kernel_rfl)) k1 bel lt1) trodAll_mk0)), rfl, bel.frame _, fun h => by cases h⟩

/-- A world for the witness: the settled one, the listed variables holding what their initialisers lay. -/
noncomputable def laidWorld (os : Os) : World :=
  { (World.holding Tryd.prog os ⟨#[], #[], []⟩) with heap := ((((((((World.holding Tryd.prog os ⟨#[], #[], []⟩).heap.modify 3 fun
      | .cells _ t frozen => .cells #[.int .u8 0, .int .u8 1, .int .u8 28, .int .u8 2, .int .u8 29, .int .u8 14, .int .u8 24, .int .u8 3, .int .u8 30, .int .u8 22, .int .u8 20, .int .u8 15, .int .u8 25, .int .u8 17, .int .u8 4, .int .u8 8, .int .u8 31, .int .u8 27, .int .u8 13, .int .u8 23, .int .u8 21, .int .u8 19, .int .u8 16, .int .u8 7, .int .u8 26, .int .u8 12, .int .u8 18, .int .u8 6, .int .u8 11, .int .u8 5, .int .u8 10, .int .u8 9] t frozen
      | o => o).modify 4 fun
      | .cells _ t frozen => .cells #[.int .u8 0, .int .u8 1, .int .u8 56, .int .u8 2, .int .u8 57, .int .u8 49, .int .u8 28, .int .u8 3, .int .u8 61, .int .u8 58, .int .u8 42, .int .u8 50, .int .u8 38, .int .u8 29, .int .u8 17, .int .u8 4, .int .u8 62, .int .u8 47, .int .u8 59, .int .u8 36, .int .u8 45, .int .u8 43, .int .u8 51, .int .u8 22, .int .u8 53, .int .u8 39, .int .u8 33, .int .u8 30, .int .u8 24, .int .u8 18, .int .u8 12, .int .u8 5, .int .u8 63, .int .u8 55, .int .u8 48, .int .u8 27, .int .u8 60, .int .u8 41, .int .u8 37, .int .u8 16, .int .u8 46, .int .u8 35, .int .u8 44, .int .u8 21, .int .u8 52, .int .u8 32, .int .u8 23, .int .u8 11, .int .u8 54, .int .u8 26, .int .u8 40, .int .u8 15, .int .u8 34, .int .u8 20, .int .u8 31, .int .u8 10, .int .u8 25, .int .u8 14, .int .u8 19, .int .u8 9, .int .u8 13, .int .u8 8, .int .u8 7, .int .u8 6] t frozen
      | o => o).modify 2 fun
      | .cells _ t frozen => .cells #[.int .u64 1, .int .u64 10, .int .u64 100, .int .u64 1000, .int .u64 10000, .int .u64 100000, .int .u64 1000000, .int .u64 10000000, .int .u64 100000000, .int .u64 1000000000, .int .u64 10000000000, .int .u64 100000000000, .int .u64 1000000000000, .int .u64 10000000000000, .int .u64 100000000000000, .int .u64 1000000000000000, .int .u64 10000000000000000, .int .u64 100000000000000000, .int .u64 1000000000000000000, .int .u64 10000000000000000000] t frozen
      | o => o).modify 1 fun
      | .cells _ t frozen => .cells #[.iface 122 (.pointer (some ⟨(World.holding Tryd.prog os ⟨#[], #[], []⟩).heap.size + 0, 0, none⟩))] t frozen
      | o => o).modify 0 fun
      | .cells _ t frozen => .cells #[.iface 122 (.pointer (some ⟨(World.holding Tryd.prog os ⟨#[], #[], []⟩).heap.size + 1, 0, none⟩))] t frozen
      | o => o).push (.cells #[.string ⟨#[118, 97, 108, 117, 101, 32, 111, 117, 116, 32, 111, 102, 32, 114, 97, 110, 103, 101]⟩] 124)).push (.cells #[.string ⟨#[105, 110, 118, 97, 108, 105, 100, 32, 115, 121, 110, 116, 97, 120]⟩] 124)) }
theorem laid_met (os : Os) : laidMet Tryd.prog Rows.fnRunsRow.laid ((laidWorld os).forCall (fun _ _ => 0) ⟨#[], #[.slice none 0 0, .slice none 0 0], []⟩).memory :=
  laidMet_of_run' 8 (by kernel_rfl) (by kernel_rfl)
theorem reads (os : Os) {H : Type} (enc : TypeId × Value → H) : ∃ places, DataW.whole enc Tryd.prog ((laidWorld os).forCall (fun _ _ => 0) ⟨#[], #[.slice none 0 0, .slice none 0 0], []⟩).memory Tryd.f3.params.toList Rows.fnRunsSpec.vars false (#[.slice none 0 0, .slice none 0 0] : Array Value).toList 8 = some ([.nil, .nil], [], places) :=
  ⟨[], by kernel_rfl⟩
set_option maxRecDepth 100000 in
theorem lifted (os : Os) (started : os.Started) (H : Type) (enc : TypeId × Value → H) (F' : Stop.Interp) :
    ReturnsInHanded {} Tryd.checked os 3 .any ((OpenSpec.ofChange Rows.fnRunsSpec).preRow enc Tryd.prog Tryd.f3 Rows.fnRunsRow.domain false Rows.fnRunsRow.laid) (((OpenSpec.ofChange Rows.fnRunsSpec).at F').post enc Tryd.prog Tryd.f3 false true false false) := by
  obtain ⟨places, hx⟩ := reads os enc
  refine returnsInHanded_of_row (C := Tryd.checked) (s := OpenSpec.ofChange Rows.fnRunsSpec) own started (by kernel_rfl) Tryd.func3
    (witness_row_atRef (enc := enc) (C := Tryd.checked) false (laidWorld os) #[.slice none 0 0, .slice none 0 0] rfl (by kernel_rfl) (by kernel_rfl) (by kernel_rfl)
      (OpenSpec.preRow_of_cond 8 hx (by kernel_rfl) (fun k hk => by cases hk) (by kernel_rfl) (laid_met os))) ?_
  intro W base args ds gs before hval hW _ _ _ hL _ _
  exact contract H enc W base args ds gs before hval hW hL
theorem said : Rows.FnRunsSaid :=
  OpenClaim.holds_of_cond 3 Tryd.f3 rfl rfl rfl rfl rfl rfl rfl ⟨rfl, rfl, rfl, rfl, rfl⟩ rfl rfl rfl rfl rfl (by kernel_rfl) Tryd.func3 (by kernel_rfl)
    (of_decide_eq_true (by kernel_rfl)) (by unfold Func.isWrapper; first | (rw [if_pos (by decide +kernel)]; kernel_rfl) | (rw [if_neg (by decide +kernel)]; exact ⟨rfl, rfl⟩))
    (fun os started H enc _ F' => by rw [OpenClaim.pre_eq_preRow]; exact lifted os started H enc F')
theorem plain (f : FuncId) (fn : Func) (hf : Tryd.pinned.checked.prog.funcNamed "loop.example/g00613/laws.FnRuns" = some f) (hfn : Tryd.pinned.checked.prog.funcs[f]? = some fn) :
    true = Tryd.pinned.checked.prog.looks [] ∧ ∀ (j : Nat) t, fn.params[j]? = some t → Tryd.pinned.checked.prog.wantsStandIn t = false := by
  obtain rfl : f = 3 := Option.some.inj ((show Tryd.prog.funcNamed "loop.example/g00613/laws.FnRuns" = some 3 by kernel_rfl).symm.trans hf) |>.symm
  obtain rfl : fn = Tryd.f3 := (Option.some.inj (Tryd.func3.symm.trans hfn)).symm
  refine ⟨by kernel_rfl, fun j t ht => ?_⟩
  rw [Tryd.params3] at ht
  obtain rfl : t = 22 := by simpa using Array.mem_of_getElem? ht
  exact (show Tryd.prog.wantsStandIn 22 = false by kernel_rfl)
theorem card : Rows.FnRunsCardSaid :=
  Claim7.holds_tied_plain_at .later [] _ _ _ _ said (fun _ h => by cases h) (by kernel_rfl) (fun _ h => by cases h) fnRuns_row_tie rfl ⟨rfl, rfl⟩ (by kernel_rfl) rfl plain (by kernel_rfl)
end Go.Proofs.YtkapdjlaebidnaaDoor.lRuns
namespace Go.Proofs.YtkapdjlaebidnaaDoor
/-- THE STATEMENT. -/
theorem runs_holds : Rows.FnRunsCardSaid := lRuns.card
#print axioms runs_holds
end Go.Proofs.YtkapdjlaebidnaaDoor
