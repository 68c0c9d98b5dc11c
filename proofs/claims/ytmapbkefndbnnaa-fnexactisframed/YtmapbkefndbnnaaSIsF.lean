/- What the specification's IsFramed answers. -/
import Derived.Test.YtmapbkefndbnnaaFrP
import Derived.Test.YtmapbkefndbnnaaSMrg
namespace Go.Proofs.Ytmapbkefndbnnaa
open Go.RowKit
set_option linter.unusedVariables false
set_option linter.unusedSimpArgs false
attribute [local go_sem ↓] Go.wp_at_zero Go.wp_at_succ

theorem all_at {l : List Cl} {f : Cl → Bool} (h : ∀ t, t < l.length → f (at_ l t) = true) : l.all f = true := by
  rw [List.all_eq_true]
  intro c hc
  obtain ⟨i, hi, e⟩ := mem_at.1 hc
  rw [← e]; exact h i hi
theorem not_all_at {l : List Cl} {f : Cl → Bool} {t : Nat} (ht : t < l.length) (h : f (at_ l t) = false) : l.all f = false := by
  cases e : l.all f
  · rfl
  · rw [List.all_eq_true] at e
    have := e (at_ l t) (mem_at.2 ⟨t, ht, rfl⟩)
    rw [h] at this; cases this

set_option maxHeartbeats 4000000 in
set_option maxRecDepth 100000 in
theorem c_sIsFramed (a : Option Addr) (F : List Qd) (ca : Nat) (q : Int) (w : World) (ha : QSeg w a F) (hl : F.length ≤ 1048576) (hk : KidsLe F) (hca : F.length ≤ ca) (hcm : ca ≤ 9223372036854775807) :
    Calls Try.prog 65 #[.agg #[.slice a F.length ca], .int .i64 q] w fun e w' => e = .returned (.tuple #[.bool (frdV F q), .bool (cenOK F q)]) ∧ Below w.heap.size w w' := by
  have B2 := hid ((Bx.nil w).add (by simp) #[.slice a F.length ca] 25)
  have Q2 := hid (ha.below B2.out.2.2)
  clear ha
  have x0 := B2.out.cell 0 0 (v := .slice a F.length ca) rfl rfl
  rw [Nat.add_zero] at x0
  cases hth : thereB F q
  · have HC := hid (c_l3There' a F ca q false hth _ Q2.out hl hk hca hcm)
    have HV := hid (show cenOK F q = false by simp [cenOK, hth])
    have HW := hid (show frdV F q = false by simp [frdV, HV.out])
    clear hth
    go_enter Try.func65, Try.ntmps65
    go_wp2_with fail
    refine HC.out.mono ?_
    rintro e w3 ⟨rfl, hb⟩
    have B3 := hid (B2.out.step hb)
    clear HC hb
    go_wp2_with fail
    go_ret2
    exact ⟨by rw [HV.out, HW.out]; rfl, B3.out.2.2⟩
  · have HC := hid (c_l3There' a F ca q true hth _ Q2.out hl hk hca hcm)
    obtain ⟨hg, h0, h1⟩ := there_bd hth
    obtain ⟨hn5, hlevN⟩ := levN_le hg (show q.toNat < F.length by omega)
    have QA := Q2.out q.toNat (by omega)
    obtain ⟨b1, o1, ak, ck, rfl, hb1, p1, _⟩ := QA
    obtain ⟨lv, hlv⟩ : ∃ lv, (qa F q.toNat).1 = lv := ⟨_, rfl⟩
    rw [hlv] at p1 hlevN
    by_cases hbad : lv < 2
    · have HV := hid (show cenOK F q = false by simp only [cenOK, hth, hlv, Bool.true_and]; rw [decide_eq_false (by omega)])
      have HW := hid (show frdV F q = false by simp [frdV, HV.out])
      have dl : decide (lv < 2) = true := decide_eq_true hbad
      clear hth hg
      go_enter Try.func65, Try.ntmps65
      go_wp2_with fail
      refine HC.out.mono ?_
      rintro e w3 ⟨rfl, hb⟩
      have B3 := hid (B2.out.step hb)
      have x3 := B3.out.cell 0 0 (v := .slice (some ⟨b1, o1, none⟩) F.length ca) rfl rfl
      rw [Nat.add_zero] at x3
      have y3 := (hb.cell (p := ⟨b1, o1 + q.toNat * 2, none⟩) hb1).trans p1
      clear HC hb p1 x0
      go_wp2_with fail
      go_ret2
      exact ⟨by rw [HV.out, HW.out]; rfl, B3.out.2.2⟩
    · have HV := hid (show cenOK F q = true by simp only [cenOK, hth, hlv, Bool.true_and]; rw [decide_eq_true (by omega)])
      have HLEN := hid (show (cellsOfQ F q.toNat).length ≤ 1048576 by have := cellsOfQ_le hg (show q.toNat < F.length by omega); omega)
      have hNN : levN F q.toNat - 2 = (lv - 2).toNat := by omega
      have HWT := hid (fun (h : ∀ t, t < (cellsOfQ F q.toNat).length → midB (lv - 2).toNat (at_ (cellsOfQ F q.toNat) t) = true) => (show frdV F q = true by unfold frdV; rw [HV.out, hNN, all_at h]; rfl))
      have HWF := hid (fun (t : Nat) (ht : t < (cellsOfQ F q.toNat).length) (h : midB (lv - 2).toNat (at_ (cellsOfQ F q.toNat) t) = false) => (show frdV F q = false by unfold frdV; rw [HV.out, hNN, not_all_at ht h]; rfl))
      have HX := hid (fun (z : Int) (v : Bool) (lo hi : Int) (W : World) (e1 : lo = 2 ^ (lv - 2).toNat) (e2 : hi = 3 * 2 ^ (lv - 2).toNat - 1) (hv : inB (2 ^ (lv - 2).toNat) (3 * 2 ^ (lv - 2).toNat - 1) z = v) => c_l1In' z lo hi v (by rw [e1, e2]; exact hv) W)
      have HLL := hid (fun (W : World) (hQ : QSeg W (some ⟨b1, o1, none⟩) F) => c_l3CellsAll hg (some ⟨b1, o1, none⟩) ca q W hQ h0 h1)
      have hlo : lv = 2 ∨ lv = 3 ∨ lv = 4 ∨ lv = 5 := by omega
      clear hlevN hn5 hNN
      generalize cellsOfQ F q.toNat = CL at *
      generalize frdV F q = FV at *
      obtain ⟨NN, hN⟩ : ∃ n, (lv - 2).toNat = n := ⟨_, rfl⟩
      rw [hN] at HWT HWF HX
      have HNN := hid hN.symm
      clear hth hg hbad hlv hN
      rcases hlo with rfl | rfl | rfl | rfl
      all_goals
        go_enter Try.func65, Try.ntmps65
        go_wp2_with fail
        refine HC.out.mono ?_
        rintro e w3 ⟨rfl, hb⟩
        have B3 := hid (B2.out.step hb)
        have x3 := B3.out.cell 0 0 (v := .slice (some ⟨b1, o1, none⟩) F.length ca) rfl rfl
        rw [Nat.add_zero] at x3
        have y3 := (hb.cell (p := ⟨b1, o1 + q.toNat * 2, none⟩) hb1).trans p1
        have Q3 := hid (Q2.out.below hb)
        clear HC hb p1 x0
        go_wp2_with fail
        refine (HLL.out _ Q3.out).mono ?_
        rintro e w5 ⟨v5, rfl, hO5, hb5⟩
        obtain ⟨a5, c5, rfl, hS5⟩ := hO5.form
        have HSS5 := hid hS5
        have B5 := hid (B3.out.step hb5)
        clear hO5 hS5 hb5 x3 y3
        go_wp2_with fail
        go_loopw [35] (fun i wr => ∃ k : Nat, k ≤ CL.length ∧ i = .int .i64 k ∧ Hid (∀ t, t < k → midB NN (at_ CL t) = true) ∧ Hid (Below w5.heap.size w5 wr)) (fun i _ => CL.length - (intOf i).toNat)
        case atStart => exact ⟨0, Nat.zero_le _, rfl, (fun t ht => absurd ht (Nat.not_lt_zero _)), Below.refl _ _⟩
        case round =>
          obtain ⟨k, hk', rfl, HM, HB⟩ := hrel
          by_cases hlt : k < CL.length
          · obtain ⟨bz, oz, rfl, hbz, p1, p2⟩ := HSS5.out k hlt
            have g1 := (HB.out.cell (p := ⟨bz, oz + k * 2, none⟩) hbz).trans p1
            have g2 := (HB.out.cell (p := ⟨bz, oz + k * 2 + 1, none⟩) hbz).trans p2
            change _ = some (Value.int .i64 (at_ CL k).1) at g1
            change _ = some (Value.int .i64 (at_ CL k).2) at g2
            clear p1 p2
            have hcl : CL.length ≤ 1048576 := HLEN.out
            have k0 : (0 : Int) ≤ (k : Int) := by omega
            have k1 : (k : Int) < (CL.length : Int) := by omega
            have HBA := hid (HB.out.alloc HB.out.size (.cells #[.int .i64 (at_ CL k).1, .int .i64 (at_ CL k).2] 39))
            have HFF := hid (HWF.out k hlt)
            have HMM : Hid (midB NN (at_ CL k) = true → Hid (∀ t, t < k + 1 → midB NN (at_ CL t) = true)) := fun h t ht => if e : t = k then by rw [e]; exact h else HM.out t (by omega)
            unfold midB at HFF
            generalize at_ CL k = z at *
            cases hx : inB (2 ^ NN) (3 * 2 ^ NN - 1) z.1
            · have HF := hid (HFF.out (by rw [hx]; rfl))
              clear HMM HFF
              have HX1 := hid (fun lo hi W e1 e2 => HX.out z.1 false lo hi W e1 e2 hx)
              clear hx
              go_wp2_with fail
              refine (HX1.out _ _ _ (by rw [HNN.out]; decide) (by rw [HNN.out]; decide)).mono ?_
              rintro e w1 ⟨rfl, rfl⟩
              go_wp2
              go_ret2
              exact ⟨by rw [HV.out, HF.out]; rfl, B5.out.2.2.trans (HBA.out.mono B5.out.2.2.size)⟩
            · have HX1 := hid (fun lo hi W e1 e2 => HX.out z.1 true lo hi W e1 e2 hx)
              cases hy : inB (2 ^ NN) (3 * 2 ^ NN - 1) z.2
              · have HF := hid (HFF.out (by rw [hx, hy]; rfl))
                have HY1 := hid (fun lo hi W e1 e2 => HX.out z.2 false lo hi W e1 e2 hy)
                clear hx hy HMM HFF
                go_wp2_with fail
                refine (HX1.out _ _ _ (by rw [HNN.out]; decide) (by rw [HNN.out]; decide)).mono ?_
                rintro e w1 ⟨rfl, rfl⟩
                go_wp2_with fail
                refine (HY1.out _ _ _ (by rw [HNN.out]; decide) (by rw [HNN.out]; decide)).mono ?_
                rintro e w1 ⟨rfl, rfl⟩
                go_wp2
                go_ret2
                exact ⟨by rw [HV.out, HF.out]; rfl, B5.out.2.2.trans (HBA.out.mono B5.out.2.2.size)⟩
              · have HM2 := hid (HMM.out (by unfold midB; rw [hx, hy]; rfl))
                have HY1 := hid (fun lo hi W e1 e2 => HX.out z.2 true lo hi W e1 e2 hy)
                clear hx hy HMM HFF
                go_wp2_with fail
                refine (HX1.out _ _ _ (by rw [HNN.out]; decide) (by rw [HNN.out]; decide)).mono ?_
                rintro e w1 ⟨rfl, rfl⟩
                go_wp2_with fail
                refine (HY1.out _ _ _ (by rw [HNN.out]; decide) (by rw [HNN.out]; decide)).mono ?_
                rintro e w1 ⟨rfl, rfl⟩
                go_wp2_with fail
                go_roundw
                case rel => exact ⟨k + 1, by omega, by go_num, HM2.out, HBA.out⟩
                case measure => simp [intOf]; omega
          · have hkk : k = CL.length := by omega
            subst hkk
            have HT := hid (HWT.out HM.out)
            go_wp2
            go_ret2
            exact ⟨by rw [HV.out, HT.out]; rfl, B5.out.2.2.trans (HB.out.mono B5.out.2.2.size)⟩

end Go.Proofs.Ytmapbkefndbnnaa
