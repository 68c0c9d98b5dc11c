/- Texts of this seat, one behind the other: ISafe. -/
import Derived.Test.YtnabgfbempkgnaaGreatDoorKh
import Derived.Test.YtnabgfbempkgnaaGreatDoorKf
namespace Go.Proofs.YtnabgfbempkgnaaGreatDoor
open Go.RowKit Go.Maps
set_option linter.unusedVariables false
set_option linter.unusedSimpArgs false

set_option maxRecDepth 100000 in
set_option maxHeartbeats 1000000 in
theorem c_stepFreelyF (a : Option Addr) (l : List Cl) (ca : Nat) (w : World) (ha : Seg w a l) (hl : l.length ≤ 10000) (hin : ∀ i, i < l.length → inR (at_ l i) = true) (hr : risTo l l.length = true) :
    Calls Tryz.prog 54 #[.slice a l.length ca] w fun e w' => ∃ v, e = .returned v ∧ OwnS w' w.heap.size v (pickL (nxtB l)) ∧ Below w.heap.size w w' := by
  have HIN := hid hin
  have HR := hid hr
  have HA := hid ha
  have HLEN := hid (about_len l)
  clear ha hin hr
  go_enter Tryz.func54, Tryz.ntmps54
  go_wp2_with fail
  refine (c_nearCounts a l ca _ HA.out (by omega) HIN.out).mono ?_
  rintro e w1 ⟨rfl, hC1, hb1⟩
  have HC1 := hid hC1
  have HB1 := hid hb1
  clear hC1 hb1
  go_wp2_with fail
  refine (c_deleteDead w a l ca w.heap.size _ _ _ w1 HA.out (by omega) HR.out HB1.out (Nat.le_refl _) HC1.out (fun c _ => by have := cnt_le (l.flatMap about) c; have := HLEN.out; omega)).mono ?_
  rintro e w2 ⟨rfl, hM2, hb2⟩
  have HM2 := hid hM2
  have HB2 := hid hb2
  clear hM2 hb2
  go_wp2_with fail
  refine (c_inOrder _ _ _ _ w2 HM2.out (by have := HLEN.out; omega)).mono ?_
  rintro e w3 ⟨v, m, rfl, hO, hr, hm, hl3, hb3⟩
  have HO := hid (hO.mono HB2.out.size)
  have HRR := hid hr
  have HMM := hid hm
  have HB3 := hid (HB2.out.trans (hb3.mono HB2.out.size))
  have HLL := hid hl3
  clear hO hr hm hl3 hb3
  have HE : Hid (pickL (nxtB l) = m) := by
    refine pickL_eq HRR.out fun c => ?_
    rw [HMM.out, cnt_about]
    constructor
    · rintro ⟨_, h⟩
      rw [Bool.and_eq_true] at h
      exact h.2
    · intro h
      obtain ⟨x, hx, hn⟩ := nxt_near h
      have hm : c ∈ l.flatMap about := by
        rw [List.mem_flatMap]
        exact ⟨x, hx, (mem_about x c).2 (by rw [nearB_comm]; exact hn)⟩
      refine ⟨about_mem_fits HIN.out hm, ?_⟩
      rw [Bool.and_eq_true]
      exact ⟨by simpa using hm, h⟩
  go_wp2
  go_ret
  exact ⟨_, rfl, by rw [HE.out]; exact HO.out, HB3.out⟩

theorem stepsL_snoc : ∀ (n : Nat) (l : List Cl), stepsL (n + 1) l = pickL (nxtB (stepsL n l))
  | 0, l => rfl
  | n + 1, l => by
    show stepsL (n + 1) (pickL (nxtB l)) = _
    rw [stepsL_snoc n (pickL (nxtB l))]
    rfl

/-- Is a cell within a square from lo to hi? -/
def wiB (lo hi : Int) (c : Cl) : Bool := inB lo hi c.1 && inB lo hi c.2
set_option maxHeartbeats 8000000 in
set_option maxRecDepth 100000 in
theorem c_within (a : Option Addr) (LL : List Cl) (ca : Nat) (lo hi : Int) (w : World) (ha : Seg w a LL) (hl : LL.length ≤ 10000) :
    Calls Tryz.prog 55 #[.slice a LL.length ca, .int .i64 lo, .int .i64 hi] w fun e w' => ∃ v, e = .returned v ∧ OwnS w' w.heap.size v (LL.filter (wiB lo hi)) ∧ Below w.heap.size w w' := by
  have HS6 := hid ha
  clear ha
  go_enter Tryz.func55, Tryz.ntmps55
  go_wp2
  go_loopw [7, 12] (fun ov iv wr => ∃ k : Nat, k ≤ LL.length ∧ iv = .int .i64 k ∧ Hid (OwnS wr w.heap.size ov ((LL.take k).filter (wiB lo hi))) ∧ Hid (Below w.heap.size w wr)) (fun _ iv _ => LL.length - (intOf iv).toNat)
  case atStart => exact ⟨0, Nat.zero_le _, rfl, by simpa [Hid] using OwnS.nil w w.heap.size, Below.refl _ _⟩
  case round =>
    obtain ⟨k, hk', rfl, HO, HB⟩ := hrel
    by_cases hlt : k < LL.length
    · obtain ⟨bz, oz, rfl, hbz, z1, z2⟩ := HS6.out k hlt
      have g1 := (HB.out.cell (p := ⟨bz, oz + k * 2, none⟩) hbz).trans z1
      have g2 := (HB.out.cell (p := ⟨bz, oz + k * 2 + 1, none⟩) hbz).trans z2
      change _ = some (Value.int .i64 (at_ LL k).1) at g1
      change _ = some (Value.int .i64 (at_ LL k).2) at g2
      have HFS := hid (filt_succ (f := wiB lo hi) hlt)
      have hfl : ((LL.take k).filter (wiB lo hi)).length ≤ 10000 := by
        have h1 := List.length_filter_le (wiB lo hi) (LL.take k)
        rw [List.length_take] at h1
        omega
      have k0 : (0 : Int) ≤ (k : Int) := by omega
      have k1 : (k : Int) < (LL.length : Int) := by omega
      clear z1 z2
      generalize at_ LL k = z at *
      generalize (LL.take k).filter (wiB lo hi) = FL at *
      have hz1 := cell_new0 wr (.int .i64 z.1) (.int .i64 z.2) 51
      have hz2 := cell_new1 wr (.int .i64 z.1) (.int .i64 z.2) 51
      have ba := (Below.refl wr.heap.size wr).alloc (Nat.le_refl _) (.cells #[.int .i64 z.1, .int .i64 z.2] 51)
      have HO1 := hid (HO.out.below ba)
      have HB1 := hid (HB.out.trans (ba.mono HB.out.size))
      clear ba HO HB
      by_cases e1 : lo ≤ min z.1 z.2
      · by_cases e2 : max z.1 z.2 ≤ hi
        · have HN := hid (show (LL.take (k + 1)).filter (wiB lo hi) = FL ++ [z] by rw [HFS.out, show wiB lo hi z = true by simp only [wiB, inB, Bool.and_eq_true, decide_eq_true_eq]; omega]; simp)
          clear HFS
          have hnb := heap_alloc_new (wr.alloc (.cells #[.int .i64 z.1, .int .i64 z.2] 51)) (.cells #[.int .i64 z.1, .int .i64 z.2] 51)
          rw [show (wr.alloc (.cells #[.int .i64 z.1, .int .i64 z.2] 51)).heap.size = wr.heap.size + 1 by simp] at hnb
          have HNB := hid hnb
          clear hnb
          have bz2 := (Below.refl (wr.alloc (.cells #[.int .i64 z.1, .int .i64 z.2] 51)).heap.size (wr.alloc (.cells #[.int .i64 z.1, .int .i64 z.2] 51))).alloc (Nat.le_refl _) (.cells #[.int .i64 z.1, .int .i64 z.2] 51)
          have HO2 := hid (HO1.out.below bz2)
          have HB2 := hid (HB1.out.trans (bz2.mono HB1.out.size))
          clear bz2
          go_wp2_with (at_builtin; refine wpList_app' rfl (.tmp 32) (.tmp 34) rfl w.heap.size _ FL [z] (some ⟨wr.heap.size + 1, 0, none⟩) 1 1 rfl HO2.out rfl rfl (seg_block HNB.out) (by intro h; cases h) (by simp; omega) HB2.out.size ?_; intro v9 w9 hO9 hG9; have HB9 := hid (HB2.out.grown hG9 HB2.out.size (fun k e => (HO2.out.lt k e).1)))
          go_roundw
          case rel => exact ⟨k + 1, by omega, by go_num, by rw [HN.out]; exact hO9, HB9.out⟩
          case measure => simp [intOf]; omega
        · have HN := hid (show (LL.take (k + 1)).filter (wiB lo hi) = FL by rw [HFS.out, show wiB lo hi z = false by simp only [wiB, inB, Bool.and_eq_false_iff, decide_eq_false_iff_not]; omega]; simp)
          clear HFS
          go_wp2_with fail
          go_roundw
          case rel => exact ⟨k + 1, by omega, by go_num, by rw [HN.out]; exact HO1.out, HB1.out⟩
          case measure => simp [intOf]; omega
      · have HN := hid (show (LL.take (k + 1)).filter (wiB lo hi) = FL by rw [HFS.out, show wiB lo hi z = false by simp only [wiB, inB, Bool.and_eq_false_iff, decide_eq_false_iff_not]; omega]; simp)
        clear HFS
        go_wp2_with fail
        go_roundw
        case rel => exact ⟨k + 1, by omega, by go_num, by rw [HN.out]; exact HO1.out, HB1.out⟩
        case measure => simp [intOf]; omega
    · obtain rfl : k = LL.length := by omega
      go_wp2
      go_ret
      refine ⟨_, rfl, ?_, HB.out⟩
      have := HO.out
      rw [List.take_length] at this
      exact this

set_option maxHeartbeats 20000000 in
set_option maxRecDepth 100000 in
theorem c_iSafeIn (a : Option Addr) (F : List Qd) (ca : Nat) (q s : Int) (w : World) (ha : QSeg w a F) (hl : F.length ≤ 1048576) (hk : KidsLe F) (hca : F.length ≤ ca) (hcm : ca ≤ 9223372036854775807) :
    Calls Tryz.prog 28 #[.agg #[.slice a F.length ca], .int .i64 q, .int .i64 s] w fun e w' => ∃ v, e = .returned (.tuple #[v, .bool (safOK F q s)]) ∧ OwnS w' w.heap.size v (safV F q s) ∧ Below w.heap.size w w' := by
  have BX := hid (Box1.new w (.slice a F.length ca) 56)
  have HC := hid (c_groveOf a F ca _ (ha.below BX.out.2.2) hl hk hca hcm)
  clear ha
  cases hg : goodF F
  · have HT : Hid (safOK F q s = false) := by simp [Hid, safOK, quadB, thereB, hg]
    have HV : Hid (safV F q s = []) := by simp [Hid, safV, HT.out]
    rw [hg] at HC
    go_enter Tryz.func28, Tryz.ntmps28
    go_wp2_with fail
    refine HC.out.mono ?_
    rintro e w1 ⟨pv, rfl, ho, hb⟩
    clear HC ho
    go_wp2
    go_ret2
    exact ⟨_, by rw [HT.out]; rfl, by rw [HV.out]; exact OwnS.nil _ _, (BX.out.step hb).2.2⟩
  · rw [hg] at HC
    have HG := hid hg
    cases hin : inB 0 ((F.length : Int) - 1) q
    · have HT : Hid (safOK F q s = false) := by simp [Hid, safOK, quadB, thereB, hin]
      have HV : Hid (safV F q s = []) := by simp [Hid, safV, HT.out]
      have hin' := hid hin
      clear hg hin
      go_enter Tryz.func28, Tryz.ntmps28
      go_wp2_with fail
      refine HC.out.mono ?_
      rintro e w1 ⟨pv, rfl, ho, hb⟩
      have X1 := hid (BX.out.step hb)
      clear HC hb BX
      rcases ho with ⟨_, p, g, cap, mb, base, _, rfl, hGr⟩ | ⟨e, _⟩
      · have H1 := hid hGr
        have HH := hid (c_has' q false w1 hin'.out H1.out)
        clear hGr
        go_wp2_with fail
        refine HH.out.mono ?_
        rintro e w2 ⟨rfl, hb⟩
        go_wp2
        go_ret2
        exact ⟨_, by rw [HT.out]; rfl, by rw [HV.out]; exact OwnS.nil _ _, (X1.out.step hb).2.2⟩
      · rw [HG.out] at e; cases e
    · have hbd := inB_bd hin
      have hin' := hid hin
      obtain ⟨_, _, hl5, hlev⟩ := fine_levF (good_fineF hg) (q := q.toNat) (by omega)
      have hn6 : levN F q.toNat = 0 ∨ levN F q.toNat = 1 ∨ levN F q.toNat = 2 ∨ levN F q.toNat = 3 ∨ levN F q.toNat = 4 ∨ levN F q.toNat = 5 := by omega
      have HTH := hid (show thereB F q = true by simp [thereB, hin, hg])
      have HQ := hid (show quadB F q 2 = decide (2 ≤ (levN F q.toNat : Int)) by unfold quadB; rw [HTH.out, hlev]; simp)
      have HOK := hid (show ∀ b, inB 0 (2 ^ (levN F q.toNat - 2)) s = b → 2 ≤ levN F q.toNat → safOK F q s = b by intro b hb h2; unfold safOK; rw [HQ.out, hb]; simp; omega)
      have HNO := hid (show levN F q.toNat < 2 → safOK F q s = false by intro h2; unfold safOK; rw [HQ.out]; simp; omega)
      have HVV := hid (show safV F q s = if safOK F q s then safL F q s else [] from rfl)
      have HSD := hid (show safL F q s = (stepsL s.toNat (ordL (cellsOfQ F q.toNat))).filter (safB (2 ^ levN F q.toNat) s) from rfl)
      have HCI := hid (cells_in F q.toNat hl5)
      have HCS := hid (fun (W : World) (base p g cap mb : Nat) (hG : Grv W base p g cap mb F) => c_iCells hg q W hG (by omega) (by omega))
      have HLV := hid hlev
      obtain ⟨l', r1, r2⟩ := ord_ex (cellsOfQ F q.toNat)
      have ro : ordL (cellsOfQ F q.toNat) = l' := ordL_eq r1 r2
      have HRO := hid (show risTo (ordL (cellsOfQ F q.toNat)) (ordL (cellsOfQ F q.toNat)).length = true by rw [ro]; exact r1)
      have HIO := hid (show ∀ c ∈ ordL (cellsOfQ F q.toNat), c ∈ cellsOfQ F q.toNat by rw [ro]; exact fun c h => (r2 c).1 h)
      have hq0 : 0 ≤ q := hbd.1
      have hq1 : q < (F.length : Int) := by omega
      clear hg hin hl5 hlev r1 r2 ro l' hbd
      generalize safOK F q s = OKV at *
      generalize safV F q s = SV at *
      generalize safL F q s = SL0 at *
      generalize ordL (cellsOfQ F q.toNat) = L0 at *
      generalize cellsOfQ F q.toNat = CL at *
      generalize levN F q.toNat = nn at *
      rcases hn6 with rfl | rfl | rfl | rfl | rfl | rfl
      · have HT := hid (HNO.out (by omega))
        have HV := hid (show SV = [] by rw [HVV.out, HT.out]; rfl)
        go_enter Tryz.func28, Tryz.ntmps28
        go_wp2_with fail
        refine HC.out.mono ?_
        rintro e w1 ⟨pv, rfl, ho, hb⟩
        have X1 := hid (BX.out.step hb)
        clear HC hb BX
        rcases ho with ⟨_, p, g, cap, mb, base, _, rfl, hGr⟩ | ⟨e, _⟩
        rotate_left
        · rw [HG.out] at e; cases e
        have H1 := hid hGr
        have HH := hid (c_has' q true w1 hin'.out H1.out)
        clear hGr
        go_wp2_with fail
        refine HH.out.mono ?_
        rintro e w2 ⟨rfl, hb⟩
        have H2 := hid (H1.out.below hb)
        have X2 := hid (X1.out.step hb)
        have c0 := H2.out.c0
        have c1 := H2.out.lev (i := q.toNat) (by omega)
        rw [HLV.out] at c1
        clear HH H1 X1 hb
        go_wp2_with fail
        have HSP := hid (c_iStepsFor 0 w2 (by omega))
        rw [show stpV 0 = 0 from rfl, show inB 2 5 0 = false from rfl] at HSP
        refine HSP.out.mono ?_
        rintro e w3 ⟨rfl, rfl⟩
        clear HSP
        go_wp2_with fail
        go_ret2
        exact ⟨_, by rw [HT.out]; rfl, by rw [HV.out]; exact OwnS.nil _ _, X2.out.2.2⟩
      · have HT := hid (HNO.out (by omega))
        have HV := hid (show SV = [] by rw [HVV.out, HT.out]; rfl)
        go_enter Tryz.func28, Tryz.ntmps28
        go_wp2_with fail
        refine HC.out.mono ?_
        rintro e w1 ⟨pv, rfl, ho, hb⟩
        have X1 := hid (BX.out.step hb)
        clear HC hb BX
        rcases ho with ⟨_, p, g, cap, mb, base, _, rfl, hGr⟩ | ⟨e, _⟩
        rotate_left
        · rw [HG.out] at e; cases e
        have H1 := hid hGr
        have HH := hid (c_has' q true w1 hin'.out H1.out)
        clear hGr
        go_wp2_with fail
        refine HH.out.mono ?_
        rintro e w2 ⟨rfl, hb⟩
        have H2 := hid (H1.out.below hb)
        have X2 := hid (X1.out.step hb)
        have c0 := H2.out.c0
        have c1 := H2.out.lev (i := q.toNat) (by omega)
        rw [HLV.out] at c1
        clear HH H1 X1 hb
        go_wp2_with fail
        have HSP := hid (c_iStepsFor 1 w2 (by omega))
        rw [show stpV 1 = 0 from rfl, show inB 2 5 1 = false from rfl] at HSP
        refine HSP.out.mono ?_
        rintro e w3 ⟨rfl, rfl⟩
        clear HSP
        go_wp2_with fail
        go_ret2
        exact ⟨_, by rw [HT.out]; rfl, by rw [HV.out]; exact OwnS.nil _ _, X2.out.2.2⟩
      · have HTF := hid (fun (h : inB 0 1 s = false) => HOK.out false h (by omega))
        have HTT := hid (fun (h : inB 0 1 s = true) => HOK.out true h (by omega))
        have hcs : s < 0 ∨ s > 1 ∨ (0 ≤ s ∧ s ≤ 1) := by omega
        rcases hcs with h0 | h1 | ⟨h0, h1⟩
        · have HT := hid (HTF.out (by simp [inB]; omega))
          have HV := hid (show SV = [] by rw [HVV.out, HT.out]; rfl)
          go_enter Tryz.func28, Tryz.ntmps28
          go_wp2_with fail
          refine HC.out.mono ?_
          rintro e w1 ⟨pv, rfl, ho, hb⟩
          have X1 := hid (BX.out.step hb)
          clear HC hb BX
          rcases ho with ⟨_, p, g, cap, mb, base, _, rfl, hGr⟩ | ⟨e, _⟩
          rotate_left
          · rw [HG.out] at e; cases e
          have H1 := hid hGr
          have HH := hid (c_has' q true w1 hin'.out H1.out)
          clear hGr
          go_wp2_with fail
          refine HH.out.mono ?_
          rintro e w2 ⟨rfl, hb⟩
          have H2 := hid (H1.out.below hb)
          have X2 := hid (X1.out.step hb)
          have c0 := H2.out.c0
          have c1 := H2.out.lev (i := q.toNat) (by omega)
          rw [HLV.out] at c1
          clear HH H1 X1 hb
          go_wp2_with fail
          have HSP := hid (c_iStepsFor 2 w2 (by omega))
          rw [show stpV 2 = 1 from rfl, show inB 2 5 2 = true from rfl] at HSP
          refine HSP.out.mono ?_
          rintro e w3 ⟨rfl, rfl⟩
          clear HSP
          go_wp2_with fail
          go_ret2
          exact ⟨_, by rw [HT.out]; rfl, by rw [HV.out]; exact OwnS.nil _ _, X2.out.2.2⟩
        · have HT := hid (HTF.out (by simp [inB]; omega))
          have HV := hid (show SV = [] by rw [HVV.out, HT.out]; rfl)
          have h0 : ¬ s < 0 := by omega
          go_enter Tryz.func28, Tryz.ntmps28
          go_wp2_with fail
          refine HC.out.mono ?_
          rintro e w1 ⟨pv, rfl, ho, hb⟩
          have X1 := hid (BX.out.step hb)
          clear HC hb BX
          rcases ho with ⟨_, p, g, cap, mb, base, _, rfl, hGr⟩ | ⟨e, _⟩
          rotate_left
          · rw [HG.out] at e; cases e
          have H1 := hid hGr
          have HH := hid (c_has' q true w1 hin'.out H1.out)
          clear hGr
          go_wp2_with fail
          refine HH.out.mono ?_
          rintro e w2 ⟨rfl, hb⟩
          have H2 := hid (H1.out.below hb)
          have X2 := hid (X1.out.step hb)
          have c0 := H2.out.c0
          have c1 := H2.out.lev (i := q.toNat) (by omega)
          rw [HLV.out] at c1
          clear HH H1 X1 hb
          go_wp2_with fail
          have HSP := hid (c_iStepsFor 2 w2 (by omega))
          rw [show stpV 2 = 1 from rfl, show inB 2 5 2 = true from rfl] at HSP
          refine HSP.out.mono ?_
          rintro e w3 ⟨rfl, rfl⟩
          clear HSP
          go_wp2_with fail
          go_ret2
          exact ⟨_, by rw [HT.out]; rfl, by rw [HV.out]; exact OwnS.nil _ _, X2.out.2.2⟩
        · have HT := hid (HTT.out (by simp [inB]; omega))
          have HV := hid (show SV = SL0 by rw [HVV.out, HT.out]; rfl)
          have h2 : ¬ s < 0 := by omega
          have h3 : ¬ s > 1 := by omega
          have HST := hid (show ∀ k : Nat, (k : Int) ≤ s → (stepsL k L0).length ≤ 6561 ∧ risTo (stepsL k L0) (stepsL k L0).length = true ∧ InB (-8) 39 (stepsL k L0) from fun k hk => by
            have hI : InB 0 31 L0 := fun c hc => HCI.out c (HIO.out c hc)
            have h8 := (InB.steps (l := L0) (n := k) hI).wide (lo' := -8) (hi' := 39) (by omega) (by omega)
            exact ⟨len_box (steps_ris HRO.out) (h8.wide (by omega) (by omega)), steps_ris HRO.out, h8⟩)
          go_enter Tryz.func28, Tryz.ntmps28
          go_wp2_with fail
          refine HC.out.mono ?_
          rintro e w1 ⟨pv, rfl, ho, hb⟩
          have X1 := hid (BX.out.step hb)
          clear HC hb BX
          rcases ho with ⟨_, p, g, cap, mb, base, _, rfl, hGr⟩ | ⟨e, _⟩
          rotate_left
          · rw [HG.out] at e; cases e
          have H1 := hid hGr
          have HH := hid (c_has' q true w1 hin'.out H1.out)
          clear hGr
          go_wp2_with fail
          refine HH.out.mono ?_
          rintro e w2 ⟨rfl, hb⟩
          have H2 := hid (H1.out.below hb)
          have X2 := hid (X1.out.step hb)
          have c0 := H2.out.c0
          have c1 := H2.out.lev (i := q.toNat) (by omega)
          rw [HLV.out] at c1
          clear HH H1 X1 hb
          go_wp2_with fail
          have HSP := hid (c_iStepsFor 2 w2 (by omega))
          rw [show stpV 2 = 1 from rfl, show inB 2 5 2 = true from rfl] at HSP
          refine HSP.out.mono ?_
          rintro e w3 ⟨rfl, rfl⟩
          clear HSP
          go_wp2_with fail
          refine (HCS.out w3 base p g cap mb H2.out).mono ?_
          rintro e w4 ⟨v4, rfl, hO4, hb4⟩
          obtain ⟨a4, cc4, rfl, hs4⟩ := hO4.form
          have X4 := hid (X2.out.step hb4)
          have HS4 := hid hs4
          clear hO4 hs4 hb4 X2 H2 c0 c1
          go_wp2_with fail
          go_loopw [13, 55] (fun lv iv wr => ∃ (k : Nat) (a : Option Addr) (cc : Nat), (k : Int) ≤ s ∧ iv = .int .i64 k ∧ lv = .slice a (stepsL k L0).length cc ∧ Hid (Seg wr a (stepsL k L0)) ∧ Hid (Below w.heap.size w wr)) (fun _ iv _ => s.toNat - (intOf iv).toNat)
          case atStart => exact ⟨0, a4, cc4, h0, rfl, rfl, HS4.out, X4.out.2.2⟩
          case round =>
            obtain ⟨k, ak, ck, hk', rfl, rfl, HSG, HB⟩ := hrel
            obtain ⟨z1, z2, z3⟩ := HST.out k hk'
            have HR := hid z2
            have HI := hid z3
            have HSN := hid (stepsL_snoc k L0)
            clear z2 z3
            by_cases hlt : (k : Int) < s
            · generalize stepsL k L0 = LK at *
              go_wp2_with fail
              refine (c_stepFreelyF ak LK ck wr HSG.out (by omega) (fun i hi => by have := HI.out _ (mem_at.2 ⟨i, hi, rfl⟩); simp [inR]; omega) HR.out).mono ?_
              rintro e w6 ⟨v6, rfl, hO6, hb6⟩
              rw [← HSN.out] at hO6
              obtain ⟨a6, c6, rfl, hs6⟩ := hO6.form
              have HB6 := hid (HB.out.trans (hb6.mono HB.out.size))
              clear hb6 hO6
              go_wp2_with fail
              go_roundw
              case rel => exact ⟨k + 1, a6, c6, by omega, by go_num, rfl, hs6, HB6.out⟩
              case measure => simp [intOf]; omega
            · obtain rfl : s = (k : Int) := by omega
              have HSE := hid (show SL0 = (stepsL k L0).filter (wiB (k : Int) (3 - (k : Int))) by rw [show (3 - (k : Int)) = 4 - 1 - (k : Int) by omega]; exact HSD.out)
              clear HSN HR HI HST HOK HNO HVV HSD HTF HTT
              generalize stepsL k L0 = LK at *
              go_wp2_with fail
              refine (c_within ak LK ck (k : Int) (3 - (k : Int)) wr HSG.out (by omega)).mono ?_
              rintro e w6 ⟨v6, rfl, hO6, hb6⟩
              have HB6 := hid (HB.out.trans (hb6.mono HB.out.size))
              have HO6 := hid (hO6.mono HB.out.size)
              clear hb6 hO6
              go_wp2_with fail
              go_ret2
              exact ⟨_, by rw [HT.out]; rfl, by rw [HV.out, HSE.out]; exact HO6.out, HB6.out⟩
      · have HTF := hid (fun (h : inB 0 2 s = false) => HOK.out false h (by omega))
        have HTT := hid (fun (h : inB 0 2 s = true) => HOK.out true h (by omega))
        have hcs : s < 0 ∨ s > 2 ∨ (0 ≤ s ∧ s ≤ 2) := by omega
        rcases hcs with h0 | h1 | ⟨h0, h1⟩
        · have HT := hid (HTF.out (by simp [inB]; omega))
          have HV := hid (show SV = [] by rw [HVV.out, HT.out]; rfl)
          go_enter Tryz.func28, Tryz.ntmps28
          go_wp2_with fail
          refine HC.out.mono ?_
          rintro e w1 ⟨pv, rfl, ho, hb⟩
          have X1 := hid (BX.out.step hb)
          clear HC hb BX
          rcases ho with ⟨_, p, g, cap, mb, base, _, rfl, hGr⟩ | ⟨e, _⟩
          rotate_left
          · rw [HG.out] at e; cases e
          have H1 := hid hGr
          have HH := hid (c_has' q true w1 hin'.out H1.out)
          clear hGr
          go_wp2_with fail
          refine HH.out.mono ?_
          rintro e w2 ⟨rfl, hb⟩
          have H2 := hid (H1.out.below hb)
          have X2 := hid (X1.out.step hb)
          have c0 := H2.out.c0
          have c1 := H2.out.lev (i := q.toNat) (by omega)
          rw [HLV.out] at c1
          clear HH H1 X1 hb
          go_wp2_with fail
          have HSP := hid (c_iStepsFor 3 w2 (by omega))
          rw [show stpV 3 = 2 from rfl, show inB 2 5 3 = true from rfl] at HSP
          refine HSP.out.mono ?_
          rintro e w3 ⟨rfl, rfl⟩
          clear HSP
          go_wp2_with fail
          go_ret2
          exact ⟨_, by rw [HT.out]; rfl, by rw [HV.out]; exact OwnS.nil _ _, X2.out.2.2⟩
        · have HT := hid (HTF.out (by simp [inB]; omega))
          have HV := hid (show SV = [] by rw [HVV.out, HT.out]; rfl)
          have h0 : ¬ s < 0 := by omega
          go_enter Tryz.func28, Tryz.ntmps28
          go_wp2_with fail
          refine HC.out.mono ?_
          rintro e w1 ⟨pv, rfl, ho, hb⟩
          have X1 := hid (BX.out.step hb)
          clear HC hb BX
          rcases ho with ⟨_, p, g, cap, mb, base, _, rfl, hGr⟩ | ⟨e, _⟩
          rotate_left
          · rw [HG.out] at e; cases e
          have H1 := hid hGr
          have HH := hid (c_has' q true w1 hin'.out H1.out)
          clear hGr
          go_wp2_with fail
          refine HH.out.mono ?_
          rintro e w2 ⟨rfl, hb⟩
          have H2 := hid (H1.out.below hb)
          have X2 := hid (X1.out.step hb)
          have c0 := H2.out.c0
          have c1 := H2.out.lev (i := q.toNat) (by omega)
          rw [HLV.out] at c1
          clear HH H1 X1 hb
          go_wp2_with fail
          have HSP := hid (c_iStepsFor 3 w2 (by omega))
          rw [show stpV 3 = 2 from rfl, show inB 2 5 3 = true from rfl] at HSP
          refine HSP.out.mono ?_
          rintro e w3 ⟨rfl, rfl⟩
          clear HSP
          go_wp2_with fail
          go_ret2
          exact ⟨_, by rw [HT.out]; rfl, by rw [HV.out]; exact OwnS.nil _ _, X2.out.2.2⟩
        · have HT := hid (HTT.out (by simp [inB]; omega))
          have HV := hid (show SV = SL0 by rw [HVV.out, HT.out]; rfl)
          have h2 : ¬ s < 0 := by omega
          have h3 : ¬ s > 2 := by omega
          have HST := hid (show ∀ k : Nat, (k : Int) ≤ s → (stepsL k L0).length ≤ 6561 ∧ risTo (stepsL k L0) (stepsL k L0).length = true ∧ InB (-8) 39 (stepsL k L0) from fun k hk => by
            have hI : InB 0 31 L0 := fun c hc => HCI.out c (HIO.out c hc)
            have h8 := (InB.steps (l := L0) (n := k) hI).wide (lo' := -8) (hi' := 39) (by omega) (by omega)
            exact ⟨len_box (steps_ris HRO.out) (h8.wide (by omega) (by omega)), steps_ris HRO.out, h8⟩)
          go_enter Tryz.func28, Tryz.ntmps28
          go_wp2_with fail
          refine HC.out.mono ?_
          rintro e w1 ⟨pv, rfl, ho, hb⟩
          have X1 := hid (BX.out.step hb)
          clear HC hb BX
          rcases ho with ⟨_, p, g, cap, mb, base, _, rfl, hGr⟩ | ⟨e, _⟩
          rotate_left
          · rw [HG.out] at e; cases e
          have H1 := hid hGr
          have HH := hid (c_has' q true w1 hin'.out H1.out)
          clear hGr
          go_wp2_with fail
          refine HH.out.mono ?_
          rintro e w2 ⟨rfl, hb⟩
          have H2 := hid (H1.out.below hb)
          have X2 := hid (X1.out.step hb)
          have c0 := H2.out.c0
          have c1 := H2.out.lev (i := q.toNat) (by omega)
          rw [HLV.out] at c1
          clear HH H1 X1 hb
          go_wp2_with fail
          have HSP := hid (c_iStepsFor 3 w2 (by omega))
          rw [show stpV 3 = 2 from rfl, show inB 2 5 3 = true from rfl] at HSP
          refine HSP.out.mono ?_
          rintro e w3 ⟨rfl, rfl⟩
          clear HSP
          go_wp2_with fail
          refine (HCS.out w3 base p g cap mb H2.out).mono ?_
          rintro e w4 ⟨v4, rfl, hO4, hb4⟩
          obtain ⟨a4, cc4, rfl, hs4⟩ := hO4.form
          have X4 := hid (X2.out.step hb4)
          have HS4 := hid hs4
          clear hO4 hs4 hb4 X2 H2 c0 c1
          go_wp2_with fail
          go_loopw [13, 55] (fun lv iv wr => ∃ (k : Nat) (a : Option Addr) (cc : Nat), (k : Int) ≤ s ∧ iv = .int .i64 k ∧ lv = .slice a (stepsL k L0).length cc ∧ Hid (Seg wr a (stepsL k L0)) ∧ Hid (Below w.heap.size w wr)) (fun _ iv _ => s.toNat - (intOf iv).toNat)
          case atStart => exact ⟨0, a4, cc4, h0, rfl, rfl, HS4.out, X4.out.2.2⟩
          case round =>
            obtain ⟨k, ak, ck, hk', rfl, rfl, HSG, HB⟩ := hrel
            obtain ⟨z1, z2, z3⟩ := HST.out k hk'
            have HR := hid z2
            have HI := hid z3
            have HSN := hid (stepsL_snoc k L0)
            clear z2 z3
            by_cases hlt : (k : Int) < s
            · generalize stepsL k L0 = LK at *
              go_wp2_with fail
              refine (c_stepFreelyF ak LK ck wr HSG.out (by omega) (fun i hi => by have := HI.out _ (mem_at.2 ⟨i, hi, rfl⟩); simp [inR]; omega) HR.out).mono ?_
              rintro e w6 ⟨v6, rfl, hO6, hb6⟩
              rw [← HSN.out] at hO6
              obtain ⟨a6, c6, rfl, hs6⟩ := hO6.form
              have HB6 := hid (HB.out.trans (hb6.mono HB.out.size))
              clear hb6 hO6
              go_wp2_with fail
              go_roundw
              case rel => exact ⟨k + 1, a6, c6, by omega, by go_num, rfl, hs6, HB6.out⟩
              case measure => simp [intOf]; omega
            · obtain rfl : s = (k : Int) := by omega
              have HSE := hid (show SL0 = (stepsL k L0).filter (wiB (k : Int) (7 - (k : Int))) by rw [show (7 - (k : Int)) = 8 - 1 - (k : Int) by omega]; exact HSD.out)
              clear HSN HR HI HST HOK HNO HVV HSD HTF HTT
              generalize stepsL k L0 = LK at *
              go_wp2_with fail
              refine (c_within ak LK ck (k : Int) (7 - (k : Int)) wr HSG.out (by omega)).mono ?_
              rintro e w6 ⟨v6, rfl, hO6, hb6⟩
              have HB6 := hid (HB.out.trans (hb6.mono HB.out.size))
              have HO6 := hid (hO6.mono HB.out.size)
              clear hb6 hO6
              go_wp2_with fail
              go_ret2
              exact ⟨_, by rw [HT.out]; rfl, by rw [HV.out, HSE.out]; exact HO6.out, HB6.out⟩
      · have HTF := hid (fun (h : inB 0 4 s = false) => HOK.out false h (by omega))
        have HTT := hid (fun (h : inB 0 4 s = true) => HOK.out true h (by omega))
        have hcs : s < 0 ∨ s > 4 ∨ (0 ≤ s ∧ s ≤ 4) := by omega
        rcases hcs with h0 | h1 | ⟨h0, h1⟩
        · have HT := hid (HTF.out (by simp [inB]; omega))
          have HV := hid (show SV = [] by rw [HVV.out, HT.out]; rfl)
          go_enter Tryz.func28, Tryz.ntmps28
          go_wp2_with fail
          refine HC.out.mono ?_
          rintro e w1 ⟨pv, rfl, ho, hb⟩
          have X1 := hid (BX.out.step hb)
          clear HC hb BX
          rcases ho with ⟨_, p, g, cap, mb, base, _, rfl, hGr⟩ | ⟨e, _⟩
          rotate_left
          · rw [HG.out] at e; cases e
          have H1 := hid hGr
          have HH := hid (c_has' q true w1 hin'.out H1.out)
          clear hGr
          go_wp2_with fail
          refine HH.out.mono ?_
          rintro e w2 ⟨rfl, hb⟩
          have H2 := hid (H1.out.below hb)
          have X2 := hid (X1.out.step hb)
          have c0 := H2.out.c0
          have c1 := H2.out.lev (i := q.toNat) (by omega)
          rw [HLV.out] at c1
          clear HH H1 X1 hb
          go_wp2_with fail
          have HSP := hid (c_iStepsFor 4 w2 (by omega))
          rw [show stpV 4 = 4 from rfl, show inB 2 5 4 = true from rfl] at HSP
          refine HSP.out.mono ?_
          rintro e w3 ⟨rfl, rfl⟩
          clear HSP
          go_wp2_with fail
          go_ret2
          exact ⟨_, by rw [HT.out]; rfl, by rw [HV.out]; exact OwnS.nil _ _, X2.out.2.2⟩
        · have HT := hid (HTF.out (by simp [inB]; omega))
          have HV := hid (show SV = [] by rw [HVV.out, HT.out]; rfl)
          have h0 : ¬ s < 0 := by omega
          go_enter Tryz.func28, Tryz.ntmps28
          go_wp2_with fail
          refine HC.out.mono ?_
          rintro e w1 ⟨pv, rfl, ho, hb⟩
          have X1 := hid (BX.out.step hb)
          clear HC hb BX
          rcases ho with ⟨_, p, g, cap, mb, base, _, rfl, hGr⟩ | ⟨e, _⟩
          rotate_left
          · rw [HG.out] at e; cases e
          have H1 := hid hGr
          have HH := hid (c_has' q true w1 hin'.out H1.out)
          clear hGr
          go_wp2_with fail
          refine HH.out.mono ?_
          rintro e w2 ⟨rfl, hb⟩
          have H2 := hid (H1.out.below hb)
          have X2 := hid (X1.out.step hb)
          have c0 := H2.out.c0
          have c1 := H2.out.lev (i := q.toNat) (by omega)
          rw [HLV.out] at c1
          clear HH H1 X1 hb
          go_wp2_with fail
          have HSP := hid (c_iStepsFor 4 w2 (by omega))
          rw [show stpV 4 = 4 from rfl, show inB 2 5 4 = true from rfl] at HSP
          refine HSP.out.mono ?_
          rintro e w3 ⟨rfl, rfl⟩
          clear HSP
          go_wp2_with fail
          go_ret2
          exact ⟨_, by rw [HT.out]; rfl, by rw [HV.out]; exact OwnS.nil _ _, X2.out.2.2⟩
        · have HT := hid (HTT.out (by simp [inB]; omega))
          have HV := hid (show SV = SL0 by rw [HVV.out, HT.out]; rfl)
          have h2 : ¬ s < 0 := by omega
          have h3 : ¬ s > 4 := by omega
          have HST := hid (show ∀ k : Nat, (k : Int) ≤ s → (stepsL k L0).length ≤ 6561 ∧ risTo (stepsL k L0) (stepsL k L0).length = true ∧ InB (-8) 39 (stepsL k L0) from fun k hk => by
            have hI : InB 0 31 L0 := fun c hc => HCI.out c (HIO.out c hc)
            have h8 := (InB.steps (l := L0) (n := k) hI).wide (lo' := -8) (hi' := 39) (by omega) (by omega)
            exact ⟨len_box (steps_ris HRO.out) (h8.wide (by omega) (by omega)), steps_ris HRO.out, h8⟩)
          go_enter Tryz.func28, Tryz.ntmps28
          go_wp2_with fail
          refine HC.out.mono ?_
          rintro e w1 ⟨pv, rfl, ho, hb⟩
          have X1 := hid (BX.out.step hb)
          clear HC hb BX
          rcases ho with ⟨_, p, g, cap, mb, base, _, rfl, hGr⟩ | ⟨e, _⟩
          rotate_left
          · rw [HG.out] at e; cases e
          have H1 := hid hGr
          have HH := hid (c_has' q true w1 hin'.out H1.out)
          clear hGr
          go_wp2_with fail
          refine HH.out.mono ?_
          rintro e w2 ⟨rfl, hb⟩
          have H2 := hid (H1.out.below hb)
          have X2 := hid (X1.out.step hb)
          have c0 := H2.out.c0
          have c1 := H2.out.lev (i := q.toNat) (by omega)
          rw [HLV.out] at c1
          clear HH H1 X1 hb
          go_wp2_with fail
          have HSP := hid (c_iStepsFor 4 w2 (by omega))
          rw [show stpV 4 = 4 from rfl, show inB 2 5 4 = true from rfl] at HSP
          refine HSP.out.mono ?_
          rintro e w3 ⟨rfl, rfl⟩
          clear HSP
          go_wp2_with fail
          refine (HCS.out w3 base p g cap mb H2.out).mono ?_
          rintro e w4 ⟨v4, rfl, hO4, hb4⟩
          obtain ⟨a4, cc4, rfl, hs4⟩ := hO4.form
          have X4 := hid (X2.out.step hb4)
          have HS4 := hid hs4
          clear hO4 hs4 hb4 X2 H2 c0 c1
          go_wp2_with fail
          go_loopw [13, 55] (fun lv iv wr => ∃ (k : Nat) (a : Option Addr) (cc : Nat), (k : Int) ≤ s ∧ iv = .int .i64 k ∧ lv = .slice a (stepsL k L0).length cc ∧ Hid (Seg wr a (stepsL k L0)) ∧ Hid (Below w.heap.size w wr)) (fun _ iv _ => s.toNat - (intOf iv).toNat)
          case atStart => exact ⟨0, a4, cc4, h0, rfl, rfl, HS4.out, X4.out.2.2⟩
          case round =>
            obtain ⟨k, ak, ck, hk', rfl, rfl, HSG, HB⟩ := hrel
            obtain ⟨z1, z2, z3⟩ := HST.out k hk'
            have HR := hid z2
            have HI := hid z3
            have HSN := hid (stepsL_snoc k L0)
            clear z2 z3
            by_cases hlt : (k : Int) < s
            · generalize stepsL k L0 = LK at *
              go_wp2_with fail
              refine (c_stepFreelyF ak LK ck wr HSG.out (by omega) (fun i hi => by have := HI.out _ (mem_at.2 ⟨i, hi, rfl⟩); simp [inR]; omega) HR.out).mono ?_
              rintro e w6 ⟨v6, rfl, hO6, hb6⟩
              rw [← HSN.out] at hO6
              obtain ⟨a6, c6, rfl, hs6⟩ := hO6.form
              have HB6 := hid (HB.out.trans (hb6.mono HB.out.size))
              clear hb6 hO6
              go_wp2_with fail
              go_roundw
              case rel => exact ⟨k + 1, a6, c6, by omega, by go_num, rfl, hs6, HB6.out⟩
              case measure => simp [intOf]; omega
            · obtain rfl : s = (k : Int) := by omega
              have HSE := hid (show SL0 = (stepsL k L0).filter (wiB (k : Int) (15 - (k : Int))) by rw [show (15 - (k : Int)) = 16 - 1 - (k : Int) by omega]; exact HSD.out)
              clear HSN HR HI HST HOK HNO HVV HSD HTF HTT
              generalize stepsL k L0 = LK at *
              go_wp2_with fail
              refine (c_within ak LK ck (k : Int) (15 - (k : Int)) wr HSG.out (by omega)).mono ?_
              rintro e w6 ⟨v6, rfl, hO6, hb6⟩
              have HB6 := hid (HB.out.trans (hb6.mono HB.out.size))
              have HO6 := hid (hO6.mono HB.out.size)
              clear hb6 hO6
              go_wp2_with fail
              go_ret2
              exact ⟨_, by rw [HT.out]; rfl, by rw [HV.out, HSE.out]; exact HO6.out, HB6.out⟩
      · have HTF := hid (fun (h : inB 0 8 s = false) => HOK.out false h (by omega))
        have HTT := hid (fun (h : inB 0 8 s = true) => HOK.out true h (by omega))
        have hcs : s < 0 ∨ s > 8 ∨ (0 ≤ s ∧ s ≤ 8) := by omega
        rcases hcs with h0 | h1 | ⟨h0, h1⟩
        · have HT := hid (HTF.out (by simp [inB]; omega))
          have HV := hid (show SV = [] by rw [HVV.out, HT.out]; rfl)
          go_enter Tryz.func28, Tryz.ntmps28
          go_wp2_with fail
          refine HC.out.mono ?_
          rintro e w1 ⟨pv, rfl, ho, hb⟩
          have X1 := hid (BX.out.step hb)
          clear HC hb BX
          rcases ho with ⟨_, p, g, cap, mb, base, _, rfl, hGr⟩ | ⟨e, _⟩
          rotate_left
          · rw [HG.out] at e; cases e
          have H1 := hid hGr
          have HH := hid (c_has' q true w1 hin'.out H1.out)
          clear hGr
          go_wp2_with fail
          refine HH.out.mono ?_
          rintro e w2 ⟨rfl, hb⟩
          have H2 := hid (H1.out.below hb)
          have X2 := hid (X1.out.step hb)
          have c0 := H2.out.c0
          have c1 := H2.out.lev (i := q.toNat) (by omega)
          rw [HLV.out] at c1
          clear HH H1 X1 hb
          go_wp2_with fail
          have HSP := hid (c_iStepsFor 5 w2 (by omega))
          rw [show stpV 5 = 8 from rfl, show inB 2 5 5 = true from rfl] at HSP
          refine HSP.out.mono ?_
          rintro e w3 ⟨rfl, rfl⟩
          clear HSP
          go_wp2_with fail
          go_ret2
          exact ⟨_, by rw [HT.out]; rfl, by rw [HV.out]; exact OwnS.nil _ _, X2.out.2.2⟩
        · have HT := hid (HTF.out (by simp [inB]; omega))
          have HV := hid (show SV = [] by rw [HVV.out, HT.out]; rfl)
          have h0 : ¬ s < 0 := by omega
          go_enter Tryz.func28, Tryz.ntmps28
          go_wp2_with fail
          refine HC.out.mono ?_
          rintro e w1 ⟨pv, rfl, ho, hb⟩
          have X1 := hid (BX.out.step hb)
          clear HC hb BX
          rcases ho with ⟨_, p, g, cap, mb, base, _, rfl, hGr⟩ | ⟨e, _⟩
          rotate_left
          · rw [HG.out] at e; cases e
          have H1 := hid hGr
          have HH := hid (c_has' q true w1 hin'.out H1.out)
          clear hGr
          go_wp2_with fail
          refine HH.out.mono ?_
          rintro e w2 ⟨rfl, hb⟩
          have H2 := hid (H1.out.below hb)
          have X2 := hid (X1.out.step hb)
          have c0 := H2.out.c0
          have c1 := H2.out.lev (i := q.toNat) (by omega)
          rw [HLV.out] at c1
          clear HH H1 X1 hb
          go_wp2_with fail
          have HSP := hid (c_iStepsFor 5 w2 (by omega))
          rw [show stpV 5 = 8 from rfl, show inB 2 5 5 = true from rfl] at HSP
          refine HSP.out.mono ?_
          rintro e w3 ⟨rfl, rfl⟩
          clear HSP
          go_wp2_with fail
          go_ret2
          exact ⟨_, by rw [HT.out]; rfl, by rw [HV.out]; exact OwnS.nil _ _, X2.out.2.2⟩
        · have HT := hid (HTT.out (by simp [inB]; omega))
          have HV := hid (show SV = SL0 by rw [HVV.out, HT.out]; rfl)
          have h2 : ¬ s < 0 := by omega
          have h3 : ¬ s > 8 := by omega
          have HST := hid (show ∀ k : Nat, (k : Int) ≤ s → (stepsL k L0).length ≤ 6561 ∧ risTo (stepsL k L0) (stepsL k L0).length = true ∧ InB (-8) 39 (stepsL k L0) from fun k hk => by
            have hI : InB 0 31 L0 := fun c hc => HCI.out c (HIO.out c hc)
            have h8 := (InB.steps (l := L0) (n := k) hI).wide (lo' := -8) (hi' := 39) (by omega) (by omega)
            exact ⟨len_box (steps_ris HRO.out) (h8.wide (by omega) (by omega)), steps_ris HRO.out, h8⟩)
          go_enter Tryz.func28, Tryz.ntmps28
          go_wp2_with fail
          refine HC.out.mono ?_
          rintro e w1 ⟨pv, rfl, ho, hb⟩
          have X1 := hid (BX.out.step hb)
          clear HC hb BX
          rcases ho with ⟨_, p, g, cap, mb, base, _, rfl, hGr⟩ | ⟨e, _⟩
          rotate_left
          · rw [HG.out] at e; cases e
          have H1 := hid hGr
          have HH := hid (c_has' q true w1 hin'.out H1.out)
          clear hGr
          go_wp2_with fail
          refine HH.out.mono ?_
          rintro e w2 ⟨rfl, hb⟩
          have H2 := hid (H1.out.below hb)
          have X2 := hid (X1.out.step hb)
          have c0 := H2.out.c0
          have c1 := H2.out.lev (i := q.toNat) (by omega)
          rw [HLV.out] at c1
          clear HH H1 X1 hb
          go_wp2_with fail
          have HSP := hid (c_iStepsFor 5 w2 (by omega))
          rw [show stpV 5 = 8 from rfl, show inB 2 5 5 = true from rfl] at HSP
          refine HSP.out.mono ?_
          rintro e w3 ⟨rfl, rfl⟩
          clear HSP
          go_wp2_with fail
          refine (HCS.out w3 base p g cap mb H2.out).mono ?_
          rintro e w4 ⟨v4, rfl, hO4, hb4⟩
          obtain ⟨a4, cc4, rfl, hs4⟩ := hO4.form
          have X4 := hid (X2.out.step hb4)
          have HS4 := hid hs4
          clear hO4 hs4 hb4 X2 H2 c0 c1
          go_wp2_with fail
          go_loopw [13, 55] (fun lv iv wr => ∃ (k : Nat) (a : Option Addr) (cc : Nat), (k : Int) ≤ s ∧ iv = .int .i64 k ∧ lv = .slice a (stepsL k L0).length cc ∧ Hid (Seg wr a (stepsL k L0)) ∧ Hid (Below w.heap.size w wr)) (fun _ iv _ => s.toNat - (intOf iv).toNat)
          case atStart => exact ⟨0, a4, cc4, h0, rfl, rfl, HS4.out, X4.out.2.2⟩
          case round =>
            obtain ⟨k, ak, ck, hk', rfl, rfl, HSG, HB⟩ := hrel
            obtain ⟨z1, z2, z3⟩ := HST.out k hk'
            have HR := hid z2
            have HI := hid z3
            have HSN := hid (stepsL_snoc k L0)
            clear z2 z3
            by_cases hlt : (k : Int) < s
            · generalize stepsL k L0 = LK at *
              go_wp2_with fail
              refine (c_stepFreelyF ak LK ck wr HSG.out (by omega) (fun i hi => by have := HI.out _ (mem_at.2 ⟨i, hi, rfl⟩); simp [inR]; omega) HR.out).mono ?_
              rintro e w6 ⟨v6, rfl, hO6, hb6⟩
              rw [← HSN.out] at hO6
              obtain ⟨a6, c6, rfl, hs6⟩ := hO6.form
              have HB6 := hid (HB.out.trans (hb6.mono HB.out.size))
              clear hb6 hO6
              go_wp2_with fail
              go_roundw
              case rel => exact ⟨k + 1, a6, c6, by omega, by go_num, rfl, hs6, HB6.out⟩
              case measure => simp [intOf]; omega
            · obtain rfl : s = (k : Int) := by omega
              have HSE := hid (show SL0 = (stepsL k L0).filter (wiB (k : Int) (31 - (k : Int))) by rw [show (31 - (k : Int)) = 32 - 1 - (k : Int) by omega]; exact HSD.out)
              clear HSN HR HI HST HOK HNO HVV HSD HTF HTT
              generalize stepsL k L0 = LK at *
              go_wp2_with fail
              refine (c_within ak LK ck (k : Int) (31 - (k : Int)) wr HSG.out (by omega)).mono ?_
              rintro e w6 ⟨v6, rfl, hO6, hb6⟩
              have HB6 := hid (HB.out.trans (hb6.mono HB.out.size))
              have HO6 := hid (hO6.mono HB.out.size)
              clear hb6 hO6
              go_wp2_with fail
              go_ret2
              exact ⟨_, by rw [HT.out]; rfl, by rw [HV.out, HSE.out]; exact HO6.out, HB6.out⟩

theorem safV_le (F : List Qd) (q s : Int) : (safV F q s).length ≤ 1048576 := by
  unfold safV
  split
  · rename_i h
    unfold safOK at h
    rw [Bool.and_eq_true] at h
    obtain ⟨hq, hs⟩ := h
    have hq' := hq
    unfold quadB at hq'
    simp only [Bool.and_eq_true, decide_eq_true_eq] at hq'
    obtain ⟨hg, h0, h1⟩ := there_bd hq'.1
    obtain ⟨_, _, hl5, hlev⟩ := fine_levF (good_fineF hg) (q := q.toNat) (by omega)
    have hb := inB_bd hs
    have h8 : s ≤ 8 := by
      have : levN F q.toNat = 0 ∨ levN F q.toNat = 1 ∨ levN F q.toNat = 2 ∨ levN F q.toNat = 3 ∨ levN F q.toNat = 4 ∨ levN F q.toNat = 5 := by omega
      rcases this with h | h | h | h | h | h <;> rw [h] at hb <;> simp at hb <;> omega
    obtain ⟨l', r1, r2⟩ := ord_ex (cellsOfQ F q.toNat)
    have ro : ordL (cellsOfQ F q.toNat) = l' := ordL_eq r1 r2
    unfold safL
    refine Nat.le_trans (List.length_filter_le _ _) ?_
    rw [ro]
    have hI : InB 0 31 l' := fun c hc => cells_in F q.toNat hl5 c ((r2 c).1 hc)
    exact Nat.le_trans (len_box (steps_ris r1) ((InB.steps (l := l') (n := s.toNat) hI).wide (by omega) (by omega))) (by omega)
  · simp
end Go.Proofs.YtnabgfbempkgnaaGreatDoor
