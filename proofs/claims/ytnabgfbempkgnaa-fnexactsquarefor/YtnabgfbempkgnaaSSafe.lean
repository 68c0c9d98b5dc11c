/- The specification's StepsFor and SafeIn. -/
import Derived.Test.YtnabgfbempkgnaaSRof
namespace Go.Proofs.Ytnabgfbempkgnaa
open Go.RowKit
set_option linter.unusedVariables false
set_option linter.unusedSimpArgs false
attribute [local go_sem ↓] Go.wp_at_zero Go.wp_at_succ

/-- What StepsFor tells. -/
def stpV (n : Int) : Int := if inB 2 5 n then 2 ^ (n - 2).toNat else 0
/-- Is a cell safe from the edge? -/
def safB (side s : Int) (c : Cl) : Bool := inB s (side - 1 - s) c.1 && inB s (side - 1 - s) c.2
def safOK (F : List Qd) (q s : Int) : Bool := quadB F q 2 && inB 0 (2 ^ (levN F q.toNat - 2)) s
noncomputable def safL (F : List Qd) (q s : Int) : List Cl := (stepsL s.toNat (ordL (cellsOfQ F q.toNat))).filter (safB (2 ^ levN F q.toNat) s)
noncomputable def safV (F : List Qd) (q s : Int) : List Cl := if safOK F q s then safL F q s else []
theorem filt_succ {l : List Cl} {f : Cl → Bool} {k : Nat} (h : k < l.length) : (l.take (k + 1)).filter f = (l.take k).filter f ++ (if f (at_ l k) then [at_ l k] else []) := by
  rw [List.take_succ_eq_append_getElem h, List.filter_append]
  have : l[k] = at_ l k := by simp [at_, h]
  rw [this]
  split <;> rename_i hf <;> simp [hf]

set_option maxHeartbeats 8000000 in
set_option maxRecDepth 100000 in
theorem c_sSafeIn (a : Option Addr) (F : List Qd) (ca : Nat) (q s : Int) (w : World) (ha : QSeg w a F) (hl : F.length ≤ 1048576) (hk : KidsLe F) (hca : F.length ≤ ca) (hcm : ca ≤ 9223372036854775807) :
    Calls Try.prog 49 #[.agg #[.slice a F.length ca], .int .i64 q, .int .i64 s] w fun e w' => ∃ v, e = .returned (.tuple #[v, .bool (safOK F q s)]) ∧ OwnS w' w.heap.size v (safV F q s) ∧ Below w.heap.size w w' := by
  have HX := hid (Box1.new w (.slice a F.length ca) 69)
  have HQ := hid (ha.below HX.out.2.2)
  have x0 := HX.out.1
  clear ha
  cases hq : quadB F q 2
  · have HC := hid (c_l5Quad a F ca q 2 false hq _ HQ.out hl hk hca hcm)
    have HV := hid (show safOK F q s = false ∧ safV F q s = [] by simp [safV, safOK, hq])
    clear hq
    go_enter Try.func49, Try.ntmps49
    go_wp2_with fail
    refine HC.out.mono ?_
    rintro e w3 ⟨rfl, hb⟩
    have HB := hid (HX.out.step hb).2.2
    clear HC hb
    go_wp2_with fail
    rw [HV.out.1, HV.out.2]
    exact bodyPost_ret (v := .tuple #[.slice none 0 0, .bool false]) (by simp [results, Try.results49, go_sem]) rfl ⟨_, rfl, OwnS.nil _ _, HB.out⟩
  · have HC := hid (c_l5Quad a F ca q 2 true hq _ HQ.out hl hk hca hcm)
    have hq' := hq
    unfold quadB at hq'
    simp only [Bool.and_eq_true, decide_eq_true_eq] at hq'
    obtain ⟨hg, h0, h1⟩ := there_bd hq'.1
    obtain ⟨b1, o1, ak, ck, rfl, hb1, p1, _⟩ := HQ.out q.toNat (by omega)
    obtain ⟨_, _, hl5, hlev⟩ := fine_levF (good_fineF hg) (q := q.toNat) (by omega)
    have hlo : levN F q.toNat = 2 ∨ levN F q.toNat = 3 ∨ levN F q.toNat = 4 ∨ levN F q.toNat = 5 := by have := hq'.2; omega
    rw [hlev] at p1
    have HCE := hid (fun (W : World) (hQ : QSeg W (some ⟨b1, o1, none⟩) F) => c_l3CellsAllF (good_fineF hg) (some ⟨b1, o1, none⟩) ca q W hQ h0 h1)
    have HCI := hid (cells_in F q.toNat hl5)
    have HCF := hid (cells_few F q.toNat hl5)
    have HOK := hid (show ∀ b, inB 0 (2 ^ (levN F q.toNat - 2)) s = b → safOK F q s = b by intro b hb; unfold safOK; rw [hq, hb]; rfl)
    have HSL := hid (show ∀ b, inB 0 (2 ^ (levN F q.toNat - 2)) s = b → safV F q s = if b then safL F q s else [] by intro b hb; unfold safV; rw [HOK.out b hb])
    have HSD := hid (show safL F q s = (stepsL s.toNat (ordL (cellsOfQ F q.toNat))).filter (safB (2 ^ levN F q.toNat) s) from rfl)
    clear hq hq' hg hlev hl5
    generalize safOK F q s = OKV at *
    generalize safV F q s = SV at *
    generalize safL F q s = SL0 at *
    generalize cellsOfQ F q.toNat = CL at *
    generalize levN F q.toNat = nn at *
    rcases hlo with rfl | rfl | rfl | rfl
    · cases hin : inB 0 1 s
      · have HD := hid (c_l1In' s 0 1 false hin)
        have HV := hid (show OKV = false ∧ SV = [] from ⟨HOK.out false hin, HSL.out false hin⟩)
        clear hin
        go_enter Try.func49, Try.ntmps49
        go_wp2_with fail
        refine HC.out.mono ?_
        rintro e w3 ⟨rfl, hb⟩
        have X3 := hid (HX.out.step hb)
        have x3 := X3.out.1
        have y3 := (hb.cell (p := ⟨b1, o1 + q.toNat * 2, none⟩) hb1).trans p1
        clear HC hb p1 x0
        go_wp2_with fail
        refine (HD.out _).mono ?_
        rintro e w4 ⟨rfl, rfl⟩
        go_wp2_with fail
        rw [HV.out.1, HV.out.2]
        exact bodyPost_ret (v := .tuple #[.slice none 0 0, .bool false]) (by simp [results, Try.results49, go_sem]) rfl ⟨_, rfl, OwnS.nil _ _, X3.out.2.2⟩
      · have HD := hid (c_l1In' s 0 1 true hin)
        have hs := inB_bd hin
        have HV := hid (show OKV = true ∧ SV = (stepsL s.toNat (ordL CL)).filter (safB 4 s) from ⟨HOK.out true hin, (HSL.out true hin).trans HSD.out⟩)
        have HST := hid (fun (aa : Option Addr) (cc : Nat) (W : World) (hS : Seg W aa CL) => c_l5After aa CL cc s.toNat W hS (by have := HCF.out; omega) HCI.out (by omega))
        rw [show ((s.toNat : Nat) : Int) = s by omega] at HST
        obtain ⟨l', r1, r2⟩ := ord_ex CL
        have ro : ordL CL = l' := ordL_eq r1 r2
        have hI : InB 0 31 l' := fun c hc => HCI.out c ((r2 c).1 hc)
        have hlen : (stepsL s.toNat (ordL CL)).length ≤ 6561 := by
          rw [ro]
          exact len_box (steps_ris r1) ((InB.steps (l := l') (n := s.toNat) hI).wide (by omega) (by omega))
        clear hin ro hI r1 r2 HOK HSL HSD
        generalize stepsL s.toNat (ordL CL) = LL at *
        go_enter Try.func49, Try.ntmps49
        go_wp2_with fail
        refine HC.out.mono ?_
        rintro e w3 ⟨rfl, hb⟩
        have X3 := hid (HX.out.step hb)
        have Q3 := hid (HQ.out.below hb)
        have x3 := X3.out.1
        have y3 := (hb.cell (p := ⟨b1, o1 + q.toNat * 2, none⟩) hb1).trans p1
        clear HC hb p1 x0
        go_wp2_with fail
        refine (HD.out _).mono ?_
        rintro e w4 ⟨rfl, rfl⟩
        go_wp2_with fail
        refine (HCE.out _ Q3.out).mono ?_
        rintro e w5 ⟨v5, rfl, hO5, hb5⟩
        obtain ⟨a5, c5, rfl, hs5⟩ := hO5.form
        have X5 := hid (X3.out.step hb5)
        have HS5 := hid hs5
        clear hO5 hs5 hb5 x3 y3 X3
        go_wp2_with fail
        refine (HST.out a5 c5 w5 HS5.out).mono ?_
        rintro e w6 ⟨v6, rfl, hS6, hb6⟩
        obtain ⟨a6, c6, rfl, hs6, _⟩ := hS6.form
        have X6 := hid (X5.out.step hb6)
        have HS6 := hid hs6
        clear hS6 hs6 hb6 X5 HS5
        go_wp2_with fail
        go_loopw [9, 44] (fun ov iv wr => ∃ k : Nat, k ≤ LL.length ∧ iv = .int .i64 k ∧ Hid (OwnS wr w6.heap.size ov ((LL.take k).filter (safB 4 s))) ∧ Hid (Below w6.heap.size w6 wr) ∧ Hid (Below w.heap.size w wr)) (fun _ iv _ => LL.length - (intOf iv).toNat)
        case atStart => exact ⟨0, Nat.zero_le _, rfl, by simpa [Hid] using OwnS.nil w6 w6.heap.size, Below.refl _ _, X6.out.2.2⟩
        case round =>
          obtain ⟨k, hk', rfl, HO, HB6, HB⟩ := hrel
          by_cases hlt : k < LL.length
          · obtain ⟨bz, oz, rfl, hbz, z1, z2⟩ := HS6.out k hlt
            have g1 := (HB6.out.cell (p := ⟨bz, oz + k * 2, none⟩) hbz).trans z1
            have g2 := (HB6.out.cell (p := ⟨bz, oz + k * 2 + 1, none⟩) hbz).trans z2
            change _ = some (Value.int .i64 (at_ LL k).1) at g1
            change _ = some (Value.int .i64 (at_ LL k).2) at g2
            have HFS := hid (filt_succ (f := safB 4 s) hlt)
            have hfl : ((LL.take k).filter (safB 4 s)).length ≤ 6561 := by
              have h1 := List.length_filter_le (safB 4 s) (LL.take k)
              rw [List.length_take] at h1
              omega
            have k0 : (0 : Int) ≤ (k : Int) := by omega
            have k1 : (k : Int) < (LL.length : Int) := by omega
            clear z1 z2
            generalize at_ LL k = z at *
            generalize (LL.take k).filter (safB 4 s) = FL at *
            have hz1 := cell_new0 wr (.int .i64 z.1) (.int .i64 z.2) 44
            have hz2 := cell_new1 wr (.int .i64 z.1) (.int .i64 z.2) 44
            have ba := (Below.refl wr.heap.size wr).alloc (Nat.le_refl _) (.cells #[.int .i64 z.1, .int .i64 z.2] 44)
            have HO1 := hid (HO.out.below ba)
            have HB61 := hid (HB6.out.trans (ba.mono HB6.out.size))
            have HB1 := hid (HB.out.trans (ba.mono HB.out.size))
            clear ba HO HB6 HB
            cases e1 : inB s (4 - 1 - s) z.1
            · have HN := hid (show (LL.take (k + 1)).filter (safB 4 s) = FL by rw [HFS.out, show safB 4 s z = false by unfold safB; rw [e1]; rfl]; simp)
              have HE1 := hid (c_l1In' z.1 s (4 - 1 - s) false e1)
              clear e1 HFS
              go_wp2_with fail
              refine (HE1.out _).mono ?_
              rintro e w8 ⟨rfl, rfl⟩
              go_wp2_with fail
              go_roundw
              case rel => exact ⟨k + 1, by omega, by go_num, by rw [HN.out]; exact HO1.out, HB61.out, HB1.out⟩
              case measure => simp [intOf]; omega
            · have HE1 := hid (c_l1In' z.1 s (4 - 1 - s) true e1)
              cases e2 : inB s (4 - 1 - s) z.2
              · have HN := hid (show (LL.take (k + 1)).filter (safB 4 s) = FL by rw [HFS.out, show safB 4 s z = false by unfold safB; rw [e1, e2]; rfl]; simp)
                have HE2 := hid (c_l1In' z.2 s (4 - 1 - s) false e2)
                clear e1 e2 HFS
                go_wp2_with fail
                refine (HE1.out _).mono ?_
                rintro e w8 ⟨rfl, rfl⟩
                go_wp2_with fail
                refine (HE2.out _).mono ?_
                rintro e w8 ⟨rfl, rfl⟩
                go_wp2_with fail
                go_roundw
                case rel => exact ⟨k + 1, by omega, by go_num, by rw [HN.out]; exact HO1.out, HB61.out, HB1.out⟩
                case measure => simp [intOf]; omega
              · have HN := hid (show (LL.take (k + 1)).filter (safB 4 s) = FL ++ [z] by rw [HFS.out, show safB 4 s z = true by unfold safB; rw [e1, e2]; rfl]; simp)
                have HE2 := hid (c_l1In' z.2 s (4 - 1 - s) true e2)
                clear e1 e2 HFS
                go_wp2_with fail
                refine (HE1.out _).mono ?_
                rintro e w8 ⟨rfl, rfl⟩
                go_wp2_with fail
                refine (HE2.out _).mono ?_
                rintro e w8 ⟨rfl, rfl⟩
                generalize hWZ : wr.alloc (.cells #[.int .i64 z.1, .int .i64 z.2] 44) = Wz at *
                have bz2 := (Below.refl Wz.heap.size Wz).alloc (Nat.le_refl _) (.cells #[.int .i64 z.1, .int .i64 z.2] 44)
                have HO2 := hid (HO1.out.below bz2)
                have HB62 := hid (HB61.out.trans (bz2.mono HB61.out.size))
                have HB2 := hid (HB1.out.trans (bz2.mono HB1.out.size))
                clear bz2 hWZ
                go_wp2_with (at_builtin; refine wpList_app' rfl (.tmp 66) (.tmp 68) rfl w6.heap.size _ FL [z] (some ⟨Wz.heap.size, 0, none⟩) 1 1 rfl HO2.out rfl rfl (seg_block (heap_alloc_new Wz _)) (by intro h; cases h) (by simp; omega) HB62.out.size ?_; intro v9 w9 hO9 hG9; have HB9 := hid (HB2.out.grown hG9 HB2.out.size (fun k e => Nat.le_trans X6.out.2.2.size (HO2.out.lt k e).1)); have HB69 := hid (HB62.out.grown hG9 HB62.out.size (fun k e => (HO2.out.lt k e).1)))
                go_roundw
                case rel => exact ⟨k + 1, by omega, by go_num, by rw [HN.out]; exact hO9, HB69.out, HB9.out⟩
                case measure => simp [intOf]; omega
          · obtain rfl : k = LL.length := by omega
            go_wp2_with fail
            rw [HV.out.1, HV.out.2]
            obtain ⟨va, vc, hvv, _⟩ := HO.out.form
            exact bodyPost_ret (v := .tuple #[_, .bool true]) (by simp [results, Try.results49, go_sem]; rfl) rfl ⟨_, rfl, by have := HO.out; rw [List.take_length] at this; exact this.mono X6.out.2.2.size, HB.out⟩
    · cases hin : inB 0 2 s
      · have HD := hid (c_l1In' s 0 2 false hin)
        have HV := hid (show OKV = false ∧ SV = [] from ⟨HOK.out false hin, HSL.out false hin⟩)
        clear hin
        go_enter Try.func49, Try.ntmps49
        go_wp2_with fail
        refine HC.out.mono ?_
        rintro e w3 ⟨rfl, hb⟩
        have X3 := hid (HX.out.step hb)
        have x3 := X3.out.1
        have y3 := (hb.cell (p := ⟨b1, o1 + q.toNat * 2, none⟩) hb1).trans p1
        clear HC hb p1 x0
        go_wp2_with fail
        refine (HD.out _).mono ?_
        rintro e w4 ⟨rfl, rfl⟩
        go_wp2_with fail
        rw [HV.out.1, HV.out.2]
        exact bodyPost_ret (v := .tuple #[.slice none 0 0, .bool false]) (by simp [results, Try.results49, go_sem]) rfl ⟨_, rfl, OwnS.nil _ _, X3.out.2.2⟩
      · have HD := hid (c_l1In' s 0 2 true hin)
        have hs := inB_bd hin
        have HV := hid (show OKV = true ∧ SV = (stepsL s.toNat (ordL CL)).filter (safB 8 s) from ⟨HOK.out true hin, (HSL.out true hin).trans HSD.out⟩)
        have HST := hid (fun (aa : Option Addr) (cc : Nat) (W : World) (hS : Seg W aa CL) => c_l5After aa CL cc s.toNat W hS (by have := HCF.out; omega) HCI.out (by omega))
        rw [show ((s.toNat : Nat) : Int) = s by omega] at HST
        obtain ⟨l', r1, r2⟩ := ord_ex CL
        have ro : ordL CL = l' := ordL_eq r1 r2
        have hI : InB 0 31 l' := fun c hc => HCI.out c ((r2 c).1 hc)
        have hlen : (stepsL s.toNat (ordL CL)).length ≤ 6561 := by
          rw [ro]
          exact len_box (steps_ris r1) ((InB.steps (l := l') (n := s.toNat) hI).wide (by omega) (by omega))
        clear hin ro hI r1 r2 HOK HSL HSD
        generalize stepsL s.toNat (ordL CL) = LL at *
        go_enter Try.func49, Try.ntmps49
        go_wp2_with fail
        refine HC.out.mono ?_
        rintro e w3 ⟨rfl, hb⟩
        have X3 := hid (HX.out.step hb)
        have Q3 := hid (HQ.out.below hb)
        have x3 := X3.out.1
        have y3 := (hb.cell (p := ⟨b1, o1 + q.toNat * 2, none⟩) hb1).trans p1
        clear HC hb p1 x0
        go_wp2_with fail
        refine (HD.out _).mono ?_
        rintro e w4 ⟨rfl, rfl⟩
        go_wp2_with fail
        refine (HCE.out _ Q3.out).mono ?_
        rintro e w5 ⟨v5, rfl, hO5, hb5⟩
        obtain ⟨a5, c5, rfl, hs5⟩ := hO5.form
        have X5 := hid (X3.out.step hb5)
        have HS5 := hid hs5
        clear hO5 hs5 hb5 x3 y3 X3
        go_wp2_with fail
        refine (HST.out a5 c5 w5 HS5.out).mono ?_
        rintro e w6 ⟨v6, rfl, hS6, hb6⟩
        obtain ⟨a6, c6, rfl, hs6, _⟩ := hS6.form
        have X6 := hid (X5.out.step hb6)
        have HS6 := hid hs6
        clear hS6 hs6 hb6 X5 HS5
        go_wp2_with fail
        go_loopw [9, 44] (fun ov iv wr => ∃ k : Nat, k ≤ LL.length ∧ iv = .int .i64 k ∧ Hid (OwnS wr w6.heap.size ov ((LL.take k).filter (safB 8 s))) ∧ Hid (Below w6.heap.size w6 wr) ∧ Hid (Below w.heap.size w wr)) (fun _ iv _ => LL.length - (intOf iv).toNat)
        case atStart => exact ⟨0, Nat.zero_le _, rfl, by simpa [Hid] using OwnS.nil w6 w6.heap.size, Below.refl _ _, X6.out.2.2⟩
        case round =>
          obtain ⟨k, hk', rfl, HO, HB6, HB⟩ := hrel
          by_cases hlt : k < LL.length
          · obtain ⟨bz, oz, rfl, hbz, z1, z2⟩ := HS6.out k hlt
            have g1 := (HB6.out.cell (p := ⟨bz, oz + k * 2, none⟩) hbz).trans z1
            have g2 := (HB6.out.cell (p := ⟨bz, oz + k * 2 + 1, none⟩) hbz).trans z2
            change _ = some (Value.int .i64 (at_ LL k).1) at g1
            change _ = some (Value.int .i64 (at_ LL k).2) at g2
            have HFS := hid (filt_succ (f := safB 8 s) hlt)
            have hfl : ((LL.take k).filter (safB 8 s)).length ≤ 6561 := by
              have h1 := List.length_filter_le (safB 8 s) (LL.take k)
              rw [List.length_take] at h1
              omega
            have k0 : (0 : Int) ≤ (k : Int) := by omega
            have k1 : (k : Int) < (LL.length : Int) := by omega
            clear z1 z2
            generalize at_ LL k = z at *
            generalize (LL.take k).filter (safB 8 s) = FL at *
            have hz1 := cell_new0 wr (.int .i64 z.1) (.int .i64 z.2) 44
            have hz2 := cell_new1 wr (.int .i64 z.1) (.int .i64 z.2) 44
            have ba := (Below.refl wr.heap.size wr).alloc (Nat.le_refl _) (.cells #[.int .i64 z.1, .int .i64 z.2] 44)
            have HO1 := hid (HO.out.below ba)
            have HB61 := hid (HB6.out.trans (ba.mono HB6.out.size))
            have HB1 := hid (HB.out.trans (ba.mono HB.out.size))
            clear ba HO HB6 HB
            cases e1 : inB s (8 - 1 - s) z.1
            · have HN := hid (show (LL.take (k + 1)).filter (safB 8 s) = FL by rw [HFS.out, show safB 8 s z = false by unfold safB; rw [e1]; rfl]; simp)
              have HE1 := hid (c_l1In' z.1 s (8 - 1 - s) false e1)
              clear e1 HFS
              go_wp2_with fail
              refine (HE1.out _).mono ?_
              rintro e w8 ⟨rfl, rfl⟩
              go_wp2_with fail
              go_roundw
              case rel => exact ⟨k + 1, by omega, by go_num, by rw [HN.out]; exact HO1.out, HB61.out, HB1.out⟩
              case measure => simp [intOf]; omega
            · have HE1 := hid (c_l1In' z.1 s (8 - 1 - s) true e1)
              cases e2 : inB s (8 - 1 - s) z.2
              · have HN := hid (show (LL.take (k + 1)).filter (safB 8 s) = FL by rw [HFS.out, show safB 8 s z = false by unfold safB; rw [e1, e2]; rfl]; simp)
                have HE2 := hid (c_l1In' z.2 s (8 - 1 - s) false e2)
                clear e1 e2 HFS
                go_wp2_with fail
                refine (HE1.out _).mono ?_
                rintro e w8 ⟨rfl, rfl⟩
                go_wp2_with fail
                refine (HE2.out _).mono ?_
                rintro e w8 ⟨rfl, rfl⟩
                go_wp2_with fail
                go_roundw
                case rel => exact ⟨k + 1, by omega, by go_num, by rw [HN.out]; exact HO1.out, HB61.out, HB1.out⟩
                case measure => simp [intOf]; omega
              · have HN := hid (show (LL.take (k + 1)).filter (safB 8 s) = FL ++ [z] by rw [HFS.out, show safB 8 s z = true by unfold safB; rw [e1, e2]; rfl]; simp)
                have HE2 := hid (c_l1In' z.2 s (8 - 1 - s) true e2)
                clear e1 e2 HFS
                go_wp2_with fail
                refine (HE1.out _).mono ?_
                rintro e w8 ⟨rfl, rfl⟩
                go_wp2_with fail
                refine (HE2.out _).mono ?_
                rintro e w8 ⟨rfl, rfl⟩
                generalize hWZ : wr.alloc (.cells #[.int .i64 z.1, .int .i64 z.2] 44) = Wz at *
                have bz2 := (Below.refl Wz.heap.size Wz).alloc (Nat.le_refl _) (.cells #[.int .i64 z.1, .int .i64 z.2] 44)
                have HO2 := hid (HO1.out.below bz2)
                have HB62 := hid (HB61.out.trans (bz2.mono HB61.out.size))
                have HB2 := hid (HB1.out.trans (bz2.mono HB1.out.size))
                clear bz2 hWZ
                go_wp2_with (at_builtin; refine wpList_app' rfl (.tmp 66) (.tmp 68) rfl w6.heap.size _ FL [z] (some ⟨Wz.heap.size, 0, none⟩) 1 1 rfl HO2.out rfl rfl (seg_block (heap_alloc_new Wz _)) (by intro h; cases h) (by simp; omega) HB62.out.size ?_; intro v9 w9 hO9 hG9; have HB9 := hid (HB2.out.grown hG9 HB2.out.size (fun k e => Nat.le_trans X6.out.2.2.size (HO2.out.lt k e).1)); have HB69 := hid (HB62.out.grown hG9 HB62.out.size (fun k e => (HO2.out.lt k e).1)))
                go_roundw
                case rel => exact ⟨k + 1, by omega, by go_num, by rw [HN.out]; exact hO9, HB69.out, HB9.out⟩
                case measure => simp [intOf]; omega
          · obtain rfl : k = LL.length := by omega
            go_wp2_with fail
            rw [HV.out.1, HV.out.2]
            obtain ⟨va, vc, hvv, _⟩ := HO.out.form
            exact bodyPost_ret (v := .tuple #[_, .bool true]) (by simp [results, Try.results49, go_sem]; rfl) rfl ⟨_, rfl, by have := HO.out; rw [List.take_length] at this; exact this.mono X6.out.2.2.size, HB.out⟩
    · cases hin : inB 0 4 s
      · have HD := hid (c_l1In' s 0 4 false hin)
        have HV := hid (show OKV = false ∧ SV = [] from ⟨HOK.out false hin, HSL.out false hin⟩)
        clear hin
        go_enter Try.func49, Try.ntmps49
        go_wp2_with fail
        refine HC.out.mono ?_
        rintro e w3 ⟨rfl, hb⟩
        have X3 := hid (HX.out.step hb)
        have x3 := X3.out.1
        have y3 := (hb.cell (p := ⟨b1, o1 + q.toNat * 2, none⟩) hb1).trans p1
        clear HC hb p1 x0
        go_wp2_with fail
        refine (HD.out _).mono ?_
        rintro e w4 ⟨rfl, rfl⟩
        go_wp2_with fail
        rw [HV.out.1, HV.out.2]
        exact bodyPost_ret (v := .tuple #[.slice none 0 0, .bool false]) (by simp [results, Try.results49, go_sem]) rfl ⟨_, rfl, OwnS.nil _ _, X3.out.2.2⟩
      · have HD := hid (c_l1In' s 0 4 true hin)
        have hs := inB_bd hin
        have HV := hid (show OKV = true ∧ SV = (stepsL s.toNat (ordL CL)).filter (safB 16 s) from ⟨HOK.out true hin, (HSL.out true hin).trans HSD.out⟩)
        have HST := hid (fun (aa : Option Addr) (cc : Nat) (W : World) (hS : Seg W aa CL) => c_l5After aa CL cc s.toNat W hS (by have := HCF.out; omega) HCI.out (by omega))
        rw [show ((s.toNat : Nat) : Int) = s by omega] at HST
        obtain ⟨l', r1, r2⟩ := ord_ex CL
        have ro : ordL CL = l' := ordL_eq r1 r2
        have hI : InB 0 31 l' := fun c hc => HCI.out c ((r2 c).1 hc)
        have hlen : (stepsL s.toNat (ordL CL)).length ≤ 6561 := by
          rw [ro]
          exact len_box (steps_ris r1) ((InB.steps (l := l') (n := s.toNat) hI).wide (by omega) (by omega))
        clear hin ro hI r1 r2 HOK HSL HSD
        generalize stepsL s.toNat (ordL CL) = LL at *
        go_enter Try.func49, Try.ntmps49
        go_wp2_with fail
        refine HC.out.mono ?_
        rintro e w3 ⟨rfl, hb⟩
        have X3 := hid (HX.out.step hb)
        have Q3 := hid (HQ.out.below hb)
        have x3 := X3.out.1
        have y3 := (hb.cell (p := ⟨b1, o1 + q.toNat * 2, none⟩) hb1).trans p1
        clear HC hb p1 x0
        go_wp2_with fail
        refine (HD.out _).mono ?_
        rintro e w4 ⟨rfl, rfl⟩
        go_wp2_with fail
        refine (HCE.out _ Q3.out).mono ?_
        rintro e w5 ⟨v5, rfl, hO5, hb5⟩
        obtain ⟨a5, c5, rfl, hs5⟩ := hO5.form
        have X5 := hid (X3.out.step hb5)
        have HS5 := hid hs5
        clear hO5 hs5 hb5 x3 y3 X3
        go_wp2_with fail
        refine (HST.out a5 c5 w5 HS5.out).mono ?_
        rintro e w6 ⟨v6, rfl, hS6, hb6⟩
        obtain ⟨a6, c6, rfl, hs6, _⟩ := hS6.form
        have X6 := hid (X5.out.step hb6)
        have HS6 := hid hs6
        clear hS6 hs6 hb6 X5 HS5
        go_wp2_with fail
        go_loopw [9, 44] (fun ov iv wr => ∃ k : Nat, k ≤ LL.length ∧ iv = .int .i64 k ∧ Hid (OwnS wr w6.heap.size ov ((LL.take k).filter (safB 16 s))) ∧ Hid (Below w6.heap.size w6 wr) ∧ Hid (Below w.heap.size w wr)) (fun _ iv _ => LL.length - (intOf iv).toNat)
        case atStart => exact ⟨0, Nat.zero_le _, rfl, by simpa [Hid] using OwnS.nil w6 w6.heap.size, Below.refl _ _, X6.out.2.2⟩
        case round =>
          obtain ⟨k, hk', rfl, HO, HB6, HB⟩ := hrel
          by_cases hlt : k < LL.length
          · obtain ⟨bz, oz, rfl, hbz, z1, z2⟩ := HS6.out k hlt
            have g1 := (HB6.out.cell (p := ⟨bz, oz + k * 2, none⟩) hbz).trans z1
            have g2 := (HB6.out.cell (p := ⟨bz, oz + k * 2 + 1, none⟩) hbz).trans z2
            change _ = some (Value.int .i64 (at_ LL k).1) at g1
            change _ = some (Value.int .i64 (at_ LL k).2) at g2
            have HFS := hid (filt_succ (f := safB 16 s) hlt)
            have hfl : ((LL.take k).filter (safB 16 s)).length ≤ 6561 := by
              have h1 := List.length_filter_le (safB 16 s) (LL.take k)
              rw [List.length_take] at h1
              omega
            have k0 : (0 : Int) ≤ (k : Int) := by omega
            have k1 : (k : Int) < (LL.length : Int) := by omega
            clear z1 z2
            generalize at_ LL k = z at *
            generalize (LL.take k).filter (safB 16 s) = FL at *
            have hz1 := cell_new0 wr (.int .i64 z.1) (.int .i64 z.2) 44
            have hz2 := cell_new1 wr (.int .i64 z.1) (.int .i64 z.2) 44
            have ba := (Below.refl wr.heap.size wr).alloc (Nat.le_refl _) (.cells #[.int .i64 z.1, .int .i64 z.2] 44)
            have HO1 := hid (HO.out.below ba)
            have HB61 := hid (HB6.out.trans (ba.mono HB6.out.size))
            have HB1 := hid (HB.out.trans (ba.mono HB.out.size))
            clear ba HO HB6 HB
            cases e1 : inB s (16 - 1 - s) z.1
            · have HN := hid (show (LL.take (k + 1)).filter (safB 16 s) = FL by rw [HFS.out, show safB 16 s z = false by unfold safB; rw [e1]; rfl]; simp)
              have HE1 := hid (c_l1In' z.1 s (16 - 1 - s) false e1)
              clear e1 HFS
              go_wp2_with fail
              refine (HE1.out _).mono ?_
              rintro e w8 ⟨rfl, rfl⟩
              go_wp2_with fail
              go_roundw
              case rel => exact ⟨k + 1, by omega, by go_num, by rw [HN.out]; exact HO1.out, HB61.out, HB1.out⟩
              case measure => simp [intOf]; omega
            · have HE1 := hid (c_l1In' z.1 s (16 - 1 - s) true e1)
              cases e2 : inB s (16 - 1 - s) z.2
              · have HN := hid (show (LL.take (k + 1)).filter (safB 16 s) = FL by rw [HFS.out, show safB 16 s z = false by unfold safB; rw [e1, e2]; rfl]; simp)
                have HE2 := hid (c_l1In' z.2 s (16 - 1 - s) false e2)
                clear e1 e2 HFS
                go_wp2_with fail
                refine (HE1.out _).mono ?_
                rintro e w8 ⟨rfl, rfl⟩
                go_wp2_with fail
                refine (HE2.out _).mono ?_
                rintro e w8 ⟨rfl, rfl⟩
                go_wp2_with fail
                go_roundw
                case rel => exact ⟨k + 1, by omega, by go_num, by rw [HN.out]; exact HO1.out, HB61.out, HB1.out⟩
                case measure => simp [intOf]; omega
              · have HN := hid (show (LL.take (k + 1)).filter (safB 16 s) = FL ++ [z] by rw [HFS.out, show safB 16 s z = true by unfold safB; rw [e1, e2]; rfl]; simp)
                have HE2 := hid (c_l1In' z.2 s (16 - 1 - s) true e2)
                clear e1 e2 HFS
                go_wp2_with fail
                refine (HE1.out _).mono ?_
                rintro e w8 ⟨rfl, rfl⟩
                go_wp2_with fail
                refine (HE2.out _).mono ?_
                rintro e w8 ⟨rfl, rfl⟩
                generalize hWZ : wr.alloc (.cells #[.int .i64 z.1, .int .i64 z.2] 44) = Wz at *
                have bz2 := (Below.refl Wz.heap.size Wz).alloc (Nat.le_refl _) (.cells #[.int .i64 z.1, .int .i64 z.2] 44)
                have HO2 := hid (HO1.out.below bz2)
                have HB62 := hid (HB61.out.trans (bz2.mono HB61.out.size))
                have HB2 := hid (HB1.out.trans (bz2.mono HB1.out.size))
                clear bz2 hWZ
                go_wp2_with (at_builtin; refine wpList_app' rfl (.tmp 66) (.tmp 68) rfl w6.heap.size _ FL [z] (some ⟨Wz.heap.size, 0, none⟩) 1 1 rfl HO2.out rfl rfl (seg_block (heap_alloc_new Wz _)) (by intro h; cases h) (by simp; omega) HB62.out.size ?_; intro v9 w9 hO9 hG9; have HB9 := hid (HB2.out.grown hG9 HB2.out.size (fun k e => Nat.le_trans X6.out.2.2.size (HO2.out.lt k e).1)); have HB69 := hid (HB62.out.grown hG9 HB62.out.size (fun k e => (HO2.out.lt k e).1)))
                go_roundw
                case rel => exact ⟨k + 1, by omega, by go_num, by rw [HN.out]; exact hO9, HB69.out, HB9.out⟩
                case measure => simp [intOf]; omega
          · obtain rfl : k = LL.length := by omega
            go_wp2_with fail
            rw [HV.out.1, HV.out.2]
            obtain ⟨va, vc, hvv, _⟩ := HO.out.form
            exact bodyPost_ret (v := .tuple #[_, .bool true]) (by simp [results, Try.results49, go_sem]; rfl) rfl ⟨_, rfl, by have := HO.out; rw [List.take_length] at this; exact this.mono X6.out.2.2.size, HB.out⟩
    · cases hin : inB 0 8 s
      · have HD := hid (c_l1In' s 0 8 false hin)
        have HV := hid (show OKV = false ∧ SV = [] from ⟨HOK.out false hin, HSL.out false hin⟩)
        clear hin
        go_enter Try.func49, Try.ntmps49
        go_wp2_with fail
        refine HC.out.mono ?_
        rintro e w3 ⟨rfl, hb⟩
        have X3 := hid (HX.out.step hb)
        have x3 := X3.out.1
        have y3 := (hb.cell (p := ⟨b1, o1 + q.toNat * 2, none⟩) hb1).trans p1
        clear HC hb p1 x0
        go_wp2_with fail
        refine (HD.out _).mono ?_
        rintro e w4 ⟨rfl, rfl⟩
        go_wp2_with fail
        rw [HV.out.1, HV.out.2]
        exact bodyPost_ret (v := .tuple #[.slice none 0 0, .bool false]) (by simp [results, Try.results49, go_sem]) rfl ⟨_, rfl, OwnS.nil _ _, X3.out.2.2⟩
      · have HD := hid (c_l1In' s 0 8 true hin)
        have hs := inB_bd hin
        have HV := hid (show OKV = true ∧ SV = (stepsL s.toNat (ordL CL)).filter (safB 32 s) from ⟨HOK.out true hin, (HSL.out true hin).trans HSD.out⟩)
        have HST := hid (fun (aa : Option Addr) (cc : Nat) (W : World) (hS : Seg W aa CL) => c_l5After aa CL cc s.toNat W hS (by have := HCF.out; omega) HCI.out (by omega))
        rw [show ((s.toNat : Nat) : Int) = s by omega] at HST
        obtain ⟨l', r1, r2⟩ := ord_ex CL
        have ro : ordL CL = l' := ordL_eq r1 r2
        have hI : InB 0 31 l' := fun c hc => HCI.out c ((r2 c).1 hc)
        have hlen : (stepsL s.toNat (ordL CL)).length ≤ 6561 := by
          rw [ro]
          exact len_box (steps_ris r1) ((InB.steps (l := l') (n := s.toNat) hI).wide (by omega) (by omega))
        clear hin ro hI r1 r2 HOK HSL HSD
        generalize stepsL s.toNat (ordL CL) = LL at *
        go_enter Try.func49, Try.ntmps49
        go_wp2_with fail
        refine HC.out.mono ?_
        rintro e w3 ⟨rfl, hb⟩
        have X3 := hid (HX.out.step hb)
        have Q3 := hid (HQ.out.below hb)
        have x3 := X3.out.1
        have y3 := (hb.cell (p := ⟨b1, o1 + q.toNat * 2, none⟩) hb1).trans p1
        clear HC hb p1 x0
        go_wp2_with fail
        refine (HD.out _).mono ?_
        rintro e w4 ⟨rfl, rfl⟩
        go_wp2_with fail
        refine (HCE.out _ Q3.out).mono ?_
        rintro e w5 ⟨v5, rfl, hO5, hb5⟩
        obtain ⟨a5, c5, rfl, hs5⟩ := hO5.form
        have X5 := hid (X3.out.step hb5)
        have HS5 := hid hs5
        clear hO5 hs5 hb5 x3 y3 X3
        go_wp2_with fail
        refine (HST.out a5 c5 w5 HS5.out).mono ?_
        rintro e w6 ⟨v6, rfl, hS6, hb6⟩
        obtain ⟨a6, c6, rfl, hs6, _⟩ := hS6.form
        have X6 := hid (X5.out.step hb6)
        have HS6 := hid hs6
        clear hS6 hs6 hb6 X5 HS5
        go_wp2_with fail
        go_loopw [9, 44] (fun ov iv wr => ∃ k : Nat, k ≤ LL.length ∧ iv = .int .i64 k ∧ Hid (OwnS wr w6.heap.size ov ((LL.take k).filter (safB 32 s))) ∧ Hid (Below w6.heap.size w6 wr) ∧ Hid (Below w.heap.size w wr)) (fun _ iv _ => LL.length - (intOf iv).toNat)
        case atStart => exact ⟨0, Nat.zero_le _, rfl, by simpa [Hid] using OwnS.nil w6 w6.heap.size, Below.refl _ _, X6.out.2.2⟩
        case round =>
          obtain ⟨k, hk', rfl, HO, HB6, HB⟩ := hrel
          by_cases hlt : k < LL.length
          · obtain ⟨bz, oz, rfl, hbz, z1, z2⟩ := HS6.out k hlt
            have g1 := (HB6.out.cell (p := ⟨bz, oz + k * 2, none⟩) hbz).trans z1
            have g2 := (HB6.out.cell (p := ⟨bz, oz + k * 2 + 1, none⟩) hbz).trans z2
            change _ = some (Value.int .i64 (at_ LL k).1) at g1
            change _ = some (Value.int .i64 (at_ LL k).2) at g2
            have HFS := hid (filt_succ (f := safB 32 s) hlt)
            have hfl : ((LL.take k).filter (safB 32 s)).length ≤ 6561 := by
              have h1 := List.length_filter_le (safB 32 s) (LL.take k)
              rw [List.length_take] at h1
              omega
            have k0 : (0 : Int) ≤ (k : Int) := by omega
            have k1 : (k : Int) < (LL.length : Int) := by omega
            clear z1 z2
            generalize at_ LL k = z at *
            generalize (LL.take k).filter (safB 32 s) = FL at *
            have hz1 := cell_new0 wr (.int .i64 z.1) (.int .i64 z.2) 44
            have hz2 := cell_new1 wr (.int .i64 z.1) (.int .i64 z.2) 44
            have ba := (Below.refl wr.heap.size wr).alloc (Nat.le_refl _) (.cells #[.int .i64 z.1, .int .i64 z.2] 44)
            have HO1 := hid (HO.out.below ba)
            have HB61 := hid (HB6.out.trans (ba.mono HB6.out.size))
            have HB1 := hid (HB.out.trans (ba.mono HB.out.size))
            clear ba HO HB6 HB
            cases e1 : inB s (32 - 1 - s) z.1
            · have HN := hid (show (LL.take (k + 1)).filter (safB 32 s) = FL by rw [HFS.out, show safB 32 s z = false by unfold safB; rw [e1]; rfl]; simp)
              have HE1 := hid (c_l1In' z.1 s (32 - 1 - s) false e1)
              clear e1 HFS
              go_wp2_with fail
              refine (HE1.out _).mono ?_
              rintro e w8 ⟨rfl, rfl⟩
              go_wp2_with fail
              go_roundw
              case rel => exact ⟨k + 1, by omega, by go_num, by rw [HN.out]; exact HO1.out, HB61.out, HB1.out⟩
              case measure => simp [intOf]; omega
            · have HE1 := hid (c_l1In' z.1 s (32 - 1 - s) true e1)
              cases e2 : inB s (32 - 1 - s) z.2
              · have HN := hid (show (LL.take (k + 1)).filter (safB 32 s) = FL by rw [HFS.out, show safB 32 s z = false by unfold safB; rw [e1, e2]; rfl]; simp)
                have HE2 := hid (c_l1In' z.2 s (32 - 1 - s) false e2)
                clear e1 e2 HFS
                go_wp2_with fail
                refine (HE1.out _).mono ?_
                rintro e w8 ⟨rfl, rfl⟩
                go_wp2_with fail
                refine (HE2.out _).mono ?_
                rintro e w8 ⟨rfl, rfl⟩
                go_wp2_with fail
                go_roundw
                case rel => exact ⟨k + 1, by omega, by go_num, by rw [HN.out]; exact HO1.out, HB61.out, HB1.out⟩
                case measure => simp [intOf]; omega
              · have HN := hid (show (LL.take (k + 1)).filter (safB 32 s) = FL ++ [z] by rw [HFS.out, show safB 32 s z = true by unfold safB; rw [e1, e2]; rfl]; simp)
                have HE2 := hid (c_l1In' z.2 s (32 - 1 - s) true e2)
                clear e1 e2 HFS
                go_wp2_with fail
                refine (HE1.out _).mono ?_
                rintro e w8 ⟨rfl, rfl⟩
                go_wp2_with fail
                refine (HE2.out _).mono ?_
                rintro e w8 ⟨rfl, rfl⟩
                generalize hWZ : wr.alloc (.cells #[.int .i64 z.1, .int .i64 z.2] 44) = Wz at *
                have bz2 := (Below.refl Wz.heap.size Wz).alloc (Nat.le_refl _) (.cells #[.int .i64 z.1, .int .i64 z.2] 44)
                have HO2 := hid (HO1.out.below bz2)
                have HB62 := hid (HB61.out.trans (bz2.mono HB61.out.size))
                have HB2 := hid (HB1.out.trans (bz2.mono HB1.out.size))
                clear bz2 hWZ
                go_wp2_with (at_builtin; refine wpList_app' rfl (.tmp 66) (.tmp 68) rfl w6.heap.size _ FL [z] (some ⟨Wz.heap.size, 0, none⟩) 1 1 rfl HO2.out rfl rfl (seg_block (heap_alloc_new Wz _)) (by intro h; cases h) (by simp; omega) HB62.out.size ?_; intro v9 w9 hO9 hG9; have HB9 := hid (HB2.out.grown hG9 HB2.out.size (fun k e => Nat.le_trans X6.out.2.2.size (HO2.out.lt k e).1)); have HB69 := hid (HB62.out.grown hG9 HB62.out.size (fun k e => (HO2.out.lt k e).1)))
                go_roundw
                case rel => exact ⟨k + 1, by omega, by go_num, by rw [HN.out]; exact hO9, HB69.out, HB9.out⟩
                case measure => simp [intOf]; omega
          · obtain rfl : k = LL.length := by omega
            go_wp2_with fail
            rw [HV.out.1, HV.out.2]
            obtain ⟨va, vc, hvv, _⟩ := HO.out.form
            exact bodyPost_ret (v := .tuple #[_, .bool true]) (by simp [results, Try.results49, go_sem]; rfl) rfl ⟨_, rfl, by have := HO.out; rw [List.take_length] at this; exact this.mono X6.out.2.2.size, HB.out⟩

end Go.Proofs.Ytnabgfbempkgnaa
