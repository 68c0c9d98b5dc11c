/- What the program's cellAt and GetCell answer. -/
import Derived.Test.YtmapbkefndbnnaaSGet
import Derived.Test.YtmapbkefndbnnaaBox
import Derived.StillTailTactics
namespace Go.Proofs.Ytmapbkefndbnnaa
open Go.RowKit Go.Maps
set_option linter.unusedVariables false
set_option linter.unusedSimpArgs false
attribute [local go_sem ↓] Go.wp_at_zero Go.wp_at_succ

theorem half_of {z H : Int} (h0 : 0 ≤ z) (h1 : z < H + H) : ∃ j : Nat, j < 2 ∧ z.tdiv H = (j : Int) ∧ z.tmod H = z - (j : Int) * H ∧ 0 ≤ z - (j : Int) * H ∧ z - (j : Int) * H < H := by
  have hm := Int.mul_tdiv_add_tmod z H
  by_cases h : z < H
  · have e : z.tdiv H = 0 := Int.tdiv_eq_zero_of_lt h0 h
    rw [e] at hm
    exact ⟨0, by omega, by rw [e]; rfl, by simp at hm ⊢; exact hm, by simpa using h0, by simpa using h⟩
  · have e : z.tdiv H = 1 := by
      rw [Int.tdiv_eq_ediv_of_nonneg h0]
      have hH : 0 < H := by omega
      have h2 : z = (z - H) + 1 * H := by omega
      rw [h2, Int.add_mul_ediv_right _ _ (by omega), Int.ediv_eq_zero_of_lt (by omega) (by omega)]
      rfl
    rw [e] at hm
    exact ⟨1, by omega, by rw [e]; rfl, by simp at hm ⊢; omega, by simp; omega, by simp; omega⟩

/-- What stands at a cell. -/
def cellV (L : List Cl) (c : Cl) : Int := if c ∈ L then 1 else 0
set_option maxHeartbeats 4000000 in
set_option maxRecDepth 100000 in
theorem c_cellAt {L : List Cl} (n q : Nat) (c : Cl) (w : World) {base p g cap mb : Nat} {G : List Qd} (hGr : Grows G) (hn : n ≤ 5) (hT : IsT L G n q 0 0) (hc : sqB n 0 0 c) (hG : Grv w base p g cap mb G) :
    Calls Try.prog 108 #[.pointer (some ⟨p, 0, none⟩), .int .i64 (q : Int), .agg #[.int .i64 c.1, .int .i64 c.2]] w fun e w' => e = .returned (.int .i64 (cellV L c)) ∧ Below w.heap.size w w' := by
  have hq := hT.lt hGr.two
  have hlev := hT.lev hGr
  have hb1 := (Below.refl w.heap.size w).alloc (Nat.le_refl _) (.cells #[.int .i64 c.1, .int .i64 c.2] 39)
  have G1 := hid (hG.below hb1)
  have c0 := G1.out.c0
  have c1 := G1.out.lev hq
  rw [hlev] at c1
  have i0 : (0 : Int) ≤ (q : Int) := by omega
  have i1 : (q : Int) < (G.length : Int) := by omega
  have HBX := hid (BoxAt.new w c)
  have HB1 := hid hb1
  have HGG := hid hG
  have HT := hid hT
  have HCS := hid hc
  clear hb1 hG hT hc hlev
  go_enter Try.func108, Try.ntmps108
  go_wp2_with fail
  go_loopw [1, 7] (fun qv lv wr => ∃ (m r : Nat) (x y : Int) (d : Cl), m ≤ 5 ∧ qv = .int .i64 (r : Int) ∧ lv = .int .i64 (m : Int) ∧ Hid (IsT L G m r x y ∧ sqB m 0 0 d ∧ c.1 = d.1 + x ∧ c.2 = d.2 + y) ∧ Hid (BoxAt wr w.heap.size d) ∧ Hid (Below w.heap.size w wr)) (fun _ lv _ => (intOf lv).toNat)
  case atStart => exact ⟨n, q, 0, 0, c, hn, rfl, rfl, ⟨HT.out, HCS.out, by omega, by omega⟩, HBX.out, HB1.out⟩
  case round =>
    clear HT HCS HBX HB1 c0 c1 G1 i0 i1 hq
    obtain ⟨m, r, x, y, d, hm5, rfl, rfl, HI, HX, HB⟩ := hrel
    have GW := hid (HGG.out.below HB.out)
    have hr := HI.out.1.lt hGr.two
    have b0 := HX.out.1
    have b1 := HX.out.2.1
    have f0 := HX.out.2.2.1
    have f1 := HX.out.2.2.2.1
    have hbx := HX.out.2.2.2.2
    by_cases hm : 0 < m
    · obtain ⟨k, rfl⟩ : ∃ k, m = k + 1 := ⟨m - 1, by omega⟩
      obtain ⟨hI, hS, hx, hy⟩ := HI.out
      unfold sqB at hS
      have hp := two_pow k
      have hpos := pow_pos' k
      have hle := pow_le5 (show k ≤ 5 by omega)
      obtain ⟨i, hi2, ei, mi, r0, r1⟩ := half_of (z := d.1) (H := 2 ^ k) (by omega) (by omega)
      obtain ⟨j, hj2, ej, mj, s0, s1⟩ := half_of (z := d.2) (H := 2 ^ k) (by omega) (by omega)
      have hkid := hI.kid (j * 2 + i) (by omega)
      have hkk := hI.kids.2.2.1 (j * 2 + i) (by omega)
      have e0 := GW.out.c0
      have e1 := GW.out.kidAt hr (j := j * 2 + i) (by omega)
      rw [hkk] at e1
      have HN := hid (show IsT L G k (kidq G r (j * 2 + i)) (x + (i : Int) * 2 ^ k) (y + (j : Int) * 2 ^ k) by
        rw [show (j * 2 + i) % 2 = i by omega, show (j * 2 + i) / 2 = j by omega] at hkid; exact hkid)
      have HN2 := hid (show sqB k 0 0 (d.1 - (i : Int) * 2 ^ k, d.2 - (j : Int) * 2 ^ k) ∧ c.1 = d.1 - (i : Int) * 2 ^ k + (x + (i : Int) * 2 ^ k) ∧ c.2 = d.2 - (j : Int) * 2 ^ k + (y + (j : Int) * 2 ^ k) from ⟨by unfold sqB; simp only []; omega, by omega, by omega⟩)
      have q0 : (0 : Int) ≤ (r : Int) := by omega
      have q1 : (r : Int) < (G.length : Int) := by omega
      have hbne : w.heap.size ≠ p := by have := HGG.out.box.lt; omega
      have HX2 := hid (fun (a b : Int) => HX.out.set2 a b)
      have hcast : ((k + 1 : Nat) : Int) = (k : Int) + 1 := by omega
      have HP := hid hp
      have HBX := hid HX.out
      clear hI hS hx hy hkid hkk hp HI HX GW hr hm
      rw [hcast]
      generalize kidq G r (j * 2 + i) = KQ at *
      have hz : (2 : Int) ^ k ≠ 0 := by omega
      go_wp2_with fail
      generalize (2 : Int) ^ k = H at *
      have z0 : IntKind.i64.wrap 0 = 0 := by decide
      have z1 : IntKind.i64.wrap 1 = 1 := by decide
      have z2 : IntKind.i64.wrap 2 = 2 := by decide
      have z3 : IntKind.i64.wrap 3 = 3 := by decide
      have HMI := hid mi
      have HMJ := hid mj
      obtain ⟨X1, hX1⟩ : ∃ X, d.1 - (i : Int) * H = X := ⟨_, rfl⟩
      obtain ⟨Y1, hY1⟩ : ∃ Y, d.2 - (j : Int) * H = Y := ⟨_, rfl⟩
      rw [hX1] at mi r0 r1 HN2
      rw [hY1] at mj s0 s1 HN2
      have v1 : IntKind.i64.wrap X1 = X1 := IntWalk.i64_in X1 ⟨by omega, by omega⟩
      have v2 : IntKind.i64.wrap Y1 = Y1 := IntWalk.i64_in Y1 ⟨by omega, by omega⟩
      clear hX1 hY1 HMI HMJ
      rcases (show i = 0 ∨ i = 1 by omega) with rfl | rfl <;> rcases (show j = 0 ∨ j = 1 by omega) with rfl | rfl
      all_goals
        simp only [Nat.reduceMul, Nat.reduceAdd, Nat.add_zero, Nat.zero_mul, Nat.zero_add, Nat.one_mul, Int.natCast_zero, Int.natCast_one, Int.zero_mul, Int.one_mul, Int.sub_zero, Int.add_zero] at e1 ei ej
        refine wp_region_still_tail 19 (by kernel_rfl) (by kernel_rfl) ?_
        simp only [List.take_succ_cons, List.take_zero, List.drop_succ_cons, List.drop_zero]
        iterate 19 still_step
        refine wpStill_nil ?_
        go_wp2_with fail
        have d0 : wr.drew.cell? ⟨w.heap.size, 0, none⟩ = some (.int .i64 d.1) := b0
        have d1 : wr.drew.cell? ⟨w.heap.size, 1, none⟩ = some (.int .i64 d.2) := b1
        have g0 : wr.drew.frozen? ⟨w.heap.size, 0, none⟩ = false := f0
        have g1 : wr.drew.frozen? ⟨w.heap.size, 1, none⟩ = false := f1
        have HY := hid ((HBX.out.drew.set2 X1 Y1).drew)
        have HBY := hid ((((HB.out.drew).setCell (p := ⟨w.heap.size, 0, none⟩) (Nat.le_refl _) (.int .i64 X1)).setCell (p := ⟨w.heap.size, 1, none⟩) (Nat.le_refl _) (.int .i64 Y1)).drew)
        clear e0 e1 b0 b1 f0 f1 q0 q1 HBX
        have hwd : ({ heap := wr.heap, tape := wr.tape, drawn := wr.drawn + 1, os := wr.os, output := wr.output } : World) = wr.drew := rfl
        rw [hwd]
        generalize wr.drew = wq at *
        clear hwd
        refine wp_region_still_tail 9 (by kernel_rfl) (by kernel_rfl) ?_
        simp only [List.take_succ_cons, List.take_zero, List.drop_succ_cons, List.drop_zero]
        iterate 9 still_step
        refine wpStill_nil ?_
        go_wp2_with fail
        go_roundw
        case rel => exact ⟨k, KQ, _, _, (X1, Y1), by omega, rfl, by go_num, ⟨HN.out, HN2.out⟩, HY.out, HBY.out⟩
        case measure => simp [intOf]
    · obtain rfl : m = 0 := by omega
      obtain ⟨hI, hS, hx, hy⟩ := HI.out
      have HV := hid (show (r : Int) = cellV L c by
        unfold cellV
        unfold sqB at hS
        unfold IsT at hI
        have e : c = (x, y) := Prod.ext (by simp at hS ⊢; omega) (by simp at hS ⊢; omega)
        rw [hI, e]
        split <;> rfl)
      clear hI hS hx hy
      go_wp2
      go_ret
      exact ⟨by rw [← HV.out]; rfl, HB.out⟩

theorem get_call {F : List Qd} {q : Int} {c : Cl} (h : setOK F q c = true) : ((cellV (cellsOfQ F q.toNat) c == 1) = getV F q c) ∧ ∀ (W : World) (base p g cap mb : Nat), Grv W base p g cap mb F → Calls Try.prog 108 #[.pointer (some ⟨p, 0, none⟩), .int .i64 q, .agg #[.int .i64 c.1, .int .i64 c.2]] W fun e w' => e = .returned (.int .i64 (cellV (cellsOfQ F q.toNat) c)) ∧ Below W.heap.size W w' := by
  refine ⟨?_, ?_⟩
  · unfold getV cellV
    rw [h]
    by_cases e : c ∈ cellsOfQ F q.toNat <;> simp [e]
  · simp only [setOK, Bool.and_eq_true] at h
    obtain ⟨h1, h2, h3⟩ := there_to h.1
    intro W base p g cap mb hG
    have := c_cellAt (levN F q.toNat) q.toNat c W (good_grows h1) (levN_le h1 h2).1 (cellsOfQ_is h1 h2) (hoB_sq h.2) hG
    rw [h3] at this
    exact this

set_option maxHeartbeats 4000000 in
set_option maxRecDepth 100000 in
theorem c_iGetCell (a : Option Addr) (F : List Qd) (ca : Nat) (q : Int) (c : Cl) (w : World) (ha : QSeg w a F) (hl : F.length ≤ 1048576) (hk : KidsLe F) (hca : F.length ≤ ca) (hcm : ca ≤ 9223372036854775807) :
    Calls Try.prog 46 #[.agg #[.slice a F.length ca], .int .i64 q, .agg #[.int .i64 c.1, .int .i64 c.2]] w fun e w' => e = .returned (.tuple #[.bool (getV F q c), .bool (setOK F q c)]) ∧ Below w.heap.size w w' := by
  have B1 := (Bx.nil w).add (by simp) #[.slice a F.length ca] 25
  have B2 := hid (B1.add (by simp) #[.int .i64 c.1, .int .i64 c.2] 39)
  have Q2 := hid (ha.below B2.out.2.2)
  clear B1 ha
  have x0 := B2.out.cell 0 0 (v := .slice a F.length ca) rfl rfl
  rw [Nat.add_zero] at x0
  have HC := hid (c_groveOf a F ca _ Q2.out hl hk hca hcm)
  cases hg : goodF F
  · rw [hg] at HC
    have HV := hid (show setOK F q c = false by simp [setOK, thereB, hg])
    have HW := hid (show getV F q c = false by simp [getV, HV.out])
    clear hg
    go_enter Try.func46, Try.ntmps46
    go_wp2_with fail
    refine HC.out.mono ?_
    rintro e w3 ⟨pv, rfl, ho, hb⟩
    have B3 := hid (B2.out.step hb)
    clear ho HC hb
    go_wp2
    go_ret2
    exact ⟨by rw [HV.out, HW.out]; rfl, B3.out.2.2⟩
  · rw [hg] at HC
    have HG := hid hg
    cases hq : inB 0 ((F.length : Int) - 1) q
    · have HV := hid (show setOK F q c = false by simp [setOK, thereB, hq])
      have HW := hid (show getV F q c = false by simp [getV, HV.out])
      have HE := hid (fun (W : World) (base p g cap mb : Nat) (h : Grv W base p g cap mb F) => c_has' q false W hq h)
      clear hg hq
      go_enter Try.func46, Try.ntmps46
      go_wp2_with fail
      refine HC.out.mono ?_
      rintro e w3 ⟨pv, rfl, ho, hb⟩
      have B3 := hid (B2.out.step hb)
      rcases ho with ⟨_, p, g, cap, mb, base, hbase, rfl, hGv⟩ | ⟨e, _⟩
      · have HGV := hid hGv
        clear HC hb hGv x0
        go_wp2_with fail
        refine (HE.out _ _ _ _ _ _ HGV.out).mono ?_
        rintro e w4 ⟨rfl, hb4⟩
        have B4 := hid (B3.out.step hb4)
        clear hb4
        go_wp2
        go_ret2
        exact ⟨by rw [HV.out, HW.out]; rfl, B4.out.2.2⟩
      · rw [HG.out] at e; cases e
    · have HE := hid (fun (W : World) (base p g cap mb : Nat) (h : Grv W base p g cap mb F) => c_has' q true W hq h)
      have hqb := inB_bd hq
      have hth : thereB F q = true := by simp [thereB, hg, hq]
      obtain ⟨hn5, hlevN⟩ := levN_le hg (show q.toNat < F.length by omega)
      cases hw : hoB (levN F q.toNat) c
      · have HV := hid (show setOK F q c = false by simp [setOK, hw])
        have HW := hid (show getV F q c = false by simp [getV, HV.out])
        have HD := hid (fun (W : World) (base p g cap mb : Nat) (h : Grv W base p g cap mb F) => c_holds q c (levN F q.toNat) hn5 false W hw (by omega) (by omega) hlevN h)
        clear hg hq hth hw hlevN hn5 hqb
        go_enter Try.func46, Try.ntmps46
        go_wp2_with fail
        refine HC.out.mono ?_
        rintro e w3 ⟨pv, rfl, ho, hb⟩
        have B3 := hid (B2.out.step hb)
        rcases ho with ⟨_, p, g, cap, mb, base, hbase, rfl, hGv⟩ | ⟨e, _⟩
        · have HGV := hid hGv
          clear HC hb hGv x0
          go_wp2_with fail
          refine (HE.out _ _ _ _ _ _ HGV.out).mono ?_
          rintro e w4 ⟨rfl, hb4⟩
          have B4 := hid (B3.out.step hb4)
          have G4 := hid (HGV.out.below hb4)
          have c0 := B4.out.cell 1 0 (v := .int .i64 c.1) rfl rfl
          have c1 := B4.out.cell 1 1 (v := .int .i64 c.2) rfl rfl
          clear hb4
          go_wp2_with fail
          refine (HD.out _ _ _ _ _ _ G4.out).mono ?_
          rintro e w5 ⟨rfl, hb5⟩
          have B5 := hid (B4.out.step hb5)
          clear hb5 c0 c1
          go_wp2
          go_ret2
          exact ⟨by rw [HV.out, HW.out]; rfl, B5.out.2.2⟩
        · rw [HG.out] at e; cases e
      · have HV := hid (show setOK F q c = true by simp [setOK, hth, hw])
        obtain ⟨hW, hcall⟩ := get_call HV.out
        have HW := hid hW
        have HCALL := hid hcall
        have HD := hid (fun (W : World) (base p g cap mb : Nat) (h : Grv W base p g cap mb F) => c_holds q c (levN F q.toNat) hn5 true W hw (by omega) (by omega) hlevN h)
        generalize cellV (cellsOfQ F q.toNat) c = R at *
        clear hg hq hth hw hlevN hn5 hqb hW hcall
        go_enter Try.func46, Try.ntmps46
        go_wp2_with fail
        refine HC.out.mono ?_
        rintro e w3 ⟨pv, rfl, ho, hb⟩
        have B3 := hid (B2.out.step hb)
        rcases ho with ⟨_, p, g, cap, mb, base, hbase, rfl, hGv⟩ | ⟨e, _⟩
        · have HGV := hid hGv
          clear HC hb hGv x0
          go_wp2_with fail
          refine (HE.out _ _ _ _ _ _ HGV.out).mono ?_
          rintro e w4 ⟨rfl, hb4⟩
          have B4 := hid (B3.out.step hb4)
          have G4 := hid (HGV.out.below hb4)
          have c0 := B4.out.cell 1 0 (v := .int .i64 c.1) rfl rfl
          have c1 := B4.out.cell 1 1 (v := .int .i64 c.2) rfl rfl
          clear hb4
          go_wp2_with fail
          refine (HD.out _ _ _ _ _ _ G4.out).mono ?_
          rintro e w5 ⟨rfl, hb5⟩
          have B5 := hid (B4.out.step hb5)
          have G5 := hid (G4.out.below hb5)
          clear hb5 c0 c1
          have c0 := B5.out.cell 1 0 (v := .int .i64 c.1) rfl rfl
          have c1 := B5.out.cell 1 1 (v := .int .i64 c.2) rfl rfl
          go_wp2_with fail
          refine (HCALL.out _ _ _ _ _ _ G5.out).mono ?_
          rintro e w6 ⟨rfl, hb6⟩
          have B6 := hid (B5.out.step hb6)
          clear hb6 c0 c1
          go_wp2
          go_ret2
          exact ⟨by rw [HV.out, ← HW.out]; rfl, B6.out.2.2⟩
        · rw [HG.out] at e; cases e

end Go.Proofs.Ytmapbkefndbnnaa
