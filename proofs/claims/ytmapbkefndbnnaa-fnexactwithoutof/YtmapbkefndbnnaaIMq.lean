/- What the program's mergeQuads, UnionOf and WithoutOf answer. -/
import Derived.Test.YtmapbkefndbnnaaAns
import Derived.Deep.RegionHeld3
namespace Go.Proofs.Ytmapbkefndbnnaa
open Go.RowKit
set_option linter.unusedVariables false
set_option linter.unusedSimpArgs false
attribute [local go_sem ↓] Go.wp_at_zero Go.wp_at_succ

set_option maxHeartbeats 4000000 in
set_option maxRecDepth 100000 in
theorem c_mergeQuads (f : Nat) (R : List Qd × Nat) (a : Option Addr) (F : List Qd) (ca : Nat) (q q2 : Int) (w : World) (ha : QSeg w a F) (hl : F.length ≤ 1048576) (hk : KidsLe F) (hca : F.length ≤ ca) (hcm : ca ≤ 9223372036854775807) (ok : Bool) (hok : twoOK F q q2 = ok)
    (hR : ok = true → Grows R.1 ∧ R.1.length ≤ 10000 ∧ ∀ (W : World) (base p g cap mb : Nat), Grv W base p g cap mb F → Calls Try.prog 142 #[.pointer (some ⟨p, 0, none⟩), .int .i64 q, .int .i64 q2, .func (.func f) #[] #[]] W fun e w' => ∃ g' cap', e = .returned (.int .i64 (R.2 : Int)) ∧ Grv w' base p g' cap' mb R.1 ∧ Below base W w') :
    Calls Try.prog 113 #[.agg #[.slice a F.length ca], .int .i64 q, .int .i64 q2, .func (.func f) #[] #[]] w fun e w' => ∃ u, e = .returned (.tuple #[.agg #[u], .int .i64 (ansQ ok R), .bool (ansB ok R)]) ∧ FOwn w' w.heap.size w'.heap.size u (ansF ok R) ∧ Below w.heap.size w w' := by
  have B1 := (Bx.nil w).add (by simp) #[.slice a F.length ca] 25
  have B2 := hid (B1.add (by simp) #[.slice none 0 0] 25)
  have Q2 := hid (ha.below B2.out.2.2)
  clear B1 ha
  have x0 := B2.out.cell 0 0 (v := .slice a F.length ca) rfl rfl
  rw [Nat.add_zero] at x0
  have fin : ∀ W : World, Below w.heap.size w W → ∃ u, Ending.returned (.tuple #[.agg #[.slice none 0 0], .int .i64 0, .bool false]) = .returned (.tuple #[.agg #[u], .int .i64 0, .bool false]) ∧ FOwn W w.heap.size W.heap.size u [] ∧ Below w.heap.size w W := fun W h => ⟨_, rfl, .inl ⟨rfl, rfl⟩, h⟩
  have HC := hid (c_groveOf a F ca _ Q2.out hl hk hca hcm)
  have T1 := hid (rfl : 0 = 0)
  cases hg : goodF F
  · rw [hg] at HC
    have HV := hid (show ok = false by rw [← hok]; simp [twoOK, thereB, hg])
    clear hg hok hR
    go_enter Try.func113, Try.ntmps113
    go_wp2_with fail
    refine HC.out.mono ?_
    rintro e w3 ⟨pv, rfl, ho, hb⟩
    have B2b := hid (B2.out.step hb)
    have hne := Gr.ne w3
    clear ho HC hb x0
    go_wp2_with fail
    refine wp_region_gr (by kernel_rfl) (by kernel_rfl) ?_
    repeat (go_big_quiet_step (fail))
    refine wpQuiet_nil ?_
    rintro _ ⟨z, rfl⟩
    have B3 := hid (B2b.out.step z.below)
    clear hne
    have R9 := B3.out.row 1 (v := .slice none 0 0) (t := 25) rfl
    have r0 := R9.cell (i := 0) (by omega)
    have f0 := R9.frozen 0
    have E0 := hid ((R9.set 0 (.slice none 0 0)).cell (i := 0) (by omega))
    simp only [if_true] at E0
    have HB := hid (B3.out.2.2.setCell (p := ⟨w.heap.size + 1, 0, none⟩) (by dsimp only; omega) (.slice none 0 0))
    clear R9
    go_wp2_with fail
    rw [HV.out, (ans_no _).1, (ans_no _).2.1, (ans_no _).2.2]
    exact bodyPost_ret (v := .tuple #[.agg #[.slice none 0 0], .int .i64 0, .bool false]) (by simp [results, Try.results113, go_sem, E0.out]) rfl (fin _ HB.out)
  · rw [hg] at HC
    have HG := hid hg
    cases hq : inB 0 ((F.length : Int) - 1) q
    · have HV := hid (show ok = false by rw [← hok]; simp [twoOK, thereB, hq])
      have HE := hid (fun (W : World) (base p g cap mb : Nat) (h : Grv W base p g cap mb F) => by exact c_has' q _ W hq h)
      clear hok hR hg hq
      go_enter Try.func113, Try.ntmps113
      go_wp2_with fail
      refine HC.out.mono ?_
      rintro e w3 ⟨pv, rfl, ho, hb⟩
      have B2b := hid (B2.out.step hb)
      rcases ho with ⟨_, p, g, cap, mb, base, hbase, rfl, hGv⟩ | ⟨e, _⟩
      · have G3 := hid hGv
        have c3 := G3.out.c0
        have hpl := G3.out.box.lt
        have hgl := G3.out.lt.2
        have g1 := fun z : Gr w3 => z.cell c3 hpl
        have hne := Gr.ne w3
        have HEz := hid (fun z : Gr w3 => HE.out z.val base p g cap mb (G3.out.below z.below))
        clear HC hb hGv x0 c3
        go_wp2_with fail
        refine wp_region_gr (by kernel_rfl) (by kernel_rfl) ?_
        repeat (go_big_quiet_step (first | (go_at_call 88; exact Calls.gr _ (HEz.out _))))
        refine wpQuiet_nil ?_
        rintro _ ⟨z, rfl⟩
        have B3 := hid (B2b.out.step z.below)
        clear g1 hne
        have R9 := B3.out.row 1 (v := .slice none 0 0) (t := 25) rfl
        have r0 := R9.cell (i := 0) (by omega)
        have f0 := R9.frozen 0
        have E0 := hid ((R9.set 0 (.slice none 0 0)).cell (i := 0) (by omega))
        simp only [if_true] at E0
        have HB := hid (B3.out.2.2.setCell (p := ⟨w.heap.size + 1, 0, none⟩) (by dsimp only; omega) (.slice none 0 0))
        clear R9
        go_wp2_with fail
        rw [HV.out, (ans_no _).1, (ans_no _).2.1, (ans_no _).2.2]
        exact bodyPost_ret (v := .tuple #[.agg #[.slice none 0 0], .int .i64 0, .bool false]) (by simp [results, Try.results113, go_sem, E0.out]) rfl (fin _ HB.out)
      · rw [HG.out] at e; cases e
    · have HE := hid (fun (W : World) (base p g cap mb : Nat) (h : Grv W base p g cap mb F) => by exact c_has' q _ W hq h)
      cases hq2 : inB 0 ((F.length : Int) - 1) q2
      · have HV := hid (show ok = false by rw [← hok]; simp [twoOK, thereB, hq2])
        have HE2 := hid (fun (W : World) (base p g cap mb : Nat) (h : Grv W base p g cap mb F) => by exact c_has' q2 _ W hq2 h)
        clear hok hR hg hq hq2
        go_enter Try.func113, Try.ntmps113
        go_wp2_with fail
        refine HC.out.mono ?_
        rintro e w3 ⟨pv, rfl, ho, hb⟩
        have B2b := hid (B2.out.step hb)
        rcases ho with ⟨_, p, g, cap, mb, base, hbase, rfl, hGv⟩ | ⟨e, _⟩
        · have G3 := hid hGv
          have c3 := G3.out.c0
          have hpl := G3.out.box.lt
          have hgl := G3.out.lt.2
          have g1 := fun z : Gr w3 => z.cell c3 hpl
          have hne := Gr.ne w3
          have HEz := hid (fun z : Gr w3 => HE.out z.val base p g cap mb (G3.out.below z.below))
          clear HC hb hGv x0 c3
          go_wp2_with fail
          have HE2z := hid (fun z : Gr w3 => HE2.out z.val base p g cap mb (G3.out.below z.below))
          refine wp_region_gr (by kernel_rfl) (by kernel_rfl) ?_
          repeat (go_big_quiet_step (first | (go_at_call 88; first | with_reducible exact Calls.gr _ (HEz.out _) | with_reducible exact Calls.gr _ (HE2z.out _) | exact Calls.gr _ (HEz.out _) | exact Calls.gr _ (HE2z.out _))))
          refine wpQuiet_nil ?_
          rintro _ ⟨z, rfl⟩
          have B3 := hid (B2b.out.step z.below)
          clear g1 hne
          have R9 := B3.out.row 1 (v := .slice none 0 0) (t := 25) rfl
          have r0 := R9.cell (i := 0) (by omega)
          have f0 := R9.frozen 0
          have E0 := hid ((R9.set 0 (.slice none 0 0)).cell (i := 0) (by omega))
          simp only [if_true] at E0
          have HB := hid (B3.out.2.2.setCell (p := ⟨w.heap.size + 1, 0, none⟩) (by dsimp only; omega) (.slice none 0 0))
          clear R9
          go_wp2_with fail
          rw [HV.out, (ans_no _).1, (ans_no _).2.1, (ans_no _).2.2]
          exact bodyPost_ret (v := .tuple #[.agg #[.slice none 0 0], .int .i64 0, .bool false]) (by simp [results, Try.results113, go_sem, E0.out]) rfl (fin _ HB.out)
        · rw [HG.out] at e; cases e
      · have HE2 := hid (fun (W : World) (base p g cap mb : Nat) (h : Grv W base p g cap mb F) => by exact c_has' q2 _ W hq2 h)
        have hqb := inB_bd hq
        have hqb2 := inB_bd hq2
        have i0 : 0 ≤ q := by omega
        have i1 : q < (F.length : Int) := by omega
        have j0 : 0 ≤ q2 := by omega
        have j1 : q2 < (F.length : Int) := by omega
        obtain ⟨lx, hlx⟩ : ∃ lx, (qa F q.toNat).1 = lx := ⟨_, rfl⟩
        obtain ⟨ly, hly⟩ : ∃ ly, (qa F q2.toNat).1 = ly := ⟨_, rfl⟩
        by_cases hne : lx = ly
        · have HV := hid (show ok = true by rw [← hok]; simp [twoOK, thereB, hq, hq2, hg, hlx, hly, hne])
          obtain ⟨hGR, hLR, hcall⟩ := hR HV.out
          have HGR := hid hGR
          have HLR := hid (show R.1.length ≤ 100000 by omega)
          have HCALL := hid hcall
          have HLX := hid hlx
          have HLY := hid hly
          have hd : (lx != ly) = false := by simp [hne]
          clear hok hR hg hq hq2 hGR hLR hcall hne hlx hly
          go_enter Try.func113, Try.ntmps113
          go_wp2_with fail
          refine HC.out.mono ?_
          rintro e w3 ⟨pv, rfl, ho, hb⟩
          have B2b := hid (B2.out.step hb)
          rcases ho with ⟨_, p, g, cap, mb, base, hbase, rfl, hGv⟩ | ⟨e, _⟩
          · have G3 := hid hGv
            have c3 := G3.out.c0
            have hpl := G3.out.box.lt
            have hgl := G3.out.lt.2
            have g1 := fun z : Gr w3 => z.cell c3 hpl
            have hne := Gr.ne w3
            have HEz := hid (fun z : Gr w3 => HE.out z.val base p g cap mb (G3.out.below z.below))
            clear HC hb hGv x0 c3
            have HBS := hid (show w.heap.size + 2 ≤ base from Nat.le_trans B2.out.2.1 hbase)
            have y3 := G3.out.lev (show q.toNat < F.length by omega)
            have z3 := G3.out.lev (show q2.toNat < F.length by omega)
            rw [HLX.out] at y3
            rw [HLY.out] at z3
            have g2 := fun z : Gr w3 => z.cell y3 hgl
            have g3 := fun z : Gr w3 => z.cell z3 hgl
            clear hbase y3 z3
            go_wp2_with fail
            have HE2z := hid (fun z : Gr w3 => HE2.out z.val base p g cap mb (G3.out.below z.below))
            refine wp_region_gr (by kernel_rfl) (by kernel_rfl) ?_
            repeat (go_big_quiet_step (first | (go_at_call 88; first | with_reducible exact Calls.gr _ (HEz.out _) | with_reducible exact Calls.gr _ (HE2z.out _) | exact Calls.gr _ (HEz.out _) | exact Calls.gr _ (HE2z.out _))))
            refine wpQuiet_nil ?_
            rintro _ ⟨z, rfl⟩
            have B3 := hid (B2b.out.step z.below)
            clear g1 hne
            have G3z := hid (G3.out.below z.below)
            clear g2 g3
            go_wp2_with fail
            refine (HCALL.out _ _ _ _ _ _ G3z.out).mono ?_
            rintro e w7 ⟨g7, cap7, rfl, hG7, hb7⟩
            have R7 := hid ((B3.out.row 1 (v := .slice none 0 0) (t := 25) rfl).of_block (hb7.block _ (show w.heap.size + 1 < base by have := HBS.out; omega)))
            have HB7 := hid (B3.out.2.2.trans (hb7.mono (show w.heap.size ≤ base by have := HBS.out; omega)))
            have HG7 := hid hG7
            clear hG7 hb7
            have HTL := hid (c_told (R.2 : Int) w7 HG7.out HGR.out HLR.out)
            go_wp2_with fail
            refine HTL.out.mono ?_
            rintro e w8 ⟨u8, rfl, hO8, hb8⟩
            have HO8 := hid hO8
            obtain ⟨ua8, uc8, rfl, _⟩ := hO8.form
            have R9 := R7.out.of_block (hb8.block _ R7.out.lt)
            have hlt7 := R7.out.lt
            have r0 := R9.cell (i := 0) (by omega)
            have f0 := R9.frozen 0
            have E0 := hid ((R9.set 0 (.slice ua8 (tellF R.1).length uc8)).cell (i := 0) (by omega))
            simp only [if_true] at E0
            have hs9 : (w8.setCell ⟨w.heap.size + 1, 0, none⟩ (.slice ua8 (tellF R.1).length uc8)).heap.size = w8.heap.size := by simp
            have hGW : Grew w8 (w8.setCell ⟨w.heap.size + 1, 0, none⟩ (.slice ua8 (tellF R.1).length uc8)) (w.heap.size + 1) (w.heap.size + 1 + 1) := (Grew.refl w8 _ _).set (Nat.le_refl _) (by omega) _
            have HO9 := hid ((HO8.out.kept hGW (by omega)).wide (lo' := w.heap.size) (hi' := w8.heap.size) (by omega) (Nat.le_refl _) (by rw [hs9]; exact Nat.le_refl _))
            have HB9 := hid ((HB7.out.trans (hb8.mono HB7.out.size)).setCell (p := ⟨w.heap.size + 1, 0, none⟩) (by dsimp only; omega) (.slice ua8 (tellF R.1).length uc8))
            have HS9 := hid hs9
            clear HTL hO8 HO8 hb8 R9 hGW hs9 hlt7
            generalize hT : tellF R.1 = TF at *
            generalize hQ' : tellQ R.1 (R.2 : Int) = TQ at *
            generalize hB' : tellB R.1 = TB at *
            go_wp2_with fail
            rw [HV.out, (ans_yes _).1, (ans_yes _).2.1, (ans_yes _).2.2, hT, hQ', hB']
            exact bodyPost_ret (v := .tuple #[.agg #[.slice ua8 TF.length uc8], .int .i64 TQ, .bool TB]) (by simp [results, Try.results113, go_sem, E0.out]) rfl ⟨.slice ua8 TF.length uc8, rfl, by rw [HS9.out]; exact HO9.out, HB9.out⟩
          · rw [HG.out] at e; cases e
        · have HV := hid (show ok = false by rw [← hok]; simp [twoOK, hlx, hly, hne])
          have HLX := hid hlx
          have HLY := hid hly
          have hd : (lx != ly) = true := by simp [hne]
          clear hok hR hg hq hq2 hne hlx hly
          go_enter Try.func113, Try.ntmps113
          go_wp2_with fail
          refine HC.out.mono ?_
          rintro e w3 ⟨pv, rfl, ho, hb⟩
          have B2b := hid (B2.out.step hb)
          rcases ho with ⟨_, p, g, cap, mb, base, hbase, rfl, hGv⟩ | ⟨e, _⟩
          · have G3 := hid hGv
            have c3 := G3.out.c0
            have hpl := G3.out.box.lt
            have hgl := G3.out.lt.2
            have g1 := fun z : Gr w3 => z.cell c3 hpl
            have hne := Gr.ne w3
            have HEz := hid (fun z : Gr w3 => HE.out z.val base p g cap mb (G3.out.below z.below))
            clear HC hb hGv x0 c3
            have y3 := G3.out.lev (show q.toNat < F.length by omega)
            have z3 := G3.out.lev (show q2.toNat < F.length by omega)
            rw [HLX.out] at y3
            rw [HLY.out] at z3
            have g2 := fun z : Gr w3 => z.cell y3 hgl
            have g3 := fun z : Gr w3 => z.cell z3 hgl
            clear hbase y3 z3
            go_wp2_with fail
            have HE2z := hid (fun z : Gr w3 => HE2.out z.val base p g cap mb (G3.out.below z.below))
            refine wp_region_gr (by kernel_rfl) (by kernel_rfl) ?_
            repeat (go_big_quiet_step (first | (go_at_call 88; first | with_reducible exact Calls.gr _ (HEz.out _) | with_reducible exact Calls.gr _ (HE2z.out _) | exact Calls.gr _ (HEz.out _) | exact Calls.gr _ (HE2z.out _))))
            refine wpQuiet_nil ?_
            rintro _ ⟨z, rfl⟩
            have B3 := hid (B2b.out.step z.below)
            clear g1 hne
            have G3z := hid (G3.out.below z.below)
            clear g2 g3
            have R9 := B3.out.row 1 (v := .slice none 0 0) (t := 25) rfl
            have r0 := R9.cell (i := 0) (by omega)
            have f0 := R9.frozen 0
            have E0 := hid ((R9.set 0 (.slice none 0 0)).cell (i := 0) (by omega))
            simp only [if_true] at E0
            have HB := hid (B3.out.2.2.setCell (p := ⟨w.heap.size + 1, 0, none⟩) (by dsimp only; omega) (.slice none 0 0))
            clear R9
            go_wp2_with fail
            rw [HV.out, (ans_no _).1, (ans_no _).2.1, (ans_no _).2.2]
            exact bodyPost_ret (v := .tuple #[.agg #[.slice none 0 0], .int .i64 0, .bool false]) (by simp [results, Try.results113, go_sem, E0.out]) rfl (fin _ HB.out)
          · rw [HG.out] at e; cases e

theorem mrg_call {F : List Qd} {q q2 : Int} (L' : List Cl) (f : Nat) (hf : f = 114 ∨ f = 116) (op : Nat → Nat → Nat) (hop : ∀ (i j : Nat) (W : World), i < 2 → j < 2 → Calls Try.prog f #[.int .i64 (i : Int), .int .i64 (j : Int)] W fun e w' => e = .returned (.int .i64 (op i j : Int)) ∧ w' = W) (hbit : ∀ c, bitC L' c = op (bitC (cellsOfQ F q.toNat) c) (bitC (cellsOfQ F q2.toNat) c)) (h : twoOK F q q2 = true) : Grows (treeL L' (levN F q.toNat) 0 0 F).1 ∧ (treeL L' (levN F q.toNat) 0 0 F).1.length ≤ 10000 ∧ ∀ (W : World) (base p g cap mb : Nat), Grv W base p g cap mb F → Calls Try.prog 142 #[.pointer (some ⟨p, 0, none⟩), .int .i64 q, .int .i64 q2, .func (.func f) #[] #[]] W fun e w' => ∃ g' cap', e = .returned (.int .i64 ((treeL L' (levN F q.toNat) 0 0 F).2 : Int)) ∧ Grv w' base p g' cap' mb (treeL L' (levN F q.toNat) 0 0 F).1 ∧ Below base W w' := by
  simp only [twoOK, Bool.and_eq_true, decide_eq_true_eq] at h
  obtain ⟨h1, h2, h3⟩ := there_to h.1.1
  obtain ⟨_, h4, h5⟩ := there_to h.1.2
  have n5 := (levN_le h1 h2).1
  have h6 := good_len2 h1
  have p4 := pow4_le n5
  have t := treeL_tr L' (levN F q.toNat) 0 0 F n5 (good_grows h1)
  have el : levN F q2.toNat = levN F q.toNat := by unfold levN; rw [h.2]
  refine ⟨t.grows, by have := t.most; omega, ?_⟩
  intro W base p g cap mb hG
  have tb := cellsOfQ_is h1 h4
  rw [el] at tb
  have := c_merge (cellsOfQ F q.toNat) (cellsOfQ F q2.toNat) L' f hf op hop base p mb (levN F q.toNat) q.toNat q2.toNat 0 0 F g cap W n5 (good_grows h1) (by omega) (cellsOfQ_is h1 h2) tb (fun c _ => hbit c) hG
  rw [h3, h5] at this
  exact this.mono fun e w' ⟨g', c', e1, e2, e3, _⟩ => ⟨g', c', e1, e2, e3⟩

set_option maxHeartbeats 1000000 in
set_option maxRecDepth 100000 in
theorem c_iUnionOf (a : Option Addr) (F : List Qd) (ca : Nat) (q q2 : Int) (w : World) (ha : QSeg w a F) (hl : F.length ≤ 1048576) (hk : KidsLe F) (hca : F.length ≤ ca) (hcm : ca ≤ 9223372036854775807) :
    Calls Try.prog 53 #[.agg #[.slice a F.length ca], .int .i64 q, .int .i64 q2] w fun e w' => ∃ u, e = .returned (.tuple #[.agg #[u], .int .i64 (ansQ (twoOK F q q2) (uniR F q q2)), .bool (ansB (twoOK F q q2) (uniR F q q2))]) ∧ FOwn w' w.heap.size w'.heap.size u (ansF (twoOK F q q2) (uniR F q q2)) ∧ Below w.heap.size w w' := by
  have B1 := (Bx.nil w).add (by simp) #[.slice a F.length ca] 25
  have B2 := hid (B1.add (by simp) #[.slice none 0 0] 25)
  have x0 := B2.out.cell 0 0 (v := .slice a F.length ca) rfl rfl
  rw [Nat.add_zero] at x0
  have HC := hid (c_mergeQuads 114 (uniR F q q2) a F ca q q2 _ (ha.below B2.out.2.2) hl hk hca hcm (twoOK F q q2) rfl (fun h => mrg_call (cellsOfQ F q.toNat ++ cellsOfQ F q2.toNat) _ (.inl rfl) orN c_either (fun c => uni_bit _ _ c) h))
  clear B1 ha
  generalize ansF (twoOK F q q2) (uniR F q q2) = TF at *
  generalize ansQ (twoOK F q q2) (uniR F q q2) = TQ at *
  generalize ansB (twoOK F q q2) (uniR F q q2) = TB at *
  go_enter Try.func53, Try.ntmps53
  go_wp2_with fail
  refine HC.out.mono ?_
  rintro e w8 ⟨u8, rfl, hO8, hb8⟩
  have HO8 := hid hO8
  obtain ⟨ua8, uc8, rfl, _⟩ := hO8.form
  have R9 := (B2.out.step hb8).row 1 (v := .slice none 0 0) (t := 25) rfl
  have r0 := R9.cell (i := 0) (by omega)
  have f0 := R9.frozen 0
  have E0 := hid ((R9.set 0 (.slice ua8 TF.length uc8)).cell (i := 0) (by omega))
  simp only [if_true] at E0
  have hs9 : (w8.setCell ⟨w.heap.size + 1, 0, none⟩ (.slice ua8 TF.length uc8)).heap.size = w8.heap.size := by simp
  have hGW : Grew w8 (w8.setCell ⟨w.heap.size + 1, 0, none⟩ (.slice ua8 TF.length uc8)) (w.heap.size + 1) (w.heap.size + 1 + 1) := (Grew.refl w8 _ _).set (Nat.le_refl _) (by omega) _
  have h21 := B2.out.2.1
  simp only [List.length_append, List.length_cons, List.length_nil] at h21
  have HO9 := hid ((HO8.out.kept hGW (by omega)).wide (lo' := w.heap.size) (hi' := w8.heap.size) (by omega) (Nat.le_refl _) (by rw [hs9]; exact Nat.le_refl _))
  have HB9 := hid ((B2.out.step hb8).2.2.setCell (p := ⟨w.heap.size + 1, 0, none⟩) (by dsimp only; omega) (.slice ua8 TF.length uc8))
  have HS9 := hid hs9
  clear HC hO8 HO8 hb8 R9 hGW hs9 h21
  go_wp2_with fail
  exact bodyPost_ret (v := .tuple #[.agg #[.slice ua8 TF.length uc8], .int .i64 TQ, .bool TB]) (by simp [results, Try.results53, go_sem, E0.out]) rfl ⟨.slice ua8 TF.length uc8, rfl, by rw [HS9.out]; exact HO9.out, HB9.out⟩

set_option maxHeartbeats 1000000 in
set_option maxRecDepth 100000 in
theorem c_iWithoutOf (a : Option Addr) (F : List Qd) (ca : Nat) (q q2 : Int) (w : World) (ha : QSeg w a F) (hl : F.length ≤ 1048576) (hk : KidsLe F) (hca : F.length ≤ ca) (hcm : ca ≤ 9223372036854775807) :
    Calls Try.prog 55 #[.agg #[.slice a F.length ca], .int .i64 q, .int .i64 q2] w fun e w' => ∃ u, e = .returned (.tuple #[.agg #[u], .int .i64 (ansQ (twoOK F q q2) (witR F q q2)), .bool (ansB (twoOK F q q2) (witR F q q2))]) ∧ FOwn w' w.heap.size w'.heap.size u (ansF (twoOK F q q2) (witR F q q2)) ∧ Below w.heap.size w w' := by
  have B1 := (Bx.nil w).add (by simp) #[.slice a F.length ca] 25
  have B2 := hid (B1.add (by simp) #[.slice none 0 0] 25)
  have x0 := B2.out.cell 0 0 (v := .slice a F.length ca) rfl rfl
  rw [Nat.add_zero] at x0
  have HC := hid (c_mergeQuads 116 (witR F q q2) a F ca q q2 _ (ha.below B2.out.2.2) hl hk hca hcm (twoOK F q q2) rfl (fun h => mrg_call (dropL (cellsOfQ F q.toNat) (cellsOfQ F q2.toNat)) _ (.inr rfl) lessN c_without (fun c => wit_bit _ _ c) h))
  clear B1 ha
  generalize ansF (twoOK F q q2) (witR F q q2) = TF at *
  generalize ansQ (twoOK F q q2) (witR F q q2) = TQ at *
  generalize ansB (twoOK F q q2) (witR F q q2) = TB at *
  go_enter Try.func55, Try.ntmps55
  go_wp2_with fail
  refine HC.out.mono ?_
  rintro e w8 ⟨u8, rfl, hO8, hb8⟩
  have HO8 := hid hO8
  obtain ⟨ua8, uc8, rfl, _⟩ := hO8.form
  have R9 := (B2.out.step hb8).row 1 (v := .slice none 0 0) (t := 25) rfl
  have r0 := R9.cell (i := 0) (by omega)
  have f0 := R9.frozen 0
  have E0 := hid ((R9.set 0 (.slice ua8 TF.length uc8)).cell (i := 0) (by omega))
  simp only [if_true] at E0
  have hs9 : (w8.setCell ⟨w.heap.size + 1, 0, none⟩ (.slice ua8 TF.length uc8)).heap.size = w8.heap.size := by simp
  have hGW : Grew w8 (w8.setCell ⟨w.heap.size + 1, 0, none⟩ (.slice ua8 TF.length uc8)) (w.heap.size + 1) (w.heap.size + 1 + 1) := (Grew.refl w8 _ _).set (Nat.le_refl _) (by omega) _
  have h21 := B2.out.2.1
  simp only [List.length_append, List.length_cons, List.length_nil] at h21
  have HO9 := hid ((HO8.out.kept hGW (by omega)).wide (lo' := w.heap.size) (hi' := w8.heap.size) (by omega) (Nat.le_refl _) (by rw [hs9]; exact Nat.le_refl _))
  have HB9 := hid ((B2.out.step hb8).2.2.setCell (p := ⟨w.heap.size + 1, 0, none⟩) (by dsimp only; omega) (.slice ua8 TF.length uc8))
  have HS9 := hid hs9
  clear HC hO8 HO8 hb8 R9 hGW hs9 h21
  go_wp2_with fail
  exact bodyPost_ret (v := .tuple #[.agg #[.slice ua8 TF.length uc8], .int .i64 TQ, .bool TB]) (by simp [results, Try.results55, go_sem, E0.out]) rfl ⟨.slice ua8 TF.length uc8, rfl, by rw [HS9.out]; exact HO9.out, HB9.out⟩

end Go.Proofs.Ytmapbkefndbnnaa
