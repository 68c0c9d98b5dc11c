/- What the specification's UnionOf and WithoutOf answer. -/
import Derived.Test.YtmapbkefndbnnaaSCen
import Derived.Deep.RegionHeld3
namespace Go.Proofs.Ytmapbkefndbnnaa
open Go.RowKit
set_option linter.unusedVariables false
set_option linter.unusedSimpArgs false
attribute [local go_sem ↓] Go.wp_at_zero Go.wp_at_succ

/-- A quad's cells put behind those that are there. -/
theorem c_l3CellsMore {F : List Qd} (hg : goodF F = true) (a : Option Addr) (ca : Nat) (q : Int) (W0 w : World) (v : Value) (out L : List Cl) (hL : L = out ++ cellsOfQ F q.toNat) (ha : QSeg W0 a F) (h0 : 0 ≤ q) (h1 : q < (F.length : Int)) (hB : Below W0.heap.size W0 w) (hO : OwnS w W0.heap.size v out) (hl : out.length ≤ 1024) :
    Calls Try.prog 94 #[.agg #[.slice a F.length ca], .int .i64 q, .int .i64 0, .int .i64 0, v] w fun e w' => ∃ v', e = .returned v' ∧ OwnS w' W0.heap.size v' L ∧ Below W0.heap.size W0 w' := by
  obtain ⟨e1, e2⟩ := levN_eq hg h0 h1
  have p1 := pow_le_32 e2
  have p2 := pow4_le e2
  refine (c_l3Cells hg a ca W0 ha (levN F q.toNat) q 0 0 v out w W0.heap.size h0 h1 e1 (by omega) (by omega) (by omega) (by omega) hB (Nat.le_refl _) hB.size hO (by omega)).mono ?_
  rintro e w' ⟨v', he, hO', hG, _⟩
  refine ⟨v', he, ?_, hB.grown hG hB.size fun k hk => (hO.lt k hk).1⟩
  rw [hL]; exact hO'
theorem cellsOfQ_le {F : List Qd} (hg : goodF F = true) {q : Nat} (hq : q < F.length) : (cellsOfQ F q).length ≤ 1024 := by
  have h1 := cellsL_len F (levN F q) q 0 0
  have h2 := pow4_le (levN_le hg hq).1
  unfold cellsOfQ; omega
theorem dropL_le (l m : List Cl) : (dropL l m).length ≤ l.length := List.length_filter_le _ _

set_option maxHeartbeats 2000000 in
set_option maxRecDepth 100000 in
theorem c_l4Two (a : Option Addr) (F : List Qd) (ca : Nat) (x y : Int) (w : World) (ha : QSeg w a F) (hl : F.length ≤ 1048576) (hk : KidsLe F) (hca : F.length ≤ ca) (hcm : ca ≤ 9223372036854775807) :
    Calls Try.prog 115 #[.agg #[.slice a F.length ca], .int .i64 x, .int .i64 y] w fun e w' => e = .returned (.bool (twoOK F x y)) ∧ Below w.heap.size w w' := by
  have B1 := hid ((Bx.nil w).add (by simp) #[.slice a F.length ca] 25)
  have x1 := B1.out.cell 0 0 (v := .slice a F.length ca) rfl rfl
  rw [Nat.add_zero] at x1
  have hlt1 := B1.out.lt 0 (by simp)
  rw [Nat.add_zero] at hlt1
  have g1 := fun z : Gr (w.alloc (.cells #[.slice a F.length ca] 25)) => z.cell x1 hlt1
  have hne := Gr.ne (w.alloc (.cells #[.slice a F.length ca] 25))
  have QZ := hid (fun z : Gr (w.alloc (.cells #[.slice a F.length ca] 25)) => (ha.below B1.out.2.2).below z.below)
  have BZ := hid (fun z : Gr (w.alloc (.cells #[.slice a F.length ca] 25)) => (B1.out.step z.below).2.2)
  cases hx : thereB F x
  · have HC := hid (fun z => c_l3There' a F ca x false hx _ (QZ.out z) hl hk hca hcm)
    have HV := hid (show twoOK F x y = false by simp [twoOK, hx])
    clear hx ha x1
    go_enter Try.func115, Try.ntmps115
    go_wp2_with fail
    refine wp_region_gr (by kernel_rfl) (by kernel_rfl) ?_
    repeat (go_big_quiet_step (first | (go_at_call 92; exact Calls.gr _ (HC.out _))))
    refine wpQuiet_nil ?_
    rintro _ ⟨z, rfl⟩
    have HBB := hid (BZ.out z)
    clear g1 hne
    go_wp2_with fail
    go_ret
    exact ⟨ret_bool HV.out.symm, HBB.out⟩
  · have HC := hid (fun z => c_l3There' a F ca x true hx _ (QZ.out z) hl hk hca hcm)
    cases hy : thereB F y
    · have HD := hid (fun z => c_l3There' a F ca y false hy _ (QZ.out z) hl hk hca hcm)
      have HV := hid (show twoOK F x y = false by simp [twoOK, hx, hy])
      clear hx hy ha x1
      go_enter Try.func115, Try.ntmps115
      go_wp2_with fail
      refine wp_region_gr (by kernel_rfl) (by kernel_rfl) ?_
      repeat (go_big_quiet_step (first | (go_at_call 92; first | with_reducible exact Calls.gr _ (HC.out _) | with_reducible exact Calls.gr _ (HD.out _) | exact Calls.gr _ (HC.out _) | exact Calls.gr _ (HD.out _))))
      refine wpQuiet_nil ?_
      rintro _ ⟨z, rfl⟩
      have HBB := hid (BZ.out z)
      clear g1 hne
      go_wp2_with fail
      go_ret
      exact ⟨ret_bool HV.out.symm, HBB.out⟩
    · have HD := hid (fun z => c_l3There' a F ca y true hy _ (QZ.out z) hl hk hca hcm)
      obtain ⟨hg, i0, i1⟩ := there_bd hx
      obtain ⟨_, j0, j1⟩ := there_bd hy
      obtain ⟨b1, o1, ak, ck, rfl, hb1, p1, _⟩ := ha x.toNat (by omega)
      obtain ⟨b2, o2, ak2, ck2, e12, hb2, p2, _⟩ := ha y.toNat (by omega)
      simp only [Option.some.injEq, Addr.mk.injEq, and_true] at e12
      obtain ⟨rfl, rfl⟩ := e12
      have HV := hid (show twoOK F x y = decide ((qa F x.toNat).1 = (qa F y.toNat).1) by simp [twoOK, hx, hy])
      have y2 := (B1.out.2.2.cell (p := ⟨b1, o1 + x.toNat * 2, none⟩) hb1).trans p1
      have z2 := (B1.out.2.2.cell (p := ⟨b1, o1 + y.toNat * 2, none⟩) hb1).trans p2
      have hb1' := Nat.lt_of_lt_of_le hb1 B1.out.2.2.size
      have g2 := fun z : Gr (w.alloc (.cells #[.slice (some ⟨b1, o1, none⟩) F.length ca] 25)) => z.cell y2 hb1'
      have g3 := fun z : Gr (w.alloc (.cells #[.slice (some ⟨b1, o1, none⟩) F.length ca] 25)) => z.cell z2 hb1'
      clear hx hy ha p1 p2 hb1 hb2 hg x1 y2 z2 hb1'
      rw [HV.out]
      generalize (qa F x.toNat).1 = lx at *
      generalize (qa F y.toNat).1 = ly at *
      clear HV
      go_enter Try.func115, Try.ntmps115
      go_wp2_with fail
      refine wp_region_gr (by kernel_rfl) (by kernel_rfl) ?_
      repeat (go_big_quiet_step (first | (go_at_call 92; first | with_reducible exact Calls.gr _ (HC.out _) | with_reducible exact Calls.gr _ (HD.out _) | exact Calls.gr _ (HC.out _) | exact Calls.gr _ (HD.out _))))
      refine wpQuiet_nil ?_
      rintro _ ⟨z, rfl⟩
      have HBB := hid (BZ.out z)
      clear g1 g2 g3 hne
      go_wp2_with fail
      go_ret
      first | exact ⟨rfl, HBB.out⟩ | exact ⟨ret_bool (by simp), HBB.out⟩ | exact ⟨ret_bool (by by_cases e : lx = ly <;> simp [e]), HBB.out⟩
theorem c_l4Two' (a : Option Addr) (F : List Qd) (ca : Nat) (x y : Int) (v : Bool) (hv : twoOK F x y = v) (w : World) (ha : QSeg w a F) (hl : F.length ≤ 1048576) (hk : KidsLe F) (hca : F.length ≤ ca) (hcm : ca ≤ 9223372036854775807) :
    Calls Try.prog 115 #[.agg #[.slice a F.length ca], .int .i64 x, .int .i64 y] w fun e w' => e = .returned (.bool v) ∧ Below w.heap.size w w' := by
  rw [← hv]; exact c_l4Two a F ca x y w ha hl hk hca hcm

set_option maxHeartbeats 4000000 in
set_option maxRecDepth 100000 in
theorem c_sUnionOf (a : Option Addr) (F : List Qd) (ca : Nat) (q q2 : Int) (w : World) (ha : QSeg w a F) (hl : F.length ≤ 1048576) (hk : KidsLe F) (hca : F.length ≤ ca) (hcm : ca ≤ 9223372036854775807) (hnc : NoneCap w a F) :
    Calls Try.prog 54 #[.agg #[.slice a F.length ca], .int .i64 q, .int .i64 q2] w fun e w' => ∃ u, e = .returned (.tuple #[.agg #[u], .int .i64 (ansQ (twoOK F q q2) (uniR F q q2)), .bool (ansB (twoOK F q q2) (uniR F q q2))]) ∧ GF w' w.heap.size u (ansF (twoOK F q q2) (uniR F q q2)) ∧ Below w.heap.size w w' := by
  have B1 := (Bx.nil w).add (by simp) #[.slice a F.length ca] 25
  have B2 := hid (B1.add (by simp) #[.slice none 0 0] 25)
  have Q2 := hid (ha.below B2.out.2.2)
  have N2 := hid (hnc.below ha B2.out.2.2)
  clear B1 hnc
  have x0 := B2.out.cell 0 0 (v := .slice a F.length ca) rfl rfl
  rw [Nat.add_zero] at x0
  have fin : ∀ W : World, Below w.heap.size w W → ∃ u, Ending.returned (.tuple #[.agg #[.slice none 0 0], .int .i64 0, .bool false]) = .returned (.tuple #[.agg #[u], .int .i64 0, .bool false]) ∧ GF W w.heap.size u [] ∧ Below w.heap.size w W := fun W h => ⟨_, rfl, GF.nil _ _, h⟩
  cases hok : twoOK F q q2
  · have HC := hid (c_l4Two' a F ca q q2 false hok _ Q2.out hl hk hca hcm)
    have HV := hid (rfl : false = false)
    clear hok ha
    go_enter Try.func54, Try.ntmps54
    go_wp2_with fail
    refine HC.out.mono ?_
    rintro e w3 ⟨rfl, hb⟩
    have B3 := hid (B2.out.step hb)
    clear HC hb
    have R9 := B3.out.row 1 (v := .slice none 0 0) (t := 25) rfl
    have r0 := R9.cell (i := 0) (by omega)
    have f0 := R9.frozen 0
    have E0 := hid ((R9.set 0 (.slice none 0 0)).cell (i := 0) (by omega))
    simp only [if_true] at E0
    have HB := hid (B3.out.2.2.setCell (p := ⟨w.heap.size + 1, 0, none⟩) (by dsimp only; omega) (.slice none 0 0))
    clear R9
    go_wp2_with fail
    rw [(ans_no _).1, (ans_no _).2.1, (ans_no _).2.2]
    exact bodyPost_ret (v := .tuple #[.agg #[.slice none 0 0], .int .i64 0, .bool false]) (by simp [results, Try.results54, go_sem, E0.out]) rfl (fin _ HB.out)
  · have HC := hid (c_l4Two' a F ca q q2 true hok _ Q2.out hl hk hca hcm)
    have hok' := hok
    simp only [twoOK, Bool.and_eq_true, decide_eq_true_eq] at hok'
    obtain ⟨⟨hta, htb⟩, hlv2⟩ := hok'
    obtain ⟨hg, h0, h1⟩ := there_bd hta
    obtain ⟨_, k0, k1⟩ := there_bd htb
    obtain ⟨hn5, hlevN⟩ := levN_le hg (show q.toNat < F.length by omega)
    obtain ⟨b1, o1, ak, ck, rfl, hb1, p1, _⟩ := ha q.toNat (by omega)
    have hb1' := hb1
    have LA := cellsOfQ_le hg (show q.toNat < F.length by omega)
    have LB := cellsOfQ_le hg (show q2.toNat < F.length by omega)
    obtain ⟨LST, hLST⟩ : ∃ L, L = cellsOfQ F q.toNat ++ cellsOfQ F q2.toNat := ⟨_, rfl⟩
    have HLST := hid hLST
    have HLEN := hid (show LST.length ≤ 1048576 by rw [hLST]; rw [List.length_append]; omega)
    have HTL : Hid (∀ (W : World) (la : Option Addr) (lca : Nat), QSeg W (some ⟨b1, o1, none⟩) F → NoneCap W (some ⟨b1, o1, none⟩) F → Seg W la LST → Calls Try.prog 107 #[.agg #[.slice (some ⟨b1, o1, none⟩) F.length ca], .int .i64 (qa F q.toNat).1, .slice la LST.length lca] W fun e w' => ∃ u, e = .returned (.tuple #[.agg #[u], .int .i64 (tellQ (uniR F q q2).1 ((uniR F q q2).2 : Int)), .bool (tellB (uniR F q q2).1)]) ∧ GF w' W.heap.size u (tellF (uniR F q q2).1) ∧ Below W.heap.size W w') := by
      intro W la lca hQ hN hS
      have := c_l4Tell hg (some ⟨b1, o1, none⟩) ca (levN F q.toNat) hn5 la LST lca W hQ hN hS HLEN.out
      rw [← hlevN] at this
      have e : uniR F q q2 = treeL LST (levN F q.toNat) 0 0 F := by rw [hLST]; rfl
      rw [← e] at this
      exact this
    have HL1 := hid (fun (W : World) (hQ : QSeg W (some ⟨b1, o1, none⟩) F) => c_l3CellsAll hg (some ⟨b1, o1, none⟩) ca q W hQ h0 h1)
    have HL2 := hid (fun (W0 W : World) (v : Value) (hQ : QSeg W0 (some ⟨b1, o1, none⟩) F) (hB : Below W0.heap.size W0 W) (hO : OwnS W W0.heap.size v (cellsOfQ F q.toNat)) => c_l3CellsMore hg (some ⟨b1, o1, none⟩) ca q2 W0 W v (cellsOfQ F q.toNat) LST HLST.out hQ k0 k1 hB hO LA)
    have HLA := hid LA
    have HLB := hid LB
    generalize (qa F q.toNat).1 = lv at *
    generalize hRR : uniR F q q2 = RR at *
    generalize cellsOfQ F q.toNat = CA at *
    generalize cellsOfQ F q2.toNat = CB at *
    have T1 := hid (rfl : 0 = 0)
    clear hRR hok hta htb hlv2 hg ha hlevN hn5 LA LB hLST
    go_enter Try.func54, Try.ntmps54
    go_wp2_with fail
    refine HC.out.mono ?_
    rintro e w3 ⟨rfl, hb⟩
    have B3 := hid (B2.out.step hb)
    have bd := (Below.refl w3.heap.size w3).drew
    have B4 := hid (B3.out.step bd)
    have Q4 := hid ((Q2.out.below hb).below bd)
    have N4 := hid ((N2.out.below Q2.out hb).below (Q2.out.below hb) bd)
    have x4 := B4.out.cell 0 0 (v := .slice (some ⟨b1, o1, none⟩) F.length ca) rfl rfl
    rw [Nat.add_zero] at x4
    have y4 := (B4.out.2.2.cell (p := ⟨b1, o1 + q.toNat * 2, none⟩) hb1).trans p1
    have S4 := hid (⟨x4, y4⟩ : _ ∧ _)
    have HSZ4 := hid (⟨B4.out.lt 0 (by simp), Nat.lt_of_lt_of_le hb1 B4.out.2.2.size⟩ : w.heap.size + 0 < w3.drew.heap.size ∧ b1 < w3.drew.heap.size)
    have keep : Hid (∀ W : World, Below w3.drew.heap.size w3.drew W → W.cell? ⟨w.heap.size, 0, none⟩ = some (.slice (some ⟨b1, o1, none⟩) F.length ca) ∧ W.cell? ⟨b1, o1 + q.toNat * 2, none⟩ = some (.int .i64 lv)) := fun W h => ⟨(h.cell (p := ⟨w.heap.size, 0, none⟩) (by have := HSZ4.out.1; simpa using this)).trans S4.out.1, (h.cell (p := ⟨b1, o1 + q.toNat * 2, none⟩) HSZ4.out.2).trans S4.out.2⟩
    clear HC hb bd x0 p1 x4 y4
    go_wp2_with fail
    go_region_held3 (fun W => W.cell? ⟨w.heap.size, 0, none⟩ = some (.slice (some ⟨b1, o1, none⟩) F.length ca) ∧ W.cell? ⟨b1, o1 + q.toNat * 2, none⟩ = some (.int .i64 lv))
      (first | exact S4.out | exact S5.out | exact S6.out | exact S6b.out | exact S7.out | exact S8.out | go_keep)
      (first
        | (go_at_call 94; clear T1; refine (HL1.out _ Q4.out).mono ?_; rintro e w5 ⟨v5, rfl, hO5, hb5⟩; have HO5 := hid hO5; obtain ⟨a5, c5, rfl, hS5⟩ := hO5.form; have HSS5 := hid hS5; have S5 := hid (keep.out w5 hb5))
        | (go_at_call 94; refine (HL2.out _ w5 _ Q4.out hb5 HO5.out).mono ?_; rintro e w6 ⟨v6, rfl, hO6, hb6⟩; obtain ⟨a6, c6, rfl, hS6⟩ := hO6.form; have S6s := hid hS6; have S6 := hid (keep.out w6 hb6))
        | (go_at_call 107; refine (HTL.out w6 a6 c6 (Q4.out.below hb6) (N4.out.below Q4.out hb6) S6s.out).mono ?_; rintro e w7 ⟨u7, rfl, hG7, hb7⟩; have HG7 := hid hG7; obtain ⟨ua7, uc7, rfl, _⟩ := hG7.form; have bb7 := hb6.trans (hb7.mono hb6.size); have B7 := hid (B4.out.step bb7); have S7 := hid (keep.out w7 bb7); have R7 := B7.out.row 1 (v := .slice none 0 0) (t := 25) rfl; have r0 := R7.cell (i := 0) (by omega); have f0 := R7.frozen 0; have S8 := hid (⟨cell_other S7.out.1 (show (⟨w.heap.size + 1, 0, none⟩ : Addr).block ≠ (⟨w.heap.size, 0, none⟩ : Addr).block by dsimp only; omega) (.slice ua7 (tellF RR.1).length uc7), cell_other S7.out.2 (show (⟨w.heap.size + 1, 0, none⟩ : Addr).block ≠ (⟨b1, o1 + q.toNat * 2, none⟩ : Addr).block by dsimp only; omega) (.slice ua7 (tellF RR.1).length uc7)⟩ : _ ∧ _)))
    have E0 := hid ((R7.set 0 (.slice ua7 (tellF RR.1).length uc7)).cell (i := 0) (by omega))
    simp only [if_true] at E0
    have HG9 := hid ((HG7.out.setRow (o := 0) R7 (by decide) (by decide) (.slice ua7 (tellF RR.1).length uc7)).mono (show w.heap.size ≤ _ from Nat.le_trans B4.out.2.2.size hb6.size))
    have HB9 := hid (B7.out.2.2.setCell (p := ⟨w.heap.size + 1, 0, none⟩) (by dsimp only; omega) (.slice ua7 (tellF RR.1).length uc7))
    clear R7 r0 f0 hG7
    go_wp2_with fail
    rw [(ans_yes _).1, (ans_yes _).2.1, (ans_yes _).2.2]
    exact bodyPost_ret (v := .tuple #[.agg #[.slice ua7 (tellF RR.1).length uc7], .int .i64 (tellQ RR.1 (RR.2 : Int)), .bool (tellB RR.1)]) (by simp [results, Try.results54, go_sem, E0.out]) rfl ⟨.slice ua7 (tellF RR.1).length uc7, rfl, HG9.out, HB9.out⟩

set_option maxHeartbeats 4000000 in
set_option maxRecDepth 100000 in
theorem c_sWithoutOf (a : Option Addr) (F : List Qd) (ca : Nat) (q q2 : Int) (w : World) (ha : QSeg w a F) (hl : F.length ≤ 1048576) (hk : KidsLe F) (hca : F.length ≤ ca) (hcm : ca ≤ 9223372036854775807) (hnc : NoneCap w a F) :
    Calls Try.prog 56 #[.agg #[.slice a F.length ca], .int .i64 q, .int .i64 q2] w fun e w' => ∃ u, e = .returned (.tuple #[.agg #[u], .int .i64 (ansQ (twoOK F q q2) (witR F q q2)), .bool (ansB (twoOK F q q2) (witR F q q2))]) ∧ GF w' w.heap.size u (ansF (twoOK F q q2) (witR F q q2)) ∧ Below w.heap.size w w' := by
  have B1 := (Bx.nil w).add (by simp) #[.slice a F.length ca] 25
  have B2 := hid (B1.add (by simp) #[.slice none 0 0] 25)
  have Q2 := hid (ha.below B2.out.2.2)
  have N2 := hid (hnc.below ha B2.out.2.2)
  clear B1 hnc
  have x0 := B2.out.cell 0 0 (v := .slice a F.length ca) rfl rfl
  rw [Nat.add_zero] at x0
  have fin : ∀ W : World, Below w.heap.size w W → ∃ u, Ending.returned (.tuple #[.agg #[.slice none 0 0], .int .i64 0, .bool false]) = .returned (.tuple #[.agg #[u], .int .i64 0, .bool false]) ∧ GF W w.heap.size u [] ∧ Below w.heap.size w W := fun W h => ⟨_, rfl, GF.nil _ _, h⟩
  cases hok : twoOK F q q2
  · have HC := hid (c_l4Two' a F ca q q2 false hok _ Q2.out hl hk hca hcm)
    have HV := hid (rfl : false = false)
    clear hok ha
    go_enter Try.func56, Try.ntmps56
    go_wp2_with fail
    refine HC.out.mono ?_
    rintro e w3 ⟨rfl, hb⟩
    have B3 := hid (B2.out.step hb)
    clear HC hb
    have R9 := B3.out.row 1 (v := .slice none 0 0) (t := 25) rfl
    have r0 := R9.cell (i := 0) (by omega)
    have f0 := R9.frozen 0
    have E0 := hid ((R9.set 0 (.slice none 0 0)).cell (i := 0) (by omega))
    simp only [if_true] at E0
    have HB := hid (B3.out.2.2.setCell (p := ⟨w.heap.size + 1, 0, none⟩) (by dsimp only; omega) (.slice none 0 0))
    clear R9
    go_wp2_with fail
    rw [(ans_no _).1, (ans_no _).2.1, (ans_no _).2.2]
    exact bodyPost_ret (v := .tuple #[.agg #[.slice none 0 0], .int .i64 0, .bool false]) (by simp [results, Try.results56, go_sem, E0.out]) rfl (fin _ HB.out)
  · have HC := hid (c_l4Two' a F ca q q2 true hok _ Q2.out hl hk hca hcm)
    have hok' := hok
    simp only [twoOK, Bool.and_eq_true, decide_eq_true_eq] at hok'
    obtain ⟨⟨hta, htb⟩, hlv2⟩ := hok'
    obtain ⟨hg, h0, h1⟩ := there_bd hta
    obtain ⟨_, k0, k1⟩ := there_bd htb
    obtain ⟨hn5, hlevN⟩ := levN_le hg (show q.toNat < F.length by omega)
    obtain ⟨b1, o1, ak, ck, rfl, hb1, p1, _⟩ := ha q.toNat (by omega)
    have hb1' := hb1
    have LA := cellsOfQ_le hg (show q.toNat < F.length by omega)
    have LB := cellsOfQ_le hg (show q2.toNat < F.length by omega)
    obtain ⟨LST, hLST⟩ : ∃ L, L = dropL (cellsOfQ F q.toNat) (cellsOfQ F q2.toNat) := ⟨_, rfl⟩
    have HLST := hid hLST
    have HLEN := hid (show LST.length ≤ 1048576 by rw [hLST]; have := dropL_le (cellsOfQ F q.toNat) (cellsOfQ F q2.toNat); omega)
    have HTL : Hid (∀ (W : World) (la : Option Addr) (lca : Nat), QSeg W (some ⟨b1, o1, none⟩) F → NoneCap W (some ⟨b1, o1, none⟩) F → Seg W la LST → Calls Try.prog 107 #[.agg #[.slice (some ⟨b1, o1, none⟩) F.length ca], .int .i64 (qa F q.toNat).1, .slice la LST.length lca] W fun e w' => ∃ u, e = .returned (.tuple #[.agg #[u], .int .i64 (tellQ (witR F q q2).1 ((witR F q q2).2 : Int)), .bool (tellB (witR F q q2).1)]) ∧ GF w' W.heap.size u (tellF (witR F q q2).1) ∧ Below W.heap.size W w') := by
      intro W la lca hQ hN hS
      have := c_l4Tell hg (some ⟨b1, o1, none⟩) ca (levN F q.toNat) hn5 la LST lca W hQ hN hS HLEN.out
      rw [← hlevN] at this
      have e : witR F q q2 = treeL LST (levN F q.toNat) 0 0 F := by rw [hLST]; rfl
      rw [← e] at this
      exact this
    have HL1 := hid (fun (W : World) (hQ : QSeg W (some ⟨b1, o1, none⟩) F) => c_l3CellsAll hg (some ⟨b1, o1, none⟩) ca q W hQ h0 h1)
    have HL2 := hid (fun (W : World) (hQ : QSeg W (some ⟨b1, o1, none⟩) F) => c_l3CellsAll hg (some ⟨b1, o1, none⟩) ca q2 W hQ k0 k1)
    have HDR : Hid (∀ (W : World) (aa bb : Option Addr) (cc dd : Nat), Seg W aa (cellsOfQ F q.toNat) → Seg W bb (cellsOfQ F q2.toNat) → Calls Try.prog 106 #[.slice aa (cellsOfQ F q.toNat).length cc, .slice bb (cellsOfQ F q2.toNat).length dd] W fun e w' => ∃ v, e = .returned v ∧ OwnS w' W.heap.size v LST ∧ Below W.heap.size W w') := by
      intro W aa bb cc dd s1 s2
      rw [HLST.out]
      exact c_l4Drop aa _ cc bb _ dd W s1 (by omega) s2 (by omega)
    have HLA := hid LA
    have HLB := hid LB
    generalize (qa F q.toNat).1 = lv at *
    generalize hRR : witR F q q2 = RR at *
    generalize cellsOfQ F q.toNat = CA at *
    generalize cellsOfQ F q2.toNat = CB at *
    have T1 := hid (rfl : 0 = 0)
    clear hRR hok hta htb hlv2 hg ha hlevN hn5 LA LB hLST
    go_enter Try.func56, Try.ntmps56
    go_wp2_with fail
    refine HC.out.mono ?_
    rintro e w3 ⟨rfl, hb⟩
    have B3 := hid (B2.out.step hb)
    have bd := (Below.refl w3.heap.size w3).drew
    have B4 := hid (B3.out.step bd)
    have Q4 := hid ((Q2.out.below hb).below bd)
    have N4 := hid ((N2.out.below Q2.out hb).below (Q2.out.below hb) bd)
    have x4 := B4.out.cell 0 0 (v := .slice (some ⟨b1, o1, none⟩) F.length ca) rfl rfl
    rw [Nat.add_zero] at x4
    have y4 := (B4.out.2.2.cell (p := ⟨b1, o1 + q.toNat * 2, none⟩) hb1).trans p1
    have S4 := hid (⟨x4, y4⟩ : _ ∧ _)
    have HSZ4 := hid (⟨B4.out.lt 0 (by simp), Nat.lt_of_lt_of_le hb1 B4.out.2.2.size⟩ : w.heap.size + 0 < w3.drew.heap.size ∧ b1 < w3.drew.heap.size)
    have keep : Hid (∀ W : World, Below w3.drew.heap.size w3.drew W → W.cell? ⟨w.heap.size, 0, none⟩ = some (.slice (some ⟨b1, o1, none⟩) F.length ca) ∧ W.cell? ⟨b1, o1 + q.toNat * 2, none⟩ = some (.int .i64 lv)) := fun W h => ⟨(h.cell (p := ⟨w.heap.size, 0, none⟩) (by have := HSZ4.out.1; simpa using this)).trans S4.out.1, (h.cell (p := ⟨b1, o1 + q.toNat * 2, none⟩) HSZ4.out.2).trans S4.out.2⟩
    clear HC hb bd x0 p1 x4 y4
    go_wp2_with fail
    go_region_held3 (fun W => W.cell? ⟨w.heap.size, 0, none⟩ = some (.slice (some ⟨b1, o1, none⟩) F.length ca) ∧ W.cell? ⟨b1, o1 + q.toNat * 2, none⟩ = some (.int .i64 lv))
      (first | exact S4.out | exact S5.out | exact S6.out | exact S6b.out | exact S7.out | exact S8.out | go_keep)
      (first
        | (go_at_call 94; clear T1; refine (HL1.out _ Q4.out).mono ?_; rintro e w5 ⟨v5, rfl, hO5, hb5⟩; have HO5 := hid hO5; obtain ⟨a5, c5, rfl, hS5⟩ := hO5.form; have HSS5 := hid hS5; have S5 := hid (keep.out w5 hb5))
        | (go_at_call 94; refine (HL2.out _ (Q4.out.below hb5)).mono ?_; rintro e w5b ⟨v5b, rfl, hO5b, hb5b⟩; obtain ⟨a5b, c5b, rfl, hS5b⟩ := hO5b.form; have HSS5b := hid hS5b; have HSS5c := hid (HSS5.out.below hb5b); have hb5c := hb5.trans (hb5b.mono hb5.size); have S6b := hid (keep.out w5b hb5c))
        | (go_at_call 106; refine (HDR.out w5b _ _ _ _ HSS5c.out HSS5b.out).mono ?_; rintro e w6 ⟨v6, rfl, hO6, hb6d⟩; obtain ⟨a6, c6, rfl, hS6⟩ := hO6.form; have S6s := hid hS6; have hb6 := hb5c.trans (hb6d.mono hb5c.size); have S6 := hid (keep.out w6 hb6))
        | (go_at_call 107; refine (HTL.out w6 a6 c6 (Q4.out.below hb6) (N4.out.below Q4.out hb6) S6s.out).mono ?_; rintro e w7 ⟨u7, rfl, hG7, hb7⟩; have HG7 := hid hG7; obtain ⟨ua7, uc7, rfl, _⟩ := hG7.form; have bb7 := hb6.trans (hb7.mono hb6.size); have B7 := hid (B4.out.step bb7); have S7 := hid (keep.out w7 bb7); have R7 := B7.out.row 1 (v := .slice none 0 0) (t := 25) rfl; have r0 := R7.cell (i := 0) (by omega); have f0 := R7.frozen 0; have S8 := hid (⟨cell_other S7.out.1 (show (⟨w.heap.size + 1, 0, none⟩ : Addr).block ≠ (⟨w.heap.size, 0, none⟩ : Addr).block by dsimp only; omega) (.slice ua7 (tellF RR.1).length uc7), cell_other S7.out.2 (show (⟨w.heap.size + 1, 0, none⟩ : Addr).block ≠ (⟨b1, o1 + q.toNat * 2, none⟩ : Addr).block by dsimp only; omega) (.slice ua7 (tellF RR.1).length uc7)⟩ : _ ∧ _)))
    have E0 := hid ((R7.set 0 (.slice ua7 (tellF RR.1).length uc7)).cell (i := 0) (by omega))
    simp only [if_true] at E0
    have HG9 := hid ((HG7.out.setRow (o := 0) R7 (by decide) (by decide) (.slice ua7 (tellF RR.1).length uc7)).mono (show w.heap.size ≤ _ from Nat.le_trans B4.out.2.2.size hb6.size))
    have HB9 := hid (B7.out.2.2.setCell (p := ⟨w.heap.size + 1, 0, none⟩) (by dsimp only; omega) (.slice ua7 (tellF RR.1).length uc7))
    clear R7 r0 f0 hG7
    go_wp2_with fail
    rw [(ans_yes _).1, (ans_yes _).2.1, (ans_yes _).2.2]
    exact bodyPost_ret (v := .tuple #[.agg #[.slice ua7 (tellF RR.1).length uc7], .int .i64 (tellQ RR.1 (RR.2 : Int)), .bool (tellB RR.1)]) (by simp [results, Try.results56, go_sem, E0.out]) rfl ⟨.slice ua7 (tellF RR.1).length uc7, rfl, HG9.out, HB9.out⟩

end Go.Proofs.Ytmapbkefndbnnaa
