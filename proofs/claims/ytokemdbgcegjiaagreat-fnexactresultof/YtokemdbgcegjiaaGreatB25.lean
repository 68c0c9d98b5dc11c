/- Texts of this seat, one behind the other: IChQ, IRof, AnsS. -/
import Derived.Test.YtokemdbgcegjiaaGreatB23
import Derived.Test.YtokemdbgcegjiaaGreatB24
import Derived.Test.YtokemdbgcegjiaaGreatB10
import Derived.Test.YtokemdbgcegjiaaGreatSRes
import Derived.Test.YtokemdbgcegjiaaGreatB18
import Derived.Test.YtokemdbgcegjiaaGreatB09
namespace Go.Proofs.YtokemdbgcegjiaaGreat
open Go.RowKit Go.Maps
set_option linter.unusedVariables false
set_option linter.unusedSimpArgs false
attribute [local go_sem ↓] Go.wp_at_zero Go.wp_at_succ

def Bx (w W : World) (bs : List (Array Value × TypeId)) : Prop := (∀ i c t, bs[i]? = some (c, t) → W.heap[w.heap.size + i]? = some (.cells c t)) ∧ w.heap.size + bs.length ≤ W.heap.size ∧ Below w.heap.size w W
theorem Bx.nil (w : World) : Bx w w [] := ⟨fun i c t h => by simp at h, Nat.le_refl _, Below.refl _ _⟩
theorem Bx.add {w W : World} {bs : List (Array Value × TypeId)} (h : Bx w W bs) (hs : W.heap.size = w.heap.size + bs.length) (c : Array Value) (t : TypeId) : Bx w (W.alloc (.cells c t)) (bs ++ [(c, t)]) := by
  have hb := (Below.refl W.heap.size W).alloc (Nat.le_refl _) (.cells c t)
  refine ⟨fun i c' t' hi => ?_, by simp; omega, h.2.2.trans (hb.mono h.2.2.size)⟩
  by_cases e : i < bs.length
  · rw [List.getElem?_append_left e] at hi
    exact (hb.block _ (by omega)).trans (h.1 i c' t' hi)
  · have e2 : i = bs.length := by
      by_cases h2 : i = bs.length
      · exact h2
      · rw [List.getElem?_eq_none (by simp; omega)] at hi; cases hi
    subst e2
    simp at hi
    obtain ⟨rfl, rfl⟩ := hi
    rw [← hs]
    exact heap_alloc_new _ _
theorem Bx.step {w W W' : World} {bs : List (Array Value × TypeId)} (h : Bx w W bs) (hb : Below W.heap.size W W') : Bx w W' bs :=
  ⟨fun i c t hi => (hb.block _ (by have := (List.getElem?_eq_some_iff.1 hi).1; have := h.2.1; omega)).trans (h.1 i c t hi), Nat.le_trans h.2.1 hb.size, h.2.2.trans (hb.mono h.2.2.size)⟩
theorem Bx.cell {w W : World} {bs : List (Array Value × TypeId)} (h : Bx w W bs) (i j : Nat) {c : Array Value} {t : TypeId} {v : Value} (hi : bs[i]? = some (c, t)) (hj : c[j]? = some v) : W.cell? ⟨w.heap.size + i, j, none⟩ = some v := by
  unfold World.cell?
  rw [h.1 i c t hi]
  exact hj
theorem Bx.row {w W : World} {bs : List (Array Value × TypeId)} (h : Bx w W bs) (i : Nat) {v : Value} {t : TypeId} (hi : bs[i]? = some (#[v], t)) : W.rowIs (w.heap.size + i) t 1 (fun _ => v) := one_row (h.1 i _ t hi)
theorem Bx.lt {w W : World} {bs : List (Array Value × TypeId)} (h : Bx w W bs) (i : Nat) (hi : i < bs.length) : w.heap.size + i < W.heap.size := by have := h.2.1; omega

set_option maxHeartbeats 2000000 in
set_option maxRecDepth 100000 in
theorem c_changeQuad (f : Nat) (hf : f = 62 ∨ f = 52) (least most : Int) (R : List Qd × Nat) (a : Option Addr) (F : List Qd) (ca : Nat) (q : Int) (w : World) (ha : QSeg w a F) (hl : F.length ≤ 1048576) (hk : KidsLe F) (hca : F.length ≤ ca) (hcm : ca ≤ 9223372036854775807) (ok : Bool) (hok : (goodF F && hlB F q least most) = ok)
    (hR : ok = true → Grows R.1 ∧ R.1.length ≤ 10000 ∧ ∀ (W : World) (base p g cap mb : Nat), Grv W base p g cap mb F → Calls Tryz.prog f #[.pointer (some ⟨p, 0, none⟩), .int .i64 q] W fun e w' => ∃ g' cap', e = .returned (.int .i64 (R.2 : Int)) ∧ Grv w' base p g' cap' mb R.1 ∧ Below base W w') :
    Calls Tryz.prog 51 #[.agg #[.slice a F.length ca], .int .i64 q, .int .i64 least, .int .i64 most, .func (.func f) #[] #[]] w fun e w' => ∃ u, e = .returned (.tuple #[.agg #[u], .int .i64 (ansQ ok R), .bool (ansB ok R)]) ∧ FOwn w' w.heap.size w'.heap.size u (ansF ok R) ∧ Below w.heap.size w w' := by
  have B1 := (Bx.nil w).add (by simp) #[.slice a F.length ca] 25
  have B2 := hid (B1.add (by simp) #[.slice none 0 0] 25)
  have Q2 := hid (ha.below B2.out.2.2)
  clear B1 ha
  have x0 := B2.out.cell 0 0 (v := .slice a F.length ca) rfl rfl
  rw [Nat.add_zero] at x0
  have fin : ∀ W : World, Below w.heap.size w W → ∃ u, Ending.returned (.tuple #[.agg #[.slice none 0 0], .int .i64 0, .bool false]) = .returned (.tuple #[.agg #[u], .int .i64 0, .bool false]) ∧ FOwn W w.heap.size W.heap.size u [] ∧ Below w.heap.size w W := fun W h => ⟨_, rfl, .inl ⟨rfl, rfl⟩, h⟩
  have HC := hid (c_groveOf a F ca _ Q2.out hl hk hca hcm)
  cases hg : goodF F
  · rw [hg] at HC
    have HV := hid (show ok = false by rw [← hok, hg]; rfl)
    clear hg hok hR
    go_enter Tryz.func51, Tryz.ntmps51
    go_wp2_with fail
    refine HC.out.mono ?_
    rintro e w3 ⟨pv, rfl, ho, hb⟩
    have B3 := hid (B2.out.step hb)
    clear ho HC hb
    have R9 := B3.out.row 1 (v := .slice none 0 0) (t := 25) rfl
    have r0 := R9.cell (i := 0) (by omega)
    have f0 := R9.frozen 0
    have E0 := hid ((R9.set 0 (.slice none 0 0)).cell (i := 0) (by omega))
    simp only [if_true] at E0
    have HB := hid (B3.out.2.2.setCell (p := ⟨w.heap.size + 1, 0, none⟩) (by dsimp only; omega) (.slice none 0 0))
    clear R9
    go_wp2_with fail
    rw [HV.out, (ans_no _).1, (ans_no _).2.1, (ans_no _).2.2]
    exact bodyPost_ret (v := .tuple #[.agg #[.slice none 0 0], .int .i64 0, .bool false]) (by simp [results, Tryz.results51, go_sem, E0.out]) rfl (fin _ HB.out)
  · rw [hg] at HC
    have HG := hid hg
    cases hh : hlB F q least most
    · have HV := hid (show ok = false by rw [← hok, hg, hh]; rfl)
      have HE := hid (fun (W : World) (base p g cap mb : Nat) (h : Grv W base p g cap mb F) => c_hasLevel q least most false W hh h)
      clear hok hR hg hh
      go_enter Tryz.func51, Tryz.ntmps51
      go_wp2_with fail
      refine HC.out.mono ?_
      rintro e w3 ⟨pv, rfl, ho, hb⟩
      have B3 := hid (B2.out.step hb)
      rcases ho with ⟨_, p, g, cap, mb, base, hbase, rfl, hGv⟩ | ⟨e, _⟩
      · have HGV := hid hGv
        clear HC hb hGv
        go_wp2_with fail
        refine (HE.out _ _ _ _ _ _ HGV.out).mono ?_
        rintro e w4 ⟨rfl, hb4⟩
        have B4 := hid (B3.out.step hb4)
        clear hb4
        have R9 := B4.out.row 1 (v := .slice none 0 0) (t := 25) rfl
        have r0 := R9.cell (i := 0) (by omega)
        have f0 := R9.frozen 0
        have E0 := hid ((R9.set 0 (.slice none 0 0)).cell (i := 0) (by omega))
        simp only [if_true] at E0
        have HB := hid (B4.out.2.2.setCell (p := ⟨w.heap.size + 1, 0, none⟩) (by dsimp only; omega) (.slice none 0 0))
        clear R9
        go_wp2_with fail
        rw [HV.out, (ans_no _).1, (ans_no _).2.1, (ans_no _).2.2]
        exact bodyPost_ret (v := .tuple #[.agg #[.slice none 0 0], .int .i64 0, .bool false]) (by simp [results, Tryz.results51, go_sem, E0.out]) rfl (fin _ HB.out)
      · rw [HG.out] at e; cases e
    · have HV := hid (show ok = true by rw [← hok, hg, hh]; rfl)
      obtain ⟨hGR, hLR, hcall⟩ := hR HV.out
      have HGR := hid hGR
      have HLR := hid (show R.1.length ≤ 100000 by omega)
      have HCALL := hid hcall
      have HE := hid (fun (W : World) (base p g cap mb : Nat) (h : Grv W base p g cap mb F) => c_hasLevel q least most true W hh h)
      clear hok hR hg hh hGR hLR hcall
      rcases hf with rfl | rfl
      all_goals
        go_enter Tryz.func51, Tryz.ntmps51
        go_wp2_with fail
        refine HC.out.mono ?_
        rintro e w3 ⟨pv, rfl, ho, hb⟩
        have B3 := hid (B2.out.step hb)
        rcases ho with ⟨_, p, g, cap, mb, base, hbase, rfl, hGv⟩ | ⟨e, _⟩
        · have HGV := hid hGv
          have HBS := hid (show w.heap.size + 2 ≤ base from Nat.le_trans B2.out.2.1 hbase)
          clear HC hb hGv hbase x0
          go_wp2_with fail
          refine (HE.out _ _ _ _ _ _ HGV.out).mono ?_
          rintro e w4 ⟨rfl, hb4⟩
          have B4 := hid (B3.out.step hb4)
          have G4 := hid (HGV.out.below hb4)
          clear hb4
          go_wp2_with fail
          refine (HCALL.out _ _ _ _ _ _ G4.out).mono ?_
          rintro e w7 ⟨g7, cap7, rfl, hG7, hb7⟩
          have R7 := hid ((B4.out.row 1 (v := .slice none 0 0) (t := 25) rfl).of_block (hb7.block _ (show w.heap.size + 1 < base by have := HBS.out; omega)))
          have HB7 := hid (B4.out.2.2.trans (hb7.mono (show w.heap.size ≤ base by have := HBS.out; omega)))
          have HG7 := hid hG7
          clear hG7 hb7
          have HTL := hid (c_told (R.2 : Int) w7 HG7.out HGR.out HLR.out)
          go_wp2_with fail
          refine HTL.out.mono ?_
          rintro e w8 ⟨u8, rfl, hO8, hb8⟩
          have HO8 := hid hO8
          obtain ⟨ua8, uc8, rfl, _⟩ := hO8.form
          have R9 := R7.out.of_block (hb8.block _ R7.out.lt)
          have hlt7 := R7.out.lt
          have r0 := R9.cell (i := 0) (by omega)
          have f0 := R9.frozen 0
          have E0 := hid ((R9.set 0 (.slice ua8 (tellF R.1).length uc8)).cell (i := 0) (by omega))
          simp only [if_true] at E0
          have hs9 : (w8.setCell ⟨w.heap.size + 1, 0, none⟩ (.slice ua8 (tellF R.1).length uc8)).heap.size = w8.heap.size := by simp
          have hGW : Grew w8 (w8.setCell ⟨w.heap.size + 1, 0, none⟩ (.slice ua8 (tellF R.1).length uc8)) (w.heap.size + 1) (w.heap.size + 1 + 1) := (Grew.refl w8 _ _).set (Nat.le_refl _) (by omega) _
          have HO9 := hid ((HO8.out.kept hGW (by omega)).wide (lo' := w.heap.size) (hi' := w8.heap.size) (by omega) (Nat.le_refl _) (by rw [hs9]; exact Nat.le_refl _))
          have HB9 := hid ((HB7.out.trans (hb8.mono HB7.out.size)).setCell (p := ⟨w.heap.size + 1, 0, none⟩) (by dsimp only; omega) (.slice ua8 (tellF R.1).length uc8))
          have HS9 := hid hs9
          clear HTL hO8 HO8 hb8 R9 hGW hs9 hlt7
          generalize hT : tellF R.1 = TF at *
          generalize hQ' : tellQ R.1 (R.2 : Int) = TQ at *
          generalize hB' : tellB R.1 = TB at *
          go_wp2_with fail
          rw [HV.out, (ans_yes _).1, (ans_yes _).2.1, (ans_yes _).2.2, hT, hQ', hB']
          exact bodyPost_ret (v := .tuple #[.agg #[.slice ua8 TF.length uc8], .int .i64 TQ, .bool TB]) (by simp [results, Tryz.results51, go_sem, E0.out]) rfl ⟨.slice ua8 TF.length uc8, rfl, by rw [HS9.out]; exact HO9.out, HB9.out⟩
        · rw [HG.out] at e; cases e



end Go.Proofs.YtokemdbgcegjiaaGreat

namespace Go.Proofs.YtokemdbgcegjiaaGreat
open Go.RowKit Go.Maps
set_option linter.unusedVariables false
set_option linter.unusedSimpArgs false
attribute [local go_sem ↓] Go.wp_at_zero Go.wp_at_succ

theorem two_grows : Grows two := good_grows (F := two) (by kernel_rfl)
theorem res_ok (F : List Qd) (q : Int) : (goodF F && hlB F q 2 5) = quadB F q 2 := by
  unfold hlB quadB thereB
  cases hg : goodF F
  · simp
  · cases hin : inB 0 ((F.length : Int) - 1) q
    · simp
    · have := inB_bd hin
      have hlv := levN_eq hg (q := q) (by omega) (by omega)
      by_cases h2 : (2 : Int) ≤ (qa F q.toNat).1 <;> simp [inB, h2] <;> omega
/-- The cells that come of a quad, from the corner. -/
theorem res_life (F : List Qd) (q m : Nat) (hm : levN F q = m + 2) (c : Cl) : lifeN (2 ^ m) (fun c => decide (c ∈ cellsOfQ F q)) (c.1 + 2 ^ m, c.2 + 2 ^ m) = decide (c ∈ mv (resC F q) (-(2 ^ (levN F q - 2))) (-(2 ^ (levN F q - 2)))) := by
  have e : levN F q - 2 = m := by omega
  obtain ⟨r1, r2⟩ := ordL_facts (ord_exists (cellsOfQ F q))
  have h1 := stepsL_life (2 ^ m) r1 (c.1 + 2 ^ m, c.2 + 2 ^ m)
  have h2 := @mem_mv (resC F q) (-(2 ^ m)) (-(2 ^ m)) (c.1 + 2 ^ m, c.2 + 2 ^ m)
  have h3 : sh (-(2 ^ m)) (-(2 ^ m)) (c.1 + 2 ^ m, c.2 + 2 ^ m) = c := by
    unfold sh
    exact Prod.ext (by dsimp only; omega) (by dsimp only; omega)
  rw [h3] at h2
  have h4 : (fun c => decide (c ∈ cellsOfQ F q)) = fun x => decide (x ∈ ordL (cellsOfQ F q)) := by
    funext x
    exact decide_eq_decide.2 (r2 x).symm
  rw [h4, e]
  have h5 : (c.1 + 2 ^ m, c.2 + 2 ^ m) ∈ resC F q ↔ lifeN (2 ^ m) (fun x => decide (x ∈ ordL (cellsOfQ F q))) (c.1 + 2 ^ m, c.2 + 2 ^ m) = true := by
    unfold resC
    rw [e]
    exact h1
  rw [Bool.eq_iff_iff, decide_eq_true_iff]
  exact (h2.trans h5).symm

set_option maxHeartbeats 2000000 in
set_option maxRecDepth 100000 in
theorem c_rof1 (F : List Qd) (q m : Nat) (hg : goodF F = true) (hq : q < F.length) (hm : levN F q = m + 2) (hm3 : m ≤ 3) (w : World) {base p g cap mb : Nat} (hG : Grv w base p g cap mb F) :
    Calls Tryz.prog 62 #[.pointer (some ⟨p, 0, none⟩), .int .i64 (q : Int)] w fun e w' => ∃ g' cap', e = .returned (.int .i64 ((resT F q).2 : Int)) ∧ Grv w' base p g' cap' mb (resT F q).1 ∧ Below base w w' := by
  have HRB := hid (c_resultsBeside w hG (good_grows hg) two_grows)
  have hbs : base ≤ w.heap.size := Nat.le_trans hG.lowp (Nat.le_of_lt hG.box.lt)
  have hT : IsT (cellsOfQ F q) F (m + 2) q 0 0 := by
    have := IsT.self hg (m + 2) q 0 0 hq (by have := (levN_eq hg (q := (q : Int)) (by omega) (by omega)).1; simp only [Int.toNat_natCast] at this; rw [this, hm])
    unfold cellsOfQ
    rw [hm]
    exact this
  have hlen := good_len2 hg
  have hp := pow4_le (show m + 1 ≤ 5 by omega)
  have hp2 := pow4_le (show m + 2 ≤ 5 by omega)
  have htt : TTm m ≤ 39544 := by
    rcases (show m = 0 ∨ m = 1 ∨ m = 2 ∨ m = 3 by omega) with rfl | rfl | rfl | rfl <;> simp [TTm]
  have HC := hid (fun (Z : BK) (W : World) (gi : Nat) (h : BSys Z W g F gi two 0) => c_beside1 Z m hm3 W h (by omega) (by have : two.length = 2 := rfl; omega) (by omega) hT (fun c _ _ _ _ => res_life F q m hm c))
  have hR : resT F q = treeL (mv (resC F q) (-(2 ^ (levN F q - 2))) (-(2 ^ (levN F q - 2)))) (m + 1) 0 0 F := by
    have e1 : levN F q - 1 = m + 1 := by omega
    unfold resT
    rw [e1]
  rw [← hR] at HC
  clear hG hT hlen hp hp2 htt hR
  generalize resT F q = X at *
  go_enter Tryz.func62, Tryz.ntmps62
  go_wp2_with fail
  refine HRB.out.mono ?_
  rintro e w1 ⟨Z, gi, z1, z2, z3, rfl, hB1, hgi, hbb, hb1⟩
  have HCC := hid (HC.out Z w1 gi hB1)
  have Z1 := hid z1
  have Z2 := hid z2
  have Z3 := hid z3
  have HB1 := hid hb1
  clear hB1 hgi hbb z1 z2 z3 hb1 HC HRB
  unfold BK.cv
  go_wp2_with fail
  refine HCC.out.mono ?_
  rintro e w2 ⟨g2, gi2, B2, n2, rfl, hB2, _, _, hb2, _, _, _⟩
  obtain ⟨cap2, hO2⟩ := hB2.out
  have HO := hid hO2
  have HB2 := hid hb2
  clear hB2 hO2 hb2 HCC
  go_wp2_with fail
  go_ret
  have h1 := HO.out
  have h2 := HB2.out
  rw [Z1.out, Z2.out, Z3.out] at h1
  rw [Z1.out] at h2
  exact ⟨g2, cap2, rfl, h1, (HB1.out.mono hbs).trans h2⟩
theorem rof_call {F : List Qd} {q : Int} (h : quadB F q 2 = true) : Grows (resT F q.toNat).1 ∧ (resT F q.toNat).1.length ≤ 10000 ∧ ∀ (W : World) (base p g cap mb : Nat), Grv W base p g cap mb F → Calls Tryz.prog 62 #[.pointer (some ⟨p, 0, none⟩), .int .i64 q] W fun e w' => ∃ g' cap', e = .returned (.int .i64 ((resT F q.toNat).2 : Int)) ∧ Grv w' base p g' cap' mb (resT F q.toNat).1 ∧ Below base W w' := by
  unfold quadB at h
  simp only [Bool.and_eq_true, decide_eq_true_eq] at h
  obtain ⟨h1, h2⟩ := h
  obtain ⟨hg, h3, h4⟩ := there_bd h1
  obtain ⟨h5, h6⟩ := levN_eq hg h3 h4
  obtain ⟨m, hm⟩ : ∃ m, levN F q.toNat = m + 2 := ⟨levN F q.toNat - 2, by omega⟩
  have h7 := good_len2 hg
  have t := treeL_tr (mv (resC F q.toNat) (-(2 ^ (levN F q.toNat - 2))) (-(2 ^ (levN F q.toNat - 2)))) (levN F q.toNat - 1) 0 0 F (by omega) (good_grows hg)
  have := pow4_le (show levN F q.toNat - 1 ≤ 5 by omega)
  refine ⟨t.grows, ?_, fun W base p g cap mb hG => ?_⟩
  · have := t.most
    unfold resT; omega
  · have := c_rof1 F q.toNat m hg (by omega) hm (by omega) W hG
    rw [show ((q.toNat : Nat) : Int) = q by omega] at this
    exact this

set_option maxHeartbeats 1000000 in
set_option maxRecDepth 100000 in
theorem c_iResultOf (a : Option Addr) (F : List Qd) (ca : Nat) (q : Int) (w : World) (ha : QSeg w a F) (hl : F.length ≤ 1048576) (hk : KidsLe F) (hca : F.length ≤ ca) (hcm : ca ≤ 9223372036854775807) :
    Calls Tryz.prog 11 #[.agg #[.slice a F.length ca], .int .i64 q] w fun e w' => ∃ u, e = .returned (.tuple #[.agg #[u], .int .i64 (ansQ (quadB F q 2) (resT F q.toNat)), .bool (ansB (quadB F q 2) (resT F q.toNat))]) ∧ FOwn w' w.heap.size w'.heap.size u (ansF (quadB F q 2) (resT F q.toNat)) ∧ Below w.heap.size w w' := by
  have B1 := (Bx.nil w).add (by simp) #[.slice a F.length ca] 25
  have B2 := hid (B1.add (by simp) #[.slice none 0 0] 25)
  have x0 := B2.out.cell 0 0 (v := .slice a F.length ca) rfl rfl
  rw [Nat.add_zero] at x0
  have HC := hid (c_changeQuad 62 (by simp) 2 5 (resT F q.toNat) a F ca q _ (ha.below B2.out.2.2) hl hk hca hcm (quadB F q 2) (res_ok F q) rof_call)
  clear B1 ha
  generalize ansF (quadB F q 2) (resT F q.toNat) = TF at *
  generalize ansQ (quadB F q 2) (resT F q.toNat) = TQ at *
  generalize ansB (quadB F q 2) (resT F q.toNat) = TB at *
  go_enter Tryz.func11, Tryz.ntmps11
  go_wp2_with fail
  refine HC.out.mono ?_
  rintro e w8 ⟨u8, rfl, hO8, hb8⟩
  have HO8 := hid hO8
  obtain ⟨ua8, uc8, rfl, _⟩ := hO8.form
  have R9 := (B2.out.step hb8).row 1 (v := .slice none 0 0) (t := 25) rfl
  have r0 := R9.cell (i := 0) (by omega)
  have f0 := R9.frozen 0
  have E0 := hid ((R9.set 0 (.slice ua8 TF.length uc8)).cell (i := 0) (by omega))
  simp only [if_true] at E0
  have hs9 : (w8.setCell ⟨w.heap.size + 1, 0, none⟩ (.slice ua8 TF.length uc8)).heap.size = w8.heap.size := by simp
  have hGW : Grew w8 (w8.setCell ⟨w.heap.size + 1, 0, none⟩ (.slice ua8 TF.length uc8)) (w.heap.size + 1) (w.heap.size + 1 + 1) := (Grew.refl w8 _ _).set (Nat.le_refl _) (by omega) _
  have h21 := B2.out.2.1
  simp only [List.length_append, List.length_cons, List.length_nil] at h21
  have HO9 := hid ((HO8.out.kept hGW (by omega)).wide (lo' := w.heap.size) (hi' := w8.heap.size) (by omega) (Nat.le_refl _) (by rw [hs9]; exact Nat.le_refl _))
  have HB9 := hid ((B2.out.step hb8).2.2.setCell (p := ⟨w.heap.size + 1, 0, none⟩) (by dsimp only; omega) (.slice ua8 TF.length uc8))
  have HS9 := hid hs9
  clear HC hO8 HO8 hb8 R9 hGW hs9 h21
  go_wp2_with fail
  exact bodyPost_ret (v := .tuple #[.agg #[.slice ua8 TF.length uc8], .int .i64 TQ, .bool TB]) (by simp [results, Tryz.results11, go_sem, E0.out]) rfl ⟨.slice ua8 TF.length uc8, rfl, by rw [HS9.out]; exact HO9.out, HB9.out⟩


end Go.Proofs.YtokemdbgcegjiaaGreat

namespace Go.Proofs.YtokemdbgcegjiaaGreat
set_option linter.unusedVariables false

theorem ans_small (ok : Bool) (R : List Qd × Nat) (h : ok = true → Grows R.1) : (ansF ok R).length ≤ 1048576 ∧ KidsLe (ansF ok R) ∧ posF (nsF (ansF ok R)) (ansF ok R).length ≤ 8388608 := by
  cases ok
  · exact ⟨by simp [ansF], fun i hi => by simp [ansF] at hi, by simp [ansF, posF]⟩
  · have hG := h rfl
    rw [(ans_yes R).1]
    unfold tellF
    split
    · rename_i h4
      refine ⟨by omega, hG.kidsLe, ?_⟩
      have hp : ∀ k, k ≤ R.1.length → posF (nsF R.1) k ≤ 1 + 5 * k := by
        intro k
        induction k with
        | zero => intro _; simp [posF]
        | succ k ih =>
          intro hk
          have := ih (by omega)
          have : nsF R.1 k ≤ 4 := by
            unfold nsF
            by_cases h2 : k < 2
            · rw [hG.low k h2]; simp
            · have := hG.len k (by omega) (by omega); omega
          simp only [posF]; omega
      have := hp _ (Nat.le_refl _)
      omega
    · exact ⟨by simp, fun i hi => by simp at hi, by simp [posF]⟩

theorem res_grows {F : List Qd} {q : Int} (h : quadB F q 2 = true) : Grows (resT F q.toNat).1 := (rof_call h).1

end Go.Proofs.YtokemdbgcegjiaaGreat
