/- Texts of this seat, one behind the other: IOne. -/
import Derived.Test.YtokemdbgcegjiaaGreatB12
import Derived.Test.YtokemdbgcegjiaaGreatB21
import Derived.Test.YtokemdbgcegjiaaGreatISafe
namespace Go.Proofs.YtokemdbgcegjiaaGreat
open Go.RowKit Go.Maps
set_option linter.unusedVariables false
set_option linter.unusedSimpArgs false
attribute [local go_sem ↓] Go.wp_at_zero Go.wp_at_succ

theorem fresh_trans2 {g g2 s s1 : Nat} (hs : s ≤ s1) (k : g2 = g ∨ s1 ≤ g2) : g2 = g ∨ s ≤ g2 := by
  rcases k with k | k
  · exact .inl k
  · exact .inr (Nat.le_trans hs k)
theorem pow_mono4 : (4 : Nat) ^ 1 = 4 := rfl
set_option maxHeartbeats 2000000 in
set_option maxRecDepth 100000 in
theorem c_oneStep {P : Cl → Bool} (q : Nat) (w : World) {base p g cap mb : Nat} {B : List Qd} (hG : Grv w base p g cap mb B) (hGr : Grows B) (hlen : B.length ≤ 80000) (hT : IsP P B 2 q 0 0) :
    Calls Tryz.prog 123 #[.pointer (some ⟨p, 0, none⟩), .int .i64 (q : Int)] w fun e w' => ∃ (g' cap' : Nat) (B' : List Qd) (r : Nat), e = .returned (.int .i64 (r : Int)) ∧ Grv w' base p g' cap' mb B' ∧ More B B' ∧ B'.length ≤ B.length + 4 ∧ ResP B' 0 q r ∧ r < B'.length ∧ Below base w w' ∧ RowsKept w w' ∧ GElse w w' p g mb ∧ (g' = g ∨ w.heap.size ≤ g') := by
  have HC := hid (c_iCellsP hGr q w hG hT)
  have hmem := fun c => isP_mem hT c
  obtain ⟨l', r1, r2⟩ := ord_ex (cellsL B 2 q 0 0)
  have ro : ordL (cellsL B 2 q 0 0) = l' := ordL_eq r1 r2
  rw [ro] at HC
  have hin : ∀ i, i < l'.length → inR (at_ l' i) = true := by
    intro i hi
    have h1 := ((hmem (at_ l' i)).1 ((r2 _).1 (mem_at.2 ⟨i, hi, rfl⟩))).1
    simp at h1
    simp [inR]; omega
  have hll : l'.length ≤ 10000 := by
    have h1 := len_le_sub (l := l') (m := cellsL B 2 q 0 0) (ris_nodup r1) (fun x hx => (r2 x).1 hx)
    have := cellsL_len16 B q
    omega
  have HSF := hid (fun (W : World) (aa : Option Addr) (cc : Nat) (h : Seg W aa l') => c_stepFreelyF aa l' cc W h hll hin r1)
  obtain ⟨p1, p2⟩ := pickL_spec l'
  have HTL := hid (treeL_tr (pickL (nxtB l')) 1 1 1 B (by omega) hGr)
  have HTI := hid (treeL_is (pickL (nxtB l')) 1 1 1 B (by omega) hGr)
  have hlp : (pickL (nxtB l')).length ≤ 1048576 := by
    have hI : InB (-1) 4 (pickL (nxtB l')) := by
      have h0 : InB 0 3 l' := fun c hc => by
        have h1 := ((hmem c).1 ((r2 c).1 hc)).1
        simp at h1
        omega
      exact h0.next
    have := len_box p1 (hI.wide (by omega) (by omega))
    omega
  have HPE := hid (fun (W : World) (g1 cap1 : Nat) (aa : Option Addr) (cc : Nat) (h : Grv W base p g1 cap1 mb B) (ht : TyC W aa (pickL (nxtB l'))) => c_plantE (pickL (nxtB l')) aa cc hlp p1 base p mb 1 1 1 B g1 cap1 W (by omega) hGr (by rw [pow_mono4]; omega) (by omega) (by omega) (by omega) (by omega) h ht)
  have HR := hid (fun (hm : More B (treeL (pickL (nxtB l')) 1 1 1 B).1) => one_res (F := B) (B := (treeL (pickL (nxtB l')) 1 1 1 B).1) (q := q) (r := (treeL (pickL (nxtB l')) 1 1 1 B).2) r1 (fun P' hP' c h1 h2 h3 h4 => by
    have hu := IsP.unique (hm.isP hT) hP' c h1 (by simpa using h2) h3 (by simpa using h4)
    rw [← hu]
    have h5 := (r2 c).trans (hmem c)
    cases hc : P c
    · rw [hc] at h5; simp at h5; simpa using h5
    · rw [hc] at h5
      have : c ∈ l' := h5.2 ⟨⟨h1, by simpa using h2, h3, by simpa using h4⟩, rfl⟩
      simpa using this) p2 HTI.out)
  have HG := hid hG
  have hbs : base ≤ w.heap.size := Nat.le_trans hG.lowp (Nat.le_of_lt hG.box.lt)
  clear hG hT hmem r2 ro hin hll p2 hlp
  generalize treeL (pickL (nxtB l')) 1 1 1 B = TT at *
  generalize pickL (nxtB l') = PL at *
  go_enter Tryz.func123, Tryz.ntmps123
  go_wp2_with fail
  refine HC.out.mono ?_
  rintro e w1 ⟨v1, rfl, hO1, hb1⟩
  obtain ⟨a1, c1, rfl, hs1⟩ := hO1.form
  have HS1 := hid hs1
  have HB1 := hid hb1
  clear hO1 hs1 hb1 HC
  go_wp2_with fail
  refine (HSF.out w1 a1 c1 HS1.out).mono ?_
  rintro e w2 ⟨v2, rfl, hO2, hb2⟩
  obtain ⟨a2, c2, rfl, ht2⟩ := hO2.tyc
  have HB2 := hid (HB1.out.trans (hb2.mono HB1.out.size))
  have HT2 := hid ht2
  have HP := hid (HPE.out w2 g cap a2 c2 (HG.out.below HB2.out) HT2.out)
  clear hO2 hb2 ht2 HSF HS1 HB1 HPE
  go_wp2_with fail
  refine HP.out.mono ?_
  rintro e w3 ⟨g3, cap3, rfl, hG3, hb3, hr3, he3, hg3⟩
  have HG3 := hid hG3
  have HB3 := hid ((HB2.out.mono hbs).trans hb3)
  have HR3 := hid ((RowsKept.of_below HB2.out).trans hr3)
  have HE3 := hid (GElse.trans (GElse.of_below (p := p) (g := g) (mb := mb) HB2.out) HB2.out.size (.inl rfl) he3)
  have HGG := hid (fresh_trans2 HB2.out.size hg3)
  have HM := hid (show More B TT.1 from ⟨HTL.out.grows, HTL.out.more, HTL.out.old⟩)
  clear hG3 hb3 hr3 he3 hg3 HP
  go_wp2_with fail
  go_ret
  exact ⟨g3, cap3, TT.1, TT.2, rfl, HG3.out, HM.out, by have := HTL.out.most; omega, HR.out HM.out, HTL.out.lt, HB3.out, HR3.out, HE3.out, HGG.out⟩

end Go.Proofs.YtokemdbgcegjiaaGreat
