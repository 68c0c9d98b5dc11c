/- Texts of this seat, one behind the other: IRes, IResIn, IBes, IBesN. -/
import Derived.Test.YtokemdbgcegjiaaGreatB21
import Derived.Test.YtokemdbgcegjiaaGreatIOne
import Derived.Laws.EntriesVeiled
import Derived.Deep.RegionHeld3
namespace Go.Proofs.YtokemdbgcegjiaaGreat
open Go.RowKit Go.Maps
set_option linter.unusedVariables false
set_option linter.unusedSimpArgs false
attribute [local go_sem ↓] Go.wp_at_zero Go.wp_at_succ

/-- What comes of a quad of level m + 2 is told, at most T quads behind. -/
def ResEnd (K : SysK) (m T : Nat) (w : World) (g : Nat) (B : List Qd) (n q : Nat) (e : Ending) (w' : World) : Prop := ∃ (g' : Nat) (B' : List Qd) (n' r : Nat), e = .returned (.int .i64 (r : Int)) ∧ Sys K w' g' B' n' ∧ More B B' ∧ B'.length ≤ B.length + T ∧ n' ≤ n + T ∧ ResP B' m q r ∧ r < B'.length ∧ Below K.base w w' ∧ RElse K w w' g ∧ (g' = g ∨ w.heap.size ≤ g')
/-- How a result that is not kept yet is reckoned. -/
def Core (K : SysK) (m T : Nat) : Prop :=
  (m = 0 ∧ ∀ (w : World) (g : Nat) (B : List Qd) (n q : Nat) (P : Cl → Bool), Sys K w g B n → B.length + T ≤ 80000 → n + T ≤ 1000000000 → IsP P B (m + 2) q 0 0 → Calls Tryz.prog 123 #[.pointer (some ⟨K.p, 0, none⟩), .int .i64 (q : Int)] w (ResEnd K m T w g B n q)) ∨
  (m ≠ 0 ∧ ∀ (w : World) (g : Nat) (B : List Qd) (n q : Nat) (P : Cl → Bool), Sys K w g B n → B.length + T ≤ 80000 → n + T ≤ 1000000000 → IsP P B (m + 2) q 0 0 → Calls Tryz.prog 53 #[.pointer (some ⟨K.p, 0, none⟩), .int .i64 (q : Int), K.cv] w (ResEnd K m T w g B n q))

set_option maxHeartbeats 4000000 in
set_option maxRecDepth 100000 in
theorem resC_of (K : SysK) (m T : Nat) (hm : m ≤ 3) (hT : T + 8 ≤ TTm m) (hcore : Core K m T) : ResC K m := by
  intro w g B n q hS hlen hn ⟨P, hP⟩
  have HDO := hid (c_do K w hS (by omega) (by omega))
  have HP := hid hP
  have HQL := hid (hP.lt hS.gr.two)
  have HCC := hid hcore
  clear hS hP hcore
  go_enter Tryz.func119, Tryz.ntmps119
  go_wp2_with fail
  refine HDO.out.mono ?_
  rintro e w1 ⟨rfl, g1, B1, n1, hS1, hM1, hL1, hN1, hb1, he1, hg1⟩
  obtain ⟨cap1, hG1⟩ := hS1.gv
  obtain ⟨M, hM, hK⟩ := hS1.kept
  have x1 := World.rowIs.cell hS1.vars.gbx (i := 0) (by omega)
  have x2 := World.rowIs.cell hS1.vars.kbx (i := 0) (by omega)
  have x3 := World.rowIs.cell hS1.vars.rbx (i := 0) (by omega)
  unfold SysK.cv at x3
  have hq1 : q < B1.length := Nat.lt_of_lt_of_le HQL.out hM1.len
  have hlook := hM.look (l := (q : Int)) (by unfold fit1; omega)
  have hP1 := hM1.isP HP.out
  have hlv := hP1.lev hS1.gr
  have c0 := hG1.c0
  have lv := hG1.lev hq1
  have HS1 := hid hS1
  have HM1 := hid hM1
  have HL1 := hid hL1
  have HN1 := hid hN1
  have HB1 := hid hb1
  have HE1 := hid he1
  have HGG1 := hid hg1
  have HP1 := hid hP1
  have HLV := hid hlv
  have HKK := hid hK
  clear hS1 hM1 hL1 hN1 hb1 he1 hg1 hP1 hlv hK hM hG1 HDO
  cases hmq : M (q : Int) with
  | some r =>
    rw [hmq] at hlook
    simp only [Option.getD_some, Option.isSome_some] at hlook
    obtain ⟨a, b, m', h1, h2, h3, h4, h5, h6⟩ := HKK.out q r hmq
    obtain rfl : a = q := by omega
    obtain rfl : m' = m := by have := HLV.out; omega
    subst h2
    have H6 := hid h6
    have H4 := hid h4
    clear h1 h3 h5 h6 h4 hmq
    go_wp2_with fail
    go_ret
    exact ⟨g1, B1, n1, b, rfl, HS1.out, HM1.out, by have := HL1.out; omega, by have := HN1.out; omega, H6.out, H4.out, HB1.out, HE1.out, HGG1.out⟩
  | none =>
    rw [hmq] at hlook
    simp only [Option.getD_none, Option.isSome_none] at hlook
    rcases HCC.out with ⟨hm0, hcall⟩ | ⟨hm0, hcall⟩
    · have d2 : ((qa B1 q).1 == 2) = true := by rw [HLV.out]; simp; omega
      have HCA := hid (hcall w1 g1 B1 n1 q P HS1.out (by have := HL1.out; omega) (by have := HN1.out; omega) HP1.out)
      unfold SysK.cv at HCA
      clear hcall hmq
      go_wp2_with fail
      refine HCA.out.mono ?_
      rintro e w2 ⟨g2, B2, n2, r, rfl, hS2, hM2, hL2, hN2, hR2, hr2, hb2, he2, hg2⟩
      have y2 := World.rowIs.cell hS2.vars.kbx (i := 0) (by omega)
      obtain ⟨M2, hMM2, hK2⟩ := hS2.kept
      obtain ⟨W3, hrun, hm3, hg3⟩ := MapN.put hMM2 (l := (q : Int)) (v := (r : Int)) (by unfold fit1; have := HL1.out; omega) (by unfold maxLen; have := HN1.out; omega) (by unfold fit1; have := HL1.out; omega)
      have hq2 : q < B2.length := Nat.lt_of_lt_of_le HQL.out (Nat.le_trans HM1.out.len hM2.len)
      have S3 := hid (hS2.keep hq2 hr2 ((hM2.isP HP1.out).lev hS2.gr) hR2 hMM2 hK2 hm3 hg3)
      have B3 := hid ((HB1.out.trans hb2).grown hg3 (Nat.le_trans hS2.vars.lkm (Nat.le_of_lt hMM2.lt)) (fun k e => by cases e; exact hS2.vars.lkm))
      have E3 := hid (show RElse K w W3 g from fun i q1 q2 q3 q4 q5 q6 => by
        have e1 := (HE1.out.trans HB1.out.size HGG1.out he2) i q1 q2 q3 q4 q5 q6
        exact (hg3.block i (Nat.lt_of_lt_of_le q1 (Nat.le_trans HB1.out.size hb2.size)) (by simp only [ne_eq, Option.some.injEq]; omega)).trans e1)
      have G3 := hid (fresh_trans HGG1.out HB1.out.size hg2)
      have M3 := hid (HM1.out.trans hM2)
      have L3 := hid hL2
      have N3 := hid hN2
      have R3 := hid hR2
      have RL3 := hid hr2
      clear hS2 hM2 hL2 hN2 hR2 hr2 hb2 he2 hg2 hMM2 hK2 hm3 hg3 hq2 HCA
      go_wp2_with fail
      go_ret
      exact ⟨g2, B2, n2 + 1, r, rfl, S3.out, M3.out, by have := HL1.out; have := L3.out; omega, by have := HN1.out; have := N3.out; omega, R3.out, RL3.out, B3.out, E3.out, G3.out⟩
    · have d2 : ((qa B1 q).1 == 2) = false := by rw [HLV.out]; simp; omega
      have HCA := hid (hcall w1 g1 B1 n1 q P HS1.out (by have := HL1.out; omega) (by have := HN1.out; omega) HP1.out)
      unfold SysK.cv at HCA
      clear hcall hmq
      go_wp2_with fail
      refine HCA.out.mono ?_
      rintro e w2 ⟨g2, B2, n2, r, rfl, hS2, hM2, hL2, hN2, hR2, hr2, hb2, he2, hg2⟩
      have y2 := World.rowIs.cell hS2.vars.kbx (i := 0) (by omega)
      obtain ⟨M2, hMM2, hK2⟩ := hS2.kept
      obtain ⟨W3, hrun, hm3, hg3⟩ := MapN.put hMM2 (l := (q : Int)) (v := (r : Int)) (by unfold fit1; have := HL1.out; omega) (by unfold maxLen; have := HN1.out; omega) (by unfold fit1; have := HL1.out; omega)
      have hq2 : q < B2.length := Nat.lt_of_lt_of_le HQL.out (Nat.le_trans HM1.out.len hM2.len)
      have S3 := hid (hS2.keep hq2 hr2 ((hM2.isP HP1.out).lev hS2.gr) hR2 hMM2 hK2 hm3 hg3)
      have B3 := hid ((HB1.out.trans hb2).grown hg3 (Nat.le_trans hS2.vars.lkm (Nat.le_of_lt hMM2.lt)) (fun k e => by cases e; exact hS2.vars.lkm))
      have E3 := hid (show RElse K w W3 g from fun i q1 q2 q3 q4 q5 q6 => by
        have e1 := (HE1.out.trans HB1.out.size HGG1.out he2) i q1 q2 q3 q4 q5 q6
        exact (hg3.block i (Nat.lt_of_lt_of_le q1 (Nat.le_trans HB1.out.size hb2.size)) (by simp only [ne_eq, Option.some.injEq]; omega)).trans e1)
      have G3 := hid (fresh_trans HGG1.out HB1.out.size hg2)
      have M3 := hid (HM1.out.trans hM2)
      have L3 := hid hL2
      have N3 := hid hN2
      have R3 := hid hR2
      have RL3 := hid hr2
      clear hS2 hM2 hL2 hN2 hR2 hr2 hb2 he2 hg2 hMM2 hK2 hm3 hg3 hq2 HCA
      go_wp2_with fail
      go_ret
      exact ⟨g2, B2, n2 + 1, r, rfl, S3.out, M3.out, by have := HL1.out; have := L3.out; omega, by have := HN1.out; have := N3.out; omega, R3.out, RL3.out, B3.out, E3.out, G3.out⟩

theorem core_one (K : SysK) : Core K 0 4 := .inl ⟨rfl, fun w g B n q P hS hlen hn hP => by
  obtain ⟨cap, hG⟩ := hS.gv
  refine (c_oneStep q w hG hS.gr (by omega) hP).mono ?_
  rintro e w' ⟨g', cap', B', r, rfl, hG', hM, hL, hR, hr, hb, _, he, hg⟩
  exact ⟨g', B', n, r, rfl, hS.grove hG' hM he, hM, hL, by omega, hR, hr, hb, RElse.of_grove he, hg⟩⟩
theorem core_nine (K : SysK) (m : Nat) (hm : m ≤ 2) (hres : ResC K m) : Core K (m + 1) (14 + 13 * TTm m) := .inr ⟨by omega, fun w g B n q P hS hlen hn hP => by
  refine (c_byNine K m (by omega) hres w hS hlen (by omega) hP).mono ?_
  rintro e w' ⟨g', B', n', r, rfl, a, b, c, d, e, f, h, i, j⟩
  exact ⟨g', B', n', r, rfl, a, b, c, by omega, e, f, h, i, j⟩⟩
/-- The closure's contract at each level. -/
theorem resK (K : SysK) : ∀ m, m ≤ 3 → ResC K m
  | 0, _ => resC_of K 0 4 (by omega) (by simp [TTm]) (core_one K)
  | m + 1, h => resC_of K (m + 1) (14 + 13 * TTm m) h (by simp only [TTm]; omega) (core_nine K m (by omega) (resK K m (by omega)))

end Go.Proofs.YtokemdbgcegjiaaGreat

namespace Go.Proofs.YtokemdbgcegjiaaGreat
open Go.RowKit Go.Maps
set_option linter.unusedVariables false
set_option linter.unusedSimpArgs false
attribute [local go_sem ↓] Go.wp_at_zero Go.wp_at_succ

theorem three_row {w : World} {g : Nat} {t : TypeId} {a b c : Value} (h : w.heap[g]? = some (.cells #[a, b, c] t)) : w.rowIs g t 3 (fun j => if j = 0 then a else if j = 1 then b else c) := by
  refine ⟨_, h, rfl, fun i hi => ?_⟩
  rcases (show i = 0 ∨ i = 1 ∨ i = 2 by omega) with rfl | rfl | rfl <;> rfl
/-- The five blocks that are laid. -/
theorem in_new (w W : World) (p : Nat) (v : Value) (hW : W = ((((w.alloc (.cells #[.pointer (some ⟨p, 0, none⟩)] 77)).alloc (.map #[] 0)).alloc (.cells #[.map (some (w.heap.size + 1))] 138)).alloc (.cells #[.int .u32 0, .int .i32 0, .int .u32 0] 150)).alloc (.cells #[v] 79)) :
    W.rowIs w.heap.size 77 1 (fun _ => .pointer (some ⟨p, 0, none⟩)) ∧ MapN W (w.heap.size + 1) 0 (fun _ => none) ∧ W.rowIs (w.heap.size + 1 + 1) 138 1 (fun _ => .map (some (w.heap.size + 1))) ∧ onceRow W (w.heap.size + 1 + 1 + 1) 0 0 ∧ W.rowIs (w.heap.size + 1 + 1 + 1 + 1) 79 1 (fun _ => v) ∧ Below w.heap.size w W := by
  obtain ⟨W1, h1⟩ : ∃ W1, W1 = w.alloc (.cells #[.pointer (some ⟨p, 0, none⟩)] 77) := ⟨_, rfl⟩
  obtain ⟨W2, h2⟩ : ∃ W2, W2 = W1.alloc (.map #[] 0) := ⟨_, rfl⟩
  obtain ⟨W3, h3⟩ : ∃ W3, W3 = W2.alloc (.cells #[.map (some (w.heap.size + 1))] 138) := ⟨_, rfl⟩
  obtain ⟨W4, h4⟩ : ∃ W4, W4 = W3.alloc (.cells #[.int .u32 0, .int .i32 0, .int .u32 0] 150) := ⟨_, rfl⟩
  rw [← h1, ← h2, ← h3, ← h4] at hW
  have s1 : W1.heap.size = w.heap.size + 1 := by rw [h1]; simp
  have s2 : W2.heap.size = w.heap.size + 1 + 1 := by rw [h2]; simp [s1]
  have s3 : W3.heap.size = w.heap.size + 1 + 1 + 1 := by rw [h3]; simp [s2]
  have s4 : W4.heap.size = w.heap.size + 1 + 1 + 1 + 1 := by rw [h4]; simp [s3]
  have b1 : Below w.heap.size w W1 := by rw [h1]; exact (Below.refl _ _).alloc (Nat.le_refl _) _
  have b2 : Below W1.heap.size W1 W2 := by rw [h2]; exact (Below.refl _ _).alloc (Nat.le_refl _) _
  have b3 : Below W2.heap.size W2 W3 := by rw [h3]; exact (Below.refl _ _).alloc (Nat.le_refl _) _
  have b4 : Below W3.heap.size W3 W4 := by rw [h4]; exact (Below.refl _ _).alloc (Nat.le_refl _) _
  have b5 : Below W4.heap.size W4 W := by rw [hW]; exact (Below.refl _ _).alloc (Nat.le_refl _) _
  have r1 := one_row (w := W1) (g := w.heap.size) (by rw [h1]; exact heap_alloc_new _ _)
  have r2 : MapN W2 W1.heap.size 0 (fun _ => none) := by rw [h2]; exact MapN.made W1
  have r3 := one_row (w := W3) (g := W2.heap.size) (by rw [h3]; exact heap_alloc_new _ _)
  have r4 := three_row (w := W4) (g := W3.heap.size) (by rw [h4]; exact heap_alloc_new _ _)
  have r5 := one_row (w := W) (g := W4.heap.size) (by rw [hW]; exact heap_alloc_new _ _)
  have b45 := b4.trans (b5.mono (by omega))
  have b35 := b3.trans (b45.mono (by omega))
  have b25 := b2.trans (b35.mono (by omega))
  have o1 := r1.of_block (b25.block _ r1.lt)
  have o2 := r2.blk (b35.block _ r2.lt)
  have o3 := r3.of_block (b45.block _ r3.lt)
  have o4 := r4.of_block (b5.block _ r4.lt)
  rw [s1] at o2
  rw [s2] at o3
  rw [s3] at o4
  rw [s4] at r5
  exact ⟨o1, o2, o3, o4, r5, b1.trans (b25.mono (by omega))⟩

set_option maxHeartbeats 4000000 in
set_option maxRecDepth 100000 in
theorem c_resultsIn (w : World) {base p g cap mb : Nat} {B : List Qd} (hG : Grv w base p g cap mb B) (hGr : Grows B) :
    Calls Tryz.prog 88 #[.pointer (some ⟨p, 0, none⟩)] w fun e w' => ∃ K : SysK, K.base = base ∧ K.p = p ∧ K.mb = mb ∧ w.heap.size ≤ K.km ∧ w.heap.size ≤ K.ob ∧ e = .returned K.cv ∧ Sys K w' g B 0 ∧ Below w.heap.size w w' := by
  have hmm := @run_makeMap Tryz.prog
  have HG := hid hG
  clear hG
  go_enter Tryz.func88, Tryz.ntmps88
  go_wp2
  go_ret
  obtain ⟨o1, o2, o3, o4, o5, hb⟩ := in_new w _ p _ rfl
  have hbs : base ≤ w.heap.size := Nat.le_trans HG.out.lowp (Nat.le_of_lt HG.out.box.lt)
  exact ⟨⟨base, p, mb, w.heap.size + 1, w.heap.size + 1 + 1 + 1, w.heap.size, w.heap.size + 1 + 1, w.heap.size + 1 + 1 + 1 + 1⟩, rfl, rfl, rfl, by dsimp only; omega, by dsimp only; omega, rfl, ⟨⟨cap, HG.out.below hb⟩, hGr, ⟨_, o2, fun q r h => by cases h⟩, ⟨0, .inl rfl, o4⟩, ⟨o1, o3, o5, by dsimp only; omega, by dsimp only; omega, by have := HG.out.mlt; dsimp only; omega⟩⟩, hb⟩

end Go.Proofs.YtokemdbgcegjiaaGreat

namespace Go.Proofs.YtokemdbgcegjiaaGreat
open Go.RowKit Go.Maps
set_option linter.unusedVariables false
set_option linter.unusedSimpArgs false
attribute [local go_sem ↓] Go.wp_at_zero Go.wp_at_succ

/-- The blocks of the closure that stands on two groves. -/
structure BK where
  base : Nat
  p : Nat
  mb : Nat
  bg : Nat
  bb : Nat
  br : Nat
  K : SysK
def BK.cv (Z : BK) : Value := .func (.func 101) #[] #[.pointer (some ⟨Z.bg, 0, none⟩), .pointer (some ⟨Z.bb, 0, none⟩), .pointer (some ⟨Z.br, 0, none⟩)]
structure BSys (Z : BK) (w : World) (g : Nat) (F : List Qd) (gi : Nat) (B : List Qd) (n : Nat) : Prop where
  out : ∃ cap, Grv w Z.base Z.p g cap Z.mb F
  og : Grows F
  inn : Sys Z.K w gi B n
  lo : Z.base ≤ Z.K.base
  ap : Apart3 Z.p g Z.mb Z.K.p gi Z.K.mb
  dkm : Z.K.km ≠ Z.mb
  rg : w.rowIs Z.bg 77 1 (fun _ => .pointer (some ⟨Z.p, 0, none⟩))
  rb : w.rowIs Z.bb 77 1 (fun _ => .pointer (some ⟨Z.K.p, 0, none⟩))
  rr : w.rowIs Z.br 79 1 (fun _ => Z.K.cv)
def BElse (Z : BK) (w w' : World) (g gi : Nat) : Prop := ∀ k, k < w.heap.size → k ≠ Z.p → k ≠ g → k ≠ Z.mb → k ≠ Z.K.p → k ≠ gi → k ≠ Z.K.mb → k ≠ Z.K.km → k ≠ Z.K.ob → w'.heap[k]? = w.heap[k]?
theorem BElse.trans {Z : BK} {a b c : World} {g g' gi gi' : Nat} (h : BElse Z a b g gi) (hs : a.heap.size ≤ b.heap.size) (hg : g' = g ∨ a.heap.size ≤ g') (hgi : gi' = gi ∨ a.heap.size ≤ gi') (k : BElse Z b c g' gi') : BElse Z a c g gi := fun i h1 h2 h3 h4 h5 h6 h7 h8 h9 =>
  (k i (Nat.lt_of_lt_of_le h1 hs) h2 (by rcases hg with rfl | hg
                                         · exact h3
                                         · omega) h4 h5 (by rcases hgi with rfl | hg
                                                            · exact h6
                                                            · omega) h7 h8 h9).trans (h i h1 h2 h3 h4 h5 h6 h7 h8 h9)
theorem GElse.row {w w' : World} {base p g cap mb : Nat} {F : List Qd} (h : GElse w w' p g mb) (hG : Grv w base p g cap mb F) {b m : Nat} {t : TypeId} {f : Nat → Value} (hr : w.rowIs b t m f) (h1 : t ≠ 102) (h2 : t ≠ 98) : w'.rowIs b t m f := by
  obtain ⟨c, hc, _⟩ := id hr
  refine hr.of_block (h b hr.lt ?_ ?_ ?_)
  · rintro rfl
    obtain ⟨d, hd, _⟩ := hG.box
    rw [hc] at hd
    simp at hd
    exact h1 hd.2
  · rintro rfl
    exact own_row_ne hG.own hr h2 rfl
  · rintro rfl
    obtain ⟨D, ⟨es, clock, hd, _⟩, _⟩ := hG.map
    rw [hc] at hd
    simp at hd
theorem BSys.far {Z : BK} {w : World} {g gi n : Nat} {F B : List Qd} (h : BSys Z w g F gi B n) : (Z.K.km ≠ Z.p ∧ Z.K.km ≠ g ∧ Z.K.km ≠ Z.mb) ∧ (Z.K.ob ≠ Z.p ∧ Z.K.ob ≠ g ∧ Z.K.ob ≠ Z.mb) := by
  obtain ⟨cap, hO⟩ := h.out
  obtain ⟨M, hM, hK⟩ := h.inn.kept
  obtain ⟨d, hd, hOn⟩ := h.inn.once
  obtain ⟨a, b1, b2, b3, _⟩ := Sys.apart (K := { Z.K with base := Z.base, p := Z.p, mb := Z.mb }) hO hM hOn h.dkm
  exact ⟨a, b1, b2, b3⟩
theorem BSys.below {Z : BK} {w w' : World} {g gi n : Nat} {F B : List Qd} (h : BSys Z w g F gi B n) (hb : Below w.heap.size w w') : BSys Z w' g F gi B n := by
  obtain ⟨cap, hO⟩ := h.out
  exact ⟨⟨cap, hO.below hb⟩, h.og, h.inn.below hb, h.lo, h.ap, h.dkm, h.rg.of_block (hb.block _ h.rg.lt), h.rb.of_block (hb.block _ h.rb.lt), h.rr.of_block (hb.block _ h.rr.lt)⟩
theorem BSys.in1 {Z : BK} {w w' : World} {g gi g1 cap1 n : Nat} {F B B1 : List Qd} (h : BSys Z w g F gi B n) (hG' : Grv w' Z.K.base Z.K.p g1 cap1 Z.K.mb B1) (hm : More B B1) (he : GElse w w' Z.K.p gi Z.K.mb) (hg : g1 = gi ∨ w.heap.size ≤ g1) : BSys Z w' g F g1 B1 n := by
  obtain ⟨cap, hO⟩ := h.out
  have r := RElse.of_grove (K := Z.K) he
  exact ⟨⟨cap, hO.apart h.ap.symm he⟩, h.og, h.inn.grove hG' hm he, h.lo, (Apart3.grow h.ap.symm hO hg).symm, h.dkm, h.inn.row r h.rg (by decide) (by decide) (by decide), h.inn.row r h.rb (by decide) (by decide) (by decide), h.inn.row r h.rr (by decide) (by decide) (by decide)⟩
theorem BSys.mid {Z : BK} {w w' : World} {g gi g2 n n2 : Nat} {F B B2 : List Qd} (h : BSys Z w g F gi B n) (hS : Sys Z.K w' g2 B2 n2) (r : RElse Z.K w w' gi) (hg : g2 = gi ∨ w.heap.size ≤ g2) : BSys Z w' g F g2 B2 n2 := by
  obtain ⟨cap, hO⟩ := h.out
  obtain ⟨⟨k1, k2, k3⟩, o1, o2, o3⟩ := h.far
  obtain ⟨⟨a1, a2, a3⟩, ⟨a4, a5, a6⟩, a7, a8, a9⟩ := id h.ap
  have e1 := r Z.p hO.box.lt a1 a2 a3 k1.symm o1.symm
  have e2 := r g hO.lt.2 a4 a5 a6 k2.symm o2.symm
  have e3 := r Z.mb hO.mlt a7 a8 a9 k3.symm o3.symm
  have r1 := h.inn.row r h.rg (by decide) (by decide) (by decide)
  have r2 := h.inn.row r h.rb (by decide) (by decide) (by decide)
  have r3 := h.inn.row r h.rr (by decide) (by decide) (by decide)
  exact ⟨⟨cap, hO.blk e1 e2 e3⟩, h.og, hS, h.lo, (Apart3.grow h.ap.symm hO hg).symm, h.dkm, r1, r2, r3⟩
theorem BSys.out1 {Z : BK} {w w' : World} {g gi g1 cap1 n : Nat} {F B F1 : List Qd} (h : BSys Z w g F gi B n) (hG' : Grv w' Z.base Z.p g1 cap1 Z.mb F1) (hm : Grows F1) (he : GElse w w' Z.p g Z.mb) (hg : g1 = g ∨ w.heap.size ≤ g1) : BSys Z w' g1 F1 gi B n := by
  obtain ⟨cap, hO⟩ := h.out
  obtain ⟨cap2, hI⟩ := h.inn.gv
  obtain ⟨M, hM, hK⟩ := h.inn.kept
  obtain ⟨d, hd, hOn⟩ := h.inn.once
  obtain ⟨⟨k1, k2, k3⟩, o1, o2, o3⟩ := h.far
  exact ⟨⟨cap1, hG'⟩, hm, ⟨⟨cap2, hI.apart h.ap he⟩, h.inn.gr, ⟨M, hM.blk (he _ hM.lt k1 k2 k3), hK⟩, ⟨d, hd, World.rowIs.of_block hOn (he _ (World.rowIs.lt hOn) o1 o2 o3)⟩, h.inn.vars.of fun hr q1 q2 _ => GElse.row he hO hr q1 q2⟩, h.lo, h.ap.grow hI hg, h.dkm, GElse.row he hO h.rg (by decide) (by decide), GElse.row he hO h.rb (by decide) (by decide), GElse.row he hO h.rr (by decide) (by decide)⟩
theorem BSys.cells {Z : BK} {w : World} {g gi n : Nat} {F B : List Qd} (h : BSys Z w g F gi B n) : w.cell? ⟨Z.bg, 0, none⟩ = some (.pointer (some ⟨Z.p, 0, none⟩)) ∧ w.cell? ⟨Z.bb, 0, none⟩ = some (.pointer (some ⟨Z.K.p, 0, none⟩)) ∧ w.cell? ⟨Z.br, 0, none⟩ = some (.func (.func 119) #[] #[.pointer (some ⟨Z.K.ob, 0, none⟩), .pointer (some ⟨Z.K.gb, 0, none⟩), .pointer (some ⟨Z.K.kb, 0, none⟩), .pointer (some ⟨Z.K.rb, 0, none⟩)]) :=
  ⟨h.rg.cell (i := 0) (by omega), h.rb.cell (i := 0) (by omega), h.rr.cell (i := 0) (by omega)⟩

set_option maxHeartbeats 4000000 in
set_option maxRecDepth 100000 in
theorem c_beside1 (Z : BK) (m : Nat) (hm : m ≤ 3) (w : World) {g gi n q : Nat} {F B : List Qd} {L0 L : List Cl} (h : BSys Z w g F gi B n) (hF : F.length + 4 ^ (m + 1) ≤ 90000) (hB : B.length + 4 ^ (m + 2) + TTm m ≤ 80000) (hn : n + TTm m ≤ 1000000000) (hT : IsT L0 F (m + 2) q 0 0)
    (hL : ∀ c : Cl, 0 ≤ c.1 → c.1 < 0 + 2 ^ (m + 1) → 0 ≤ c.2 → c.2 < 0 + 2 ^ (m + 1) → lifeN (2 ^ m) (fun c => decide (c ∈ L0)) (c.1 + 2 ^ m, c.2 + 2 ^ m) = decide (c ∈ L)) :
    Calls Tryz.prog 101 #[.int .i64 (q : Int), .pointer (some ⟨Z.bg, 0, none⟩), .pointer (some ⟨Z.bb, 0, none⟩), .pointer (some ⟨Z.br, 0, none⟩)] w fun e w' => ∃ (g' gi' : Nat) (B' : List Qd) (n' : Nat), e = .returned (.int .i64 ((treeL L (m + 1) 0 0 F).2 : Int)) ∧ BSys Z w' g' (treeL L (m + 1) 0 0 F).1 gi' B' n' ∧ B'.length ≤ B.length + 4 ^ (m + 2) + TTm m ∧ n' ≤ n + TTm m ∧ Below Z.base w w' ∧ BElse Z w w' g gi ∧ (g' = g ∨ w.heap.size ≤ g') ∧ (gi' = gi ∨ w.heap.size ≤ gi') := by
  have hd : Below w.heap.size w w.drew := (Below.refl w.heap.size w).drew
  have BD := hid (h.below hd)
  have ho1 : Z.base ≤ w.heap.size := by obtain ⟨cap, hO⟩ := h.out; exact Nat.le_trans hO.lowp (Nat.le_of_lt hO.box.lt)
  have HZ0 := hid hd.size
  have HD0 := hid (hd.mono ho1)
  have HE0 := hid (show BElse Z w w.drew g gi from fun k h1 _ _ _ _ _ _ _ _ => hd.block k h1)
  have t1 := treeL_tr L0 (m + 2) 0 0 B (by omega) h.inn.gr
  have i1 := treeL_is L0 (m + 2) 0 0 B (by omega) h.inn.gr
  have t2 := treeL_tr L (m + 1) 0 0 F (by omega) h.og
  obtain ⟨capo, hO⟩ := BD.out.out
  obtain ⟨capi, hI⟩ := BD.out.inn.gv
  have HA := hid (c_graft h.og Z.K.base Z.K.p Z.K.mb Z.base Z.p g capo Z.mb (m + 2) q 0 0 B gi capi w.drew (by omega) h.inn.gr (by omega) hI hO h.ap.symm hT)
  have HR := hid (fun (w1 : World) (g1 : Nat) (h1 : Sys Z.K w1 g1 (treeL L0 (m + 2) 0 0 B).1 n) => resK Z.K m hm w1 g1 (treeL L0 (m + 2) 0 0 B).1 n (treeL L0 (m + 2) 0 0 B).2 h1 (by have := t1.most; omega) hn ⟨_, isT_isP.1 i1⟩)
  have HC := hid (fun (w2 : World) (g2 c2 cap2 r : Nat) (B2 : List Qd) (hB2 : Grows B2) (h1 : Grv w2 Z.base Z.p g cap2 Z.mb F) (h2 : Grv w2 Z.K.base Z.K.p g2 c2 Z.K.mb B2) (h3 : Apart3 Z.p g Z.mb Z.K.p g2 Z.K.mb) (h4 : IsT L B2 (m + 1) r 0 0) => c_graft hB2 Z.base Z.p Z.mb Z.K.base Z.K.p g2 c2 Z.K.mb (m + 1) r 0 0 F g cap2 w2 (by omega) h.og hF h1 h2 h3 h4)
  have HL := hid hL
  have HLO := hid h.lo
  have HO1 := hid ho1
  have T1 := hid t1
  have I1 := hid i1
  have T2 := hid t2
  have HBB := hid hB
  have HNN := hid hn
  clear h hF hB hn hT hL hd ho1 t1 i1 t2 hO hI
  generalize treeL L0 (m + 2) 0 0 B = X1 at *
  generalize treeL L (m + 1) 0 0 F = X2 at *
  go_enter Tryz.func101, Tryz.ntmps101
  go_wp2_with fail
  obtain ⟨d1, d2, d3⟩ := BD.out.cells
  go_region_held3 (fun W => W.cell? ⟨Z.bg, 0, none⟩ = some (.pointer (some ⟨Z.p, 0, none⟩)) ∧ W.cell? ⟨Z.bb, 0, none⟩ = some (.pointer (some ⟨Z.K.p, 0, none⟩)) ∧ W.cell? ⟨Z.br, 0, none⟩ = some (.func (.func 119) #[] #[.pointer (some ⟨Z.K.ob, 0, none⟩), .pointer (some ⟨Z.K.gb, 0, none⟩), .pointer (some ⟨Z.K.kb, 0, none⟩), .pointer (some ⟨Z.K.rb, 0, none⟩)]))
    (first | exact BD.out.cells | exact S1.out.cells | exact S2.out.cells | exact S3.out.cells | go_keep)
    (first
      | (go_at_call 102; obtain ⟨cap2, hO2⟩ := S2.out.out; obtain ⟨c2, hI2⟩ := S2.out.inn.gv; refine (HC.out w2 g2 c2 cap2 r B2 S2.out.inn.gr hO2 hI2 S2.out.ap IR.out).mono ?_; rintro e w3 ⟨g3, cap3, rfl, hG3, hb3, _, he3, hg3⟩; have S3 := hid (S2.out.out1 hG3 T2.out.grows he3 hg3); have HB3 := hid hb3; have HE3 := hid he3; have HG3 := hid hg3; clear hO2 hI2 hG3 hb3 he3 hg3)
      | (go_at_call 119; refine (HR.out w1 g1 S1.out.inn).mono ?_; rintro e w2 ⟨g2, B2, n2, r, rfl, hS2, hM2, hL2, hN2, hR2, hr2, hb2, he2, hg2⟩; have S2 := hid (S1.out.mid hS2 he2 hg2); have IR := hid (isT_isP.2 ((hR2 _ (hM2.isP (isT_isP.1 I1.out))).congr HL.out)); have HB2 := hid hb2; have HE2 := hid he2; have HG2 := hid hg2; have HL2 := hid hL2; have HN2 := hid hN2; clear hS2 hM2 hL2 hN2 hR2 hr2 hb2 he2 hg2)
      | (go_at_call 102; refine HA.out.mono ?_; rintro e w1 ⟨g1, cap1, rfl, hG1, hb1, _, he1, hg1⟩; have S1 := hid (BD.out.in1 hG1 ⟨T1.out.grows, T1.out.more, T1.out.old⟩ he1 hg1); have HB1 := hid hb1; have HE1 := hid he1; have HG1 := hid hg1; clear hG1 hb1 he1 hg1))
  go_wp2_with fail
  go_ret
  have b1 := HD0.out.trans (HB1.out.mono HLO.out)
  have b2 := b1.trans (HB2.out.mono HLO.out)
  have q1 : g1 = gi ∨ w.heap.size ≤ g1 := fresh_trans (.inl rfl) HZ0.out HG1.out
  have q2 : g2 = gi ∨ w.heap.size ≤ g2 := fresh_trans q1 b1.size HG2.out
  refine ⟨g3, g2, B2, n2, rfl, S3.out, by have := HL2.out; have := T1.out.most; omega, HN2.out, b2.trans HB3.out, ?_, fresh_trans (.inl rfl) b2.size HG3.out, q2⟩
  have e1 : BElse Z w.drew w1 g gi := fun k h1 _ _ _ h5 h6 h7 _ _ => HE1.out k h1 h5 h6 h7
  have e2 : BElse Z w1 w2 g g1 := fun k h1 _ _ _ h5 h6 h7 h8 h9 => HE2.out k h1 h5 h6 h7 h8 h9
  have e3 : BElse Z w2 w3 g g2 := fun k h1 h2 h3 h4 _ _ _ _ _ => HE3.out k h1 h2 h3 h4
  exact ((HE0.out.trans HZ0.out (.inl rfl) (.inl rfl) e1).trans b1.size (.inl rfl) q1 e2).trans b2.size (.inl rfl) q2 e3

end Go.Proofs.YtokemdbgcegjiaaGreat

namespace Go.Proofs.YtokemdbgcegjiaaGreat
open Go.RowKit Go.Maps
set_option linter.unusedVariables false
set_option linter.unusedSimpArgs false
attribute [local go_sem ↓] Go.wp_at_zero Go.wp_at_succ

set_option maxHeartbeats 4000000 in
set_option maxRecDepth 100000 in
theorem c_resultsBeside (w : World) {base p g cap mb : Nat} {F : List Qd} (hG : Grv w base p g cap mb F) (hGr : Grows F) (h2 : Grows two) :
    Calls Tryz.prog 54 #[.pointer (some ⟨p, 0, none⟩)] w fun e w' => ∃ (Z : BK) (gi : Nat), Z.base = base ∧ Z.p = p ∧ Z.mb = mb ∧ e = .returned Z.cv ∧ BSys Z w' g F gi two 0 ∧ w.heap.size ≤ gi ∧ w.heap.size ≤ Z.K.base ∧ Below w.heap.size w w' := by
  obtain ⟨W1, hW1⟩ : ∃ W1, W1 = w.alloc (.cells #[.pointer (some ⟨p, 0, none⟩)] 77) := ⟨_, rfl⟩
  have s1 : W1.heap.size = w.heap.size + 1 := by rw [hW1]; simp
  have b1 : Below w.heap.size w W1 := by rw [hW1]; exact (Below.refl _ _).alloc (Nat.le_refl _) _
  have r1 := one_row (w := W1) (g := w.heap.size) (by rw [hW1]; exact heap_alloc_new _ _)
  have HN := hid (c_newGrove W1)
  have HRI := hid (fun (W : World) (h : Grv W W1.heap.size (W1.heap.size + 2) W1.heap.size 2 (W1.heap.size + 1) two) => c_resultsIn W h h2)
  have S1 := hid s1
  have B1 := hid b1
  have R1 := hid r1
  have HG := hid hG
  clear s1 b1 r1 hG
  go_enter Tryz.func54, Tryz.ntmps54
  go_wp2_with fail
  rw [← hW1]
  refine HN.out.mono ?_
  rintro e W2 ⟨rfl, hG2, hb2⟩
  have hz2 := hb2.size
  have b3 : Below W2.heap.size W2 (W2.alloc (.cells #[.pointer (some ⟨W1.heap.size + 2, 0, none⟩)] 77)) := (Below.refl _ _).alloc (Nat.le_refl _) _
  have r3 := one_row (heap_alloc_new W2 (.cells #[.pointer (some ⟨W1.heap.size + 2, 0, none⟩)] 77))
  have s3 : (W2.alloc (.cells #[.pointer (some ⟨W1.heap.size + 2, 0, none⟩)] 77)).heap.size = W2.heap.size + 1 := by simp
  have G3 := hid (hG2.below b3)
  have B2 := hid hb2
  have B3 := hid b3
  have R3 := hid r3
  have S3 := hid s3
  clear hG2 hb2 b3 r3 s3 HN hz2 hW1
  go_wp2_with fail
  refine (HRI.out _ G3.out).mono ?_
  rintro e W4 ⟨K, k1, k2, k3, k4, k5, rfl, hS4, hb4⟩
  have b5 : Below W4.heap.size W4 (W4.alloc (.cells #[K.cv] 79)) := (Below.refl _ _).alloc (Nat.le_refl _) _
  have r5 := one_row (heap_alloc_new W4 (.cells #[K.cv] 79))
  unfold SysK.cv
  go_wp2_with fail
  go_ret
  have l1 := HG.out.box.lt
  have l2 := HG.out.lt.2
  have l3 := HG.out.mlt
  have l0 := HG.out.lowp
  have z1 := S1.out
  have z2 := B2.out.size
  have z3 := S3.out
  have z4 := hb4.size
  have c34 := hb4.trans (b5.mono z4)
  have c24 := B3.out.trans (c34.mono (by omega))
  have c14 := B2.out.trans (c24.mono (by omega))
  have c04 := B1.out.trans (c14.mono (by omega))
  refine ⟨⟨base, p, mb, w.heap.size, W2.heap.size, W4.heap.size, K⟩, W1.heap.size, rfl, rfl, rfl, rfl, ⟨⟨cap, HG.out.below c04⟩, hGr, hS4.below b5, ?_, ?_, ?_, R1.out.of_block (c14.block _ R1.out.lt), ?_, r5⟩, ?_, ?_, c04⟩
  · dsimp only; omega
  · dsimp only; rw [k2, k3]; unfold Apart3; omega
  · dsimp only; omega
  · dsimp only; rw [k2]; exact R3.out.of_block (c34.block _ R3.out.lt)
  · omega
  · dsimp only; omega

end Go.Proofs.YtokemdbgcegjiaaGreat
