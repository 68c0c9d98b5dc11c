/- What the specification's l3Cells answers in a forest of any length. -/
import Derived.Test.YtnabgfbempkgnaaCellC
import Derived.Test.YtnabgfbempkgnaaTrG
namespace Go.Proofs.Ytnabgfbempkgnaa
open Go.RowKit
set_option linter.unusedVariables false
attribute [local go_sem ↓] Go.wp_at_zero Go.wp_at_succ

theorem pow2F {n : Nat} (h : n ≤ 5) : (2 : Int) ^ n ≤ 32 := by
  rcases (show n = 0 ∨ n = 1 ∨ n = 2 ∨ n = 3 ∨ n = 4 ∨ n = 5 by omega) with rfl | rfl | rfl | rfl | rfl | rfl <;> decide
theorem pow4F {n : Nat} (h : n ≤ 5) : 4 ^ n ≤ 1024 := by
  rcases (show n = 0 ∨ n = 1 ∨ n = 2 ∨ n = 3 ∨ n = 4 ∨ n = 5 by omega) with rfl | rfl | rfl | rfl | rfl | rfl <;> decide
theorem fine_zero {F : List Qd} (h : FineF F) {q : Nat} (hq : q < F.length) (h2 : q < 2) : (qa F q).1 = 0 ∧ (qa F q).2.length = 0 := by
  have := h.2 q hq
  simp only [fineQ, if_pos h2, Bool.and_eq_true, decide_eq_true_eq] at this
  exact this
theorem fine_quad {F : List Qd} (h : FineF F) {q : Nat} (hq : q < F.length) (h2 : 2 ≤ q) :
    (qa F q).2.length = 4 ∧ 1 ≤ (qa F q).1 ∧ (qa F q).1 ≤ 5 ∧ (∀ i, i < 4 → 0 ≤ ia (qa F q).2 i ∧ ia (qa F q).2 i < (q : Int)) ∧ (∀ i, i < 4 → (qa F (kidq F q i)).1 = (qa F q).1 - 1) := by
  have := h.2 q hq
  simp only [fineQ, if_neg (show ¬ q < 2 by omega), Bool.and_eq_true, decide_eq_true_eq] at this
  obtain ⟨⟨⟨⟨h1, h3⟩, h4⟩, h5⟩, h6⟩ := this
  have b4 := inB_bd h4
  refine ⟨h1, b4.1, b4.2, fun i hi => ?_, fun i hi => ?_⟩
  · have := inB_bd (allB_iff.1 h3 i (by omega))
    omega
  · have := allB_iff.1 h5 i (by omega)
    simpa [kidq] using this
theorem fine_levF {F : List Qd} (h : FineF F) {q : Nat} (hq : q < F.length) : 0 ≤ (qa F q).1 ∧ (qa F q).1 ≤ 5 ∧ levN F q ≤ 5 ∧ (qa F q).1 = (levN F q : Int) := by
  have : 0 ≤ (qa F q).1 ∧ (qa F q).1 ≤ 5 := by
    by_cases h2 : q < 2
    · have := (fine_zero h hq h2).1; omega
    · have := fine_quad h hq (by omega); omega
  unfold levN
  omega
theorem fine_two {F : List Qd} (h : FineF F) {q : Nat} (hq : q < F.length) : (qa F q).1 = 0 ↔ q < 2 := by
  constructor
  · intro e
    by_cases h2 : q < 2
    · exact h2
    · have := fine_quad h hq (by omega); omega
  · intro h2; exact (fine_zero h hq h2).1

set_option maxHeartbeats 2000000 in
set_option maxRecDepth 100000 in
theorem c_l3CellsF {F : List Qd} (hg : FineF F) (a : Option Addr) (ca : Nat) (W0 : World) (hQ : QSeg W0 a F) : ∀ (n : Nat) (q x y : Int) (v : Value) (out : List Cl) (w : World) (base : Nat),
    0 ≤ q → q < (F.length : Int) → (qa F q.toNat).1 = (n : Int) → -100000 ≤ x → x + 2 ^ n ≤ 100000 → -100000 ≤ y → y + 2 ^ n ≤ 100000 → Below W0.heap.size W0 w → W0.heap.size ≤ base → base ≤ w.heap.size → OwnS w base v out → out.length + 4 ^ n ≤ 4000000 →
    Calls Try.prog 73 #[.agg #[.slice a F.length ca], .int .i64 q, .int .i64 x, .int .i64 y, v] w fun e w' => ∃ v', e = .returned v' ∧ OwnS w' base v' (out ++ cellsL F n q.toNat x y) ∧ w.grownBy w' v.ownBlock ∧ Near' w v v' := by
  intro n
  induction n with
  | zero =>
    intro q x y v out w base h0 h1 hlev x0 x1 y0 y1 hB hb0 hb1 hO hlen
    have hq2 := (fine_two hg (q := q.toNat) (by omega)).1 (by simpa using hlev)
    rcases (show q = 0 ∨ q = 1 by omega) with rfl | rfl
    · have HO := hid hO
      have S1 := hid (Stg.new hO [.slice a F.length ca] 69)
      clear hO
      go_enter Try.func73, Try.ntmps73
      go_wp2
      go_ret
      exact ⟨v, rfl, by simpa [cellsL] using S1.out.own, S1.out.gr, S1.out.near⟩
    · have HO := hid hO
      have S1 := hid (Stg.new hO [.slice a F.length ca] 69)
      clear hO
      have HS2 := hid (S1.out.below ((Below.refl _ _).alloc (Nat.le_refl _) (.cells #[.int .i64 x, .int .i64 y] 44)))
      have hsg := (seg_block (heap_alloc_new (w.alloc (.cells #[.slice a F.length ca] 69)) (.cells #[.int .i64 x, .int .i64 y] 44)) : Seg _ _ [(x, y)])
      rw [show (w.alloc (.cells #[.slice a F.length ca] 69)).heap.size = w.heap.size + 1 by simp] at hsg
      have HSG := hid hsg
      clear hsg
      go_enter Try.func73, Try.ntmps73
      go_wp2_with (at_builtin; refine wpList_appAt rfl _ _ rfl base _ out [(x, y)] _ 1 rfl HS2.out.own rfl HSG.out (by simp at hlen ⊢; omega) (by simp; omega) ?_; intro v' w2 hO2 hG2 hN2)
      go_ret
      have S3 := HS2.out.step HO.out hO2 hG2 hN2
      exact ⟨v', rfl, by simpa [cellsL] using S3.own, S3.gr, S3.near⟩
  | succ n ih =>
    intro q x y v out w base h0 h1 hlev x0 x1 y0 y1 hB hb0 hb1 hO hlen
    have hq2 : 2 ≤ q := by
      have := (fine_two hg (q := q.toNat) (by omega))
      rw [hlev] at this
      have h3 : ¬ q.toNat < 2 := fun h => by have := this.2 h; omega
      omega
    obtain ⟨k4, l1, l5, kin, klev⟩ := fine_quad hg (q := q.toNat) (by omega) (by omega)
    obtain ⟨b1, o1, ak, ck, rfl, hb1', p1, p2, p3, p4⟩ := hQ q.toNat (by omega)
    obtain ⟨bk, ok, rfl, hbk, kc0⟩ := p3 0 (by omega)
    have d0 : (q == 0) = false := by simp; omega
    have d1 : (q == 1) = false := by simp; omega
    have S1 := hid (Stg.new hO [.slice (some ⟨b1, o1, none⟩) F.length ca] 69)
    have c1 := (((S1.out.old hO hB hb0).cell (p := ⟨b1, o1 + q.toNat * 2, none⟩) hb1').trans p1)
    have c2 := (((S1.out.old hO hB hb0).cell (p := ⟨b1, o1 + q.toNat * 2 + 1, none⟩) hb1').trans p2)
    rw [hlev] at c1
    obtain ⟨_, _, e1, _, kc1⟩ := p3 1 (by omega)
    obtain ⟨_, _, e2, _, kc2⟩ := p3 2 (by omega)
    obtain ⟨_, _, e3, _, kc3⟩ := p3 3 (by omega)
    simp only [Option.some.injEq, Addr.mk.injEq, and_true] at e1 e2 e3
    obtain ⟨rfl, rfl⟩ := e1
    obtain ⟨rfl, rfl⟩ := e2
    obtain ⟨rfl, rfl⟩ := e3
    rw [Nat.add_zero] at kc0
    have HIH := hid ih
    have HB := hid hB
    have HO := hid hO
    have hn5 : n < 5 := by omega
    have hpos := pow_pos' n
    have hle : (2 : Int) ^ n ≤ 16 := by
      rcases (show n = 0 ∨ n = 1 ∨ n = 2 ∨ n = 3 ∨ n = 4 by omega) with rfl | rfl | rfl | rfl | rfl <;> decide
    have HW := hid (show wrap64 ((2 : Int) ^ n) = 2 ^ n by unfold wrap64; omega)
    have h4 : (4 : Nat) ^ (n + 1) = 4 * 4 ^ n := by rw [Nat.pow_succ]; omega
    have hcl := hid (show cellsL F (n + 1) q.toNat x y = cellsL F n (kidq F q.toNat 0) x y ++ cellsL F n (kidq F q.toNat 1) (x + 2 ^ n) y ++ cellsL F n (kidq F q.toNat 2) x (y + 2 ^ n) ++ cellsL F n (kidq F q.toNat 3) (x + 2 ^ n) (y + 2 ^ n) from rfl)
    have L0 := cellsL_len F n (kidq F q.toNat 0) x y
    have L1 := cellsL_len F n (kidq F q.toNat 1) (x + 2 ^ n) y
    have L2 := cellsL_len F n (kidq F q.toNat 2) x (y + 2 ^ n)
    rw [two_pow] at x1 y1
    rw [hlev] at klev
    have i0 := kin 0 (by omega)
    have i1 := kin 1 (by omega)
    have i2 := kin 2 (by omega)
    have i3 := kin 3 (by omega)
    have j0 := klev 0 (by omega)
    have j1 := klev 1 (by omega)
    have j2 := klev 2 (by omega)
    have j3 := klev 3 (by omega)
    simp only [kidq] at j0 j1 j2 j3 L0 L1 L2
    have HJ0 := hid (show (qa F (ia (qa F q.toNat).2 0).toNat).1 = (n : Int) by omega)
    have HJ1 := hid (show (qa F (ia (qa F q.toNat).2 1).toNat).1 = (n : Int) by omega)
    have HJ2 := hid (show (qa F (ia (qa F q.toNat).2 2).toNat).1 = (n : Int) by omega)
    have HJ3 := hid (show (qa F (ia (qa F q.toNat).2 3).toNat).1 = (n : Int) by omega)
    have HL0 := hid L0
    have HL1 := hid L1
    have HL2 := hid L2
    have H4 := hid h4
    have HLEN := hid hlen
    have HK := hid (⟨kc0, kc1, kc2, kc3⟩ : _ ∧ _ ∧ _ ∧ _)
    rw [k4] at c2
    clear j0 j1 j2 j3 klev kin ih hB hO p1 p2 p3 p4 kc0 kc1 kc2 kc3 hQ L0 L1 L2 h4 hlen hlev l1 l5 k4
    have hcl' : Hid (cellsL F (n + 1) q.toNat x y = cellsL F n (ia (qa F q.toNat).2 0).toNat x y ++ cellsL F n (ia (qa F q.toNat).2 1).toNat (x + 2 ^ n) y ++ cellsL F n (ia (qa F q.toNat).2 2).toNat x (y + 2 ^ n) ++ cellsL F n (ia (qa F q.toNat).2 3).toNat (x + 2 ^ n) (y + 2 ^ n)) := hcl
    clear hcl
    generalize ia (qa F q.toNat).2 0 = q0 at *
    generalize ia (qa F q.toNat).2 1 = q1 at *
    generalize ia (qa F q.toNat).2 2 = q2 at *
    generalize ia (qa F q.toNat).2 3 = q3 at *
    go_enter Try.func73, Try.ntmps73
    go_wp2_with fail
    clear HW c1 c2 d0 d1
    generalize (2 : Int) ^ n = H at *
    generalize w.alloc (.cells #[.slice (some ⟨b1, o1, none⟩) F.length ca] 69) = W1 at *
    have HL := HLEN.out
    rw [H4.out] at HL
    have HLL := hid HL
    clear HL HLEN H4
    have x0 := S1.out.box 0 _ rfl
    have y0' := ((S1.out.old HO.out HB.out hb0).cell (p := ⟨bk, ok, none⟩) hbk).trans HK.out.1
    refine wp_region_still_tail 7 (by kernel_rfl) (by kernel_rfl) ?_
    simp only [List.take_succ_cons, List.take_zero, List.drop_succ_cons, List.drop_zero]
    iterate 7 still_step
    refine wpStill_nil ?_
    clear x0 y0'
    go_wp2_with fail
    refine (HIH.out q0 x y _ _ _ base (by omega) (by omega) HJ0.out (by omega) (by omega) (by omega) (by omega) (S1.out.drew.old HO.out HB.out hb0) hb0 (Nat.le_trans hb1 S1.out.drew.gr.size) S1.out.drew.own (by have := HLL.out; omega)).mono ?_
    rintro e W2 ⟨v2, rfl, hO2, hG2, hN2⟩
    replace S1 := hid (S1.out.drew.step HO.out hO2 hG2 hN2)
    clear hO2 hG2 hN2
    go_wp2_with fail
    have x0 := S1.out.box 0 _ rfl
    have y0' := ((S1.out.old HO.out HB.out hb0).cell (p := ⟨bk, ok + 1, none⟩) hbk).trans HK.out.2.1
    refine wp_region_still_tail 9 (by kernel_rfl) (by kernel_rfl) ?_
    simp only [List.take_succ_cons, List.take_zero, List.drop_succ_cons, List.drop_zero]
    iterate 9 still_step
    refine wpStill_nil ?_
    clear x0 y0'
    go_wp2_with fail
    refine (HIH.out q1 (x + H) y _ _ _ base (by omega) (by omega) HJ1.out (by omega) (by omega) (by omega) (by omega) (S1.out.drew.old HO.out HB.out hb0) hb0 (Nat.le_trans hb1 S1.out.drew.gr.size) S1.out.drew.own (by have := HLL.out; have := HL0.out; rw [List.length_append]; omega)).mono ?_
    rintro e W2 ⟨v2, rfl, hO2, hG2, hN2⟩
    replace S1 := hid (S1.out.drew.step HO.out hO2 hG2 hN2)
    clear hO2 hG2 hN2
    go_wp2_with fail
    have x0 := S1.out.box 0 _ rfl
    have y0' := ((S1.out.old HO.out HB.out hb0).cell (p := ⟨bk, ok + 2, none⟩) hbk).trans HK.out.2.2.1
    refine wp_region_still_tail 9 (by kernel_rfl) (by kernel_rfl) ?_
    simp only [List.take_succ_cons, List.take_zero, List.drop_succ_cons, List.drop_zero]
    iterate 9 still_step
    refine wpStill_nil ?_
    clear x0 y0'
    go_wp2_with fail
    refine (HIH.out q2 x (y + H) _ _ _ base (by omega) (by omega) HJ2.out (by omega) (by omega) (by omega) (by omega) (S1.out.drew.old HO.out HB.out hb0) hb0 (Nat.le_trans hb1 S1.out.drew.gr.size) S1.out.drew.own (by have := HLL.out; have := HL0.out; have := HL1.out; rw [List.length_append, List.length_append]; omega)).mono ?_
    rintro e W2 ⟨v2, rfl, hO2, hG2, hN2⟩
    replace S1 := hid (S1.out.drew.step HO.out hO2 hG2 hN2)
    clear hO2 hG2 hN2
    go_wp2_with fail
    have x0 := S1.out.box 0 _ rfl
    have y0' := ((S1.out.old HO.out HB.out hb0).cell (p := ⟨bk, ok + 3, none⟩) hbk).trans HK.out.2.2.2
    refine wp_region_still_tail 11 (by kernel_rfl) (by kernel_rfl) ?_
    simp only [List.take_succ_cons, List.take_zero, List.drop_succ_cons, List.drop_zero]
    iterate 11 still_step
    refine wpStill_nil ?_
    clear x0 y0'
    go_wp2_with fail
    refine (HIH.out q3 (x + H) (y + H) _ _ _ base (by omega) (by omega) HJ3.out (by omega) (by omega) (by omega) (by omega) (S1.out.drew.old HO.out HB.out hb0) hb0 (Nat.le_trans hb1 S1.out.drew.gr.size) S1.out.drew.own (by have := HLL.out; have := HL0.out; have := HL1.out; have := HL2.out; rw [List.length_append, List.length_append, List.length_append]; omega)).mono ?_
    rintro e W2 ⟨v2, rfl, hO2, hG2, hN2⟩
    replace S1 := hid (S1.out.drew.step HO.out hO2 hG2 hN2)
    clear hO2 hG2 hN2
    go_wp2_with fail
    go_ret
    refine ⟨_, rfl, ?_, S1.out.gr, S1.out.near⟩
    rw [hcl'.out]
    simpa [List.append_assoc] using S1.out.own

/-- All of a quad's cells, from the first corner on, put behind none. -/
theorem c_l3CellsAllF {F : List Qd} (hg : FineF F) (a : Option Addr) (ca : Nat) (q : Int) (w : World) (ha : QSeg w a F) (h0 : 0 ≤ q) (h1 : q < (F.length : Int)) :
    Calls Try.prog 73 #[.agg #[.slice a F.length ca], .int .i64 q, .int .i64 0, .int .i64 0, .slice none 0 0] w fun e w' => ∃ v', e = .returned v' ∧ OwnS w' w.heap.size v' (cellsOfQ F q.toNat) ∧ Below w.heap.size w w' := by
  obtain ⟨_, _, e2, e1⟩ := fine_levF hg (q := q.toNat) (by omega)
  have p1 := pow2F e2
  have p2 := pow4F e2
  refine (c_l3CellsF hg a ca w ha (levN F q.toNat) q 0 0 (.slice none 0 0) [] w w.heap.size h0 h1 e1 (by omega) (by omega) (by omega) (by omega) (Below.refl _ _) (Nat.le_refl _) (Nat.le_refl _) (OwnS.nil _ _) (by simp; omega)).mono ?_
  rintro e w' ⟨v', he, hO, hG, _⟩
  exact ⟨v', he, by simpa [cellsOfQ] using hO, ⟨hG.os, hG.tape, hG.output, hG.size, fun k hk => hG.block k hk (by simp [Value.ownBlock])⟩⟩

end Go.Proofs.Ytnabgfbempkgnaa
