/- Texts of this seat, one behind the other: CellC, SortN, CellK. -/
import Derived.Test.YtokemdbgcegjiaaGreatB02
import Derived.StillTailTactics
import Derived.Test.YtokemdbgcegjiaaGreatB13
import Derived.Test.YtokemdbgcegjiaaGreatB03
import Derived.Test.YtokemdbgcegjiaaGreatB14
import Derived.Test.YtokemdbgcegjiaaGreatB07
namespace Go.Proofs.YtokemdbgcegjiaaGreat
open Go.RowKit
set_option linter.unusedVariables false
attribute [local go_sem ↓] Go.wp_at_zero Go.wp_at_succ

set_option maxHeartbeats 2000000 in
set_option maxRecDepth 100000 in
theorem c_l3Cells {F : List Qd} (hg : goodF F = true) (a : Option Addr) (ca : Nat) (W0 : World) (hQ : QSeg W0 a F) : ∀ (n : Nat) (q x y : Int) (v : Value) (out : List Cl) (w : World) (base : Nat),
    0 ≤ q → q < (F.length : Int) → (qa F q.toNat).1 = (n : Int) → -100000 ≤ x → x + 2 ^ n ≤ 100000 → -100000 ≤ y → y + 2 ^ n ≤ 100000 → Below W0.heap.size W0 w → W0.heap.size ≤ base → base ≤ w.heap.size → OwnS w base v out → out.length + 4 ^ n ≤ 4000000 →
    Calls Tryz.prog 86 #[.agg #[.slice a F.length ca], .int .i64 q, .int .i64 x, .int .i64 y, v] w fun e w' => ∃ v', e = .returned v' ∧ OwnS w' base v' (out ++ cellsL F n q.toNat x y) ∧ w.grownBy w' v.ownBlock ∧ Near' w v v' := by
  intro n
  induction n with
  | zero =>
    intro q x y v out w base h0 h1 hlev x0 x1 y0 y1 hB hb0 hb1 hO hlen
    have hq2 := (lev_two hg (q := q.toNat) (by omega)).1 (by simpa using hlev)
    rcases (show q = 0 ∨ q = 1 by omega) with rfl | rfl
    · have HO := hid hO
      have S1 := hid (Stg.new hO [.slice a F.length ca] 25)
      clear hO
      go_enter Tryz.func86, Tryz.ntmps86
      go_wp2
      go_ret
      exact ⟨v, rfl, by simpa [cellsL] using S1.out.own, S1.out.gr, S1.out.near⟩
    · have HO := hid hO
      have S1 := hid (Stg.new hO [.slice a F.length ca] 25)
      clear hO
      have HS2 := hid (S1.out.below ((Below.refl _ _).alloc (Nat.le_refl _) (.cells #[.int .i64 x, .int .i64 y] 41)))
      have hsg := (seg_block (heap_alloc_new (w.alloc (.cells #[.slice a F.length ca] 25)) (.cells #[.int .i64 x, .int .i64 y] 41)) : Seg _ _ [(x, y)])
      rw [show (w.alloc (.cells #[.slice a F.length ca] 25)).heap.size = w.heap.size + 1 by simp] at hsg
      have HSG := hid hsg
      clear hsg
      go_enter Tryz.func86, Tryz.ntmps86
      go_wp2_with (at_builtin; refine wpList_appAt rfl _ _ rfl base _ out [(x, y)] _ 1 rfl HS2.out.own rfl HSG.out (by simp at hlen ⊢; omega) (by simp; omega) ?_; intro v' w2 hO2 hG2 hN2)
      go_ret
      have S3 := HS2.out.step HO.out hO2 hG2 hN2
      exact ⟨v', rfl, by simpa [cellsL] using S3.own, S3.gr, S3.near⟩
  | succ n ih =>
    intro q x y v out w base h0 h1 hlev x0 x1 y0 y1 hB hb0 hb1 hO hlen
    have hq2 : 2 ≤ q := by
      have := (lev_two hg (q := q.toNat) (by omega))
      rw [hlev] at this
      have h3 : ¬ q.toNat < 2 := fun h => by have := this.2 h; omega
      omega
    obtain ⟨k4, l1, l5, kin, klev⟩ := good_quad hg (q := q.toNat) (by omega) (by omega)
    obtain ⟨b1, o1, ak, ck, rfl, hb1', p1, p2, p3, p4⟩ := hQ q.toNat (by omega)
    obtain ⟨bk, ok, rfl, hbk, kc0⟩ := p3 0 (by omega)
    have d0 : (q == 0) = false := by simp; omega
    have d1 : (q == 1) = false := by simp; omega
    have S1 := hid (Stg.new hO [.slice (some ⟨b1, o1, none⟩) F.length ca] 25)
    have c1 := (((S1.out.old hO hB hb0).cell (p := ⟨b1, o1 + q.toNat * 2, none⟩) hb1').trans p1)
    have c2 := (((S1.out.old hO hB hb0).cell (p := ⟨b1, o1 + q.toNat * 2 + 1, none⟩) hb1').trans p2)
    rw [hlev] at c1
    obtain ⟨_, _, e1, _, kc1⟩ := p3 1 (by omega)
    obtain ⟨_, _, e2, _, kc2⟩ := p3 2 (by omega)
    obtain ⟨_, _, e3, _, kc3⟩ := p3 3 (by omega)
    simp only [Option.some.injEq, Addr.mk.injEq, and_true] at e1 e2 e3
    obtain ⟨rfl, rfl⟩ := e1
    obtain ⟨rfl, rfl⟩ := e2
    obtain ⟨rfl, rfl⟩ := e3
    rw [Nat.add_zero] at kc0
    have HIH := hid ih
    have HB := hid hB
    have HO := hid hO
    have hn5 : n < 5 := by omega
    have hpos := pow_pos' n
    have hle : (2 : Int) ^ n ≤ 16 := by
      rcases (show n = 0 ∨ n = 1 ∨ n = 2 ∨ n = 3 ∨ n = 4 by omega) with rfl | rfl | rfl | rfl | rfl <;> decide
    have HW := hid (show wrap64 ((2 : Int) ^ n) = 2 ^ n by unfold wrap64; omega)
    have h4 : (4 : Nat) ^ (n + 1) = 4 * 4 ^ n := by rw [Nat.pow_succ]; omega
    have hcl := hid (show cellsL F (n + 1) q.toNat x y = cellsL F n (kidq F q.toNat 0) x y ++ cellsL F n (kidq F q.toNat 1) (x + 2 ^ n) y ++ cellsL F n (kidq F q.toNat 2) x (y + 2 ^ n) ++ cellsL F n (kidq F q.toNat 3) (x + 2 ^ n) (y + 2 ^ n) from rfl)
    have L0 := cellsL_len F n (kidq F q.toNat 0) x y
    have L1 := cellsL_len F n (kidq F q.toNat 1) (x + 2 ^ n) y
    have L2 := cellsL_len F n (kidq F q.toNat 2) x (y + 2 ^ n)
    rw [two_pow] at x1 y1
    rw [hlev] at klev
    have i0 := kin 0 (by omega)
    have i1 := kin 1 (by omega)
    have i2 := kin 2 (by omega)
    have i3 := kin 3 (by omega)
    have j0 := klev 0 (by omega)
    have j1 := klev 1 (by omega)
    have j2 := klev 2 (by omega)
    have j3 := klev 3 (by omega)
    simp only [kidq] at j0 j1 j2 j3 L0 L1 L2
    have HJ0 := hid (show (qa F (ia (qa F q.toNat).2 0).toNat).1 = (n : Int) by omega)
    have HJ1 := hid (show (qa F (ia (qa F q.toNat).2 1).toNat).1 = (n : Int) by omega)
    have HJ2 := hid (show (qa F (ia (qa F q.toNat).2 2).toNat).1 = (n : Int) by omega)
    have HJ3 := hid (show (qa F (ia (qa F q.toNat).2 3).toNat).1 = (n : Int) by omega)
    have HL0 := hid L0
    have HL1 := hid L1
    have HL2 := hid L2
    have H4 := hid h4
    have HLEN := hid hlen
    have HK := hid (⟨kc0, kc1, kc2, kc3⟩ : _ ∧ _ ∧ _ ∧ _)
    rw [k4] at c2
    clear j0 j1 j2 j3 klev kin ih hB hO p1 p2 p3 p4 kc0 kc1 kc2 kc3 hQ L0 L1 L2 h4 hlen hlev l1 l5 k4
    have hcl' : Hid (cellsL F (n + 1) q.toNat x y = cellsL F n (ia (qa F q.toNat).2 0).toNat x y ++ cellsL F n (ia (qa F q.toNat).2 1).toNat (x + 2 ^ n) y ++ cellsL F n (ia (qa F q.toNat).2 2).toNat x (y + 2 ^ n) ++ cellsL F n (ia (qa F q.toNat).2 3).toNat (x + 2 ^ n) (y + 2 ^ n)) := hcl
    clear hcl
    generalize ia (qa F q.toNat).2 0 = q0 at *
    generalize ia (qa F q.toNat).2 1 = q1 at *
    generalize ia (qa F q.toNat).2 2 = q2 at *
    generalize ia (qa F q.toNat).2 3 = q3 at *
    go_enter Tryz.func86, Tryz.ntmps86
    go_wp2_with fail
    clear HW c1 c2 d0 d1
    generalize (2 : Int) ^ n = H at *
    generalize w.alloc (.cells #[.slice (some ⟨b1, o1, none⟩) F.length ca] 25) = W1 at *
    have HL := HLEN.out
    rw [H4.out] at HL
    have HLL := hid HL
    clear HL HLEN H4
    have x0 := S1.out.box 0 _ rfl
    have y0' := ((S1.out.old HO.out HB.out hb0).cell (p := ⟨bk, ok, none⟩) hbk).trans HK.out.1
    refine wp_region_still_tail 7 (by kernel_rfl) (by kernel_rfl) ?_
    simp only [List.take_succ_cons, List.take_zero, List.drop_succ_cons, List.drop_zero]
    iterate 7 still_step
    refine wpStill_nil ?_
    clear x0 y0'
    go_wp2_with fail
    refine (HIH.out q0 x y _ _ _ base (by omega) (by omega) HJ0.out (by omega) (by omega) (by omega) (by omega) (S1.out.drew.old HO.out HB.out hb0) hb0 (Nat.le_trans hb1 S1.out.drew.gr.size) S1.out.drew.own (by have := HLL.out; omega)).mono ?_
    rintro e W2 ⟨v2, rfl, hO2, hG2, hN2⟩
    replace S1 := hid (S1.out.drew.step HO.out hO2 hG2 hN2)
    clear hO2 hG2 hN2
    go_wp2_with fail
    have x0 := S1.out.box 0 _ rfl
    have y0' := ((S1.out.old HO.out HB.out hb0).cell (p := ⟨bk, ok + 1, none⟩) hbk).trans HK.out.2.1
    refine wp_region_still_tail 9 (by kernel_rfl) (by kernel_rfl) ?_
    simp only [List.take_succ_cons, List.take_zero, List.drop_succ_cons, List.drop_zero]
    iterate 9 still_step
    refine wpStill_nil ?_
    clear x0 y0'
    go_wp2_with fail
    refine (HIH.out q1 (x + H) y _ _ _ base (by omega) (by omega) HJ1.out (by omega) (by omega) (by omega) (by omega) (S1.out.drew.old HO.out HB.out hb0) hb0 (Nat.le_trans hb1 S1.out.drew.gr.size) S1.out.drew.own (by have := HLL.out; have := HL0.out; rw [List.length_append]; omega)).mono ?_
    rintro e W2 ⟨v2, rfl, hO2, hG2, hN2⟩
    replace S1 := hid (S1.out.drew.step HO.out hO2 hG2 hN2)
    clear hO2 hG2 hN2
    go_wp2_with fail
    have x0 := S1.out.box 0 _ rfl
    have y0' := ((S1.out.old HO.out HB.out hb0).cell (p := ⟨bk, ok + 2, none⟩) hbk).trans HK.out.2.2.1
    refine wp_region_still_tail 9 (by kernel_rfl) (by kernel_rfl) ?_
    simp only [List.take_succ_cons, List.take_zero, List.drop_succ_cons, List.drop_zero]
    iterate 9 still_step
    refine wpStill_nil ?_
    clear x0 y0'
    go_wp2_with fail
    refine (HIH.out q2 x (y + H) _ _ _ base (by omega) (by omega) HJ2.out (by omega) (by omega) (by omega) (by omega) (S1.out.drew.old HO.out HB.out hb0) hb0 (Nat.le_trans hb1 S1.out.drew.gr.size) S1.out.drew.own (by have := HLL.out; have := HL0.out; have := HL1.out; rw [List.length_append, List.length_append]; omega)).mono ?_
    rintro e W2 ⟨v2, rfl, hO2, hG2, hN2⟩
    replace S1 := hid (S1.out.drew.step HO.out hO2 hG2 hN2)
    clear hO2 hG2 hN2
    go_wp2_with fail
    have x0 := S1.out.box 0 _ rfl
    have y0' := ((S1.out.old HO.out HB.out hb0).cell (p := ⟨bk, ok + 3, none⟩) hbk).trans HK.out.2.2.2
    refine wp_region_still_tail 11 (by kernel_rfl) (by kernel_rfl) ?_
    simp only [List.take_succ_cons, List.take_zero, List.drop_succ_cons, List.drop_zero]
    iterate 11 still_step
    refine wpStill_nil ?_
    clear x0 y0'
    go_wp2_with fail
    refine (HIH.out q3 (x + H) (y + H) _ _ _ base (by omega) (by omega) HJ3.out (by omega) (by omega) (by omega) (by omega) (S1.out.drew.old HO.out HB.out hb0) hb0 (Nat.le_trans hb1 S1.out.drew.gr.size) S1.out.drew.own (by have := HLL.out; have := HL0.out; have := HL1.out; have := HL2.out; rw [List.length_append, List.length_append, List.length_append]; omega)).mono ?_
    rintro e W2 ⟨v2, rfl, hO2, hG2, hN2⟩
    replace S1 := hid (S1.out.drew.step HO.out hO2 hG2 hN2)
    clear hO2 hG2 hN2
    go_wp2_with fail
    go_ret
    refine ⟨_, rfl, ?_, S1.out.gr, S1.out.near⟩
    rw [hcl'.out]
    simpa [List.append_assoc] using S1.out.own

end Go.Proofs.YtokemdbgcegjiaaGreat

namespace Go.Proofs.YtokemdbgcegjiaaGreat
open Go.RowKit
set_option linter.unusedVariables false
attribute [local go_sem ↓] Go.wp_at_zero Go.wp_at_succ

set_option maxHeartbeats 1000000 in
theorem c_insNil (f : Value) (w : World) : Calls Tryz.prog 146 #[.slice none 0 0, .int .i64 0, .int .i64 0, f] w fun e w' => e = .returned (.tuple #[]) ∧ w' = w := by
  go_enter Tryz.func146, Tryz.ntmps146
  go_wp2_with fail
  go_loopw [8] (fun i wr => i = .int .i64 1 ∧ wr = w) (fun _ _ => 0)
  case atStart => exact ⟨rfl, rfl⟩
  case round =>
    obtain ⟨rfl, rfl⟩ := hrel
    go_wp2_with fail
    go_end0
    exact ⟨rfl, rfl⟩
set_option maxHeartbeats 1000000 in
theorem c_bitsLen0 (w : World) : Calls Tryz.prog 134 #[.int .u64 0] w fun e w' => e = .returned (.int .i64 0) ∧ w' = w := by
  go_enter Tryz.func134, Tryz.ntmps134
  go_wp2
  go_ret
  exact ⟨by kernel_rfl, rfl⟩
set_option maxHeartbeats 1000000 in
theorem c_pdqNil (f : Value) (w : World) : Calls Tryz.prog 133 #[.slice none 0 0, .int .i64 0, .int .i64 0, .int .i64 0, f] w fun e w' => e = .returned (.tuple #[]) ∧ w' = w := by
  go_enter Tryz.func133, Tryz.ntmps133
  go_wp2_with fail
  go_loopw [1, 2] (fun i j wr => i = .int .i64 0 ∧ j = .int .i64 0 ∧ wr = w) (fun _ _ _ => 0)
  case atStart => exact ⟨rfl, rfl, rfl⟩
  case round =>
    obtain ⟨rfl, rfl, rfl⟩ := hrel
    go_wp2_with fail
    refine (c_insNil _ _).mono ?_
    rintro e w' ⟨rfl, rfl⟩
    go_wp2_with fail
    refine bodyPost_ret (results_none rfl _ _ _) rfl ?_
    exact ⟨rfl, rfl⟩
set_option maxHeartbeats 1000000 in
theorem c_sortNil (f : Value) (w : World) : Calls Tryz.prog 110 #[.slice none 0 0, f] w fun e w' => e = .returned (.tuple #[]) ∧ w' = w := by
  go_enter Tryz.func110, Tryz.ntmps110
  go_wp2_with (first | (go_at_call 134; refine (c_bitsLen0 _).mono ?_; rintro e w' ⟨rfl, rfl⟩) | (go_at_call 133; refine (c_pdqNil _ _).mono ?_; rintro e w' ⟨rfl, rfl⟩))
  go_end0
  exact ⟨rfl, rfl⟩

end Go.Proofs.YtokemdbgcegjiaaGreat

namespace Go.Proofs.YtokemdbgcegjiaaGreat
open Go.RowKit Go.Maps
set_option linter.unusedVariables false
set_option linter.unusedSimpArgs false
attribute [local go_sem ↓] Go.wp_at_zero Go.wp_at_succ

theorem ris_of_sorted {l : List Cl} (hs : Sorted l) (hn : l.Nodup) : risTo l l.length = true := by
  refine ris_of fun i hi => ?_
  have h1 := hs i (i + 1) (by omega) hi
  have hne : at_ l i ≠ at_ l (i + 1) := by
    intro e
    rw [List.nodup_iff_pairwise_ne, List.pairwise_iff_getElem] at hn
    have := hn i (i + 1) (by omega) hi (by omega)
    simp only [at_, List.getD_eq_getElem?_getD, List.getElem?_eq_getElem hi, List.getElem?_eq_getElem (show i < l.length by omega), Option.getD_some] at e
    exact this e
  exact ltC_total h1 (Ne.symm hne)

theorem cellsOfQ_len {F : List Qd} (hg : goodF F = true) {q : Nat} (hq : q < F.length) : (cellsOfQ F q).length ≤ 1024 := by
  have h1 := cellsL_len F (levN F q) q 0 0
  have h2 := lev_nonneg hg hq
  have h3 : levN F q ≤ 5 := by unfold levN; omega
  have h4 : 4 ^ levN F q ≤ 4 ^ 5 := Nat.pow_le_pow_right (by omega) h3
  unfold cellsOfQ
  omega
theorem pow_le_32 {n : Nat} (h : n ≤ 5) : (2 : Int) ^ n ≤ 32 := by
  rcases (show n = 0 ∨ n = 1 ∨ n = 2 ∨ n = 3 ∨ n = 4 ∨ n = 5 by omega) with rfl | rfl | rfl | rfl | rfl | rfl <;> decide
theorem pow4_le {n : Nat} (h : n ≤ 5) : (4 : Nat) ^ n ≤ 1024 := by
  rcases (show n = 0 ∨ n = 1 ∨ n = 2 ∨ n = 3 ∨ n = 4 ∨ n = 5 by omega) with rfl | rfl | rfl | rfl | rfl | rfl <;> decide
theorem levN_eq {F : List Qd} (hg : goodF F = true) {q : Int} (h0 : 0 ≤ q) (h1 : q < (F.length : Int)) : (qa F q.toNat).1 = (levN F q.toNat : Int) ∧ levN F q.toNat ≤ 5 := by
  have := lev_nonneg hg (q := q.toNat) (by omega)
  unfold levN
  omega

/-- All of a quad's cells, from the first corner on, put behind none. -/
theorem c_l3CellsAll {F : List Qd} (hg : goodF F = true) (a : Option Addr) (ca : Nat) (q : Int) (w : World) (ha : QSeg w a F) (h0 : 0 ≤ q) (h1 : q < (F.length : Int)) :
    Calls Tryz.prog 86 #[.agg #[.slice a F.length ca], .int .i64 q, .int .i64 0, .int .i64 0, .slice none 0 0] w fun e w' => ∃ v', e = .returned v' ∧ OwnS w' w.heap.size v' (cellsOfQ F q.toNat) ∧ Below w.heap.size w w' := by
  obtain ⟨e1, e2⟩ := levN_eq hg h0 h1
  have p1 := pow_le_32 e2
  have p2 := pow4_le e2
  refine (c_l3Cells hg a ca w ha (levN F q.toNat) q 0 0 (.slice none 0 0) [] w w.heap.size h0 h1 e1 (by omega) (by omega) (by omega) (by omega) (Below.refl _ _) (Nat.le_refl _) (Nat.le_refl _) (OwnS.nil _ _) (by simp; omega)).mono ?_
  rintro e w' ⟨v', he, hO, hG, _⟩
  exact ⟨v', he, by simpa [cellsOfQ] using hO, ⟨hG.os, hG.tape, hG.output, hG.size, fun k hk => hG.block k hk (by simp [Value.ownBlock])⟩⟩
theorem c_appendCellsAll {F : List Qd} (hg : goodF F = true) (q : Int) (w : World) {b0 p g cap mb : Nat} (hG : Grv w b0 p g cap mb F) (h0 : 0 ≤ q) (h1 : q < (F.length : Int)) :
    Calls Tryz.prog 109 #[.pointer (some ⟨p, 0, none⟩), .slice none 0 0, .int .i64 q, .agg #[.int .i64 0, .int .i64 0]] w fun e w' => ∃ v', e = .returned v' ∧ OwnS w' w.heap.size v' (cellsOfQ F q.toNat) ∧ Below w.heap.size w w' := by
  obtain ⟨e1, e2⟩ := levN_eq hg h0 h1
  have p1 := pow_le_32 e2
  have p2 := pow4_le e2
  refine (c_appendCells hg hG (levN F q.toNat) q 0 0 (.slice none 0 0) [] w w.heap.size h0 h1 e1 (by omega) (by omega) (by omega) (by omega) (Below.refl _ _) (Nat.le_refl _) (Nat.le_refl _) (OwnS.nil _ _) (by simp; omega)).mono ?_
  rintro e w' ⟨v', he, hO, hG, _⟩
  exact ⟨v', he, by simpa [cellsOfQ] using hO, ⟨hG.os, hG.tape, hG.output, hG.size, fun k hk => hG.block k hk (by simp [Value.ownBlock])⟩⟩

/-- Sorting cells that lie in memory of the call's own. -/
theorem c_sortAny (base : Nat) (v : Value) (l : List Cl) (w : World) (h : OwnS w base v l) (hl : l.length ≤ 4194304) (hn : l.Nodup) :
    Calls Tryz.prog 110 #[v, .func (.func 111) #[] #[]] w fun e w' =>
      e = .returned (.tuple #[]) ∧ OwnS w' base v (ordL l) ∧ w.grownBy w' v.ownBlock := by
  rcases h.2 with ⟨rfl, hz⟩ | ⟨g, cap, cur, rfl, _⟩
  · have hl0 : l = [] := List.eq_nil_of_length_eq_zero hz
    subst hl0
    refine (c_sortNil _ w).mono ?_
    rintro e w' ⟨rfl, rfl⟩
    have e0 : ordL ([] : List Cl) = [] := ordL_eq rfl (fun c => by simp)
    rw [e0]
    exact ⟨rfl, h, grown_refl _ _⟩
  · refine (c_sortOwn base g cap l w h hl).mono ?_
    rintro e w' ⟨rfl, l', hp, hs, hO, hG, hlen⟩
    have e0 : ordL l = l' := ordL_eq (ris_of_sorted hs (hp.nodup_iff.2 hn)) (fun c => hp.mem_iff)
    rw [e0]
    rw [hlen] at hO
    exact ⟨rfl, hO, hG⟩

set_option maxHeartbeats 1000000 in
theorem c_iCells {F : List Qd} (hg : goodF F = true) (q : Int) (w : World) {b0 p g cap mb : Nat} (hG : Grv w b0 p g cap mb F) (h0 : 0 ≤ q) (h1 : q < (F.length : Int)) :
    Calls Tryz.prog 65 #[.pointer (some ⟨p, 0, none⟩), .int .i64 q] w fun e w' => ∃ v', e = .returned v' ∧ OwnS w' w.heap.size v' (ordL (cellsOfQ F q.toNat)) ∧ Below w.heap.size w w' := by
  have HC := hid (c_appendCellsAll hg q w hG h0 h1)
  have hln := cellsOfQ_len hg (q := q.toNat) (by omega)
  have HND := hid (show (cellsOfQ F q.toNat).Nodup from cellsL_nodup _ _ _ _ _)
  clear hG
  go_enter Tryz.func65, Tryz.ntmps65
  go_wp2_with fail
  refine HC.out.mono ?_
  rintro e w1 ⟨v1, rfl, hO, hB⟩
  have HB := hid hB
  have HO := hid hO
  clear HC hO hB
  go_wp2_with fail
  refine (c_sortAny w.heap.size v1 _ w1 HO.out (by omega) HND.out).mono ?_
  rintro e w2 ⟨rfl, hO2, hG2⟩
  have HO2 := hid hO2
  have HB2 := hid (HB.out.grown hG2 HB.out.size fun k hk => (HO.out.lt k hk).1)
  clear hO2 hG2
  go_wp2_with fail
  go_ret
  exact ⟨_, rfl, HO2.out, HB2.out⟩

/-- The cells that CellsIn tells. -/
noncomputable def cinV (F : List Qd) (q : Int) : List Cl := if thereB F q then ordL (cellsOfQ F q.toNat) else []
/-- The number that CountOf tells. -/
def cntV (F : List Qd) (q : Int) : Int := if thereB F q then ((cellsOfQ F q.toNat).length : Int) else 0
theorem ordL_facts {l : List Cl} (h : ∃ l', risTo l' l'.length = true ∧ ∀ c, c ∈ l' ↔ c ∈ l) : risTo (ordL l) (ordL l).length = true ∧ ∀ c, c ∈ ordL l ↔ c ∈ l := by
  obtain ⟨l', h1, h2⟩ := h
  rw [ordL_eq h1 h2]
  exact ⟨h1, h2⟩

set_option maxHeartbeats 1000000 in
theorem c_iCellsIn (a : Option Addr) (F : List Qd) (ca : Nat) (q : Int) (w : World) (ha : QSeg w a F) (hl : F.length ≤ 1048576) (hk : KidsLe F) (hca : F.length ≤ ca) (hcm : ca ≤ 9223372036854775807) :
    Calls Tryz.prog 14 #[.agg #[.slice a F.length ca], .int .i64 q] w fun e w' => ∃ v, e = .returned (.tuple #[v, .bool (thereB F q)]) ∧ OwnS w' w.heap.size v (cinV F q) ∧ Below w.heap.size w w' := by
  have BX := hid (Box1.new w (.slice a F.length ca) 25)
  have HC := hid (c_groveOf a F ca _ (ha.below BX.out.2.2) hl hk hca hcm)
  clear ha
  cases hg : goodF F
  · have HT : Hid (thereB F q = false) := by simp [Hid, thereB, hg]
    have HV : Hid (cinV F q = []) := by simp [Hid, cinV, HT.out]
    rw [hg] at HC
    go_enter Tryz.func14, Tryz.ntmps14
    go_wp2_with fail
    refine HC.out.mono ?_
    rintro e w1 ⟨pv, rfl, ho, hb⟩
    clear HC ho
    go_wp2
    go_ret2
    exact ⟨_, by rw [HT.out]; rfl, by rw [HV.out]; exact OwnS.nil _ _, (BX.out.step hb).2.2⟩
  · rw [hg] at HC
    have HG := hid hg
    go_enter Tryz.func14, Tryz.ntmps14
    go_wp2_with fail
    refine HC.out.mono ?_
    rintro e w1 ⟨pv, rfl, ho, hb⟩
    have X1 := hid (BX.out.step hb)
    clear HC hb BX
    rcases ho with ⟨_, p, g, cap, mb, base, _, rfl, hGr⟩ | ⟨e, _⟩
    · have H1 := hid hGr
      cases hin : inB 0 ((F.length : Int) - 1) q
      · have HT : Hid (thereB F q = false) := by simp [Hid, thereB, hin]
        have HV : Hid (cinV F q = []) := by simp [Hid, cinV, HT.out]
        have HH := hid (c_has' q false w1 hin H1.out)
        clear hGr hin hg
        go_wp2_with fail
        refine HH.out.mono ?_
        rintro e w2 ⟨rfl, hb⟩
        go_wp2
        go_ret2
        exact ⟨_, by rw [HT.out]; rfl, by rw [HV.out]; exact OwnS.nil _ _, (X1.out.step hb).2.2⟩
      · have HT : Hid (thereB F q = true) := by simp [Hid, thereB, hin, hg]
        have HV : Hid (cinV F q = ordL (cellsOfQ F q.toNat)) := by simp [Hid, cinV, HT.out]
        have HH := hid (c_has' q true w1 hin H1.out)
        have hbd := inB_bd hin
        clear hGr hin hg
        go_wp2_with fail
        refine HH.out.mono ?_
        rintro e w2 ⟨rfl, hb⟩
        have H2 := hid (H1.out.below hb)
        have X2 := hid (X1.out.step hb)
        clear HH H1 X1 hb
        go_wp2_with fail
        refine (c_iCells HG.out q w2 H2.out (by omega) (by omega)).mono ?_
        rintro e w3 ⟨v3, rfl, hO3, hB3⟩
        have HO3 := hid hO3
        have X3 := hid (X2.out.step hB3)
        have HSZ := hid X2.out.2.2.size
        clear hO3 hB3
        go_wp2_with fail
        go_ret2
        exact ⟨_, by rw [HT.out]; rfl, by rw [HV.out]; exact HO3.out.mono HSZ.out, X3.out.2.2⟩
    · rw [HG.out] at e; cases e

theorem first_no (p : Nat → Bool) : ∀ n, ∃ k, k ≤ n ∧ (∀ i, i < k → p i = true) ∧ (k < n → p k = false)
  | 0 => ⟨0, Nat.le_refl _, fun i hi => by omega, fun h => by omega⟩
  | n + 1 => by
    obtain ⟨k, h1, h2, h3⟩ := first_no p n
    by_cases h : k < n
    · exact ⟨k, by omega, h2, fun _ => h3 h⟩
    · obtain rfl : k = n := by omega
      cases hp : p k
      · exact ⟨k, by omega, h2, fun _ => hp⟩
      · refine ⟨k + 1, by omega, fun i hi => ?_, fun h => by omega⟩
        by_cases e : i = k
        · rw [e]; exact hp
        · exact h2 i (by omega)
theorem ord_exists : ∀ l : List Cl, ∃ l' : List Cl, risTo l' l'.length = true ∧ ∀ c, c ∈ l' ↔ c ∈ l
  | [] => ⟨[], rfl, fun c => by simp⟩
  | x :: r => by
    obtain ⟨m, h1, h2⟩ := ord_exists r
    by_cases hx : x ∈ m
    · refine ⟨m, h1, fun c => ?_⟩
      rw [h2 c, List.mem_cons]
      constructor
      · exact .inr
      · rintro (rfl | h)
        · exact (h2 _).1 hx
        · exact h
    · obtain ⟨k, k1, k2, k3⟩ := first_no (fun i => ltC (at_ m i) x) m.length
      have hw := with_new (c := x) h1 k1 k2 (fun h => ⟨k3 h, fun e => hx (by rw [← e]; simp [at_, h])⟩)
      exact ⟨_, hw.1, fun c => by rw [hw.2.1 c, h2 c, List.mem_cons]⟩
theorem ordL_len {l : List Cl} (hn : l.Nodup) : (ordL l).length = l.length := by
  obtain ⟨h1, h2⟩ := ordL_facts (ord_exists l)
  exact ((List.perm_ext_iff_of_nodup (ris_nodup h1) hn).2 h2).length_eq
theorem cin_len (F : List Qd) (q : Int) : ((cinV F q).length : Int) = cntV F q := by
  cases ht : thereB F q
  · simp [cinV, cntV, ht]
  · simp only [cinV, cntV, ht, if_true]
    rw [ordL_len (l := cellsOfQ F q.toNat) (cellsL_nodup _ _ _ _ _)]

theorem cinV_le (F : List Qd) (q : Int) : (cinV F q).length ≤ 1048576 := by
  have h := cin_len F q
  cases ht : thereB F q
  · simp [cinV, ht]
  · obtain ⟨hg, h0, h1⟩ := there_bd ht
    have h2 := cellsOfQ_len hg (q := q.toNat) (by omega)
    simp only [cntV, ht, if_true] at h
    omega

end Go.Proofs.YtokemdbgcegjiaaGreat
