/- What the program's appendCells answers. -/
import Derived.Test.YtnabgfbempkgnaaAppAt
import Derived.Test.YtnabgfbempkgnaaCellQ
import Derived.Test.YtnabgfbempkgnaaGrove
import Derived.Deep.RegionHeld3
namespace Go.Proofs.Ytnabgfbempkgnaa
open Go.RowKit
set_option linter.unusedVariables false
set_option linter.unusedSimpArgs false
attribute [local go_sem ↓] Go.wp_at_zero Go.wp_at_succ

/-- The corner of kid i. -/
def kx (n i : Nat) (x : Int) : Int := x + ((i % 2 : Nat) : Int) * 2 ^ n
def ky (n i : Nat) (y : Int) : Int := y + ((i / 2 : Nat) : Int) * 2 ^ n

set_option maxHeartbeats 1000000 in
set_option maxRecDepth 100000 in
theorem c_kidCorner (n i : Nat) (hn : n < 5) (hi : i < 4) (x y : Int) (w : World) (x0 : -100000 ≤ x) (x1 : x ≤ 100000) (y0 : -100000 ≤ y) (y1 : y ≤ 100000) :
    Calls Try.prog 97 #[.int .i64 ((n : Int) + 1), .agg #[.int .i64 x, .int .i64 y], .int .i64 (i : Int)] w fun e w' => e = .returned (.agg #[.int .i64 (kx n i x), .int .i64 (ky n i y)]) ∧ Below w.heap.size w w' := by
  have hpos := pow_pos' n
  have hle : (2 : Int) ^ n ≤ 16 := by
    rcases (show n = 0 ∨ n = 1 ∨ n = 2 ∨ n = 3 ∨ n = 4 by omega) with rfl | rfl | rfl | rfl | rfl <;> decide
  have B2 := hid (((Below.refl w.heap.size w).alloc (Nat.le_refl _) (.cells #[.int .i64 x, .int .i64 y] 44)).alloc (by simp) (.cells #[.int .i64 0, .int .i64 0] 44))
  rcases (show i = 0 ∨ i = 1 ∨ i = 2 ∨ i = 3 by omega) with rfl | rfl | rfl | rfl
  all_goals
    go_enter Try.func97, Try.ntmps97
    go_wp2
    refine bodyPost_ret (v := .agg #[.int .i64 (kx n _ x), .int .i64 (ky n _ y)]) (by simp [results, Try.results97, go_sem, kx, ky]) rfl ⟨rfl, ((Below.refl _ _).alloc (Nat.le_refl _) _).alloc (by simp) _⟩

/-- The cells of the first i kids. -/
def cellsTo (F : List Qd) (n q : Nat) (x y : Int) : Nat → List Cl
  | 0 => []
  | i + 1 => cellsTo F n q x y i ++ cellsL F n (kidq F q i) (kx n i x) (ky n i y)
theorem cellsTo_four (F : List Qd) (n q : Nat) (x y : Int) : cellsTo F n q x y 4 = cellsL F (n + 1) q x y := by
  simp [cellsTo, cellsL, kx, ky]
theorem cellsTo_len (F : List Qd) (n q : Nat) (x y : Int) : ∀ i, (cellsTo F n q x y i).length ≤ i * 4 ^ n
  | 0 => by simp [cellsTo]
  | i + 1 => by
    have h1 := cellsTo_len F n q x y i
    have h2 := cellsL_len F n (kidq F q i) (kx n i x) (ky n i y)
    have h3 : (i + 1) * 4 ^ n = i * 4 ^ n + 4 ^ n := Nat.succ_mul _ _
    simp only [cellsTo, List.length_append]
    omega
theorem Grv.kidAt {w : World} {base p g cap mb : Nat} {G : List Qd} (h : Grv w base p g cap mb G) {i : Nat} (hi : i < G.length) {j : Nat} (hj : j < 4) : w.cell? ⟨g, i * 5 + 1 + j, none⟩ = some (.int .i64 (ia (qa G i).2 j)) := by
  have h1 := World.ownsRow.cellAt h.own (i * 5 + (1 + j)) (by omega)
  have e := nflat_at (G := G) (i := i) (j := 1 + j) hi (by omega)
  rw [show i * 5 + 1 + j = i * 5 + (1 + j) by omega, h1, e]
  rcases (show j = 0 ∨ j = 1 ∨ j = 2 ∨ j = 3 by omega) with rfl | rfl | rfl | rfl <;> rfl

/-- What a round of appendCells reads. -/
theorem seenA {W0 w W : World} {b0 p g cap mb base : Nat} {F : List Qd} {v vi : Value} {x y : Int} {l l0 : List Cl} {q n : Nat} (hG : Grv W0 b0 p g cap mb F) (h : Stg w W base v vi [.int .i64 x, .int .i64 y] l) (hv : OwnS w base v l0) (hB : Below W0.heap.size W0 w) (hb : W0.heap.size ≤ base) (hq : q < F.length) (hlev : (qa F q).1 = (n : Int) + 1) :
    W.cell? ⟨p, 0, none⟩ = some (.slice (some ⟨g, 0, none⟩) F.length cap) ∧ W.cell? ⟨g, q * 5, none⟩ = some (.int .i64 ((n : Int) + 1)) ∧ W.cell? ⟨w.heap.size, 0, none⟩ = some (.int .i64 x) ∧ W.cell? ⟨w.heap.size, 1, none⟩ = some (.int .i64 y) := by
  have G := hG.below (h.old hv hB hb)
  exact ⟨G.c0, by rw [← hlev]; exact G.lev hq, h.box 0 _ rfl, h.box 1 _ rfl⟩

set_option maxHeartbeats 4000000 in
set_option maxRecDepth 100000 in
theorem c_appendCells {F : List Qd} (hg : goodF F = true) {W0 : World} {b0 p g cap mb : Nat} (hG : Grv W0 b0 p g cap mb F) : ∀ (n : Nat) (q x y : Int) (v : Value) (out : List Cl) (w : World) (base : Nat),
    0 ≤ q → q < (F.length : Int) → (qa F q.toNat).1 = (n : Int) → -100000 ≤ x → x + 2 ^ n ≤ 100000 → -100000 ≤ y → y + 2 ^ n ≤ 100000 → Below W0.heap.size W0 w → W0.heap.size ≤ base → base ≤ w.heap.size → OwnS w base v out → out.length + 4 ^ n ≤ 4000000 →
    Calls Try.prog 99 #[.pointer (some ⟨p, 0, none⟩), v, .int .i64 q, .agg #[.int .i64 x, .int .i64 y]] w fun e w' => ∃ v', e = .returned v' ∧ OwnS w' base v' (out ++ cellsL F n q.toNat x y) ∧ w.grownBy w' v.ownBlock ∧ Near' w v v' := by
  intro n
  induction n with
  | zero =>
    intro q x y v out w base h0 h1 hlev x0 x1 y0 y1 hB hb0 hb1 hO hlen
    have hq2 := (lev_two hg (q := q.toNat) (by omega)).1 (by simpa using hlev)
    rcases (show q = 0 ∨ q = 1 by omega) with rfl | rfl
    · have S1 := hid (Stg.new hO [.int .i64 x, .int .i64 y] 44)
      clear hO
      go_enter Try.func99, Try.ntmps99
      go_wp2
      go_ret
      exact ⟨v, rfl, by simpa [cellsL] using S1.out.own, S1.out.gr, S1.out.near⟩
    · have HO := hid hO
      have S1 := hid (Stg.new hO [.int .i64 x, .int .i64 y] 44)
      clear hO
      have HS2 := hid (S1.out.below ((Below.refl _ _).alloc (Nat.le_refl _) (.cells #[.int .i64 x, .int .i64 y] 44)))
      have hsg := (seg_block (heap_alloc_new (w.alloc (.cells #[.int .i64 x, .int .i64 y] 44)) (.cells #[.int .i64 x, .int .i64 y] 44)) : Seg _ _ [(x, y)])
      rw [show (w.alloc (.cells #[.int .i64 x, .int .i64 y] 44)).heap.size = w.heap.size + 1 by simp] at hsg
      have HSG := hid hsg
      clear hsg
      go_enter Try.func99, Try.ntmps99
      go_wp2_with (at_builtin; refine wpList_appAt rfl _ _ rfl base _ out [(x, y)] _ 1 rfl HS2.out.own rfl HSG.out (by simp at hlen ⊢; omega) (by simp; omega) ?_; intro v' w2 hO2 hG2 hN2)
      go_ret
      have S3 := HS2.out.step HO.out hO2 hG2 hN2
      exact ⟨v', rfl, by simpa [cellsL] using S3.own, S3.gr, S3.near⟩
  | succ n ih =>
    intro q x y v out w base h0 h1 hlev x0 x1 y0 y1 hB hb0 hb1 hO hlen
    have hq2 : 2 ≤ q := by
      have := (lev_two hg (q := q.toNat) (by omega))
      rw [hlev] at this
      have h3 : ¬ q.toNat < 2 := fun h => by have := this.2 h; omega
      omega
    obtain ⟨k4, l1, l5, kin, klev⟩ := good_quad hg (q := q.toNat) (by omega) (by omega)
    have d0 : (q == 0) = false := by simp; omega
    have d1 : (q == 1) = false := by simp; omega
    have hn5 : n < 5 := by omega
    have hlev' : (qa F q.toNat).1 = (n : Int) + 1 := by rw [hlev]; omega
    have hqn : q.toNat < F.length := by omega
    have S1 := hid (Stg.new hO [.int .i64 x, .int .i64 y] 44)
    have G1 := hG.below (S1.out.old hO hB hb0)
    have c0 := G1.c0
    have e0 := G1.kidAt (i := q.toNat) (by omega) (j := 0) (by omega)
    have e1 := G1.kidAt (i := q.toNat) (by omega) (j := 1) (by omega)
    have e2 := G1.kidAt (i := q.toNat) (by omega) (j := 2) (by omega)
    have e3 := G1.kidAt (i := q.toNat) (by omega) (j := 3) (by omega)
    rw [Nat.add_zero] at e0
    have hpos := pow_pos' n
    have hle : (2 : Int) ^ n ≤ 16 := by
      rcases (show n = 0 ∨ n = 1 ∨ n = 2 ∨ n = 3 ∨ n = 4 by omega) with rfl | rfl | rfl | rfl | rfl <;> decide
    have H4 := hid (show (4 : Nat) ^ (n + 1) = 4 * 4 ^ n by rw [Nat.pow_succ]; omega)
    rw [two_pow] at x1 y1
    have HIH := hid ih
    have HB := hid hB
    have HO := hid hO
    have HLV := hid hlev'
    have HLEN := hid hlen
    have HKI := hid kin
    have HKL := hid klev
    have HGG := hid hG
    clear ih hB hO hlen hlev hlev' kin klev l1 l5 k4 G1
    go_enter Try.func99, Try.ntmps99
    go_wp2_with fail
    go_loopw [29, 1] (fun i vi wr => ∃ k : Nat, k ≤ 4 ∧ i = .int .i64 k ∧ Hid (Stg w wr base v vi [.int .i64 x, .int .i64 y] (out ++ cellsTo F n q.toNat x y k))) (fun i _ _ => 4 - (intOf i).toNat)
    case atStart => exact ⟨0, by omega, rfl, (by show Stg _ _ _ _ _ _ _; simpa [cellsTo] using S1.out)⟩
    case round =>
      clear S1 c0 e0 e1 e2 e3
      obtain ⟨k, hk, rfl, SG⟩ := hrel
      by_cases hlt : k < 4
      · have hidx := four_index (qa F q.toNat).2 k hlt
        unfold kv at hidx
        have k0 : (0 : Int) ≤ (k : Int) := by omega
        have k1 : (k : Int) < 4 := by omega
        have hki := HKI.out k hlt
        have HKK := hid (show (qa F (ia (qa F q.toNat).2 k).toNat).1 = (n : Int) by have := HKL.out k hlt; rw [HLV.out] at this; unfold kidq at this; omega)
        have HT := hid (show cellsTo F n q.toNat x y (k + 1) = cellsTo F n q.toNat x y k ++ cellsL F n (ia (qa F q.toNat).2 k).toNat (kx n k x) (ky n k y) from rfl)
        have HLN := hid (show (out ++ cellsTo F n q.toNat x y k).length + 4 ^ n ≤ 4000000 by
          have h1 := cellsTo_len F n q.toNat x y k
          have h2 := HLEN.out
          rw [H4.out] at h2
          have h3 : k * 4 ^ n ≤ 3 * 4 ^ n := Nat.mul_le_mul_right _ (by omega)
          rw [List.length_append]; omega)
        have hx : -100000 ≤ kx n k x ∧ kx n k x + 2 ^ n ≤ 100000 := by
          unfold kx
          rcases (show k % 2 = 0 ∨ k % 2 = 1 by omega) with e | e <;> rw [e] <;> simp <;> omega
        have hy : -100000 ≤ ky n k y ∧ ky n k y + 2 ^ n ≤ 100000 := by
          unfold ky
          rcases (show k / 2 = 0 ∨ k / 2 = 1 by omega) with e | e <;> rw [e] <;> simp <;> omega
        have HSN := hid (seenA HGG.out SG.out HO.out HB.out hb0 hqn HLV.out)
        have SD := hid SG.out.drew
        have HSN2 := hid (fun (W : World) (h : Below wr.drew.heap.size wr.drew W) => seenA HGG.out (SD.out.below h) HO.out HB.out hb0 hqn HLV.out)
        have HSN3 := hid (fun (W : World) (vj : Value) (l : List Cl) (h : Stg w W base v vj [.int .i64 x, .int .i64 y] l) => seenA HGG.out h HO.out HB.out hb0 hqn HLV.out)
        have HKC := hid (fun W : World => c_kidCorner n k hn5 hlt x y W x0 (by omega) y0 (by omega))
        generalize hkq : ia (qa F q.toNat).2 k = qk at *
        have HQK := hid hkq
        clear hkq
        obtain ⟨s1, s2, s3, s4⟩ := HSN.out
        go_wp2_with fail
        go_region_held3 (fun w' => w'.cell? ⟨p, 0, none⟩ = some (.slice (some ⟨g, 0, none⟩) F.length cap) ∧ w'.cell? ⟨g, q.toNat * 5, none⟩ = some (.int .i64 ((n : Int) + 1)) ∧ w'.cell? ⟨w.heap.size, 0, none⟩ = some (.int .i64 x) ∧ w'.cell? ⟨w.heap.size, 1, none⟩ = some (.int .i64 y))
          (first | exact HSN.out | exact HSN2.out _ hb2 | exact HSN3.out _ _ _ S3.out | go_keep)
          (first
            | (go_at_call 97; refine (HKC.out _).mono ?_; rintro e w2 ⟨rfl, hb2⟩)
            | (go_at_call 99; refine (HIH.out qk (kx n k x) (ky n k y) _ _ w2 base (by omega) (by omega) HKK.out hx.1 hx.2 hy.1 hy.2 ((SD.out.below hb2).old HO.out HB.out hb0) hb0 (Nat.le_trans hb1 (SD.out.below hb2).gr.size) (SD.out.below hb2).own HLN.out).mono ?_; rintro e w3 ⟨v3, rfl, hO3, hG3, hN3⟩; have S3 := hid ((SD.out.below hb2).step HO.out hO3 hG3 hN3)))
        go_wp2_with fail
        go_roundw
        case rel => exact ⟨k + 1, by omega, by go_num, by (show Stg _ _ _ _ _ _ _; rw [HT.out, ← List.append_assoc]; exact S3.out)⟩
        case measure => simp [intOf]; omega
      · obtain rfl : k = 4 := by omega
        go_wp2_with fail
        go_ret
        refine ⟨_, rfl, ?_, SG.out.gr, SG.out.near⟩
        have := SG.out.own
        rw [cellsTo_four] at this
        exact this

end Go.Proofs.Ytnabgfbempkgnaa
