/- Texts of this seat, one behind the other: IGrid, CellP, IByN. -/
import Derived.Test.YtokemdbgcegjiaaGreatB18
import Derived.Test.YtokemdbgcegjiaaGreatB11
import Derived.Test.YtokemdbgcegjiaaGreatB16
import Derived.Test.YtokemdbgcegjiaaGreatB20
namespace Go.Proofs.YtokemdbgcegjiaaGreat
open Go.RowKit Go.Maps
set_option linter.unusedVariables false
set_option linter.unusedSimpArgs false
attribute [local go_sem ↓] Go.wp_at_zero Go.wp_at_succ

theorem ord_grid {ka kb ja jb : Nat} (h1 : ka < 2) (h2 : kb < 2) (h3 : ja < 2) (h4 : jb < 2) : ordG ((kb * 2 + jb) * 4 + (ka * 2 + ja)) = (kb * 2 + ka) * 4 + (jb * 2 + ja) := by
  unfold ordG; omega
theorem ord_inj {t ka kb ja jb : Nat} (ht : t < 16) (h1 : ka < 2) (h2 : kb < 2) (h3 : ja < 2) (h4 : jb < 2) (h : ordG t = (kb * 2 + ka) * 4 + (jb * 2 + ja)) : t = (kb * 2 + jb) * 4 + (ka * 2 + ja) := by
  have hi : ∀ t, t < 16 → ordG (ordG t) = t := by decide
  have h5 := hi t ht
  rw [h, ord_grid (ka := jb) (kb := kb) (ja := ja) (jb := ka) h4 h2 h3 h1] at h5
  exact h5.symm
theorem gridq_at (F : List Qd) (q : Nat) {ka kb ja jb : Nat} (h1 : ka < 2) (h2 : kb < 2) (h3 : ja < 2) (h4 : jb < 2) : gridq F q ((kb * 2 + jb) * 4 + (ka * 2 + ja)) = kidq F (kidq F q (kb * 2 + ka)) (jb * 2 + ja) := by
  unfold gridq
  rw [show ((kb * 2 + jb) * 4 + (ka * 2 + ja)) / 8 * 2 + ((kb * 2 + jb) * 4 + (ka * 2 + ja)) % 4 / 2 = kb * 2 + ka by omega, show ((kb * 2 + jb) * 4 + (ka * 2 + ja)) / 4 % 2 * 2 + ((kb * 2 + jb) * 4 + (ka * 2 + ja)) % 2 = jb * 2 + ja by omega]
theorem half_two {k : Nat} (h : k < 4) : ∃ b a : Nat, b < 2 ∧ a < 2 ∧ k = b * 2 + a := ⟨k / 2, k % 2, by omega, by omega, by omega⟩

set_option maxHeartbeats 8000000 in
set_option maxRecDepth 100000 in
theorem c_sixteen {L : List Cl} {n q : Nat} (w : World) {base p g cap mb : Nat} {G : List Qd} (hGr : Grows G) (hT : IsT L G (n + 2) q 0 0) (hG : Grv w base p g cap mb G) :
    Calls Tryz.prog 77 #[.pointer (some ⟨p, 0, none⟩), .int .i64 (q : Int)] w fun e w' => e = .returned (.slice (some ⟨w.heap.size, 0, none⟩) 16 16) ∧ IRow w' w.heap.size (gridL G q) ∧ Below w.heap.size w w' := by
  have hq := hT.lt hGr.two
  have hks := hid hT.kids
  have ba := (Below.refl w.heap.size w).alloc (Nat.le_refl _) (.cells (madeCells #[.int .i64 0] 16) 3)
  have HG1 := hid (hG.below ba)
  have HR1 := hid (zeros_row w 16)
  have HB1 := hid ba
  have hmm : ∀ w : World, (Instr.makeSlice 46 (.int .i64 16) (.int .i64 16)).run Tryz.prog w = .ok (.slice (some ⟨w.heap.size, 0, none⟩) 16 16) (w.alloc (.cells (madeCells #[.int .i64 0] 16) 3)) := fun w => run_makeInts 16 (by omega) w
  have HGG := hid hG
  have hpl := hG.box.lt
  have hgl := hG.lt.2
  have HKK := hid (fun (k : Nat) (hk : k < 4) => (⟨(hT.kid k hk).lt hGr.two, fun j hj => (hT.kid k hk).kids.2.2.1 j hj⟩ : kidq G q k < G.length ∧ (∀ j, j < 4 → ia (qa G (kidq G q k)).2 j = (kidq G (kidq G q k) j : Int))))
  have c0 := HG1.out.c0
  have n1 := HG1.out.kidAt hq (j := 0) (by omega)
  have n2 := HG1.out.kidAt hq (j := 1) (by omega)
  have n3 := HG1.out.kidAt hq (j := 2) (by omega)
  have n4 := HG1.out.kidAt hq (j := 3) (by omega)
  rw [Nat.add_zero] at n1
  have i0 : (0 : Int) ≤ (q : Int) := by omega
  have i1 : (q : Int) < (G.length : Int) := by omega
  clear ba hG hT
  go_enter Tryz.func77, Tryz.ntmps77
  go_wp2_with fail
  generalize w.alloc (.cells (madeCells #[.int .i64 0] 16) 3) = W1 at *
  go_loopw [21] (fun i wr => ∃ (k : Nat), k ≤ 4 ∧ i = .int .i64 k ∧ Hid (wr.rowIs w.heap.size 3 16 (fun t => .int .i64 (if ordG t < k * 4 then (gridq G q t : Int) else 0))) ∧ Hid (Below w.heap.size w wr)) (fun i _ => 4 - (intOf i).toNat)
  case atStart => exact ⟨0, by omega, rfl, HR1.out.congr fun j hj => by simp, HB1.out⟩
  case round =>
    clear HR1 HB1 n1 n2 n3 n4 c0 HG1
    obtain ⟨k, hk, rfl, HR, HB⟩ := hrel
    by_cases hlt : k < 4
    · have hidx := four_index (qa G q).2 k hlt
      unfold kv at hidx
      have k0 : (0 : Int) ≤ (k : Int) := by omega
      have k1 : (k : Int) < 4 := by omega
      rw [hks.out.2.2.1 k hlt] at hidx
      obtain ⟨z1, z2⟩ := HKK.out k hlt
      have GW := hid (HGG.out.below HB.out)
      have c0 := GW.out.c0
      have n1 := GW.out.kidAt z1 (j := 0) (by omega)
      have n2 := GW.out.kidAt z1 (j := 1) (by omega)
      have n3 := GW.out.kidAt z1 (j := 2) (by omega)
      have n4 := GW.out.kidAt z1 (j := 3) (by omega)
      rw [Nat.add_zero] at n1
      have j0 : (0 : Int) ≤ ((kidq G q k : Nat) : Int) := by omega
      have j1 : ((kidq G q k : Nat) : Int) < (G.length : Int) := by omega
      have HZ2 := hid z2
      clear z1 z2
      go_wp2_with fail
      go_loopw [33] (fun i wr => ∃ (j : Nat), j ≤ 4 ∧ i = .int .i64 j ∧ Hid (wr.rowIs w.heap.size 3 16 (fun t => .int .i64 (if ordG t < k * 4 + j then (gridq G q t : Int) else 0))) ∧ Hid (Below w.heap.size w wr)) (fun i _ => 4 - (intOf i).toNat)
      case atStart => exact ⟨0, by omega, rfl, HR.out, HB.out⟩
      case round =>
        clear HR HB GW c0 n1 n2 n3 n4 hidx
        obtain ⟨j, hj, rfl, HR, HB⟩ := hrel
        by_cases hjt : j < 4
        · have hidx := four_index (qa G (kidq G q k)).2 j hjt
          unfold kv at hidx
          rw [HZ2.out j hjt] at hidx
          have j2 : (0 : Int) ≤ (j : Int) := by omega
          have j3 : (j : Int) < 4 := by omega
          obtain ⟨kb, ka, kb2, ka2, hkE⟩ := half_two hlt
          obtain ⟨jb, ja, jb2, ja2, hjE⟩ := half_two hjt
          have r1 : Int.tmod (k : Int) 2 = (ka : Int) := by rw [Int.tmod_eq_emod_of_nonneg k0]; omega
          have r2 : Int.tdiv (k : Int) 2 = (kb : Int) := by rw [Int.tdiv_eq_ediv_of_nonneg k0]; omega
          have r3 : Int.tmod (j : Int) 2 = (ja : Int) := by rw [Int.tmod_eq_emod_of_nonneg j2]; omega
          have r4 : Int.tdiv (j : Int) 2 = (jb : Int) := by rw [Int.tdiv_eq_ediv_of_nonneg j2]; omega
          have hI16 : (kb * 2 + jb) * 4 + (ka * 2 + ja) < 16 := by omega
          have c9 := World.rowIs.cell HR.out hI16
          have f9 := World.rowIs.frozen HR.out ((kb * 2 + jb) * 4 + (ka * 2 + ja))
          have b0 : 0 ≤ ((kb : Int) * 2 + (jb : Int)) * 4 + ((ka : Int) * 2 + (ja : Int)) := by omega
          have b1 : ((kb : Int) * 2 + (jb : Int)) * 4 + ((ka : Int) * 2 + (ja : Int)) < 16 := by omega
          have HRS := hid (show (wr.setCell ⟨w.heap.size, (kb * 2 + jb) * 4 + (ka * 2 + ja), none⟩ (.int .i64 (kidq G (kidq G q k) j : Int))).rowIs w.heap.size 3 16 (fun t => .int .i64 (if ordG t < k * 4 + (j + 1) then (gridq G q t : Int) else 0)) from by
            refine (World.rowIs.set HR.out _ _).congr fun t ht => ?_
            have ho := ord_grid ka2 kb2 ja2 jb2
            have hgq := gridq_at G q ka2 kb2 ja2 jb2
            rw [← hkE, ← hjE] at ho hgq
            by_cases e : t = (kb * 2 + jb) * 4 + (ka * 2 + ja)
            · subst e
              rw [if_pos rfl, if_pos (by omega), hgq]
            · rw [if_neg e]
              have : ordG t ≠ k * 4 + j := fun h => e (ord_inj ht ka2 kb2 ja2 jb2 (by rw [h, hkE, hjE]))
              have : (ordG t < k * 4 + (j + 1)) = (ordG t < k * 4 + j) := by apply propext; omega
              simp [this])
          have HBS := hid (HB.out.setCell (p := ⟨w.heap.size, (kb * 2 + jb) * 4 + (ka * 2 + ja), none⟩) (Nat.le_refl _) (.int .i64 (kidq G (kidq G q k) j : Int)))
          clear HR HB
          generalize kidq G (kidq G q k) j = KJ at *
          clear hkE hjE
          go_wp2_with fail
          go_roundw
          case rel => exact ⟨j + 1, by omega, by go_num, HRS.out, HBS.out⟩
          case measure => simp [intOf]; omega
        · obtain rfl : j = 4 := by omega
          go_wp2
          go_roundw
          case rel => exact ⟨k + 1, by omega, by go_num, by rw [show (k + 1) * 4 = k * 4 + 4 by omega]; exact HR.out, HB.out⟩
          case measure => simp [intOf]; omega
    · obtain rfl : k = 4 := by omega
      go_wp2
      go_ret
      refine ⟨rfl, ?_, HB.out⟩
      unfold IRow
      rw [gridL_len]
      refine HR.out.congr fun t ht => ?_
      rw [gridL_at G q ht, if_pos (by unfold ordG; omega)]

end Go.Proofs.YtokemdbgcegjiaaGreat

namespace Go.Proofs.YtokemdbgcegjiaaGreat
open Go.RowKit Go.Maps
set_option linter.unusedVariables false
set_option linter.unusedSimpArgs false
attribute [local go_sem ↓] Go.wp_at_zero Go.wp_at_succ

theorem isP_kids {P : Cl → Bool} {F : List Qd} (hF : Grows F) {n q : Nat} {x y : Int} (h : IsP P F (n + 1) q x y) : (qa F q).2.length = 4 ∧ (1 : Int) ≤ (n : Int) + 1 ∧ (∀ i, i < 4 → 0 ≤ ia (qa F q).2 i ∧ ia (qa F q).2 i < (F.length : Int)) ∧ (∀ i, i < 4 → (qa F (kidq F q i)).1 = (qa F q).1 - 1) ∧ ∀ i, i < 4 → IsP P F n (ia (qa F q).2 i).toNat (kx n i x) (ky n i y) := by
  obtain ⟨h2, hq, _⟩ := id h
  refine ⟨hF.len q h2 hq, by omega, fun i hi => hF.kid q h2 hq i hi, fun i hi => ?_, fun i hi => h.kid i hi⟩
  have := (h.kid i hi).lev hF
  have := h.lev hF
  omega
theorem isP_mem {P : Cl → Bool} {F : List Qd} : ∀ {n q : Nat} {x y : Int}, IsP P F n q x y → ∀ c : Cl, c ∈ cellsL F n q x y ↔ (x ≤ c.1 ∧ c.1 < x + 2 ^ n ∧ y ≤ c.2 ∧ c.2 < y + 2 ^ n) ∧ P c = true
  | 0, q, x, y, h, c => by
    unfold IsP at h
    simp only [cellsL, h]
    cases hp : P (x, y)
    · simp
      intro h1 h2 h3 h4
      obtain rfl : c = (x, y) := Prod.ext (by dsimp only; omega) (by dsimp only; omega)
      exact hp
    · simp
      constructor
      · rintro rfl
        exact ⟨⟨Int.le_refl _, by dsimp only; omega, Int.le_refl _, by dsimp only; omega⟩, hp⟩
      · rintro ⟨⟨h1, h2, h3, h4⟩, _⟩
        exact Prod.ext (by dsimp only; omega) (by dsimp only; omega)
  | n + 1, q, x, y, ⟨_, _, k0, k1, k2, k3, hk, a, b, d, e⟩, c => by
    have e0 : kidq F q 0 = k0 := by simp [kidq, hk, ia]
    have e1 : kidq F q 1 = k1 := by simp [kidq, hk, ia]
    have e2 : kidq F q 2 = k2 := by simp [kidq, hk, ia]
    have e3 : kidq F q 3 = k3 := by simp [kidq, hk, ia]
    have hp := two_pow n
    have hpos := pow_pos' n
    simp only [cellsL, List.mem_append, e0, e1, e2, e3, isP_mem a, isP_mem b, isP_mem d, isP_mem e]
    rw [hp]
    constructor
    · rintro (((h | h) | h) | h) <;> exact ⟨by omega, h.2⟩
    · rintro ⟨h, hc⟩
      by_cases u : c.1 < x + 2 ^ n
      · by_cases v : c.2 < y + 2 ^ n
        · exact .inl (.inl (.inl ⟨by omega, hc⟩))
        · exact .inl (.inr ⟨by omega, hc⟩)
      · by_cases v : c.2 < y + 2 ^ n
        · exact .inl (.inl (.inr ⟨by omega, hc⟩))
        · exact .inr ⟨by omega, hc⟩

set_option maxHeartbeats 4000000 in
set_option maxRecDepth 100000 in
theorem c_appendCellsP {P : Cl → Bool} {F : List Qd} (hF : Grows F) {W0 : World} {b0 p g cap mb : Nat} (hG : Grv W0 b0 p g cap mb F) : ∀ (n : Nat) (q x y : Int) (v : Value) (out : List Cl) (w : World) (base : Nat),
    0 ≤ q → q < (F.length : Int) → (qa F q.toNat).1 = (n : Int) → IsP P F n q.toNat x y → -100000 ≤ x → x + 2 ^ n ≤ 100000 → -100000 ≤ y → y + 2 ^ n ≤ 100000 → Below W0.heap.size W0 w → W0.heap.size ≤ base → base ≤ w.heap.size → OwnS w base v out → out.length + 4 ^ n ≤ 4000000 →
    Calls Tryz.prog 109 #[.pointer (some ⟨p, 0, none⟩), v, .int .i64 q, .agg #[.int .i64 x, .int .i64 y]] w fun e w' => ∃ v', e = .returned v' ∧ OwnS w' base v' (out ++ cellsL F n q.toNat x y) ∧ w.grownBy w' v.ownBlock ∧ Near' w v v' := by
  intro n
  induction n with
  | zero =>
    intro q x y v out w base h0 h1 hlev hT x0 x1 y0 y1 hB hb0 hb1 hO hlen
    have hq2 : q.toNat < 2 := by
      unfold IsP at hT
      rw [hT]; split <;> omega
    clear hT
    rcases (show q = 0 ∨ q = 1 by omega) with rfl | rfl
    · have S1 := hid (Stg.new hO [.int .i64 x, .int .i64 y] 41)
      clear hO
      go_enter Tryz.func109, Tryz.ntmps109
      go_wp2
      go_ret
      exact ⟨v, rfl, by simpa [cellsL] using S1.out.own, S1.out.gr, S1.out.near⟩
    · have HO := hid hO
      have S1 := hid (Stg.new hO [.int .i64 x, .int .i64 y] 41)
      clear hO
      have HS2 := hid (S1.out.below ((Below.refl _ _).alloc (Nat.le_refl _) (.cells #[.int .i64 x, .int .i64 y] 41)))
      have hsg := (seg_block (heap_alloc_new (w.alloc (.cells #[.int .i64 x, .int .i64 y] 41)) (.cells #[.int .i64 x, .int .i64 y] 41)) : Seg _ _ [(x, y)])
      rw [show (w.alloc (.cells #[.int .i64 x, .int .i64 y] 41)).heap.size = w.heap.size + 1 by simp] at hsg
      have HSG := hid hsg
      clear hsg
      go_enter Tryz.func109, Tryz.ntmps109
      go_wp2_with (at_builtin; refine wpList_appAt rfl _ _ rfl base _ out [(x, y)] _ 1 rfl HS2.out.own rfl HSG.out (by simp at hlen ⊢; omega) (by simp; omega) ?_; intro v' w2 hO2 hG2 hN2)
      go_ret
      have S3 := HS2.out.step HO.out hO2 hG2 hN2
      exact ⟨v', rfl, by simpa [cellsL] using S3.own, S3.gr, S3.near⟩
  | succ n ih =>
    intro q x y v out w base h0 h1 hlev hT x0 x1 y0 y1 hB hb0 hb1 hO hlen
    obtain ⟨k4, l1, kin, klev, hkt⟩ := isP_kids hF hT
    have hq2 : 2 ≤ q := by have := hT.1; omega
    have l5 : (n : Int) + 1 ≤ 5 := by have := (hF.lev q.toNat (by omega)).2; omega
    have d0 : (q == 0) = false := by simp; omega
    have d1 : (q == 1) = false := by simp; omega
    have hn5 : n < 5 := by omega
    have hlev' : (qa F q.toNat).1 = (n : Int) + 1 := by rw [hlev]; omega
    have hqn : q.toNat < F.length := by omega
    have S1 := hid (Stg.new hO [.int .i64 x, .int .i64 y] 41)
    have G1 := hG.below (S1.out.old hO hB hb0)
    have c0 := G1.c0
    have e0 := G1.kidAt (i := q.toNat) (by omega) (j := 0) (by omega)
    have e1 := G1.kidAt (i := q.toNat) (by omega) (j := 1) (by omega)
    have e2 := G1.kidAt (i := q.toNat) (by omega) (j := 2) (by omega)
    have e3 := G1.kidAt (i := q.toNat) (by omega) (j := 3) (by omega)
    rw [Nat.add_zero] at e0
    have hpos := pow_pos' n
    have hle : (2 : Int) ^ n ≤ 16 := by
      rcases (show n = 0 ∨ n = 1 ∨ n = 2 ∨ n = 3 ∨ n = 4 by omega) with rfl | rfl | rfl | rfl | rfl <;> decide
    have H4 := hid (show (4 : Nat) ^ (n + 1) = 4 * 4 ^ n by rw [Nat.pow_succ]; omega)
    rw [two_pow] at x1 y1
    have HIH := hid ih
    have HB := hid hB
    have HO := hid hO
    have HLV := hid hlev'
    have HLEN := hid hlen
    have HKI := hid kin
    have HKL := hid klev
    have HKTT := hid hkt
    have HGG := hid hG
    clear ih hB hO hlen hlev hlev' kin klev hkt l1 l5 k4 G1 hT
    go_enter Tryz.func109, Tryz.ntmps109
    go_wp2_with fail
    go_loopw [29, 1] (fun i vi wr => ∃ k : Nat, k ≤ 4 ∧ i = .int .i64 k ∧ Hid (Stg w wr base v vi [.int .i64 x, .int .i64 y] (out ++ cellsTo F n q.toNat x y k))) (fun i _ _ => 4 - (intOf i).toNat)
    case atStart => exact ⟨0, by omega, rfl, (by show Stg _ _ _ _ _ _ _; simpa [cellsTo] using S1.out)⟩
    case round =>
      clear S1 c0 e0 e1 e2 e3
      obtain ⟨k, hk, rfl, SG⟩ := hrel
      by_cases hlt : k < 4
      · have hidx := four_index (qa F q.toNat).2 k hlt
        unfold kv at hidx
        have k0 : (0 : Int) ≤ (k : Int) := by omega
        have k1 : (k : Int) < 4 := by omega
        have hki := HKI.out k hlt
        have HKK := hid (show (qa F (ia (qa F q.toNat).2 k).toNat).1 = (n : Int) by have := HKL.out k hlt; rw [HLV.out] at this; unfold kidq at this; omega)
        have HKT := hid (show IsP P F n (ia (qa F q.toNat).2 k).toNat (kx n k x) (ky n k y) from HKTT.out k hlt)
        have HT := hid (show cellsTo F n q.toNat x y (k + 1) = cellsTo F n q.toNat x y k ++ cellsL F n (ia (qa F q.toNat).2 k).toNat (kx n k x) (ky n k y) from rfl)
        have HLN := hid (show (out ++ cellsTo F n q.toNat x y k).length + 4 ^ n ≤ 4000000 by
          have h1 := cellsTo_len F n q.toNat x y k
          have h2 := HLEN.out
          rw [H4.out] at h2
          have h3 : k * 4 ^ n ≤ 3 * 4 ^ n := Nat.mul_le_mul_right _ (by omega)
          rw [List.length_append]; omega)
        have hx : -100000 ≤ kx n k x ∧ kx n k x + 2 ^ n ≤ 100000 := by
          unfold kx
          rcases (show k % 2 = 0 ∨ k % 2 = 1 by omega) with e | e <;> rw [e] <;> simp <;> omega
        have hy : -100000 ≤ ky n k y ∧ ky n k y + 2 ^ n ≤ 100000 := by
          unfold ky
          rcases (show k / 2 = 0 ∨ k / 2 = 1 by omega) with e | e <;> rw [e] <;> simp <;> omega
        have HSN := hid (seenA HGG.out SG.out HO.out HB.out hb0 hqn HLV.out)
        have SD := hid SG.out.drew
        have HSN2 := hid (fun (W : World) (h : Below wr.drew.heap.size wr.drew W) => seenA HGG.out (SD.out.below h) HO.out HB.out hb0 hqn HLV.out)
        have HSN3 := hid (fun (W : World) (vj : Value) (l : List Cl) (h : Stg w W base v vj [.int .i64 x, .int .i64 y] l) => seenA HGG.out h HO.out HB.out hb0 hqn HLV.out)
        have HKC := hid (fun W : World => c_kidCorner n k hn5 hlt x y W x0 (by omega) y0 (by omega))
        generalize hkq : ia (qa F q.toNat).2 k = qk at *
        have HQK := hid hkq
        clear hkq
        obtain ⟨s1, s2, s3, s4⟩ := HSN.out
        go_wp2_with fail
        go_region_held3 (fun w' => w'.cell? ⟨p, 0, none⟩ = some (.slice (some ⟨g, 0, none⟩) F.length cap) ∧ w'.cell? ⟨g, q.toNat * 5, none⟩ = some (.int .i64 ((n : Int) + 1)) ∧ w'.cell? ⟨w.heap.size, 0, none⟩ = some (.int .i64 x) ∧ w'.cell? ⟨w.heap.size, 1, none⟩ = some (.int .i64 y))
          (first | exact HSN.out | exact HSN2.out _ hb2 | exact HSN3.out _ _ _ S3.out | go_keep)
          (first
            | (go_at_call 132; refine (HKC.out _).mono ?_; rintro e w2 ⟨rfl, hb2⟩)
            | (go_at_call 109; refine (HIH.out qk (kx n k x) (ky n k y) _ _ w2 base (by omega) (by omega) HKK.out HKT.out hx.1 hx.2 hy.1 hy.2 ((SD.out.below hb2).old HO.out HB.out hb0) hb0 (Nat.le_trans hb1 (SD.out.below hb2).gr.size) (SD.out.below hb2).own HLN.out).mono ?_; rintro e w3 ⟨v3, rfl, hO3, hG3, hN3⟩; have S3 := hid ((SD.out.below hb2).step HO.out hO3 hG3 hN3)))
        go_wp2_with fail
        go_roundw
        case rel => exact ⟨k + 1, by omega, by go_num, by (show Stg _ _ _ _ _ _ _; rw [HT.out, ← List.append_assoc]; exact S3.out)⟩
        case measure => simp [intOf]; omega
      · obtain rfl : k = 4 := by omega
        go_wp2_with fail
        go_ret
        refine ⟨_, rfl, ?_, SG.out.gr, SG.out.near⟩
        have := SG.out.own
        rw [cellsTo_four] at this
        exact this

theorem cellsL_le (F : List Qd) : ∀ (n q : Nat) (x y : Int), (cellsL F n q x y).length ≤ 4 ^ n
  | 0, q, x, y => by simp only [cellsL]; split <;> simp
  | n + 1, q, x, y => by
    have h0 := cellsL_le F n (kidq F q 0) x y
    have h1 := cellsL_le F n (kidq F q 1) (x + 2 ^ n) y
    have h2 := cellsL_le F n (kidq F q 2) x (y + 2 ^ n)
    have h3 := cellsL_le F n (kidq F q 3) (x + 2 ^ n) (y + 2 ^ n)
    have h4 : (4 : Nat) ^ (n + 1) = 4 * 4 ^ n := by rw [Nat.pow_succ]; omega
    simp only [cellsL, List.length_append]
    omega
theorem cellsL_len16 (F : List Qd) (q : Nat) : (cellsL F 2 q 0 0).length ≤ 16 := cellsL_le F 2 q 0 0

/-- The cells of a square of four by four, in order. -/
theorem c_iCellsP {P : Cl → Bool} {F : List Qd} (hF : Grows F) (q : Nat) (w : World) {b0 p g cap mb : Nat} (hG : Grv w b0 p g cap mb F) (hT : IsP P F 2 q 0 0) :
    Calls Tryz.prog 65 #[.pointer (some ⟨p, 0, none⟩), .int .i64 (q : Int)] w fun e w' => ∃ v', e = .returned v' ∧ OwnS w' w.heap.size v' (ordL (cellsL F 2 q 0 0)) ∧ Below w.heap.size w w' := by
  have hq := hT.lt hF.two
  have hlv := hT.lev hF
  have HC := hid (c_appendCellsP hF hG 2 (q : Int) 0 0 (.slice none 0 0) [] w w.heap.size (by omega) (by omega) (by rw [Int.toNat_natCast]; exact hlv) (by rw [Int.toNat_natCast]; exact hT) (by omega) (by omega) (by omega) (by omega) (Below.refl _ _) (Nat.le_refl _) (Nat.le_refl _) (OwnS.nil _ _) (by simp))
  rw [Int.toNat_natCast] at HC
  have hln := cellsL_len16 F q
  have HND := hid (cellsL_nodup F 2 q 0 0)
  clear hG
  go_enter Tryz.func65, Tryz.ntmps65
  go_wp2_with fail
  refine HC.out.mono ?_
  rintro e w1 ⟨v1, rfl, hO, hGr, _⟩
  have HB := hid (show Below w.heap.size w w1 from ⟨hGr.os, hGr.tape, hGr.output, hGr.size, fun k hk => hGr.block k hk (by simp [Value.ownBlock])⟩)
  have HO := hid (show OwnS w1 w.heap.size v1 (cellsL F 2 q 0 0) by simpa using hO)
  clear HC hO hGr
  go_wp2_with fail
  refine (c_sortAny w.heap.size v1 _ w1 HO.out (by omega) HND.out).mono ?_
  rintro e w2 ⟨rfl, hO2, hG2⟩
  have HO2 := hid hO2
  have HB2 := hid (HB.out.grown hG2 HB.out.size fun k hk => (HO.out.lt k hk).1)
  clear hO2 hG2
  go_wp2_with fail
  go_ret
  exact ⟨_, rfl, HO2.out, HB2.out⟩

end Go.Proofs.YtokemdbgcegjiaaGreat

namespace Go.Proofs.YtokemdbgcegjiaaGreat
open Go.RowKit Go.Maps
set_option linter.unusedVariables false
set_option linter.unusedSimpArgs false
attribute [local go_sem ↓] Go.wp_at_zero Go.wp_at_succ

theorem iseg_row {w : World} {g : Nat} {l : List Int} (h : IRow w g l) : ISeg w (some ⟨g, 0, none⟩) l :=
  fun i hi => ⟨g, 0, rfl, World.rowIs.lt h, by rw [Nat.zero_add]; exact World.rowIs.cell h hi⟩
theorem sqs_atB (d wd : Nat) (l : List Int) {n i : Nat} (h : i < n) : ((List.range n).map (sqW d wd l)).getD i [] = sqW d wd l i := by simp [h]
/-- A quad's own cells tell it. -/
theorem isP_isT {P : Cl → Bool} {F : List Qd} {n q : Nat} {x y : Int} (h : IsP P F n q x y) : IsT (cellsL F n q x y) F n q x y :=
  isT_isP.2 (h.congr fun c h1 h2 h3 h4 => by
    have := isP_mem h c
    by_cases hc : c ∈ cellsL F n q x y
    · rw [decide_eq_true hc]; exact (this.1 hc).2
    · rw [decide_eq_false hc]
      cases hp : P c
      · rfl
      · exact absurd (this.2 ⟨⟨h1, h2, h3, h4⟩, hp⟩) hc)

set_option maxHeartbeats 4000000 in
set_option maxRecDepth 100000 in
theorem c_byNine (K : SysK) (m : Nat) (hm : m + 3 ≤ 5) (hres : ResC K m) (w : World) {g n q : Nat} {B : List Qd} {P : Cl → Bool} (hS : Sys K w g B n) (hlen : B.length + (14 + 13 * TTm m) ≤ 80000) (hn : n + 13 * TTm m ≤ 1000000000) (hP : IsP P B (m + 1 + 2) q 0 0) :
    Calls Tryz.prog 53 #[.pointer (some ⟨K.p, 0, none⟩), .int .i64 (q : Int), K.cv] w fun e w' => ∃ (g' : Nat) (B' : List Qd) (n' r : Nat), e = .returned (.int .i64 (r : Int)) ∧ Sys K w' g' B' n' ∧ More B B' ∧ B'.length ≤ B.length + (14 + 13 * TTm m) ∧ n' ≤ n + 13 * TTm m ∧ ResP B' (m + 1) q r ∧ r < B'.length ∧ Below K.base w w' ∧ RElse K w w' g ∧ (g' = g ∨ w.heap.size ≤ g') := by
  have hGr := hS.gr
  have hT := isP_isT hP
  have HFA := hid (fun k hk => grid_facts hGr (n := m + 1) (by omega) hT k hk)
  have HKK := hid (fun i (hi : i < 9) j (hj : j < 4) => (show 0 ≤ ia (sqW 3 4 (gridL B q) i) j ∧ ia (sqW 3 4 (gridL B q) i) j < (B.length : Int) by
    have hm : ∃ m, m < 16 ∧ ia (sqW 3 4 (gridL B q) i) j = (gridq B q m : Int) := by
      rw [sq_grid B q hi]
      rcases (show j = 0 ∨ j = 1 ∨ j = 2 ∨ j = 3 by omega) with rfl | rfl | rfl | rfl <;> exact ⟨_, by omega, rfl⟩
    obtain ⟨m, hm, em⟩ := hm
    have := (grid_is hT hm).lt hGr.two
    rw [em]; omega))
  have H16 := hid (fun (W : World) {g cap : Nat} (hG : Grv W K.base K.p g cap K.mb B) => c_sixteen W hGr hT hG)
  have HGL := hid (gridL_len B q)
  have HSS := hid hS
  have HP := hid hP
  have HRES := hid hres
  have HGR := hid hGr
  have HQ := hid (hP.lt hGr.two)
  clear hS hT hres hGr hP
  unfold SysK.cv
  go_enter Tryz.func53, Tryz.ntmps53
  obtain ⟨cap, hG⟩ := HSS.out.gv
  have HC := hid (H16.out w hG)
  clear hG
  go_wp2_with fail
  refine HC.out.mono ?_
  rintro e w5 ⟨rfl, hI5, hb5⟩
  have S5 := hid (HSS.out.below hb5)
  have I5 := hid hI5
  have hbs : K.base ≤ w.heap.size := by obtain ⟨cap, hG⟩ := HSS.out.gv; exact Nat.le_trans hG.lowp (Nat.le_of_lt hG.box.lt)
  have B5 := hid (hb5.mono hbs)
  have E5 := hid (RElse.of_below (K := K) (g := g) hb5)
  clear hI5 hb5 HC HSS
  go_wp2_with fail
  refine (c_two4 w.heap.size 0 16 (gridL B q) HGL.out w5 (iseg_row I5.out)).mono ?_
  rintro e w6 ⟨v6, rfl, hO6, hb6⟩
  obtain ⟨a6, c6, rfl, hs6⟩ := hO6.form
  have HS6 := hid (FSq.congr hs6 (fun i hi => sqs_atB 3 4 (gridL B q) (n := 9) (by simpa using hi)))
  rw [show ((List.range 9).map (sqW 3 4 (gridL B q))).length = 9 from rfl] at HS6
  have S6 := hid (S5.out.below hb6)
  have B6 := hid (B5.out.trans (hb6.mono (Nat.le_trans hbs B5.out.size)))
  have E6 := hid (E5.out.trans B5.out.size (.inl rfl) (RElse.of_below (K := K) (g := g) hb6))
  clear hO6 hs6 hb6 B5 E5 S5 I5
  obtain ⟨cap6, hG6⟩ := S6.out.gv
  have HJE := hid (c_joinEachE a6 9 c6 (sqW 3 4 (gridL B q)) w6 hG6 HS6.out (by omega) (by omega) (fun i _ => rfl) HKK.out HFA.out)
  clear hG6
  go_wp2_with fail
  refine HJE.out.mono ?_
  rintro e w7 ⟨Bq7, g7, cap7, rfl, hG7, hR7, hB7, hb7, hr7, he7, hg7⟩
  obtain ⟨B1, hB1⟩ : ∃ B1, B1 = (jTo B (sqW 3 4 (gridL B q)) 9).1 := ⟨_, rfl⟩
  obtain ⟨N9, hN9⟩ : ∃ N9, N9 = (jTo B (sqW 3 4 (gridL B q)) 9).2 := ⟨_, rfl⟩
  have j9 := HFA.out 9 (Nat.le_refl _)
  have hn9 := nine_isP HP.out HFA.out
  rw [← hB1, ← hN9] at hn9
  rw [← hB1] at hG7
  rw [← hN9] at hR7
  have M1 := j9.is_more
  have l9 := j9.len
  have m9 := j9.most
  have nm9 := j9.num
  rw [← hB1] at M1 m9
  rw [← hN9] at l9
  have hnm9 : ∀ i, i < 9 → 0 ≤ ia N9 i := fun i hi => by rw [hN9]; exact (nm9 i hi).1.1
  have S7 := hid (S6.out.grove hG7 M1 he7)
  have I7 := hid hR7
  have B7 := hid (B6.out.trans hb7)
  have E7 := hid (E6.out.trans B6.out.size (.inl rfl) (RElse.of_grove he7))
  have G7 := hid (fresh_trans (.inl rfl : g = g ∨ w.heap.size ≤ g) B6.out.size hg7)
  have HN9 := hid hn9
  have HNM9 := hid hnm9
  have HM9 := hid m9
  have HM1 := hid M1
  have HB1 := hid hB1
  have HN9e := hid hN9
  have HLW7 := hid (show w.heap.size ≤ w7.heap.size from B7.out.size)
  have HL9 := hid l9
  clear hG7 hR7 hB7 hb7 hr7 he7 hg7 hB1 hN9 j9 hn9 M1 l9 m9 nm9 hnm9 HJE HS6 S6 B6 E6
  have HE9 := hid (c_eachOf K m HRES.out N9 9 HL9.out (by omega) w7 S7.out I7.out (by have := HM9.out; omega) (by omega) (fun i hi => ⟨(ia N9 i).toNat, by have := HNM9.out i hi; omega, isP_home (HN9.out i hi)⟩))
  unfold SysK.cv at HE9
  go_wp2_with fail
  refine HE9.out.mono ?_
  rintro e w8 ⟨Bo, g8, B2, n2, half, rfl, hI8, hl8, hS8, hM8, hL8, hN8, hr8, hb8, he8, hg8⟩
  have I8 := hid hI8
  have S8 := hid hS8
  have B8 := hid (B7.out.trans hb8)
  have E8 := hid (E7.out.trans B7.out.size G7.out he8)
  have G8 := hid (fresh_trans G7.out B7.out.size hg8)
  have HM8 := hid hM8
  have HL8 := hid hL8
  have HN8 := hid hN8
  have HHL := hid hl8
  have HR8 := hid (show ∀ k, k < 9 → ∃ r : Nat, ia half k = (r : Int) ∧ ResP B2 m (ia N9 k).toNat r from fun k hk => by
    obtain ⟨a, r, e1, e2, _, h⟩ := hr8 k hk
    exact ⟨r, e2, by rw [e1]; simpa using h⟩)
  have HRL := hid (show ∀ k, k < 9 → 0 ≤ ia half k ∧ ia half k < (B2.length : Int) from fun k hk => by
    obtain ⟨a, r, e1, e2, h, _⟩ := hr8 k hk
    rw [e2]; omega)
  clear hI8 hl8 hS8 hM8 hL8 hN8 hr8 hb8 he8 hg8 HE9 S7 I7 B7 E7 G7
  have HHI := hid (half_isP HN9.out HM8.out HR8.out)
  have HF4 := hid (show ∀ k, k ≤ 4 → JTo B2 ((m + 1 : Nat) : Int) k (jTo B2 (sqW 2 3 half) k) from jTo_level (d := 2) S8.out.gr rfl (by omega) (by omega) (fun t ht => by
    obtain ⟨r, e, h⟩ := HHI.out t ht
    exact ⟨r, e, h.lt S8.out.gr.two, h.lev S8.out.gr⟩))
  have HK4 := hid (show ∀ i, i < 4 → ∀ j, j < 4 → 0 ≤ ia (sqW 2 3 half i) j ∧ ia (sqW 2 3 half i) j < (B2.length : Int) from fun i hi j hj => by
    have hm : ∃ t, t < 9 ∧ ia (sqW 2 3 half i) j = ia half t := by
      rcases (show j = 0 ∨ j = 1 ∨ j = 2 ∨ j = 3 by omega) with rfl | rfl | rfl | rfl <;> exact ⟨_, by omega, rfl⟩
    obtain ⟨t, ht, et⟩ := hm
    rw [et]; exact HRL.out t ht)
  go_wp2_with fail
  refine (c_two3 Bo 0 9 half HHL.out w8 (iseg_row I8.out)).mono ?_
  rintro e w9 ⟨v9, rfl, hO9, hb9⟩
  obtain ⟨a9, c9, rfl, hs9⟩ := hO9.form
  have HS9 := hid (FSq.congr hs9 (fun i hi => sqs_atB 2 3 half (n := 4) (by simpa using hi)))
  rw [show ((List.range 4).map (sqW 2 3 half)).length = 4 from rfl] at HS9
  have S9 := hid (S8.out.below hb9)
  have B9 := hid (B8.out.trans (hb9.mono (Nat.le_trans hbs B8.out.size)))
  have E9 := hid (E8.out.trans B8.out.size G8.out (RElse.of_below (K := K) (g := g8) hb9))
  clear hO9 hs9 hb9 B8 E8 S8 I8
  obtain ⟨cap9, hG9⟩ := S9.out.gv
  have HJE := hid (c_joinEachE a9 4 c9 (sqW 2 3 half) w9 hG9 HS9.out (by omega) (by have := HL8.out; have := HM9.out; omega) (fun i _ => rfl) HK4.out HF4.out)
  clear hG9
  go_wp2_with fail
  refine HJE.out.mono ?_
  rintro e w10 ⟨Bq10, g10, cap10, rfl, hG10, hR10, hB10, hb10, hr10, he10, hg10⟩
  obtain ⟨B3, hB3⟩ : ∃ B3, B3 = (jTo B2 (sqW 2 3 half) 4).1 := ⟨_, rfl⟩
  obtain ⟨N4, hN4⟩ : ∃ N4, N4 = (jTo B2 (sqW 2 3 half) 4).2 := ⟨_, rfl⟩
  have j4 := HF4.out 4 (Nat.le_refl _)
  have hn4 := four_isP HHL.out HHI.out HF4.out
  rw [← hB3, ← hN4] at hn4
  rw [← hB3] at hG10
  rw [← hN4] at hR10
  have M3 := j4.is_more
  have l4 := j4.len
  have m4 := j4.most
  have nm4 := j4.num
  rw [← hB3] at M3 m4
  rw [← hN4] at l4
  have hnm4 : ∀ i, i < 4 → 0 ≤ ia N4 i := fun i hi => by rw [hN4]; exact (nm4 i hi).1.1
  have S10 := hid (S9.out.grove hG10 M3 he10)
  have I10 := hid hR10
  have B10 := hid (B9.out.trans hb10)
  have E10 := hid (E9.out.trans B9.out.size G8.out (RElse.of_grove he10))
  have G10 := hid (fresh_trans G8.out B9.out.size hg10)
  have HI4 := hid hn4
  have HNM4 := hid hnm4
  have HM4 := hid m4
  have HM3 := hid M3
  have HB3 := hid hB3
  have HN4e := hid hN4
  have HL4 := hid l4
  clear hG10 hR10 hB10 hb10 hr10 he10 hg10 hB3 hN4 j4 hn4 M3 l4 m4 nm4 hnm4 HJE HS9 S9 B9 E9 G8
  have HE4 := hid (c_eachOf K m HRES.out N4 4 HL4.out (by omega) w10 S10.out I10.out (by have := HM4.out; have := HL8.out; have := HM9.out; omega) (by have := HN8.out; omega) (fun i hi => ⟨(ia N4 i).toNat, by have := HNM4.out i hi; omega, isP_home (HI4.out i hi)⟩))
  unfold SysK.cv at HE4
  go_wp2_with fail
  refine HE4.out.mono ?_
  rintro e w11 ⟨Bo4, g11, B4, n4, outs, rfl, hI11, hl11, hS11, hM11, hL11, hN11, hr11, hb11, he11, hg11⟩
  have HR11 := hid (show ∀ k, k < 4 → ∃ r : Nat, ia outs k = (r : Int) ∧ ResP B4 m (ia N4 k).toNat r from fun k hk => by
    obtain ⟨a, r, e1, e2, _, h⟩ := hr11 k hk
    exact ⟨r, e2, by rw [e1]; simpa using h⟩)
  have hk11 : ∀ k, k < 4 → 0 ≤ ia outs k ∧ ia outs k < (B4.length : Int) := fun k hk => by
    obtain ⟨a, r, e1, e2, h, _⟩ := hr11 k hk
    rw [e2]; omega
  have hlev : (qa B4 (ia outs 0).toNat).1 < 5 := by
    obtain ⟨r, e2, h⟩ := HR11.out 0 (by omega)
    have := (h.at (hM11.isP (HI4.out 0 (by omega)))).lev hS11.gr
    rw [e2, Int.toNat_natCast, this]
    omega
  have M5 : More B4 (joinF B4 outs).1 := ⟨joinF_grows hS11.gr hl11 hk11 hlev, (joinF_len B4 outs).1, fun i hi => joinF_old B4 outs hi⟩
  have kc0 := World.rowIs.cell hI11 (i := 0) (by omega)
  have kc1 := World.rowIs.cell hI11 (i := 1) (by omega)
  have kc2 := World.rowIs.cell hI11 (i := 2) (by omega)
  have kc3 := World.rowIs.cell hI11 (i := 3) (by omega)
  have harr := arr_at (some ⟨Bo4, 0, none⟩) 4 4 (by omega)
  obtain ⟨cap11, hG11⟩ := hS11.gv
  have HIJ := hid (c_ijoinE outs hl11 w11 hG11 hS11.gr (by have := HM4.out; have := HL8.out; have := HM9.out; omega) hk11)
  unfold kv at HIJ
  have S11 := hid hS11
  have B11 := hid (B10.out.trans hb11)
  have E11 := hid (E10.out.trans B10.out.size G10.out he11)
  have G11 := hid (fresh_trans G10.out B10.out.size hg11)
  have HM11 := hid hM11
  have HL11 := hid hL11
  have HN11 := hid hN11
  have HL5 := hid hl11
  have HM5 := hid M5
  clear hI11 hl11 hS11 hM11 hL11 hN11 hr11 hb11 he11 hg11 hk11 hlev M5 hG11 HE4 S10 I10 B10 E10 G10
  go_wp2_with fail
  refine HIJ.out.mono ?_
  rintro e w12 ⟨g12, cap12, rfl, hG12, hb12, hr12, he12, hg12⟩
  have S12 := hid (S11.out.grove hG12 HM5.out he12)
  have B12 := hid (B11.out.trans hb12)
  have E12 := hid (E11.out.trans B11.out.size G11.out (RElse.of_grove he12))
  have G12 := hid (fresh_trans G11.out B11.out.size hg12)
  clear hG12 hb12 hr12 he12 hg12 HIJ S11 B11 E11 G11
  go_wp2_with fail
  go_ret
  refine ⟨g12, _, n4, _, rfl, S12.out, ((HM1.out.trans HM8.out).trans (HM3.out.trans HM11.out)).trans HM5.out, ?_, ?_, ?_, joinF_lt _ _, B12.out, E12.out, G12.out⟩
  · have := (joinF_len B4 outs).2
    have := HL11.out; have := HM4.out; have := HL8.out; have := HM9.out
    omega
  · have := HN11.out; have := HN8.out
    omega
  · refine byNine_res HGR.out HQ.out HFA.out ?_ HHL.out ?_ HF4.out ?_ HL5.out ?_ HM5.out
    · rw [← HB1.out]; exact HM8.out
    · rw [← HN9e.out]; exact HR8.out
    · rw [← HB3.out]; exact HM11.out
    · rw [← HN4e.out]; exact HR11.out

end Go.Proofs.YtokemdbgcegjiaaGreat
