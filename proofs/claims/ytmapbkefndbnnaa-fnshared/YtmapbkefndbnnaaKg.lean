/- Texts of this seat, one behind the other: IFill, IMid, IMrg, SCh, IFrm, Ans. -/
import Derived.Test.YtmapbkefndbnnaaKe
import Derived.Deep.RegionHeld3
import Derived.Test.YtmapbkefndbnnaaKf
namespace Go.Proofs.Ytmapbkefndbnnaa
open Go.RowKit Go.Maps
set_option linter.unusedVariables false
set_option linter.unusedSimpArgs false
attribute [local go_sem ↓] Go.wp_at_zero Go.wp_at_succ

/-- Does the square of level n from (x, y) on meet the box? -/
def mtB (fx fy tx ty : Int) (n : Nat) (x y : Int) : Bool := decide (fx ≤ x + (2 ^ n - 1)) && decide (x ≤ tx) && decide (fy ≤ y + (2 ^ n - 1)) && decide (y ≤ ty)
theorem mtB_no {fx fy tx ty : Int} {n : Nat} {x y : Int} (h : mtB fx fy tx ty n x y = false) {c : Cl} (hc : sqB n x y c) : mtB fx fy tx ty 0 c.1 c.2 = false := by
  cases h0 : mtB fx fy tx ty 0 c.1 c.2
  · rfl
  · simp only [mtB, Bool.and_eq_true, decide_eq_true_eq] at h0
    unfold sqB at hc
    have : mtB fx fy tx ty n x y = true := by
      simp only [mtB, Bool.and_eq_true, decide_eq_true_eq]
      omega
    rw [this] at h; cases h

theorem pow_le5 {n : Nat} (h : n ≤ 5) : (2 : Int) ^ n ≤ 32 := by
  rcases (show n = 0 ∨ n = 1 ∨ n = 2 ∨ n = 3 ∨ n = 4 ∨ n = 5 by omega) with rfl | rfl | rfl | rfl | rfl | rfl <;> decide
set_option maxHeartbeats 1000000 in
set_option maxRecDepth 100000 in
theorem c_meets (fx fy tx ty : Int) (n : Nat) (hn : n ≤ 5) (x y : Int) (x0 : -100000 ≤ x) (x1 : x ≤ 100000) (y0 : -100000 ≤ y) (y1 : y ≤ 100000) (v : Bool) (hv : mtB fx fy tx ty n x y = v) (w : World) :
    Calls Try.prog 104 #[.agg #[.int .i64 fx, .int .i64 fy, .int .i64 tx, .int .i64 ty], .agg #[.int .i64 x, .int .i64 y], .int .i64 (n : Int)] w fun e w' => e = .returned (.bool v) ∧ Below w.heap.size w w' := by
  have hpos := pow_pos' n
  have hle : (2 : Int) ^ n ≤ 32 := pow_le5 hn
  have HV := hid hv
  unfold mtB at HV
  clear hv
  by_cases h1 : fx ≤ x + (2 ^ n - 1)
  · have d1 : decide (fx ≤ x + (2 ^ n - 1)) = true := decide_eq_true h1
    by_cases h2 : x ≤ tx
    · have d2 : decide (x ≤ tx) = true := decide_eq_true h2
      by_cases h3 : fy ≤ y + (2 ^ n - 1)
      · have d3 : decide (fy ≤ y + (2 ^ n - 1)) = true := decide_eq_true h3
        have HW := hid (show decide (y ≤ ty) = v by have := HV.out; rw [d1, d2, d3] at this; simpa using this)
        go_enter Try.func104, Try.ntmps104
        go_wp2
        go_ret
        exact ⟨ret_bool HW.out, ((Below.refl _ _).alloc (Nat.le_refl _) _).alloc (by simp) _⟩
      · have d3 : decide (fy ≤ y + (2 ^ n - 1)) = false := decide_eq_false h3
        have HW := hid (show v = false by have := HV.out; rw [d1, d2, d3] at this; simpa using this.symm)
        go_enter Try.func104, Try.ntmps104
        go_wp2
        go_ret
        exact ⟨ret_bool HW.out.symm, ((Below.refl _ _).alloc (Nat.le_refl _) _).alloc (by simp) _⟩
    · have d2 : decide (x ≤ tx) = false := decide_eq_false h2
      have HW := hid (show v = false by have := HV.out; rw [d1, d2] at this; simpa using this.symm)
      go_enter Try.func104, Try.ntmps104
      go_wp2
      go_ret
      exact ⟨ret_bool HW.out.symm, ((Below.refl _ _).alloc (Nat.le_refl _) _).alloc (by simp) _⟩
  · have d1 : decide (fx ≤ x + (2 ^ n - 1)) = false := decide_eq_false h1
    have HW := hid (show v = false by have := HV.out; rw [d1] at this; simpa using this.symm)
    go_enter Try.func104, Try.ntmps104
    go_wp2
    go_ret
    exact ⟨ret_bool HW.out.symm, ((Below.refl _ _).alloc (Nat.le_refl _) _).alloc (by simp) _⟩

/-- A node in a box. -/
def NRow (w : World) (B : Nat) (q : Qd) : Prop := w.rowIs B 109 5 (fun j => .int .i64 (if j = 0 then q.1 else ia q.2 (j - 1)))
theorem nrow_new (w : World) (q : Qd) : NRow (w.alloc (.cells #[.int .i64 q.1, .int .i64 (ia q.2 0), .int .i64 (ia q.2 1), .int .i64 (ia q.2 2), .int .i64 (ia q.2 3)] 109)) w.heap.size q := by
  refine ⟨_, heap_alloc_new _ _, rfl, fun i hi => ?_⟩
  rcases (show i = 0 ∨ i = 1 ∨ i = 2 ∨ i = 3 ∨ i = 4 by omega) with rfl | rfl | rfl | rfl | rfl <;> rfl
theorem NRow.lev {w : World} {B : Nat} {q : Qd} (h : NRow w B q) : w.cell? ⟨B, 0, none⟩ = some (.int .i64 q.1) := World.rowIs.cell h (i := 0) (by omega)
theorem NRow.kid {w : World} {B : Nat} {q : Qd} (h : NRow w B q) (j : Nat) (hj : j < 4) : w.cell? ⟨B, 1 + j, none⟩ = some (.int .i64 (ia q.2 j)) := by
  have := World.rowIs.cell h (i := 1 + j) (by omega)
  rw [if_neg (by omega), show 1 + j - 1 = j by omega] at this
  exact this
theorem pk_more (L : List Cl) (n : Nat) (x y : Int) (G : List Qd) (hn : n < 5) (h : Grows G) : ∀ k, G.length ≤ (pk L n x y G k).1.length ∧ ∀ i, i < G.length → qa (pk L n x y G k).1 i = qa G i
  | 0 => ⟨Nat.le_refl _, fun _ _ => rfl⟩
  | k + 1 => by
    obtain ⟨h1, h2⟩ := pk_more L n x y G hn h k
    have t := treeL_tr L n (kx n k x) (ky n k y) _ (by omega) (pk_facts L n x y G hn h k).1
    exact ⟨Nat.le_trans h1 t.more, fun i hi => (t.old i (by omega)).trans (h2 i hi)⟩
theorem kx_or (n k : Nat) (x : Int) (hk : k < 4) : kx n k x = x ∨ kx n k x = x + 2 ^ n := by
  unfold kx
  rcases (show k % 2 = 0 ∨ k % 2 = 1 by omega) with e | e <;> rw [e] <;> simp
theorem ky_or (n k : Nat) (y : Int) (hk : k < 4) : ky n k y = y ∨ ky n k y = y + 2 ^ n := by
  unfold ky
  rcases (show k / 2 = 0 ∨ k / 2 = 1 by omega) with e | e <;> rw [e] <;> simp

set_option maxHeartbeats 4000000 in
set_option maxRecDepth 100000 in
theorem c_fill (L L' : List Cl) (fx fy tx ty : Int) (is : Nat) (his : is = 0 ∨ is = 1) (base p mb : Nat) : ∀ (n q : Nat) (x y : Int) (G : List Qd) (g cap : Nat) (w : World),
    n ≤ 5 → Grows G → G.length + 4 ^ n ≤ 10000 → -100000 ≤ x → x + 2 ^ n ≤ 100000 → -100000 ≤ y → y + 2 ^ n ≤ 100000 → IsT L G n q x y → (∀ c, sqB n x y c → (c ∈ L' ↔ if mtB fx fy tx ty 0 c.1 c.2 = true then is = 1 else c ∈ L)) → Grv w base p g cap mb G →
    Calls Try.prog 103 #[.pointer (some ⟨p, 0, none⟩), .int .i64 (q : Int), .agg #[.int .i64 x, .int .i64 y], .func (.func 104) #[.agg #[.int .i64 fx, .int .i64 fy, .int .i64 tx, .int .i64 ty]] #[], .int .i64 (is : Int)] w fun e w' => ∃ g' cap', e = .returned (.int .i64 ((treeL L' n x y G).2 : Int)) ∧ Grv w' base p g' cap' mb (treeL L' n x y G).1 ∧ Below base w w' ∧ RowsKept w w' := by
  intro n
  induction n with
  | zero =>
    intro q x y G g cap w hn hGr hlen x0 x1 y0 y1 hT hC hG
    have hq := hT.lt hGr.two
    have hlev := hT.lev hGr
    have hbs : base ≤ w.heap.size := Nat.le_trans hG.lowp (Nat.le_of_lt hG.box.lt)
    have hb1 := (Below.refl w.heap.size w).alloc (Nat.le_refl _) (.cells #[.int .i64 x, .int .i64 y] 39)
    have G1 := hid (hG.below hb1)
    have c0 := G1.out.c0
    have n0 := G1.out.lev hq
    have n1 := G1.out.kidAt hq (j := 0) (by omega)
    have n2 := G1.out.kidAt hq (j := 1) (by omega)
    have n3 := G1.out.kidAt hq (j := 2) (by omega)
    have n4 := G1.out.kidAt hq (j := 3) (by omega)
    rw [Nat.add_zero] at n1
    rw [hlev] at n0
    have i0 : (0 : Int) ≤ (q : Int) := by omega
    have i1 : (q : Int) < (G.length : Int) := by omega
    have hc0 := hC (x, y) (by unfold sqB; simp; omega)
    cases hM : mtB fx fy tx ty 0 x y
    · have HM := hid (fun W => c_meets fx fy tx ty 0 (by omega) x y x0 (by omega) y0 (by omega) false hM W)
      have HV : Hid (treeL L' 0 x y G = (G, q)) := treeL_there hGr (hT.congr fun c hc => by
        have := hC c hc
        rw [mtB_no hM hc] at this
        simpa using this.symm)
      have HG := hid hG
      have HB1 := hid hb1
      clear hG hT hC hc0 hM hb1 hlev
      go_enter Try.func103, Try.ntmps103
      go_wp2_with fail
      refine (HM.out _).mono ?_
      rintro e w2 ⟨rfl, hb⟩
      have hb2 := (HB1.out.alloc HB1.out.size (.cells #[.int .i64 (((0 : Nat) : Int)), .int .i64 (ia (qa G q).2 0), .int .i64 (ia (qa G q).2 1), .int .i64 (ia (qa G q).2 2), .int .i64 (ia (qa G q).2 3)] 109))
      have hbb := hb2.trans (hb.mono hb2.size)
      clear HM n0 n1 n2 n3 n4 c0
      go_wp2_with fail
      go_ret
      rw [HV.out]
      exact ⟨g, cap, rfl, HG.out.below hbb, hbb.mono hbs, RowsKept.of_below hbb⟩
    · have HM := hid (fun W => c_meets fx fy tx ty 0 (by omega) x y x0 (by omega) y0 (by omega) true hM W)
      have HV : Hid (treeL L' 0 x y G = (G, is)) := by
        unfold Hid
        rw [if_pos hM] at hc0
        simp only [treeL, hc0]
        rcases his with e | e <;> simp [e]
      have HG := hid hG
      have HB1 := hid hb1
      clear hG hT hC hc0 hM hlev hb1
      go_enter Try.func103, Try.ntmps103
      go_wp2_with fail
      refine (HM.out _).mono ?_
      rintro e w2 ⟨rfl, hb⟩
      have hb2 := (HB1.out.alloc HB1.out.size (.cells #[.int .i64 (((0 : Nat) : Int)), .int .i64 (ia (qa G q).2 0), .int .i64 (ia (qa G q).2 1), .int .i64 (ia (qa G q).2 2), .int .i64 (ia (qa G q).2 3)] 109))
      have hbb := hb2.trans (hb.mono hb2.size)
      have hz0 := (nrow_new (w.alloc (.cells #[.int .i64 x, .int .i64 y] 39)) (((0 : Nat) : Int), (qa G q).2)).lev
      rw [show (w.alloc (.cells #[.int .i64 x, .int .i64 y] 39)).heap.size = w.heap.size + 1 by simp] at hz0
      have hz := (hb.cell (p := ⟨w.heap.size + 1, 0, none⟩) (by simp)).trans hz0
      dsimp only at hz
      clear hz0
      clear HM n0 n1 n2 n3 n4 c0
      go_wp2_with fail
      go_ret
      rw [HV.out]
      exact ⟨g, cap, rfl, HG.out.below hbb, hbb.mono hbs, RowsKept.of_below hbb⟩
  | succ n ih =>
    intro q x y G g cap w hn hGr hlen x0 x1 y0 y1 hT hC hG
    have hq := hT.lt hGr.two
    have hlev := hT.lev hGr
    have hks := hT.kids
    have hpos := pow_pos' n
    have hle : (2 : Int) ^ n ≤ 16 := by
      rcases (show n = 0 ∨ n = 1 ∨ n = 2 ∨ n = 3 ∨ n = 4 by omega) with rfl | rfl | rfl | rfl | rfl <;> decide
    have x1' := x1
    have y1' := y1
    rw [two_pow] at x1 y1
    have hbs : base ≤ w.heap.size := Nat.le_trans hG.lowp (Nat.le_of_lt hG.box.lt)
    have hb1 := (Below.refl w.heap.size w).alloc (Nat.le_refl _) (.cells #[.int .i64 x, .int .i64 y] 39)
    have hb2 := hb1.alloc hb1.size (.cells #[.int .i64 (n + 1 : Int), .int .i64 (ia (qa G q).2 0), .int .i64 (ia (qa G q).2 1), .int .i64 (ia (qa G q).2 2), .int .i64 (ia (qa G q).2 3)] 109)
    have G1 := hid (hG.below hb1)
    have c0 := G1.out.c0
    have n0 := G1.out.lev hq
    have n1 := G1.out.kidAt hq (j := 0) (by omega)
    have n2 := G1.out.kidAt hq (j := 1) (by omega)
    have n3 := G1.out.kidAt hq (j := 2) (by omega)
    have n4 := G1.out.kidAt hq (j := 3) (by omega)
    rw [Nat.add_zero] at n1
    rw [hlev, show ((n + 1 : Nat) : Int) = (n : Int) + 1 by omega] at n0
    have i0 : (0 : Int) ≤ (q : Int) := by omega
    have i1 : (q : Int) < (G.length : Int) := by omega
    have N2 : NRow ((w.alloc (.cells #[.int .i64 x, .int .i64 y] 39)).alloc (.cells #[.int .i64 (n + 1 : Int), .int .i64 (ia (qa G q).2 0), .int .i64 (ia (qa G q).2 1), .int .i64 (ia (qa G q).2 2), .int .i64 (ia (qa G q).2 3)] 109)) (w.heap.size + 1) ((n : Int) + 1, (qa G q).2) := by
      have := nrow_new (w.alloc (.cells #[.int .i64 x, .int .i64 y] 39)) ((n : Int) + 1, (qa G q).2)
      rw [show (w.alloc (.cells #[.int .i64 x, .int .i64 y] 39)).heap.size = w.heap.size + 1 by simp] at this
      exact this
    have C2 : CRow ((w.alloc (.cells #[.int .i64 x, .int .i64 y] 39)).alloc (.cells #[.int .i64 (n + 1 : Int), .int .i64 (ia (qa G q).2 0), .int .i64 (ia (qa G q).2 1), .int .i64 (ia (qa G q).2 2), .int .i64 (ia (qa G q).2 3)] 109)) w.heap.size x y := World.rowIs.alloc (two_row (heap_alloc_new _ _)) _
    have hs2 : ((w.alloc (.cells #[.int .i64 x, .int .i64 y] 39)).alloc (.cells #[.int .i64 (n + 1 : Int), .int .i64 (ia (qa G q).2 0), .int .i64 (ia (qa G q).2 1), .int .i64 (ia (qa G q).2 2), .int .i64 (ia (qa G q).2 3)] 109)).heap.size = w.heap.size + 1 + 1 := by simp
    have G2 := hG.below hb2
    cases hM : mtB fx fy tx ty (n + 1) x y
    · have HM := hid (fun W => c_meets fx fy tx ty (n + 1) (by omega) x y x0 (by omega) y0 (by omega) false hM W)
      rw [show ((n + 1 : Nat) : Int) = (n : Int) + 1 by omega] at HM
      have HV : Hid (treeL L' (n + 1) x y G = (G, q)) := treeL_there hGr (hT.congr fun c hc => by
        have := hC c hc
        rw [mtB_no hM hc] at this
        simpa using this.symm)
      have HG := hid hG
      have HB2 := hid hb2
      clear hG hT hC hM hb1 hlev N2 C2 G2 hb2 hs2 ih hks
      go_enter Try.func103, Try.ntmps103
      go_wp2_with fail
      refine (HM.out _).mono ?_
      rintro e w2 ⟨rfl, hb⟩
      have hbb := HB2.out.trans (hb.mono HB2.out.size)
      clear HM n0 n1 n2 n3 n4 c0
      go_wp2_with fail
      go_ret
      rw [HV.out]
      exact ⟨g, cap, rfl, HG.out.below hbb, hbb.mono hbs, RowsKept.of_below hbb⟩
    · have HM := hid (fun W => c_meets fx fy tx ty (n + 1) (by omega) x y x0 (by omega) y0 (by omega) true hM W)
      rw [show ((n + 1 : Nat) : Int) = (n : Int) + 1 by omega] at HM
      have HIH := hid ih
      have h4 : (4 : Nat) ^ (n + 1) = 4 * 4 ^ n := by rw [Nat.pow_succ]; omega
      rw [h4] at hlen
      have HPF := hid (fun k => pk_facts L' n x y G (by omega) hGr k)
      have HPM := hid (fun k => pk_more L' n x y G (by omega) hGr k)
      have HPJ := hid (pk_join L' n x y G (by omega) hGr)
      have HPA := hid (fun k j => pk_at L' n x y G (by omega) hGr k j)
      have HP4 := hid (pk_four L' n x y G)
      have HLEN := hid hlen
      have HT := hid hT
      have HCC := hid hC
      have HKS := hid hks
      have HG2 := hid G2
      have HN2 := hid N2
      have HC2 := hid C2
      have HB2 := hid hb2
      have HS2 := hid hs2
      clear hG hT hC hM hb1 hlev N2 C2 G2 hb2 ih hlen h4 hks hs2
      have dn : ((n : Int) + 1 == 0) = false := by simp; omega
      go_enter Try.func103, Try.ntmps103
      go_wp2_with fail
      refine (HM.out _).mono ?_
      rintro e w2 ⟨rfl, hb⟩
      have NR := hid (World.rowIs.of_block HN2.out (hb.block _ (World.rowIs.lt HN2.out)))
      have CR := hid (World.rowIs.of_block HC2.out (hb.block _ (World.rowIs.lt HC2.out)))
      have GV := hid (HG2.out.below hb)
      have BB := hid (HB2.out.trans (hb.mono HB2.out.size))
      have hsz : w.heap.size + 1 + 1 ≤ w2.heap.size := by have := hb.size; rw [HS2.out] at this; exact this
      have NR' : Hid (NRow w2 (w.heap.size + 1) ((n : Int) + 1, (qa G q).2)) := NR.out
      have l0 := NR'.out.lev
      have l1 := NR'.out.kid 0 (by omega)
      have l2 := NR'.out.kid 1 (by omega)
      have l3 := NR'.out.kid 2 (by omega)
      have l4 := NR'.out.kid 3 (by omega)
      dsimp only at l0 l1 l2 l3 l4
      rw [Nat.add_zero] at l1
      clear HM n0 n1 n2 n3 n4 c0 hb HN2 HC2 HG2 HB2 HS2 NR
      have l0' := ((Below.refl w2.heap.size w2).alloc (Nat.le_refl _) (.cells #[.int .i64 0, .int .i64 0, .int .i64 0, .int .i64 0] 107)).cell (p := ⟨w.heap.size + 1, 0, none⟩) (by dsimp only; omega) |>.trans l0
      have l1' := ((Below.refl w2.heap.size w2).alloc (Nat.le_refl _) (.cells #[.int .i64 0, .int .i64 0, .int .i64 0, .int .i64 0] 107)).cell (p := ⟨w.heap.size + 1, 1, none⟩) (by dsimp only; omega) |>.trans l1
      have l2' := ((Below.refl w2.heap.size w2).alloc (Nat.le_refl _) (.cells #[.int .i64 0, .int .i64 0, .int .i64 0, .int .i64 0] 107)).cell (p := ⟨w.heap.size + 1, 2, none⟩) (by dsimp only; omega) |>.trans l2
      have l3' := ((Below.refl w2.heap.size w2).alloc (Nat.le_refl _) (.cells #[.int .i64 0, .int .i64 0, .int .i64 0, .int .i64 0] 107)).cell (p := ⟨w.heap.size + 1, 3, none⟩) (by dsimp only; omega) |>.trans l3
      have l4' := ((Below.refl w2.heap.size w2).alloc (Nat.le_refl _) (.cells #[.int .i64 0, .int .i64 0, .int .i64 0, .int .i64 0] 107)).cell (p := ⟨w.heap.size + 1, 4, none⟩) (by dsimp only; omega) |>.trans l4
      have hb3 := (Below.refl w2.heap.size w2).alloc (Nat.le_refl _) (.cells #[.int .i64 0, .int .i64 0, .int .i64 0, .int .i64 0] 107)
      have HG3 := hid (GV.out.below hb3)
      have HN3 : Hid (NRow (w2.alloc (.cells #[.int .i64 0, .int .i64 0, .int .i64 0, .int .i64 0] 107)) (w.heap.size + 1) ((n : Int) + 1, (qa G q).2)) := World.rowIs.alloc NR'.out _
      have HC3 : Hid (CRow (w2.alloc (.cells #[.int .i64 0, .int .i64 0, .int .i64 0, .int .i64 0] 107)) w.heap.size x y) := World.rowIs.alloc CR.out _
      have HF3 := hid (frow_new w2)
      have HB3 := hid (BB.out.alloc BB.out.size (.cells #[.int .i64 0, .int .i64 0, .int .i64 0, .int .i64 0] 107))
      clear hb3 NR' CR GV BB
      go_wp2_with fail
      clear l0 l1 l2 l3 l4 l0' l1' l2' l3' l4'
      generalize w2.alloc (.cells #[.int .i64 0, .int .i64 0, .int .i64 0, .int .i64 0] 107) = W3 at *
      generalize hFB : w2.heap.size = FB at *
      clear hFB
      go_loopw [35] (fun i wr => ∃ (k g' cap' : Nat), k ≤ 4 ∧ i = .int .i64 k ∧ Hid (Grv wr base p g' cap' mb (pk L' n x y G k).1) ∧ Hid (CRow wr w.heap.size x y) ∧ Hid (NRow wr (w.heap.size + 1) ((n : Int) + 1, (qa G q).2)) ∧ Hid (FRow wr FB (fun j => if j < k then ia (pk L' n x y G k).2 j else 0)) ∧ Hid (Below base w wr) ∧ Hid (RowsKept w wr)) (fun i _ => 4 - (intOf i).toNat)
      case atStart => exact ⟨0, g, cap, by omega, rfl, HG3.out, HC3.out, HN3.out, (HF3.out.congr fun j hj => by simp), HB3.out.mono hbs, RowsKept.of_below HB3.out⟩
      case round =>
        clear HG3 HC3 HF3 HB3 HN3
        obtain ⟨k, g1, cap1, hk, rfl, HG, HCR, HNR, HFR, HB, HRK⟩ := hrel
        by_cases hlt : k < 4
        · have hidx := four_index (qa G q).2 k hlt
          unfold kv at hidx
          have k0 : (0 : Int) ≤ (k : Int) := by omega
          have k1 : (k : Int) < 4 := by omega
          have hkk := HKS.out.2.2.1 k hlt
          rw [hkk] at hidx
          have b0 := World.rowIs.cell HCR.out (i := 0) (by omega)
          have b1 := World.rowIs.cell HCR.out (i := 1) (by omega)
          simp only [if_true, if_false, Nat.one_ne_zero] at b0 b1
          have b2 := HNR.out.lev
          dsimp only at b2
          have hx : -100000 ≤ kx n k x ∧ kx n k x + 2 ^ n ≤ 100000 := by
            rcases kx_or n k x hlt with e | e <;> rw [e] <;> omega
          have hy : -100000 ≤ ky n k y ∧ ky n k y + 2 ^ n ≤ 100000 := by
            rcases ky_or n k y hlt with e | e <;> rw [e] <;> omega
          have HKC := hid (c_kidCorner n k (by omega) hlt x y wr x0 (by omega) y0 (by omega))
          have HPK := hid (show (pk L' n x y G (k + 1)).1 = (treeL L' n (kx n k x) (ky n k y) (pk L' n x y G k).1).1 from rfl)
          go_wp2_with fail
          refine HKC.out.mono ?_
          rintro e w3 ⟨rfl, hb⟩
          have hpf := HPF.out k
          have hl4 : k * 4 ^ n ≤ 3 * 4 ^ n := Nat.mul_le_mul_right _ (by omega)
          have hkt := (HT.out.kid k hlt).more (HPM.out k).1 (HPM.out k).2
          have HPL := hid (HIH.out (kidq G q k) (kx n k x) (ky n k y) (pk L' n x y G k).1 g1 cap1 w3 (by omega) hpf.1 (by have := HLEN.out; have := hpf.2.1; omega) hx.1 hx.2 hy.1 hy.2 hkt (fun c hc => HCC.out c (sqB_kid hc (kx_or n k x hlt) (ky_or n k y hlt))) (HG.out.below hb))
          have HR2 := hid (HRK.out.trans (RowsKept.of_below hb))
          have HC2 := hid (World.rowIs.of_block HCR.out (hb.block _ (World.rowIs.lt HCR.out)))
          have HN2 := hid (World.rowIs.of_block HNR.out (hb.block _ (World.rowIs.lt HNR.out)))
          have HF2 := hid (World.rowIs.of_block HFR.out (hb.block _ (World.rowIs.lt HFR.out)))
          have HB2 := hid (HB.out.trans (hb.mono (Nat.le_trans hbs HB.out.size)))
          clear HKC hb hpf hl4 HG HCR HFR HB HRK HNR hkt hidx
          go_wp2_with fail
          refine HPL.out.mono ?_
          rintro e w4 ⟨g3, cap3, rfl, hG3, hb3, hr3⟩
          have HC3 := hid (hr3 _ _ _ _ (by decide) (by decide) HC2.out)
          have HN3 := hid (hr3 _ _ _ _ (by decide) (by decide) HN2.out)
          have hF3 := hr3 _ _ _ _ (by decide) (by decide) HF2.out
          have c9 := hF3.cell (i := k) (by omega)
          have f9 := hF3.frozen k
          have hF4 : FRow (w4.setCell ⟨FB, k, none⟩ (.int .i64 ((treeL L' n (kx n k x) (ky n k y) (pk L' n x y G k).1).2 : Int))) FB (fun j => if j < k + 1 then ia (pk L' n x y G (k + 1)).2 j else 0) := by
            refine (World.rowIs.set hF3 k _).congr fun j hj => ?_
            dsimp only
            rw [← HPA.out k j]
            by_cases e : j = k
            · rw [if_pos e, if_pos e]
            · rw [if_neg e, if_neg e]
          have HF4 := hid hF4
          have HC4 := hid (World.rowIs.setOther HC3.out (a := ⟨FB, k, none⟩) (by dsimp only; omega) (.int .i64 ((treeL L' n (kx n k x) (ky n k y) (pk L' n x y G k).1).2 : Int)))
          have HN4 := hid (World.rowIs.setOther HN3.out (a := ⟨FB, k, none⟩) (by dsimp only; omega) (.int .i64 ((treeL L' n (kx n k x) (ky n k y) (pk L' n x y G k).1).2 : Int)))
          have HG4 := hid (hG3.setFour hF3 k ((treeL L' n (kx n k x) (ky n k y) (pk L' n x y G k).1).2 : Int))
          have HB4 := hid ((HB2.out.trans hb3).setCell (p := ⟨FB, k, none⟩) (by dsimp only; omega) (.int .i64 ((treeL L' n (kx n k x) (ky n k y) (pk L' n x y G k).1).2 : Int)))
          have HR4 := hid (rows_set (HR2.out.trans hr3) (show w.heap.size ≤ FB by omega) k (.int .i64 ((treeL L' n (kx n k x) (ky n k y) (pk L' n x y G k).1).2 : Int)))
          rw [← HPK.out] at HG4
          clear HPL hG3 hb3 hr3 hF3 hF4 HC3 HC2 HF2 HB2 HR2 b0 b1 b2 HN2 HN3
          generalize ((treeL L' n (kx n k x) (ky n k y) (pk L' n x y G k).1).2 : Int) = TQ at *
          go_wp2_with fail
          go_roundw
          case rel => exact ⟨k + 1, g3, cap3, by omega, by go_num, HG4.out, HC4.out, HN4.out, HF4.out, HB4.out, HR4.out⟩
          case measure => simp [intOf]; omega
        · obtain rfl : k = 4 := by omega
          have hpf := HPF.out 4
          have b0 := World.rowIs.cell HFR.out (i := 0) (by omega)
          have b1 := World.rowIs.cell HFR.out (i := 1) (by omega)
          have b2 := World.rowIs.cell HFR.out (i := 2) (by omega)
          have b3 := World.rowIs.cell HFR.out (i := 3) (by omega)
          simp only [show (0 : Nat) < 4 by omega, show (1 : Nat) < 4 by omega, show (2 : Nat) < 4 by omega, show (3 : Nat) < 4 by omega, if_true] at b0 b1 b2 b3
          have HJ := hid (c_ijoin (pk L' n x y G 4).2 hpf.2.2 wr HG.out hpf.1 (by have := HLEN.out; have := hpf.2.1; omega) HPJ.out)
          unfold kv at HJ
          generalize pk L' n x y G 4 = PP at *
          clear hpf
          go_wp2_with fail
          refine HJ.out.mono ?_
          rintro e w3 ⟨g3, cap3, rfl, hG3, hb3, hr3⟩
          have HG3 := hid hG3
          have HB3 := hid (HB.out.trans hb3)
          have HR3 := hid (HRK.out.trans hr3)
          clear hG3 hb3 hr3 HJ
          go_wp2_with fail
          go_ret
          rw [HP4.out]
          exact ⟨g3, cap3, rfl, HG3.out, HB3.out, HR3.out⟩

end Go.Proofs.Ytmapbkefndbnnaa

namespace Go.Proofs.Ytmapbkefndbnnaa
open Go.RowKit Go.Maps
set_option linter.unusedVariables false
set_option linter.unusedSimpArgs false
attribute [local go_sem ↓] Go.wp_at_zero Go.wp_at_succ

theorem c_inner (i : Nat) (hi : i < 4) (w : World) :
    Calls Try.prog 143 #[.int .i64 (i : Int)] w fun e w' => e = .returned (.int .i64 ((3 - i : Nat) : Int)) ∧ w' = w := by
  rcases (show i = 0 ∨ i = 1 ∨ i = 2 ∨ i = 3 by omega) with rfl | rfl | rfl | rfl
  all_goals
    go_enter Try.func143, Try.ntmps143
    go_wp2
    go_ret
    exact ⟨rfl, rfl⟩

/-- Is there a quad of that number, of a level in a range? -/
def hlB (G : List Qd) (q least most : Int) : Bool := inB 0 ((G.length : Int) - 1) q && inB least most (qa G q.toNat).1
set_option maxHeartbeats 1000000 in
theorem c_hasLevel (q least most : Int) (v : Bool) (w : World) {base p g cap mb : Nat} {G : List Qd} (hv : hlB G q least most = v) (h : Grv w base p g cap mb G) :
    Calls Try.prog 120 #[.pointer (some ⟨p, 0, none⟩), .int .i64 q, .int .i64 least, .int .i64 most] w fun e w' => e = .returned (.bool v) ∧ Below w.heap.size w w' := by
  have HG := hid h
  have HV := hid hv
  unfold hlB at HV
  clear hv h
  cases hin : inB 0 ((G.length : Int) - 1) q
  · have HW := hid (show v = false by have := HV.out; rw [hin] at this; simpa using this.symm)
    have HH := hid (c_has' q false w hin HG.out)
    go_enter Try.func120, Try.ntmps120
    go_wp2_with fail
    refine HH.out.mono ?_
    rintro e w1 ⟨rfl, hb⟩
    go_wp2
    go_ret
    exact ⟨ret_bool HW.out.symm, hb⟩
  · have HH := hid (c_has' q true w hin HG.out)
    have hbd := inB_bd hin
    have i0 : 0 ≤ q := hbd.1
    have i1 : q < (G.length : Int) := by omega
    by_cases h1 : least ≤ (qa G q.toNat).1
    · have d1 : decide (least ≤ (qa G q.toNat).1) = true := decide_eq_true h1
      have HW := hid (show v = decide ((qa G q.toNat).1 ≤ most) by have := HV.out; rw [hin] at this; unfold inB at this; rw [d1] at this; simpa using this.symm)
      clear hin
      go_enter Try.func120, Try.ntmps120
      go_wp2_with fail
      refine HH.out.mono ?_
      rintro e w1 ⟨rfl, hb⟩
      have G1 := HG.out.below hb
      have c0 := G1.c0
      have c1 := G1.lev (i := q.toNat) (by omega)
      clear G1 HH
      go_wp2
      go_ret
      exact ⟨ret_bool HW.out.symm, hb⟩
    · have d1 : decide (least ≤ (qa G q.toNat).1) = false := decide_eq_false h1
      have HW := hid (show v = false by have := HV.out; rw [hin] at this; unfold inB at this; rw [d1] at this; simpa using this.symm)
      clear hin
      go_enter Try.func120, Try.ntmps120
      go_wp2_with fail
      refine HH.out.mono ?_
      rintro e w1 ⟨rfl, hb⟩
      have G1 := HG.out.below hb
      have c0 := G1.c0
      have c1 := G1.lev (i := q.toNat) (by omega)
      clear G1 HH
      go_wp2
      go_ret
      exact ⟨ret_bool HW.out.symm, hb⟩

/-- Is a cell within the square of level n? -/
def hoB (n : Nat) (c : Cl) : Bool := decide (0 ≤ c.1) && decide (c.1 < 2 ^ n) && decide (0 ≤ c.2) && decide (c.2 < 2 ^ n)
theorem hoB_sq {n : Nat} {c : Cl} (h : hoB n c = true) : sqB n 0 0 c := by
  simp only [hoB, Bool.and_eq_true, decide_eq_true_eq] at h
  unfold sqB
  omega
set_option maxHeartbeats 1000000 in
set_option maxRecDepth 100000 in
theorem c_holds (q : Int) (c : Cl) (n : Nat) (hn : n ≤ 5) (v : Bool) (w : World) {base p g cap mb : Nat} {G : List Qd} (hv : hoB n c = v) (h0 : 0 ≤ q) (h1 : q < (G.length : Int)) (hl : (qa G q.toNat).1 = (n : Int)) (h : Grv w base p g cap mb G) :
    Calls Try.prog 102 #[.pointer (some ⟨p, 0, none⟩), .int .i64 q, .agg #[.int .i64 c.1, .int .i64 c.2]] w fun e w' => e = .returned (.bool v) ∧ Below w.heap.size w w' := by
  have hpos := pow_pos' n
  have hle : (2 : Int) ^ n ≤ 32 := pow_le5 hn
  have hb1 := (Below.refl w.heap.size w).alloc (Nat.le_refl _) (.cells #[.int .i64 c.1, .int .i64 c.2] 39)
  have G1 := h.below hb1
  have c0 := G1.c0
  have c1 := G1.lev (i := q.toNat) (by omega)
  rw [hl] at c1
  have HB := hid hb1
  have HV := hid hv
  unfold hoB at HV
  clear G1 h hv hl
  by_cases e1 : 0 ≤ c.1
  · have d1 : decide (0 ≤ c.1) = true := decide_eq_true e1
    by_cases e2 : c.1 < 2 ^ n
    · have d2 : decide (c.1 < 2 ^ n) = true := decide_eq_true e2
      by_cases e3 : 0 ≤ c.2
      · have d3 : decide (0 ≤ c.2) = true := decide_eq_true e3
        have HW := hid (show v = decide (c.2 < 2 ^ n) by have := HV.out; rw [d1, d2, d3] at this; simpa using this.symm)
        go_enter Try.func102, Try.ntmps102
        go_wp2
        go_ret
        exact ⟨ret_bool HW.out.symm, HB.out⟩
      · have d3 : decide (0 ≤ c.2) = false := decide_eq_false e3
        have HW := hid (show v = false by have := HV.out; rw [d1, d2, d3] at this; simpa using this.symm)
        go_enter Try.func102, Try.ntmps102
        go_wp2
        go_ret
        exact ⟨ret_bool HW.out.symm, HB.out⟩
    · have d2 : decide (c.1 < 2 ^ n) = false := decide_eq_false e2
      have HW := hid (show v = false by have := HV.out; rw [d1, d2] at this; simpa using this.symm)
      go_enter Try.func102, Try.ntmps102
      go_wp2
      go_ret
      exact ⟨ret_bool HW.out.symm, HB.out⟩
  · have d1 : decide (0 ≤ c.1) = false := decide_eq_false e1
    have HW := hid (show v = false by have := HV.out; rw [d1] at this; simpa using this.symm)
    go_enter Try.func102, Try.ntmps102
    go_wp2
    go_ret
    exact ⟨ret_bool HW.out.symm, HB.out⟩

theorem midK_at {F : List Qd} {q k : Nat} (hk : k < 4) : ia (midK F q) k = (kidq F (kidq F q k) (3 - k) : Int) := by
  rcases (show k = 0 ∨ k = 1 ∨ k = 2 ∨ k = 3 by omega) with rfl | rfl | rfl | rfl <;> rfl

set_option maxHeartbeats 4000000 in
set_option maxRecDepth 100000 in
theorem c_centre {L : List Cl} {X Y : Int} (n q : Nat) (w : World) {base p g cap mb : Nat} {G : List Qd} (hGr : Grows G) (hlen : G.length ≤ 10000) (hT : IsT L G (n + 2) q X Y) (hG : Grv w base p g cap mb G) :
    Calls Try.prog 121 #[.pointer (some ⟨p, 0, none⟩), .int .i64 (q : Int)] w fun e w' => ∃ g' cap', e = .returned (.int .i64 ((joinF G (midK G q)).2 : Int)) ∧ Grv w' base p g' cap' mb (joinF G (midK G q)).1 ∧ Below base w w' ∧ RowsKept w w' := by
  have hq := hT.lt hGr.two
  have hks := hid hT.kids
  have hbs : base ≤ w.heap.size := Nat.le_trans hG.lowp (Nat.le_of_lt hG.box.lt)
  have hb1 := (Below.refl w.heap.size w).alloc (Nat.le_refl _) (.cells #[.int .i64 0, .int .i64 0, .int .i64 0, .int .i64 0] 107)
  have G1 := hid (hG.below hb1)
  have c0 := G1.out.c0
  have n1 := G1.out.kidAt hq (j := 0) (by omega)
  have n2 := G1.out.kidAt hq (j := 1) (by omega)
  have n3 := G1.out.kidAt hq (j := 2) (by omega)
  have n4 := G1.out.kidAt hq (j := 3) (by omega)
  rw [Nat.add_zero] at n1
  have i0 : (0 : Int) ≤ (q : Int) := by omega
  have i1 : (q : Int) < (G.length : Int) := by omega
  have HF1 := hid (frow_new w)
  have HB1 := hid hb1
  have HGG := hid hG
  have hpl := hG.box.lt
  have hgl := hG.lt.2
  have HKK := hid (fun (k : Nat) (hk : k < 4) => (⟨(hT.kid k hk).lt hGr.two, fun j hj => (hT.kid k hk).kids.2.2.1 j hj, fun j hj => ((hT.kid k hk).kid j hj).lt hGr.two⟩ : _ ∧ (∀ j, j < 4 → ia (qa G (kidq G q k)).2 j = (kidq G (kidq G q k) j : Int)) ∧ (∀ j, j < 4 → kidq G (kidq G q k) j < G.length)))
  clear hb1 hG hT
  go_enter Try.func121, Try.ntmps121
  go_wp2_with fail
  go_loopw [16] (fun i wr => ∃ (k : Nat), k ≤ 4 ∧ i = .int .i64 k ∧ Hid (FRow wr w.heap.size (fun j => if j < k then ia (midK G q) j else 0)) ∧ Hid (Below w.heap.size w wr)) (fun i _ => 4 - (intOf i).toNat)
  case atStart => exact ⟨0, by omega, rfl, (HF1.out.congr fun j hj => by simp), HB1.out⟩
  case round =>
    clear HF1 HB1 n1 n2 n3 n4 c0 G1
    obtain ⟨k, hk, rfl, HFR, HB⟩ := hrel
    have GW := hid (HGG.out.below HB.out)
    by_cases hlt : k < 4
    · have hidx := four_index (qa G q).2 k hlt
      unfold kv at hidx
      have k0 : (0 : Int) ≤ (k : Int) := by omega
      have k1 : (k : Int) < 4 := by omega
      rw [hks.out.2.2.1 k hlt] at hidx
      obtain ⟨z1, z2, z3⟩ := HKK.out k hlt
      have e0 := GW.out.c0
      have e1 := GW.out.kidAt z1 (j := 3 - k) (by omega)
      rw [z2 (3 - k) (by omega)] at e1
      have HZ := hid (⟨e0, e1⟩ : _ ∧ _)
      have c9 := World.rowIs.cell HFR.out (i := k) (by omega)
      have f9 := World.rowIs.frozen HFR.out k
      have hF4 : FRow (wr.setCell ⟨w.heap.size, k, none⟩ (.int .i64 (kidq G (kidq G q k) (3 - k) : Int))).drew w.heap.size (fun j => if j < k + 1 then ia (midK G q) j else 0) := by
        refine (World.rowIs.drew (World.rowIs.set HFR.out k _)).congr fun j hj => ?_
        dsimp only
        by_cases e : j = k
        · subst e; rw [if_pos rfl, if_pos (by omega), midK_at hlt]
        · rw [if_neg e]
          have : (j < k + 1) = (j < k) := by apply propext; omega
          simp [this]
      have HF4 := hid hF4
      have HB4 := hid ((HB.out.setCell (p := ⟨w.heap.size, k, none⟩) (Nat.le_refl _) (.int .i64 (kidq G (kidq G q k) (3 - k) : Int))).drew)
      have GZ := HGG.out.below HB4.out
      have HZ2 := hid (⟨GZ.c0, by have := GZ.kidAt z1 (j := 3 - k) (by omega); rw [z2 (3 - k) (by omega)] at this; exact this⟩ : (wr.setCell ⟨w.heap.size, k, none⟩ (.int .i64 (kidq G (kidq G q k) (3 - k) : Int))).drew.cell? ⟨p, 0, none⟩ = some (.slice (some ⟨g, 0, none⟩) G.length cap) ∧ (wr.setCell ⟨w.heap.size, k, none⟩ (.int .i64 (kidq G (kidq G q k) (3 - k) : Int))).drew.cell? ⟨g, kidq G q k * 5 + 1 + (3 - k), none⟩ = some (.int .i64 (kidq G (kidq G q k) (3 - k) : Int)))
      clear GZ
      have j0 : (0 : Int) ≤ ((kidq G q k : Nat) : Int) := by omega
      have j1 : ((kidq G q k : Nat) : Int) < (G.length : Int) := by omega
      have j2 : (0 : Int) ≤ ((3 - k : Nat) : Int) := by omega
      have j3 : ((3 - k : Nat) : Int) < 4 := by omega
      clear hF4 z1 z2 z3
      generalize kidq G (kidq G q k) (3 - k) = RV at *
      generalize kidq G q k = KQ at *
      have HIN := hid (fun W => c_inner k hlt W)
      generalize hk3 : 3 - k = K3 at *
      clear hk3
      go_wp2_with fail
      go_region_held3 (fun W => W.cell? ⟨p, 0, none⟩ = some (.slice (some ⟨g, 0, none⟩) G.length cap) ∧ W.cell? ⟨g, KQ * 5 + 1 + K3, none⟩ = some (.int .i64 (RV : Int)))
        (first | exact HZ.out | exact HZ2.out | go_keep)
        (first | (go_at_call 143; refine (HIN.out _).mono ?_; rintro e w7 ⟨rfl, rfl⟩))
      clear e0 e1
      go_wp2_with fail
      go_roundw
      case rel => exact ⟨k + 1, by omega, by go_num, HF4.out, HB4.out⟩
      case measure => simp [intOf]; omega
    · obtain rfl : k = 4 := by omega
      have b0 := World.rowIs.cell HFR.out (i := 0) (by omega)
      have b1 := World.rowIs.cell HFR.out (i := 1) (by omega)
      have b2 := World.rowIs.cell HFR.out (i := 2) (by omega)
      have b3 := World.rowIs.cell HFR.out (i := 3) (by omega)
      simp only [show (0 : Nat) < 4 by omega, show (1 : Nat) < 4 by omega, show (2 : Nat) < 4 by omega, show (3 : Nat) < 4 by omega, if_true] at b0 b1 b2 b3
      have HJ := hid (c_ijoin (midK G q) rfl wr GW.out hGr (by omega) (fun j hj => by rw [midK_at hj]; have := (HKK.out j hj).2.2 (3 - j) (by omega); omega))
      unfold kv at HJ
      generalize hPP : midK G q = PP at *
      go_wp2_with fail
      refine HJ.out.mono ?_
      rintro e w3 ⟨g3, cap3, rfl, hG3, hb3, hr3⟩
      have HG3 := hid hG3
      have HB3 := hid ((HB.out.mono hbs).trans hb3)
      have HR3 := hid ((RowsKept.of_below HB.out).trans hr3)
      clear hG3 hb3 hr3 HJ
      go_wp2_with fail
      go_ret
      subst hPP
      exact ⟨g3, cap3, rfl, HG3.out, HB3.out, HR3.out⟩

end Go.Proofs.Ytmapbkefndbnnaa

namespace Go.Proofs.Ytmapbkefndbnnaa
open Go.RowKit Go.Maps
set_option linter.unusedVariables false
set_option linter.unusedSimpArgs false
attribute [local go_sem ↓] Go.wp_at_zero Go.wp_at_succ

/-- Alive or not, as a number. -/
def bitC (L : List Cl) (c : Cl) : Nat := if c ∈ L then 1 else 0
theorem IsT.bit {L : List Cl} {F : List Qd} {q : Nat} {x y : Int} (h : IsT L F 0 q x y) : q = bitC L (x, y) := h
theorem bitC_lt (L : List Cl) (c : Cl) : bitC L c < 2 := by unfold bitC; split <;> omega

set_option maxHeartbeats 4000000 in
set_option maxRecDepth 100000 in
theorem c_merge (La Lb L' : List Cl) (f : Nat) (hf : f = 114 ∨ f = 116) (op : Nat → Nat → Nat) (hop : ∀ (i j : Nat) (W : World), i < 2 → j < 2 → Calls Try.prog f #[.int .i64 (i : Int), .int .i64 (j : Int)] W fun e w' => e = .returned (.int .i64 (op i j : Int)) ∧ w' = W) (base p mb : Nat) : ∀ (n a b : Nat) (x y : Int) (G : List Qd) (g cap : Nat) (w : World),
    n ≤ 5 → Grows G → G.length + 4 ^ n ≤ 10000 → IsT La G n a x y → IsT Lb G n b x y → (∀ c, sqB n x y c → bitC L' c = op (bitC La c) (bitC Lb c)) → Grv w base p g cap mb G →
    Calls Try.prog 142 #[.pointer (some ⟨p, 0, none⟩), .int .i64 (a : Int), .int .i64 (b : Int), .func (.func f) #[] #[]] w fun e w' => ∃ g' cap', e = .returned (.int .i64 ((treeL L' n x y G).2 : Int)) ∧ Grv w' base p g' cap' mb (treeL L' n x y G).1 ∧ Below base w w' ∧ RowsKept w w' := by
  intro n
  induction n with
  | zero =>
    intro a b x y G g cap w hn hGr hlen hTa hTb hC hG
    have ha := hTa.lt hGr.two
    have hlev := hTa.lev hGr
    have HG := hid hG
    have c0 := hG.c0
    have n0 := hG.lev ha
    rw [hlev] at n0
    have i0 : (0 : Int) ≤ (a : Int) := by omega
    have i1 : (a : Int) < (G.length : Int) := by omega
    have ea := hTa.bit
    have eb := hTb.bit
    have hc := hC (x, y) (by unfold sqB; simp; omega)
    have HO := hid (fun W => hop a b W (by rw [ea]; exact bitC_lt _ _) (by rw [eb]; exact bitC_lt _ _))
    have HV : Hid (treeL L' 0 x y G = (G, op a b)) := by
      show treeL L' 0 x y G = (G, op a b)
      rw [ea, eb, ← hc]
      rfl
    clear hG hTa hTb hC hc ea eb hlev
    rcases hf with rfl | rfl
    all_goals
      go_enter Try.func142, Try.ntmps142
      go_wp2_with fail
      refine (HO.out _).mono ?_
      rintro e w1 ⟨rfl, rfl⟩
      go_wp2_with fail
      go_ret
      rw [HV.out]
      exact ⟨g, cap, rfl, HG.out, Below.refl _ _, RowsKept.of_below (Below.refl _ _)⟩
  | succ n ih =>
    intro a b x y G g cap w hn hGr hlen hTa hTb hC hG
    have ha := hTa.lt hGr.two
    have hb := hTb.lt hGr.two
    have hlev := hTa.lev hGr
    have HKA := hid hTa.kids
    have HKB := hid hTb.kids
    have hbs : base ≤ w.heap.size := Nat.le_trans hG.lowp (Nat.le_of_lt hG.box.lt)
    have c0 := hG.c0
    have n0 := hG.lev ha
    rw [hlev, show ((n + 1 : Nat) : Int) = (n : Int) + 1 by omega] at n0
    have i0 : (0 : Int) ≤ (a : Int) := by omega
    have i1 : (a : Int) < (G.length : Int) := by omega
    have HIH := hid ih
    have h4 : (4 : Nat) ^ (n + 1) = 4 * 4 ^ n := by rw [Nat.pow_succ]; omega
    rw [h4] at hlen
    have HPF := hid (fun k => pk_facts L' n x y G (by omega) hGr k)
    have HPM := hid (fun k => pk_more L' n x y G (by omega) hGr k)
    have HPJ := hid (pk_join L' n x y G (by omega) hGr)
    have HPA := hid (fun k j => pk_at L' n x y G (by omega) hGr k j)
    have HP4 := hid (pk_four L' n x y G)
    have HLEN := hid hlen
    have HTA := hid hTa
    have HTB := hid hTb
    have HCC := hid hC
    have HG := hid hG
    have hb1 := (Below.refl w.heap.size w).alloc (Nat.le_refl _) (.cells #[.int .i64 0, .int .i64 0, .int .i64 0, .int .i64 0] 107)
    have HG3 := hid (hG.below hb1)
    have HF3 := hid (frow_new w)
    have HB3 := hid hb1
    clear hG hTa hTb hC hlev ih hlen h4 hb1
    have dn : ((n : Int) + 1 == 0) = false := by simp; omega
    go_enter Try.func142, Try.ntmps142
    go_wp2_with fail
    go_loopw [24] (fun i wr => ∃ (k g' cap' : Nat), k ≤ 4 ∧ i = .int .i64 k ∧ Hid (Grv wr base p g' cap' mb (pk L' n x y G k).1) ∧ Hid (FRow wr w.heap.size (fun j => if j < k then ia (pk L' n x y G k).2 j else 0)) ∧ Hid (Below base w wr) ∧ Hid (RowsKept w wr)) (fun i _ => 4 - (intOf i).toNat)
    case atStart => exact ⟨0, g, cap, by omega, rfl, HG3.out, (HF3.out.congr fun j hj => by simp), HB3.out.mono hbs, RowsKept.of_below HB3.out⟩
    case round =>
      clear HG3 HF3 HB3 c0 n0 HG
      obtain ⟨k, g1, cap1, hk, rfl, HG, HFR, HB, HRK⟩ := hrel
      by_cases hlt : k < 4
      · have k0 : (0 : Int) ≤ (k : Int) := by omega
        have k1 : (k : Int) < 4 := by omega
        have hpf := HPF.out k
        have hpm := HPM.out k
        have hl4 : k * 4 ^ n ≤ 3 * 4 ^ n := Nat.mul_le_mul_right _ (by omega)
        have hkt := (HTA.out.kid k hlt).more hpm.1 hpm.2
        have hkt2 := (HTB.out.kid k hlt).more hpm.1 hpm.2
        have HPK := hid (show (pk L' n x y G (k + 1)).1 = (treeL L' n (kx n k x) (ky n k y) (pk L' n x y G k).1).1 from rfl)
        have GD := hid (HG.out.below ((Below.refl wr.heap.size wr).drew))
        have HPL := hid (HIH.out (kidq G a k) (kidq G b k) (kx n k x) (ky n k y) (pk L' n x y G k).1 g1 cap1 wr.drew (by omega) hpf.1 (by have := HLEN.out; have := hpf.2.1; omega) hkt hkt2 (fun c hc => HCC.out c (sqB_kid hc (kx_or n k x hlt) (ky_or n k y hlt))) GD.out)
        have e0 := HG.out.c0
        have e1 := HG.out.kidAt (i := a) (by omega) (j := k) hlt
        have e2 := HG.out.kidAt (i := b) (by omega) (j := k) hlt
        rw [hpm.2 a ha, HKA.out.2.2.1 k hlt] at e1
        rw [hpm.2 b hb, HKB.out.2.2.1 k hlt] at e2
        have m0 : (0 : Int) ≤ (a : Int) := by omega
        have m1 : (a : Int) < ((pk L' n x y G k).1.length : Int) := by omega
        have m2 : (0 : Int) ≤ (b : Int) := by omega
        have m3 : (b : Int) < ((pk L' n x y G k).1.length : Int) := by omega
        have FD := hid (World.rowIs.drew HFR.out)
        have HBD := hid HB.out.drew
        have HRD := hid (HRK.out.trans (RowsKept.of_below ((Below.refl wr.heap.size wr).drew)))
        have hFl := World.rowIs.lt HFR.out
        clear hpf hl4 hkt hkt2 hpm GD i0 i1
        generalize kidq G a k = KA at *
        generalize kidq G b k = KB at *
        generalize hPN : (pk L' n x y G k).1.length = PN at *
        clear hPN
        go_wp2_with fail
        go_region_with (go_at_call 142; refine HPL.out.mono ?_; rintro e w4 ⟨g3, cap3, rfl, hG3, hb3, hr3⟩; have hF3 := hr3 _ _ _ _ (by decide) (by decide) FD.out; have c9 := hF3.cell (i := k) (by omega); have f9 := hF3.frozen k)
        all_goals
          have hF4 : FRow (w4.setCell ⟨w.heap.size, k, none⟩ (.int .i64 ((treeL L' n (kx n k x) (ky n k y) (pk L' n x y G k).1).2 : Int))) w.heap.size (fun j => if j < k + 1 then ia (pk L' n x y G (k + 1)).2 j else 0) := by
            refine (World.rowIs.set hF3 k _).congr fun j hj => ?_
            dsimp only
            rw [← HPA.out k j]
            by_cases e : j = k
            · rw [if_pos e, if_pos e]
            · rw [if_neg e, if_neg e]
          have HF4 := hid hF4
          have HG4 := hid (hG3.setFour hF3 k ((treeL L' n (kx n k x) (ky n k y) (pk L' n x y G k).1).2 : Int))
          have HB4 := hid ((HBD.out.trans hb3).setCell (p := ⟨w.heap.size, k, none⟩) (by dsimp only; omega) (.int .i64 ((treeL L' n (kx n k x) (ky n k y) (pk L' n x y G k).1).2 : Int)))
          have HR4 := hid (rows_set (HRD.out.trans hr3) (Nat.le_refl w.heap.size) k (.int .i64 ((treeL L' n (kx n k x) (ky n k y) (pk L' n x y G k).1).2 : Int)))
          rw [← HPK.out] at HG4
          clear HPL hG3 hb3 hr3 hF3 hF4 FD HBD HRD e0 e1 e2 HG HFR HB HRK
          generalize ((treeL L' n (kx n k x) (ky n k y) (pk L' n x y G k).1).2 : Int) = TQ at *
          go_wp2_with fail
          go_roundw
          case rel => exact ⟨k + 1, g3, cap3, by omega, by go_num, HG4.out, HF4.out, HB4.out, HR4.out⟩
          case measure => simp [intOf]; omega
      · obtain rfl : k = 4 := by omega
        have hpf := HPF.out 4
        have b0 := World.rowIs.cell HFR.out (i := 0) (by omega)
        have b1 := World.rowIs.cell HFR.out (i := 1) (by omega)
        have b2 := World.rowIs.cell HFR.out (i := 2) (by omega)
        have b3 := World.rowIs.cell HFR.out (i := 3) (by omega)
        simp only [show (0 : Nat) < 4 by omega, show (1 : Nat) < 4 by omega, show (2 : Nat) < 4 by omega, show (3 : Nat) < 4 by omega, if_true] at b0 b1 b2 b3
        have HJ := hid (c_ijoin (pk L' n x y G 4).2 hpf.2.2 wr HG.out hpf.1 (by have := HLEN.out; have := hpf.2.1; omega) HPJ.out)
        unfold kv at HJ
        generalize pk L' n x y G 4 = PP at *
        clear hpf
        go_wp2_with fail
        refine HJ.out.mono ?_
        rintro e w3 ⟨g3, cap3, rfl, hG3, hb3, hr3⟩
        have HG3 := hid hG3
        have HB3 := hid (HB.out.trans hb3)
        have HR3 := hid (HRK.out.trans hr3)
        clear hG3 hb3 hr3 HJ
        go_wp2_with fail
        go_ret
        rw [HP4.out]
        exact ⟨g3, cap3, rfl, HG3.out, HB3.out, HR3.out⟩

/-- The two ways of merging. -/
def orN (a b : Nat) : Nat := if a = 1 then a else b
def lessN (a b : Nat) : Nat := if b = 1 then 0 else a
theorem c_either (i j : Nat) (W : World) (hi : i < 2) (hj : j < 2) : Calls Try.prog 114 #[.int .i64 (i : Int), .int .i64 (j : Int)] W fun e w' => e = .returned (.int .i64 (orN i j : Int)) ∧ w' = W := by
  rcases (show i = 0 ∨ i = 1 by omega) with rfl | rfl <;> rcases (show j = 0 ∨ j = 1 by omega) with rfl | rfl
  all_goals
    go_enter Try.func114, Try.ntmps114
    go_wp2
    go_ret
    exact ⟨rfl, rfl⟩
theorem c_without (i j : Nat) (W : World) (hi : i < 2) (hj : j < 2) : Calls Try.prog 116 #[.int .i64 (i : Int), .int .i64 (j : Int)] W fun e w' => e = .returned (.int .i64 (lessN i j : Int)) ∧ w' = W := by
  rcases (show i = 0 ∨ i = 1 by omega) with rfl | rfl <;> rcases (show j = 0 ∨ j = 1 by omega) with rfl | rfl
  all_goals
    go_enter Try.func116, Try.ntmps116
    go_wp2
    go_ret
    exact ⟨rfl, rfl⟩

end Go.Proofs.Ytmapbkefndbnnaa

namespace Go.Proofs.Ytmapbkefndbnnaa
open Go.RowKit
set_option linter.unusedVariables false
set_option linter.unusedSimpArgs false
attribute [local go_sem ↓] Go.wp_at_zero Go.wp_at_succ

/-- Blocks of the call's own, from the heap's end of w on. -/
def Bx (w W : World) (bs : List (Array Value × TypeId)) : Prop := (∀ i c t, bs[i]? = some (c, t) → W.heap[w.heap.size + i]? = some (.cells c t)) ∧ w.heap.size + bs.length ≤ W.heap.size ∧ Below w.heap.size w W
theorem Bx.nil (w : World) : Bx w w [] := ⟨fun i c t h => by simp at h, Nat.le_refl _, Below.refl _ _⟩
theorem Bx.add {w W : World} {bs : List (Array Value × TypeId)} (h : Bx w W bs) (hs : W.heap.size = w.heap.size + bs.length) (c : Array Value) (t : TypeId) : Bx w (W.alloc (.cells c t)) (bs ++ [(c, t)]) := by
  have hb := (Below.refl W.heap.size W).alloc (Nat.le_refl _) (.cells c t)
  refine ⟨fun i c' t' hi => ?_, by simp; omega, h.2.2.trans (hb.mono h.2.2.size)⟩
  by_cases e : i < bs.length
  · rw [List.getElem?_append_left e] at hi
    exact (hb.block _ (by omega)).trans (h.1 i c' t' hi)
  · have e2 : i = bs.length := by
      by_cases h2 : i = bs.length
      · exact h2
      · rw [List.getElem?_eq_none (by simp; omega)] at hi; cases hi
    subst e2
    simp at hi
    obtain ⟨rfl, rfl⟩ := hi
    rw [← hs]
    exact heap_alloc_new _ _
theorem Bx.step {w W W' : World} {bs : List (Array Value × TypeId)} (h : Bx w W bs) (hb : Below W.heap.size W W') : Bx w W' bs :=
  ⟨fun i c t hi => (hb.block _ (by have := (List.getElem?_eq_some_iff.1 hi).1; have := h.2.1; omega)).trans (h.1 i c t hi), Nat.le_trans h.2.1 hb.size, h.2.2.trans (hb.mono h.2.2.size)⟩
theorem Bx.cell {w W : World} {bs : List (Array Value × TypeId)} (h : Bx w W bs) (i j : Nat) {c : Array Value} {t : TypeId} {v : Value} (hi : bs[i]? = some (c, t)) (hj : c[j]? = some v) : W.cell? ⟨w.heap.size + i, j, none⟩ = some v := by
  unfold World.cell?
  rw [h.1 i c t hi]
  exact hj
theorem Bx.row {w W : World} {bs : List (Array Value × TypeId)} (h : Bx w W bs) (i : Nat) {v : Value} {t : TypeId} (hi : bs[i]? = some (#[v], t)) : W.rowIs (w.heap.size + i) t 1 (fun _ => v) := one_row (h.1 i _ t hi)
theorem Bx.lt {w W : World} {bs : List (Array Value × TypeId)} (h : Bx w W bs) (i : Nat) (hi : i < bs.length) : w.heap.size + i < W.heap.size := by have := h.2.1; omega

theorem hoB_in (n : Nat) (c : Cl) : hoB n c = (inB 0 (2 ^ n - 1) c.1 && inB 0 (2 ^ n - 1) c.2) := by
  have : ∀ z : Int, (decide (0 ≤ z) && decide (z ≤ 2 ^ n - 1)) = (decide (0 ≤ z) && decide (z < 2 ^ n)) := by
    intro z
    congr 1
    rw [decide_eq_decide]
    omega
  unfold hoB inB
  rw [this, this, Bool.and_assoc, Bool.and_assoc]

set_option maxHeartbeats 1000000 in
set_option maxRecDepth 100000 in
theorem c_l4Within (a : Option Addr) (F : List Qd) (ca : Nat) (q : Int) (c : Cl) (n : Nat) (hn : n ≤ 5) (v : Bool) (w : World) (hv : hoB n c = v) (h0 : 0 ≤ q) (h1 : q < (F.length : Int)) (hl : (qa F q.toNat).1 = (n : Int)) (ha : QSeg w a F) :
    Calls Try.prog 105 #[.agg #[.slice a F.length ca], .int .i64 q, .agg #[.int .i64 c.1, .int .i64 c.2]] w fun e w' => e = .returned (.bool v) ∧ Below w.heap.size w w' := by
  have hpos := pow_pos' n
  have hle : (2 : Int) ^ n ≤ 32 := pow_le5 hn
  obtain ⟨b1, o1, ak, ck, rfl, hb1, p1, _⟩ := ha q.toNat (by omega)
  have B1 := (Bx.nil w).add (by simp) #[.slice (some ⟨b1, o1, none⟩) F.length ca] 25
  have B2 := hid (B1.add (by simp) #[.int .i64 c.1, .int .i64 c.2] 39)
  have y := (B2.out.2.2.cell (p := ⟨b1, o1 + q.toNat * 2, none⟩) hb1).trans p1
  rw [hl] at y
  rw [hoB_in] at hv
  clear p1 B1 ha hl
  cases h1' : inB 0 (2 ^ n - 1) c.1
  · have HC := hid (fun W => c_l1In' c.1 0 (2 ^ n - 1) false h1' W)
    have HV := hid (show v = false by rw [h1'] at hv; simpa using hv.symm)
    clear hv h1'
    go_enter Try.func105, Try.ntmps105
    go_wp2_with fail
    refine (HC.out _).mono ?_
    rintro e w1 ⟨rfl, rfl⟩
    go_wp2_with fail
    go_ret
    exact ⟨ret_bool HV.out.symm, B2.out.2.2⟩
  · have HC := hid (fun W => c_l1In' c.1 0 (2 ^ n - 1) true h1' W)
    have HD := hid (fun W => c_l1In' c.2 0 (2 ^ n - 1) v (by rw [h1'] at hv; simpa using hv) W)
    clear hv h1'
    go_enter Try.func105, Try.ntmps105
    go_wp2_with fail
    refine (HC.out _).mono ?_
    rintro e w1 ⟨rfl, rfl⟩
    go_wp2_with fail
    refine (HD.out _).mono ?_
    rintro e w1 ⟨rfl, rfl⟩
    go_wp2_with fail
    go_ret
    exact ⟨rfl, B2.out.2.2⟩

/-- Cells without those that are to go. -/
def dropL (l m : List Cl) : List Cl := l.filter fun c => !decide (c ∈ m)
theorem filter_take_succ {l : List Cl} {f : Cl → Bool} {k : Nat} (h : k < l.length) : (l.take (k + 1)).filter f = (l.take k).filter f ++ (if f (at_ l k) then [at_ l k] else []) := by
  rw [List.take_succ_eq_append_getElem h, List.filter_append]
  have : l[k] = at_ l k := by simp [at_, h]
  rw [this]
  split <;> rename_i hf <;> simp [hf]

set_option maxHeartbeats 1000000 in
theorem c_l4Drop (a : Option Addr) (l : List Cl) (ca : Nat) (ga : Option Addr) (m : List Cl) (gc : Nat) (w : World) (ha : Seg w a l) (hl : l.length ≤ 1048576) (hm : Seg w ga m) (hml : m.length ≤ 1048576) :
    Calls Try.prog 106 #[.slice a l.length ca, .slice ga m.length gc] w fun e w' => ∃ v, e = .returned v ∧ OwnS w' w.heap.size v (dropL l m) ∧ Below w.heap.size w w' := by
  have HM := hid hm
  clear hm
  go_enter Try.func106, Try.ntmps106
  go_wp2
  go_loopw [5, 10] (fun v i wr => ∃ k : Nat, k ≤ l.length ∧ i = .int .i64 k ∧ Hid (OwnS wr w.heap.size v (dropL (l.take k) m)) ∧ Hid (Below w.heap.size w wr)) (fun _ i _ => l.length - (intOf i).toNat)
  case atStart => exact ⟨0, Nat.zero_le _, rfl, OwnS.nil _ _, Below.refl _ _⟩
  case round =>
    obtain ⟨k, hk, rfl, HO, HB⟩ := hrel
    by_cases hlt : k < l.length
    · obtain ⟨b1, o1, rfl, hb1, p1, p2⟩ := ha k hlt
      have g1 := (HB.out.cell (p := ⟨b1, o1 + k * 2, none⟩) hb1).trans p1
      have g2 := (HB.out.cell (p := ⟨b1, o1 + k * 2 + 1, none⟩) hb1).trans p2
      change _ = some (Value.int .i64 (at_ l k).1) at g1
      change _ = some (Value.int .i64 (at_ l k).2) at g2
      clear p1 p2
      have k0 : (0 : Int) ≤ (k : Int) := by omega
      have k1 : (k : Int) < (l.length : Int) := by omega
      have HS := hid (filter_take_succ (f := fun c => !decide (c ∈ m)) hlt)
      have HLL := hid (show (dropL (l.take k) m).length ≤ 1048576 by
        have h1 : (dropL (l.take k) m).length ≤ (l.take k).length := List.length_filter_le _ _
        rw [List.length_take] at h1; omega)
      have HSS : Hid (dropL (l.take (k + 1)) m = dropL (l.take k) m ++ (if !decide (at_ l k ∈ m) then [at_ l k] else [])) := HS.out
      clear HS
      generalize at_ l k = c at *
      generalize dropL (l.take k) m = lm at *
      have B1 := hid ((Bx.nil wr).add (by simp) #[.int .i64 c.1, .int .i64 c.2] 39)
      have hwr := HB.out.size
      cases hd : decide (c ∈ m)
      · have HC := hid (fun W (h : Below wr.heap.size wr W) => by have := c_l1Alive ga m gc c W ((HM.out.below HB.out).below h) hml; rw [hd] at this; exact this)
        rw [hd] at HSS
        go_wp2_with fail
        refine (HC.out _ B1.out.2.2).mono ?_
        rintro e w1 ⟨rfl, hb⟩
        have B2 := hid (B1.out.step hb)
        have e0 := B2.out.cell 0 0 (v := .int .i64 c.1) rfl rfl
        have e1 := B2.out.cell 0 1 (v := .int .i64 c.2) rfl rfl
        rw [Nat.add_zero] at e0 e1
        have hlw : wr.heap.size < w1.heap.size := by have := B2.out.lt 0 (by simp); simpa using this
        have HO1 := hid ((HO.out.below B2.out.2.2).below ((Below.refl w1.heap.size w1).alloc (Nat.le_refl _) (.cells #[.int .i64 c.1, .int .i64 c.2] 39)))
        have HBB := HB.out.trans (B2.out.2.2.mono hwr)
        have HB1 := hid (HBB.alloc HBB.size (.cells #[.int .i64 c.1, .int .i64 c.2] 39))
        have HSg := hid (seg_block (c := (c.1, c.2)) (heap_alloc_new w1 (.cells #[.int .i64 c.1, .int .i64 c.2] 39)))
        clear HC hb HBB
        go_wp2_with (at_builtin; refine wpList_app rfl _ _ rfl w.heap.size _ lm [(c.1, c.2)] _ 1 rfl HO1.out rfl HSg.out (by intro h; cases h) (by have := HLL.out; simp; omega) HB1.out.size ?_; intro v' w2 hO2 hG2)
        go_roundw
        case rel => exact ⟨k + 1, by omega, by go_num, by (show OwnS _ _ _ _; rw [HSS.out]; exact hO2), below_grown HB1.out HO1.out hG2⟩
        case measure => simp [intOf]; omega
      · have HC := hid (fun W (h : Below wr.heap.size wr W) => by have := c_l1Alive ga m gc c W ((HM.out.below HB.out).below h) hml; rw [hd] at this; exact this)
        rw [hd] at HSS
        go_wp2_with fail
        refine (HC.out _ B1.out.2.2).mono ?_
        rintro e w1 ⟨rfl, hb⟩
        have B2 := hid (B1.out.step hb)
        clear HC hb
        go_wp2_with fail
        go_roundw
        case rel => exact ⟨k + 1, by omega, by go_num, by (show OwnS _ _ _ _; rw [HSS.out]; simpa using HO.out.below B2.out.2.2), HB.out.trans (B2.out.2.2.mono hwr)⟩
        case measure => simp [intOf]; omega
    · go_wp2
      go_ret
      have : k = l.length := by omega
      subst this
      exact ⟨_, rfl, by simpa using HO.out, HB.out⟩

set_option maxHeartbeats 2000000 in
set_option maxRecDepth 100000 in
theorem c_l4Tell {F : List Qd} (hg : goodF F = true) (a : Option Addr) (ca : Nat) (n : Nat) (hn : n ≤ 5) (la : Option Addr) (L : List Cl) (lca : Nat) (w : World) (ha : QSeg w a F) (hnc : NoneCap w a F) (hL : Seg w la L) (hLl : L.length ≤ 1048576) :
    Calls Try.prog 107 #[.agg #[.slice a F.length ca], .int .i64 (n : Int), .slice la L.length lca] w fun e w' => ∃ u, e = .returned (.tuple #[.agg #[u], .int .i64 (tellQ (treeL L n 0 0 F).1 ((treeL L n 0 0 F).2 : Int)), .bool (tellB (treeL L n 0 0 F).1)]) ∧ GF w' w.heap.size u (tellF (treeL L n 0 0 F).1) ∧ Below w.heap.size w w' := by
  have hg2 := good_len2 hg
  have hGr := good_grows hg
  have hk : KidsLe F := hGr.kidsLe
  have HT := hid (treeL_tr L n 0 0 F hn hGr)
  have HP4 := hid (pow4_le hn)
  have HP2 := hid (pow_le_32 hn)
  have B1 := (Bx.nil w).add (by simp) #[.slice a F.length ca] 25
  have B2 := hid (B1.add (by simp) #[.slice none 0 0] 25)
  have Q2 := hid (ha.below B2.out.2.2)
  have N2 := hid (hnc.below ha B2.out.2.2)
  have L2 := hid (hL.below B2.out.2.2)
  have HGR := hid hGr
  clear B1 ha hnc hL hg hGr
  have x0 := B2.out.cell 0 0 (v := .slice a F.length ca) rfl rfl
  rw [Nat.add_zero] at x0
  go_enter Try.func107, Try.ntmps107
  go_wp2_with fail
  refine (c_l3Own a F ca _ Q2.out (by omega) hk N2.out).mono ?_
  rintro e w6 ⟨u, rfl, hG6, hb6⟩
  have HG6 := hid hG6
  obtain ⟨ua, uc, rfl, _⟩ := hG6.form
  have hb7 := (Below.refl w6.heap.size w6).alloc (Nat.le_refl _) (.cells #[.slice ua F.length uc, .bool false] 102)
  have B7 := hid ((B2.out.step hb6).step hb7)
  have hlow : w.heap.size + 2 ≤ w6.heap.size := by have := (B2.out.step hb6).2.1; simpa using this
  have hSF : SF (w6.alloc (.cells #[.slice ua F.length uc, .bool false] 102)) (w.heap.size + 2) w6.heap.size (.slice ua F.length uc) F := by
    refine ⟨(HG6.out.below hb7).mono (by simp), (two_row (heap_alloc_new _ _)).congr fun j hj => ?_, hlow⟩
    rcases (show j = 0 ∨ j = 1 by omega) with rfl | rfl
    · simp
    · simp; omega
  have HSF := hid hSF
  have HBL := hid (hb6.trans (hb7.mono hb6.size))
  have HCT := hid (c_stree L la lca _ L2.out hLl (w.heap.size + 2) w6.heap.size (by simp) n 0 0 _ F _ hn HGR.out (by have := HP4.out; omega) (by omega) (by have := HP2.out; omega) (by omega) (by have := HP2.out; omega) HSF.out HBL.out)
  clear hG6 hb6 hb7 hSF x0 HG6
  go_wp2_with fail
  refine HCT.out.mono ?_
  rintro e w7 ⟨v7, rfl, hS7, hb7⟩
  have HS7 := hid hS7
  have R7 := hid ((B7.out.row 1 (v := .slice none 0 0) rfl).of_block (hb7.block _ (by simp)))
  have B8 := hid (B7.out.2.2.trans (hb7.mono (by omega)))
  have hmost := HT.out.most
  clear HCT hS7 hb7
  have HTL := hid (c_tell ((treeL L n 0 0 F).2 : Int) w7 HS7.out (by have := HP4.out; omega) HT.out.grows.kidsLe)
  clear hmost
  go_wp2_with fail
  refine HTL.out.mono ?_
  rintro e w8 ⟨u8, rfl, hG8, hb8⟩
  have HG8 := hid hG8
  obtain ⟨ua8, uc8, rfl, _⟩ := hG8.form
  have R9 := R7.out.of_block (hb8.block _ R7.out.lt)
  have r0 := R9.cell (i := 0) (by omega)
  have f0 := R9.frozen 0
  have E0 := hid ((R9.set 0 (.slice ua8 (tellF (treeL L n 0 0 F).1).length uc8)).cell (i := 0) (by omega))
  simp only [if_true] at E0
  have HG9 := hid ((HG8.out.setRow (o := 0) R9 (by decide) (by decide) (.slice ua8 (tellF (treeL L n 0 0 F).1).length uc8)).mono (show w.heap.size ≤ _ from B8.out.size))
  have HB9 := hid ((B8.out.trans (hb8.mono B8.out.size)).setCell (p := ⟨w.heap.size + 1, 0, none⟩) (by dsimp only; omega) (.slice ua8 (tellF (treeL L n 0 0 F).1).length uc8))
  clear HTL hG8 HG8 hb8 R9 B8 HS7
  generalize hT : tellF (treeL L n 0 0 F).1 = TF at *
  generalize hQ' : tellQ (treeL L n 0 0 F).1 ((treeL L n 0 0 F).2 : Int) = TQ at *
  generalize hB' : tellB (treeL L n 0 0 F).1 = TB at *
  go_wp2_with fail
  subst hT hQ' hB'
  exact bodyPost_ret (v := .tuple #[.agg #[.slice ua8 _ uc8], .int .i64 _, .bool _]) (by simp [results, Try.results107, go_sem, E0.out]) rfl ⟨.slice ua8 _ uc8, rfl, HG9.out, HB9.out⟩

end Go.Proofs.Ytmapbkefndbnnaa

namespace Go.Proofs.Ytmapbkefndbnnaa
open Go.RowKit Go.Maps
set_option linter.unusedVariables false
set_option linter.unusedSimpArgs false
attribute [local go_sem ↓] Go.wp_at_zero Go.wp_at_succ

theorem cornK_at {b k : Int} {i j : Nat} (hi : i < 4) (hj : j < 4) : ia (cornK b k i) j = if j = 3 - i then k else b := by
  rcases (show i = 0 ∨ i = 1 ∨ i = 2 ∨ i = 3 by omega) with rfl | rfl | rfl | rfl <;> rcases (show j = 0 ∨ j = 1 ∨ j = 2 ∨ j = 3 by omega) with rfl | rfl | rfl | rfl <;> rfl
theorem cornK_len (b k : Int) (i : Nat) : (cornK b k i).length = 4 := rfl
/-- What the corners of a frame leave. -/
structure FrF (n : Nat) (b : Int) (ks : List Int) (B : List Qd) (k : Nat) : Prop where
  grows : Grows (frk b ks B k).1
  more : B.length ≤ (frk b ks B k).1.length
  most : (frk b ks B k).1.length ≤ B.length + k
  old : ∀ i, i < B.length → qa (frk b ks B k).1 i = qa B i
  len : (frk b ks B k).2.length = k
  kid : ∀ j, j < k → 0 ≤ ia (frk b ks B k).2 j ∧ ia (frk b ks B k).2 j < ((frk b ks B k).1.length : Int)
theorem frk_facts {n : Nat} (hn : n < 4) {b : Int} {ks : List Int} {B : List Qd} (hB : Grows B) (hb : 0 ≤ b ∧ b < (B.length : Int) ∧ (qa B b.toNat).1 = (n : Int)) (hk : ∀ j, j < 4 → 0 ≤ ia ks j ∧ ia ks j < (B.length : Int) ∧ (qa B (ia ks j).toNat).1 = (n : Int)) : ∀ k, k ≤ 4 → FrF n b ks B k
  | 0, _ => ⟨hB, Nat.le_refl _, by simp [frk], fun _ _ => rfl, rfl, fun j hj => by omega⟩
  | k + 1, hk4 => by
    have h := frk_facts hn hB hb hk k (by omega)
    have hkk := hk k (by omega)
    have cj : ∀ j, j < 4 → 0 ≤ ia (cornK b (ia ks k) k) j ∧ ia (cornK b (ia ks k) k) j < (B.length : Int) ∧ (qa B (ia (cornK b (ia ks k) k) j).toNat).1 = (n : Int) := by
      intro j hj
      rw [cornK_at (by omega) hj]
      split
      · exact hkk
      · exact hb
    have c0 := cj 0 (by omega)
    have hm := h.more
    have hl := joinF_len (frk b ks B k).1 (cornK b (ia ks k) k)
    refine ⟨joinF_grows h.grows rfl (fun j hj => by have := cj j hj; omega) (by rw [h.old _ (by omega)]; omega), Nat.le_trans hm hl.1, ?_, fun i hi => ?_, by simp [frk, h.len], fun j hj => ?_⟩
    · have := h.most; show (joinF (frk b ks B k).1 (cornK b (ia ks k) k)).1.length ≤ _; omega
    · show qa (joinF (frk b ks B k).1 (cornK b (ia ks k) k)).1 i = _
      rw [joinF_old _ _ (by omega), h.old i hi]
    · simp only [frk]
      by_cases e : j = k
      · subst e
        have : ia ((frk b ks B j).2 ++ [((joinF (frk b ks B j).1 (cornK b (ia ks j) j)).2 : Int)]) j = ((joinF (frk b ks B j).1 (cornK b (ia ks j) j)).2 : Int) := by
          simp only [ia, List.getD_eq_getElem?_getD]
          rw [List.getElem?_append_right (by rw [h.len]; exact Nat.le_refl _), h.len]
          simp
        rw [this]
        have := joinF_lt (frk b ks B j).1 (cornK b (ia ks j) j)
        omega
      · have hj' : j < k := by omega
        have : ia ((frk b ks B k).2 ++ [((joinF (frk b ks B k).1 (cornK b (ia ks k) k)).2 : Int)]) j = ia (frk b ks B k).2 j := by
          simp only [ia, List.getD_eq_getElem?_getD]
          rw [List.getElem?_append_left (by rw [h.len]; exact hj')]
        rw [this]
        have := h.kid j hj'
        omega
theorem frk_at {n : Nat} {b : Int} {ks : List Int} {B : List Qd} {k : Nat} (h : FrF n b ks B k) (j : Nat) : (if j = k then ((joinF (frk b ks B k).1 (cornK b (ia ks k) k)).2 : Int) else if j < k then ia (frk b ks B k).2 j else 0) = (if j < k + 1 then ia (frk b ks B (k + 1)).2 j else 0) := by
  have h3 := h.len
  by_cases e : j = k
  · subst e
    rw [if_pos rfl, if_pos (by omega)]
    simp only [frk, ia, List.getD_eq_getElem?_getD]
    rw [List.getElem?_append_right (by omega), h3]
    simp
  · rw [if_neg e]
    by_cases e2 : j < k
    · rw [if_pos e2, if_pos (by omega)]
      simp only [frk, ia, List.getD_eq_getElem?_getD]
      rw [List.getElem?_append_left (by omega)]
    · rw [if_neg e2, if_neg (by omega)]
theorem frow4_new (w : World) (b : Int) : FRow (w.alloc (.cells #[.int .i64 b, .int .i64 b, .int .i64 b, .int .i64 b] 107)) w.heap.size (fun _ => b) := by
  refine ⟨_, heap_alloc_new _ _, rfl, fun i hi => ?_⟩
  rcases (show i = 0 ∨ i = 1 ∨ i = 2 ∨ i = 3 by omega) with rfl | rfl | rfl | rfl <;> rfl
theorem below_none (w : World) : Below ({ w with heap := #[] } : World).heap.size { w with heap := #[] } w := ⟨rfl, rfl, rfl, Nat.zero_le _, fun k hk => absurd hk (Nat.not_lt_zero _)⟩
/-- A blank tree, by the program. -/
theorem c_plantBlank (n : Nat) (w : World) {base p g cap mb : Nat} {G : List Qd} (hn : n ≤ 5) (hGr : Grows G) (hlen : G.length + 4 ^ n ≤ 10000) (hG : Grv w base p g cap mb G) :
    Calls Try.prog 80 #[.pointer (some ⟨p, 0, none⟩), .int .i64 (n : Int), .agg #[.int .i64 0, .int .i64 0], .slice none 0 0] w fun e w' => ∃ g' cap', e = .returned (.int .i64 ((treeL [] n 0 0 G).2 : Int)) ∧ Grv w' base p g' cap' mb (treeL [] n 0 0 G).1 ∧ Below base w w' ∧ RowsKept w w' := by
  have hp := pow_le5 hn
  exact c_plant [] none 0 { w with heap := #[] } (fun i hi => by simp at hi) (by simp) rfl base p mb (Nat.zero_le _) n 0 0 G g cap w hn hGr hlen (by omega) (by omega) (by omega) (by omega) hG (below_none w)

set_option maxHeartbeats 4000000 in
set_option maxRecDepth 100000 in
theorem c_frame {L : List Cl} {X Y : Int} (n q : Nat) (hn : n < 4) (w : World) {base p g cap mb : Nat} {G : List Qd} (hGr : Grows G) (hlen : G.length ≤ 5000) (hT : IsT L G (n + 1) q X Y) (hG : Grv w base p g cap mb G) :
    Calls Try.prog 118 #[.pointer (some ⟨p, 0, none⟩), .int .i64 (q : Int)] w fun e w' => ∃ g' cap', e = .returned (.int .i64 ((joinF (frk ((treeL [] n 0 0 G).2 : Int) (qa G q).2 (treeL [] n 0 0 G).1 4).1 (frk ((treeL [] n 0 0 G).2 : Int) (qa G q).2 (treeL [] n 0 0 G).1 4).2).2 : Int)) ∧ Grv w' base p g' cap' mb (joinF (frk ((treeL [] n 0 0 G).2 : Int) (qa G q).2 (treeL [] n 0 0 G).1 4).1 (frk ((treeL [] n 0 0 G).2 : Int) (qa G q).2 (treeL [] n 0 0 G).1 4).2).1 ∧ Below base w w' ∧ RowsKept w w' := by
  have hq := hT.lt hGr.two
  have hlev := hT.lev hGr
  have hks := hT.kids
  have hbs : base ≤ w.heap.size := Nat.le_trans hG.lowp (Nat.le_of_lt hG.box.lt)
  have h4 : (4 : Nat) ^ n ≤ 256 := by
    rcases (show n = 0 ∨ n = 1 ∨ n = 2 ∨ n = 3 by omega) with rfl | rfl | rfl | rfl <;> decide
  have t := treeL_tr [] n 0 0 G (by omega) hGr
  have hkl : ∀ j, j < 4 → 0 ≤ ia (qa G q).2 j ∧ ia (qa G q).2 j < ((treeL [] n 0 0 G).1.length : Int) ∧ (qa (treeL [] n 0 0 G).1 (ia (qa G q).2 j).toNat).1 = (n : Int) := by
    intro j hj
    have a := hT.kid j hj
    have b := a.lt hGr.two
    have c := a.lev hGr
    have m := t.more
    rw [hks.2.2.1 j hj]
    exact ⟨by omega, by omega, by rw [Int.toNat_natCast, t.old _ b]; exact c⟩
  have HFF := hid (fun k hk => frk_facts (b := ((treeL [] n 0 0 G).2 : Int)) hn t.grows ⟨by omega, by have := t.lt; omega, by rw [Int.toNat_natCast]; exact t.lev⟩ hkl k hk)
  have HMOST := hid (show (treeL [] n 0 0 G).1.length ≤ 6000 by have := t.most; omega)
  have hkl0 := hid hkl
  have HLT := hid t.lt
  have HLEV := hid t.lev
  have c0 := hG.c0
  have n0 := hG.lev hq
  have n1 := hG.kidAt hq (j := 0) (by omega)
  have n2 := hG.kidAt hq (j := 1) (by omega)
  have n3 := hG.kidAt hq (j := 2) (by omega)
  have n4 := hG.kidAt hq (j := 3) (by omega)
  rw [Nat.add_zero] at n1
  rw [hlev, show ((n + 1 : Nat) : Int) = (n : Int) + 1 by omega] at n0
  have i0 : (0 : Int) ≤ (q : Int) := by omega
  have i1 : (q : Int) < (G.length : Int) := by omega
  have hpl := hG.box.lt
  have hgl := hG.lt.2
  have hb1 := (Below.refl w.heap.size w).alloc (Nat.le_refl _) (.cells #[.int .i64 ((n : Int) + 1), .int .i64 (ia (qa G q).2 0), .int .i64 (ia (qa G q).2 1), .int .i64 (ia (qa G q).2 2), .int .i64 (ia (qa G q).2 3)] 109)
  have N1 : Hid (NRow (w.alloc (.cells #[.int .i64 ((n : Int) + 1), .int .i64 (ia (qa G q).2 0), .int .i64 (ia (qa G q).2 1), .int .i64 (ia (qa G q).2 2), .int .i64 (ia (qa G q).2 3)] 109)) w.heap.size ((n : Int) + 1, (qa G q).2)) := nrow_new w ((n : Int) + 1, (qa G q).2)
  have HB1 := hid hb1
  have HPB := hid (c_plantBlank n _ (by omega) hGr (by omega) (hG.below hb1))
  clear hks hlev hb1 hG t hkl hT
  go_enter Try.func118, Try.ntmps118
  go_wp2_with fail
  refine HPB.out.mono ?_
  rintro e w3 ⟨g3, cap3, rfl, hG3, hb3, hr3⟩
  have N3 : Hid (NRow w3 w.heap.size ((n : Int) + 1, (qa G q).2)) := hr3 _ _ _ _ (by decide) (by decide) N1.out
  have HBW := hid ((HB1.out.mono hbs).trans hb3)
  have HRW := hid ((RowsKept.of_below HB1.out).trans hr3)
  have hwl : w.heap.size < w3.heap.size := World.rowIs.lt N3.out
  have ba := (Below.refl w3.heap.size w3).alloc (Nat.le_refl _) (.cells #[.int .i64 0, .int .i64 0, .int .i64 0, .int .i64 0] 107)
  have N4 : Hid (NRow (w3.alloc (.cells #[.int .i64 0, .int .i64 0, .int .i64 0, .int .i64 0] 107)) w.heap.size ((n : Int) + 1, (qa G q).2)) := World.rowIs.alloc N3.out _
  have HF4 := hid (frow_new w3)
  have HG4 := hid (hG3.below ba)
  have HB4 := hid (HBW.out.alloc (Nat.le_trans hbs (Nat.le_of_lt hwl)) (.cells #[.int .i64 0, .int .i64 0, .int .i64 0, .int .i64 0] 107))
  have HR4 := hid (HRW.out.trans (RowsKept.of_below ba))
  have l1 := N4.out.kid 0 (by omega)
  have l2 := N4.out.kid 1 (by omega)
  have l3 := N4.out.kid 2 (by omega)
  have l4 := N4.out.kid 3 (by omega)
  dsimp only at l1 l2 l3 l4
  rw [Nat.add_zero] at l1
  clear HPB hG3 hb3 hr3 N3 HBW HRW ba c0 n0 n1 n2 n3 n4 N1 HB1
  generalize hTB : treeL [] n 0 0 G = TB at *
  go_wp2_with fail
  clear l1 l2 l3 l4 N4
  generalize w3.alloc (.cells #[.int .i64 0, .int .i64 0, .int .i64 0, .int .i64 0] 107) = W4 at *
  generalize hFB : w3.heap.size = FB at *
  clear hFB
  go_loopw [26] (fun i wr => ∃ (k g' cap' : Nat), k ≤ 4 ∧ i = .int .i64 k ∧ Hid (Grv wr base p g' cap' mb (frk (TB.2 : Int) (qa G q).2 TB.1 k).1) ∧ Hid (FRow wr FB (fun j => if j < k then ia (frk (TB.2 : Int) (qa G q).2 TB.1 k).2 j else 0)) ∧ Hid (Below base w wr) ∧ Hid (RowsKept w wr)) (fun i _ => 4 - (intOf i).toNat)
  case atStart => exact ⟨0, g3, cap3, by omega, rfl, HG4.out, (HF4.out.congr fun j hj => by simp), HB4.out, HR4.out⟩
  case round =>
    clear HG4 HF4 HB4 HR4
    obtain ⟨k, g1, cap1, hk, rfl, HG, HFR, HB, HRK⟩ := hrel
    have ff := HFF.out k hk
    have FFR := hid ff
    clear ff
    have hwr : base ≤ wr.heap.size := Nat.le_trans HG.out.lowp (Nat.le_of_lt HG.out.box.lt)
    by_cases hlt : k < 4
    · have hidx := four_index (qa G q).2 k hlt
      unfold kv at hidx
      have k0 : (0 : Int) ≤ (k : Int) := by omega
      have k1 : (k : Int) < 4 := by omega
      have kk := hid (hkl0.out k hlt)
      have HIN := hid (fun W => c_inner k hlt W)
      have hlist : ([.int .i64 (TB.2 : Int), .int .i64 (TB.2 : Int), .int .i64 (TB.2 : Int), .int .i64 (TB.2 : Int)] : List Value).set (3 - k) (.int .i64 (ia (qa G q).2 k)) = [.int .i64 (ia (cornK (TB.2 : Int) (ia (qa G q).2 k) k) 0), .int .i64 (ia (cornK (TB.2 : Int) (ia (qa G q).2 k) k) 1), .int .i64 (ia (cornK (TB.2 : Int) (ia (qa G q).2 k) k) 2), .int .i64 (ia (cornK (TB.2 : Int) (ia (qa G q).2 k) k) 3)] := by
        rcases (show k = 0 ∨ k = 1 ∨ k = 2 ∨ k = 3 by omega) with rfl | rfl | rfl | rfl <;> rfl
      have HLI := hid hlist
      clear hlist
      have bc2 := (Below.refl wr.heap.size wr).alloc (Nat.le_refl _) (.cells #[.int .i64 (ia (cornK (TB.2 : Int) (ia (qa G q).2 k) k) 0), .int .i64 (ia (cornK (TB.2 : Int) (ia (qa G q).2 k) k) 1), .int .i64 (ia (cornK (TB.2 : Int) (ia (qa G q).2 k) k) 2), .int .i64 (ia (cornK (TB.2 : Int) (ia (qa G q).2 k) k) 3)] 107)
      have G6 := hid (HG.out.below bc2)
      have HFB := hid (World.rowIs.lt HFR.out)
      have hFBl := HFB.out
      have FR6 := hid (World.rowIs.of_block HFR.out (bc2.block _ hFBl))
      have HB6 := hid (HB.out.trans (bc2.mono hwr))
      have HR6 := hid (HRK.out.trans (RowsKept.of_below bc2))
      have hcj : ∀ j, j < 4 → 0 ≤ ia (cornK (TB.2 : Int) (ia (qa G q).2 k) k) j ∧ ia (cornK (TB.2 : Int) (ia (qa G q).2 k) k) j < ((frk (TB.2 : Int) (qa G q).2 TB.1 k).1.length : Int) := by
        intro j hj
        rw [cornK_at hlt hj]
        have := kk.out
        have := HLT.out
        have := FFR.out.more
        split <;> omega
      have HJ := hid (c_ijoin (cornK (TB.2 : Int) (ia (qa G q).2 k) k) rfl _ G6.out FFR.out.grows (by have := FFR.out.most; have := HMOST.out; omega) hcj)
      unfold kv at HJ
      have HPK := hid (show (frk (TB.2 : Int) (qa G q).2 TB.1 (k + 1)).1 = (joinF (frk (TB.2 : Int) (qa G q).2 TB.1 k).1 (cornK (TB.2 : Int) (ia (qa G q).2 k) k)).1 from rfl)
      have HPA := hid (fun j => frk_at FFR.out j)
      clear hcj bc2 G6
      have j2 : (0 : Int) ≤ ((3 - k : Nat) : Int) := by omega
      have j3 : ((3 - k : Nat) : Int) < 4 := by omega
      have c5 := World.rowIs.cell (frow4_new wr (TB.2 : Int)) (i := 3 - k) (by omega)
      have f5 := World.rowIs.frozen (frow4_new wr (TB.2 : Int)) (3 - k)
      generalize hCK : cornK (TB.2 : Int) (ia (qa G q).2 k) k = CK at *
      generalize hKK : ia (qa G q).2 k = KK at *
      generalize hk3 : 3 - k = K3 at *
      clear hk3
      go_wp2_with fail
      refine (HIN.out _).mono ?_
      rintro e w7 ⟨rfl, rfl⟩
      go_wp2_with fail
      simp only [HLI.out, List.getElem_cons_zero, List.getElem_cons_succ]
      refine HJ.out.mono ?_
      rintro e w8 ⟨g8, cap8, rfl, hG8, hb8, hr8⟩
      have hF8 := hr8 _ _ _ _ (by decide) (by decide) FR6.out
      have c9 := hF8.cell (i := k) (by omega)
      have f9 := hF8.frozen k
      have hF9 : FRow (w8.setCell ⟨FB, k, none⟩ (.int .i64 ((joinF (frk (TB.2 : Int) (qa G q).2 TB.1 k).1 CK).2 : Int))) FB (fun j => if j < k + 1 then ia (frk (TB.2 : Int) (qa G q).2 TB.1 (k + 1)).2 j else 0) := by
        refine (World.rowIs.set hF8 k _).congr fun j hj => ?_
        dsimp only
        rw [← HPA.out j]
        by_cases e : j = k
        · rw [if_pos e, if_pos e]
        · rw [if_neg e, if_neg e]
      have HF9 := hid hF9
      have HG9 := hid (hG8.setFour hF8 k ((joinF (frk (TB.2 : Int) (qa G q).2 TB.1 k).1 CK).2 : Int))
      have HB9 := hid ((HB6.out.trans hb8).setCell (p := ⟨FB, k, none⟩) (by dsimp only; omega) (.int .i64 ((joinF (frk (TB.2 : Int) (qa G q).2 TB.1 k).1 CK).2 : Int)))
      have HR9 := hid (rows_set (HR6.out.trans hr8) (show w.heap.size ≤ FB by omega) k (.int .i64 ((joinF (frk (TB.2 : Int) (qa G q).2 TB.1 k).1 CK).2 : Int)))
      rw [← HPK.out] at HG9
      clear HJ hG8 hb8 hr8 hF8 hF9 FR6 HB6 HR6 HIN HG HFR HB HRK
      generalize ((joinF (frk (TB.2 : Int) (qa G q).2 TB.1 k).1 CK).2 : Int) = TQ at *
      go_wp2_with fail
      go_roundw
      case rel => exact ⟨k + 1, g8, cap8, by omega, by go_num, HG9.out, HF9.out, HB9.out, HR9.out⟩
      case measure => simp [intOf]; omega
    · obtain rfl : k = 4 := by omega
      have b0 := World.rowIs.cell HFR.out (i := 0) (by omega)
      have b1 := World.rowIs.cell HFR.out (i := 1) (by omega)
      have b2 := World.rowIs.cell HFR.out (i := 2) (by omega)
      have b3 := World.rowIs.cell HFR.out (i := 3) (by omega)
      simp only [show (0 : Nat) < 4 by omega, show (1 : Nat) < 4 by omega, show (2 : Nat) < 4 by omega, show (3 : Nat) < 4 by omega, if_true] at b0 b1 b2 b3
      have HJ := hid (c_ijoin (frk (TB.2 : Int) (qa G q).2 TB.1 4).2 FFR.out.len wr HG.out FFR.out.grows (by have := FFR.out.most; have := HMOST.out; omega) FFR.out.kid)
      unfold kv at HJ
      generalize hPP : frk (TB.2 : Int) (qa G q).2 TB.1 4 = PP at *
      go_wp2_with fail
      refine HJ.out.mono ?_
      rintro e w8 ⟨g8, cap8, rfl, hG8, hb8, hr8⟩
      have HG3 := hid hG8
      have HB3 := hid (HB.out.trans hb8)
      have HR3 := hid (HRK.out.trans hr8)
      clear hG8 hb8 hr8 HJ
      go_wp2_with fail
      go_ret
      subst hPP
      subst hTB
      exact ⟨g8, cap8, rfl, HG3.out, HB3.out, HR3.out⟩

end Go.Proofs.Ytmapbkefndbnnaa

namespace Go.Proofs.Ytmapbkefndbnnaa
set_option linter.unusedVariables false

/-- What is answered where ok, of a forest and a quad. -/
def ansF (ok : Bool) (R : List Qd × Nat) : List Qd := if ok then tellF R.1 else []
def ansQ (ok : Bool) (R : List Qd × Nat) : Int := if ok then tellQ R.1 (R.2 : Int) else 0
def ansB (ok : Bool) (R : List Qd × Nat) : Bool := ok && tellB R.1
theorem ans_no (R : List Qd × Nat) : ansF false R = [] ∧ ansQ false R = 0 ∧ ansB false R = false := ⟨rfl, rfl, rfl⟩
theorem ans_yes (R : List Qd × Nat) : ansF true R = tellF R.1 ∧ ansQ true R = tellQ R.1 (R.2 : Int) ∧ ansB true R = tellB R.1 := ⟨rfl, rfl, rfl⟩
theorem ans_small (ok : Bool) (R : List Qd × Nat) (h : ok = true → Grows R.1) : (ansF ok R).length ≤ 1048576 ∧ KidsLe (ansF ok R) ∧ posF (nsF (ansF ok R)) (ansF ok R).length ≤ 8388608 := by
  cases ok
  · exact ⟨by simp [ansF], fun i hi => by simp [ansF] at hi, by simp [ansF, posF]⟩
  · have hG := h rfl
    rw [(ans_yes R).1]
    unfold tellF
    split
    · rename_i h4
      refine ⟨by omega, hG.kidsLe, ?_⟩
      have hp : ∀ k, k ≤ R.1.length → posF (nsF R.1) k ≤ 1 + 5 * k := by
        intro k
        induction k with
        | zero => intro _; simp [posF]
        | succ k ih =>
          intro hk
          have := ih (by omega)
          have : nsF R.1 k ≤ 4 := by
            unfold nsF
            by_cases h2 : k < 2
            · rw [hG.low k h2]; simp
            · have := hG.len k (by omega) (by omega); omega
          simp only [posF]; omega
      have := hp _ (Nat.le_refl _)
      omega
    · exact ⟨by simp, fun i hi => by simp at hi, by simp [posF]⟩

/-- The cells of a quad of a good forest are in its square. -/
theorem cellsOfQ_sq (F : List Qd) (q : Nat) : ∀ c ∈ cellsOfQ F q, sqB (levN F q) 0 0 c := fun c hc => cellsL_in F _ _ _ _ c hc
theorem cellsOfQ_is {F : List Qd} (hg : goodF F = true) {q : Nat} (hq : q < F.length) : IsT (cellsOfQ F q) F (levN F q) q 0 0 := by
  have := lev_nonneg hg hq
  exact IsT.self hg _ q 0 0 hq (by unfold levN; omega)
theorem levN_le {F : List Qd} (hg : goodF F = true) {q : Nat} (hq : q < F.length) : levN F q ≤ 5 ∧ (qa F q).1 = (levN F q : Int) := by
  have := lev_nonneg hg hq
  unfold levN
  omega
theorem cellsOfQ_inR {F : List Qd} (hg : goodF F = true) {q : Nat} (hq : q < F.length) : ∀ i, i < (cellsOfQ F q).length → inR (at_ (cellsOfQ F q) i) = true := by
  intro i hi
  have h1 := cellsOfQ_sq F q (at_ (cellsOfQ F q) i) (mem_at.2 ⟨i, hi, rfl⟩)
  have h2 := pow_le_32 (levN_le hg hq).1
  unfold sqB at h1
  simp only [inR, Bool.and_eq_true, decide_eq_true_eq]
  omega

/-- SetCell. -/
def setOK (F : List Qd) (q : Int) (c : Cl) : Bool := thereB F q && hoB (levN F q.toNat) c
def setL (F : List Qd) (q : Nat) (c : Cl) (al : Bool) : List Cl := if al then cellsOfQ F q ++ [c] else dropL (cellsOfQ F q) [c]
def setR (F : List Qd) (q : Int) (c : Cl) (al : Bool) : List Qd × Nat := treeL (setL F q.toNat c al) (levN F q.toNat) 0 0 F
theorem set_mem (F : List Qd) (q : Nat) (c : Cl) (al : Bool) : ∀ d, sqB (levN F q) 0 0 d → (d ∈ setL F q c al ↔ if mtB c.1 c.2 c.1 c.2 0 d.1 d.2 = true then (if al then 1 else 0) = 1 else d ∈ cellsOfQ F q) := by
  intro d _
  have hm : mtB c.1 c.2 c.1 c.2 0 d.1 d.2 = true ↔ d = c := by
    obtain ⟨u, v⟩ := d
    obtain ⟨s, t⟩ := c
    simp only [mtB, Bool.and_eq_true, decide_eq_true_eq, Prod.mk.injEq]
    omega
  by_cases e : d = c
  · rw [if_pos (hm.2 e)]
    subst e
    cases al <;> simp [setL, dropL]
  · rw [if_neg (fun h => e (hm.1 h))]
    cases al <;> simp [setL, dropL, e]

/-- UnionOf, WithoutOf. -/
def twoOK (F : List Qd) (a b : Int) : Bool := thereB F a && thereB F b && decide ((qa F a.toNat).1 = (qa F b.toNat).1)
def uniR (F : List Qd) (a b : Int) : List Qd × Nat := treeL (cellsOfQ F a.toNat ++ cellsOfQ F b.toNat) (levN F a.toNat) 0 0 F
def witR (F : List Qd) (a b : Int) : List Qd × Nat := treeL (dropL (cellsOfQ F a.toNat) (cellsOfQ F b.toNat)) (levN F a.toNat) 0 0 F
theorem uni_bit (A B : List Cl) (c : Cl) : bitC (A ++ B) c = orN (bitC A c) (bitC B c) := by
  unfold bitC orN
  by_cases h1 : c ∈ A <;> by_cases h2 : c ∈ B <;> simp [h1, h2]
theorem wit_bit (A B : List Cl) (c : Cl) : bitC (dropL A B) c = lessN (bitC A c) (bitC B c) := by
  unfold bitC lessN dropL
  by_cases h1 : c ∈ A <;> by_cases h2 : c ∈ B <;> simp [h1, h2]

/-- ClearBox. -/
def clrOK (F : List Qd) (q : Int) (a b : Cl) : Bool := thereB F q && inR a && inR b
def clrL (F : List Qd) (q : Nat) (a b : Cl) : List Cl := (cellsOfQ F q).filter fun c => !(inB a.1 b.1 c.1 && inB a.2 b.2 c.2)
def clrR (F : List Qd) (q : Int) (a b : Cl) : List Qd × Nat := treeL (clrL F q.toNat a b) (levN F q.toNat) 0 0 F
theorem clr_mem (F : List Qd) (q : Nat) (a b : Cl) : ∀ d, sqB (levN F q) 0 0 d → (d ∈ clrL F q a b ↔ if mtB a.1 a.2 b.1 b.2 0 d.1 d.2 = true then (0 : Nat) = 1 else d ∈ cellsOfQ F q) := by
  intro d _
  have hm : mtB a.1 a.2 b.1 b.2 0 d.1 d.2 = (inB a.1 b.1 d.1 && inB a.2 b.2 d.2) := by
    unfold mtB inB
    simp [Bool.and_assoc]
  rw [hm]
  unfold clrL
  rw [List.mem_filter]
  generalize (inB a.1 b.1 d.1 && inB a.2 b.2 d.2) = z
  cases z <;> simp

/-- CentreOf, FrameOf. -/
def cenOK (F : List Qd) (q : Int) : Bool := thereB F q && decide (2 ≤ (qa F q.toNat).1)
def cenR (F : List Qd) (q : Int) : List Qd × Nat := treeL (mv (cellsOfQ F q.toNat) (-(2 ^ (levN F q.toNat - 2))) (-(2 ^ (levN F q.toNat - 2)))) (levN F q.toNat - 1) 0 0 F
def frmOK (F : List Qd) (q : Int) : Bool := thereB F q && inB 1 4 (qa F q.toNat).1
def frmR (F : List Qd) (q : Int) : List Qd × Nat := treeL (mv (cellsOfQ F q.toNat) (2 ^ (levN F q.toNat - 1)) (2 ^ (levN F q.toNat - 1))) (levN F q.toNat + 1) 0 0 F
theorem mv_mem (l : List Cl) (x y : Int) (c : Cl) : c ∈ l ↔ (c.1 + x, c.2 + y) ∈ mv l x y := by
  unfold mv
  rw [List.mem_map]
  constructor
  · intro h; exact ⟨c, h, rfl⟩
  · rintro ⟨d, hd, e⟩
    simp only [Prod.mk.injEq] at e
    have : d = c := Prod.ext (by omega) (by omega)
    rw [← this]; exact hd
theorem cen_join {F : List Qd} (hg : goodF F = true) {q : Nat} (hq : q < F.length) {n : Nat} (hn : levN F q = n + 2) : cenR F (q : Int) = joinF F (midK F q) := by
  unfold cenR
  rw [Int.toNat_natCast, hn]
  have h := cellsOfQ_is hg hq
  rw [hn] at h
  exact centre_tree (good_grows hg) h (fun c => mv_mem _ _ _ c)
theorem frm_join {F : List Qd} (hg : goodF F = true) {q : Nat} (hq : q < F.length) {n : Nat} (hn : levN F q = n + 1) (h4 : n < 4) : frmR F (q : Int) = joinF (frk ((treeL [] n 0 0 F).2 : Int) (qa F q).2 (treeL [] n 0 0 F).1 4).1 (frk ((treeL [] n 0 0 F).2 : Int) (qa F q).2 (treeL [] n 0 0 F).1 4).2 := by
  unfold frmR
  rw [Int.toNat_natCast, hn]
  have h := cellsOfQ_is hg hq
  rw [hn] at h
  exact frame_tree (good_grows hg) h4 h (fun c hc => by have := cellsOfQ_sq F q c hc; rw [hn] at this; exact this) (fun c => mv_mem _ _ _ c)
theorem there_to {F : List Qd} {q : Int} (h : thereB F q = true) : goodF F = true ∧ q.toNat < F.length ∧ ((q.toNat : Nat) : Int) = q := by
  obtain ⟨h1, h2, h3⟩ := there_bd h
  exact ⟨h1, by omega, by omega⟩
theorem set_grows {F : List Qd} {q : Int} {c : Cl} (al : Bool) (h : setOK F q c = true) : Grows (setR F q c al).1 := by
  simp only [setOK, Bool.and_eq_true] at h
  obtain ⟨h1, h2, _⟩ := there_to h.1
  exact (treeL_tr _ _ 0 0 F (levN_le h1 h2).1 (good_grows h1)).grows
theorem uni_grows {F : List Qd} {a b : Int} (h : twoOK F a b = true) : Grows (uniR F a b).1 := by
  simp only [twoOK, Bool.and_eq_true] at h
  obtain ⟨h1, h2, _⟩ := there_to h.1.1
  exact (treeL_tr _ _ 0 0 F (levN_le h1 h2).1 (good_grows h1)).grows
theorem wit_grows {F : List Qd} {a b : Int} (h : twoOK F a b = true) : Grows (witR F a b).1 := by
  simp only [twoOK, Bool.and_eq_true] at h
  obtain ⟨h1, h2, _⟩ := there_to h.1.1
  exact (treeL_tr _ _ 0 0 F (levN_le h1 h2).1 (good_grows h1)).grows
theorem clr_grows {F : List Qd} {q : Int} {a b : Cl} (h : clrOK F q a b = true) : Grows (clrR F q a b).1 := by
  simp only [clrOK, Bool.and_eq_true] at h
  obtain ⟨h1, h2, _⟩ := there_to h.1.1
  exact (treeL_tr _ _ 0 0 F (levN_le h1 h2).1 (good_grows h1)).grows
theorem cen_grows {F : List Qd} {q : Int} (h : cenOK F q = true) : Grows (cenR F q).1 := by
  simp only [cenOK, Bool.and_eq_true] at h
  obtain ⟨h1, h2, _⟩ := there_to h.1
  have := (levN_le h1 h2).1
  exact (treeL_tr _ _ 0 0 F (by omega) (good_grows h1)).grows
theorem frm_grows {F : List Qd} {q : Int} (h : frmOK F q = true) : Grows (frmR F q).1 := by
  simp only [frmOK, Bool.and_eq_true] at h
  obtain ⟨h1, h2, _⟩ := there_to h.1
  have h3 := inB_bd h.2
  exact (treeL_tr _ _ 0 0 F (by unfold levN; omega) (good_grows h1)).grows

end Go.Proofs.Ytmapbkefndbnnaa
