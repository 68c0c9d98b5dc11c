/- What the program's meets and fill answer. -/
import Derived.Test.YtmapbkefndbnnaaITree
import Derived.Test.YtmapbkefndbnnaaChP
namespace Go.Proofs.Ytmapbkefndbnnaa
open Go.RowKit Go.Maps
set_option linter.unusedVariables false
set_option linter.unusedSimpArgs false
attribute [local go_sem ↓] Go.wp_at_zero Go.wp_at_succ

/-- Does the square of level n from (x, y) on meet the box? -/
def mtB (fx fy tx ty : Int) (n : Nat) (x y : Int) : Bool := decide (fx ≤ x + (2 ^ n - 1)) && decide (x ≤ tx) && decide (fy ≤ y + (2 ^ n - 1)) && decide (y ≤ ty)
theorem mtB_no {fx fy tx ty : Int} {n : Nat} {x y : Int} (h : mtB fx fy tx ty n x y = false) {c : Cl} (hc : sqB n x y c) : mtB fx fy tx ty 0 c.1 c.2 = false := by
  cases h0 : mtB fx fy tx ty 0 c.1 c.2
  · rfl
  · simp only [mtB, Bool.and_eq_true, decide_eq_true_eq] at h0
    unfold sqB at hc
    have : mtB fx fy tx ty n x y = true := by
      simp only [mtB, Bool.and_eq_true, decide_eq_true_eq]
      omega
    rw [this] at h; cases h

theorem pow_le5 {n : Nat} (h : n ≤ 5) : (2 : Int) ^ n ≤ 32 := by
  rcases (show n = 0 ∨ n = 1 ∨ n = 2 ∨ n = 3 ∨ n = 4 ∨ n = 5 by omega) with rfl | rfl | rfl | rfl | rfl | rfl <;> decide
set_option maxHeartbeats 1000000 in
set_option maxRecDepth 100000 in
theorem c_meets (fx fy tx ty : Int) (n : Nat) (hn : n ≤ 5) (x y : Int) (x0 : -100000 ≤ x) (x1 : x ≤ 100000) (y0 : -100000 ≤ y) (y1 : y ≤ 100000) (v : Bool) (hv : mtB fx fy tx ty n x y = v) (w : World) :
    Calls Try.prog 104 #[.agg #[.int .i64 fx, .int .i64 fy, .int .i64 tx, .int .i64 ty], .agg #[.int .i64 x, .int .i64 y], .int .i64 (n : Int)] w fun e w' => e = .returned (.bool v) ∧ Below w.heap.size w w' := by
  have hpos := pow_pos' n
  have hle : (2 : Int) ^ n ≤ 32 := pow_le5 hn
  have HV := hid hv
  unfold mtB at HV
  clear hv
  by_cases h1 : fx ≤ x + (2 ^ n - 1)
  · have d1 : decide (fx ≤ x + (2 ^ n - 1)) = true := decide_eq_true h1
    by_cases h2 : x ≤ tx
    · have d2 : decide (x ≤ tx) = true := decide_eq_true h2
      by_cases h3 : fy ≤ y + (2 ^ n - 1)
      · have d3 : decide (fy ≤ y + (2 ^ n - 1)) = true := decide_eq_true h3
        have HW := hid (show decide (y ≤ ty) = v by have := HV.out; rw [d1, d2, d3] at this; simpa using this)
        go_enter Try.func104, Try.ntmps104
        go_wp2
        go_ret
        exact ⟨ret_bool HW.out, ((Below.refl _ _).alloc (Nat.le_refl _) _).alloc (by simp) _⟩
      · have d3 : decide (fy ≤ y + (2 ^ n - 1)) = false := decide_eq_false h3
        have HW := hid (show v = false by have := HV.out; rw [d1, d2, d3] at this; simpa using this.symm)
        go_enter Try.func104, Try.ntmps104
        go_wp2
        go_ret
        exact ⟨ret_bool HW.out.symm, ((Below.refl _ _).alloc (Nat.le_refl _) _).alloc (by simp) _⟩
    · have d2 : decide (x ≤ tx) = false := decide_eq_false h2
      have HW := hid (show v = false by have := HV.out; rw [d1, d2] at this; simpa using this.symm)
      go_enter Try.func104, Try.ntmps104
      go_wp2
      go_ret
      exact ⟨ret_bool HW.out.symm, ((Below.refl _ _).alloc (Nat.le_refl _) _).alloc (by simp) _⟩
  · have d1 : decide (fx ≤ x + (2 ^ n - 1)) = false := decide_eq_false h1
    have HW := hid (show v = false by have := HV.out; rw [d1] at this; simpa using this.symm)
    go_enter Try.func104, Try.ntmps104
    go_wp2
    go_ret
    exact ⟨ret_bool HW.out.symm, ((Below.refl _ _).alloc (Nat.le_refl _) _).alloc (by simp) _⟩

/-- A node in a box. -/
def NRow (w : World) (B : Nat) (q : Qd) : Prop := w.rowIs B 109 5 (fun j => .int .i64 (if j = 0 then q.1 else ia q.2 (j - 1)))
theorem nrow_new (w : World) (q : Qd) : NRow (w.alloc (.cells #[.int .i64 q.1, .int .i64 (ia q.2 0), .int .i64 (ia q.2 1), .int .i64 (ia q.2 2), .int .i64 (ia q.2 3)] 109)) w.heap.size q := by
  refine ⟨_, heap_alloc_new _ _, rfl, fun i hi => ?_⟩
  rcases (show i = 0 ∨ i = 1 ∨ i = 2 ∨ i = 3 ∨ i = 4 by omega) with rfl | rfl | rfl | rfl | rfl <;> rfl
theorem NRow.lev {w : World} {B : Nat} {q : Qd} (h : NRow w B q) : w.cell? ⟨B, 0, none⟩ = some (.int .i64 q.1) := World.rowIs.cell h (i := 0) (by omega)
theorem NRow.kid {w : World} {B : Nat} {q : Qd} (h : NRow w B q) (j : Nat) (hj : j < 4) : w.cell? ⟨B, 1 + j, none⟩ = some (.int .i64 (ia q.2 j)) := by
  have := World.rowIs.cell h (i := 1 + j) (by omega)
  rw [if_neg (by omega), show 1 + j - 1 = j by omega] at this
  exact this
theorem pk_more (L : List Cl) (n : Nat) (x y : Int) (G : List Qd) (hn : n < 5) (h : Grows G) : ∀ k, G.length ≤ (pk L n x y G k).1.length ∧ ∀ i, i < G.length → qa (pk L n x y G k).1 i = qa G i
  | 0 => ⟨Nat.le_refl _, fun _ _ => rfl⟩
  | k + 1 => by
    obtain ⟨h1, h2⟩ := pk_more L n x y G hn h k
    have t := treeL_tr L n (kx n k x) (ky n k y) _ (by omega) (pk_facts L n x y G hn h k).1
    exact ⟨Nat.le_trans h1 t.more, fun i hi => (t.old i (by omega)).trans (h2 i hi)⟩
theorem kx_or (n k : Nat) (x : Int) (hk : k < 4) : kx n k x = x ∨ kx n k x = x + 2 ^ n := by
  unfold kx
  rcases (show k % 2 = 0 ∨ k % 2 = 1 by omega) with e | e <;> rw [e] <;> simp
theorem ky_or (n k : Nat) (y : Int) (hk : k < 4) : ky n k y = y ∨ ky n k y = y + 2 ^ n := by
  unfold ky
  rcases (show k / 2 = 0 ∨ k / 2 = 1 by omega) with e | e <;> rw [e] <;> simp

set_option maxHeartbeats 4000000 in
set_option maxRecDepth 100000 in
theorem c_fill (L L' : List Cl) (fx fy tx ty : Int) (is : Nat) (his : is = 0 ∨ is = 1) (base p mb : Nat) : ∀ (n q : Nat) (x y : Int) (G : List Qd) (g cap : Nat) (w : World),
    n ≤ 5 → Grows G → G.length + 4 ^ n ≤ 10000 → -100000 ≤ x → x + 2 ^ n ≤ 100000 → -100000 ≤ y → y + 2 ^ n ≤ 100000 → IsT L G n q x y → (∀ c, sqB n x y c → (c ∈ L' ↔ if mtB fx fy tx ty 0 c.1 c.2 = true then is = 1 else c ∈ L)) → Grv w base p g cap mb G →
    Calls Try.prog 103 #[.pointer (some ⟨p, 0, none⟩), .int .i64 (q : Int), .agg #[.int .i64 x, .int .i64 y], .func (.func 104) #[.agg #[.int .i64 fx, .int .i64 fy, .int .i64 tx, .int .i64 ty]] #[], .int .i64 (is : Int)] w fun e w' => ∃ g' cap', e = .returned (.int .i64 ((treeL L' n x y G).2 : Int)) ∧ Grv w' base p g' cap' mb (treeL L' n x y G).1 ∧ Below base w w' ∧ RowsKept w w' := by
  intro n
  induction n with
  | zero =>
    intro q x y G g cap w hn hGr hlen x0 x1 y0 y1 hT hC hG
    have hq := hT.lt hGr.two
    have hlev := hT.lev hGr
    have hbs : base ≤ w.heap.size := Nat.le_trans hG.lowp (Nat.le_of_lt hG.box.lt)
    have hb1 := (Below.refl w.heap.size w).alloc (Nat.le_refl _) (.cells #[.int .i64 x, .int .i64 y] 39)
    have G1 := hid (hG.below hb1)
    have c0 := G1.out.c0
    have n0 := G1.out.lev hq
    have n1 := G1.out.kidAt hq (j := 0) (by omega)
    have n2 := G1.out.kidAt hq (j := 1) (by omega)
    have n3 := G1.out.kidAt hq (j := 2) (by omega)
    have n4 := G1.out.kidAt hq (j := 3) (by omega)
    rw [Nat.add_zero] at n1
    rw [hlev] at n0
    have i0 : (0 : Int) ≤ (q : Int) := by omega
    have i1 : (q : Int) < (G.length : Int) := by omega
    have hc0 := hC (x, y) (by unfold sqB; simp; omega)
    cases hM : mtB fx fy tx ty 0 x y
    · have HM := hid (fun W => c_meets fx fy tx ty 0 (by omega) x y x0 (by omega) y0 (by omega) false hM W)
      have HV : Hid (treeL L' 0 x y G = (G, q)) := treeL_there hGr (hT.congr fun c hc => by
        have := hC c hc
        rw [mtB_no hM hc] at this
        simpa using this.symm)
      have HG := hid hG
      have HB1 := hid hb1
      clear hG hT hC hc0 hM hb1 hlev
      go_enter Try.func103, Try.ntmps103
      go_wp2_with fail
      refine (HM.out _).mono ?_
      rintro e w2 ⟨rfl, hb⟩
      have hb2 := (HB1.out.alloc HB1.out.size (.cells #[.int .i64 (((0 : Nat) : Int)), .int .i64 (ia (qa G q).2 0), .int .i64 (ia (qa G q).2 1), .int .i64 (ia (qa G q).2 2), .int .i64 (ia (qa G q).2 3)] 109))
      have hbb := hb2.trans (hb.mono hb2.size)
      clear HM n0 n1 n2 n3 n4 c0
      go_wp2_with fail
      go_ret
      rw [HV.out]
      exact ⟨g, cap, rfl, HG.out.below hbb, hbb.mono hbs, RowsKept.of_below hbb⟩
    · have HM := hid (fun W => c_meets fx fy tx ty 0 (by omega) x y x0 (by omega) y0 (by omega) true hM W)
      have HV : Hid (treeL L' 0 x y G = (G, is)) := by
        unfold Hid
        rw [if_pos hM] at hc0
        simp only [treeL, hc0]
        rcases his with e | e <;> simp [e]
      have HG := hid hG
      have HB1 := hid hb1
      clear hG hT hC hc0 hM hlev hb1
      go_enter Try.func103, Try.ntmps103
      go_wp2_with fail
      refine (HM.out _).mono ?_
      rintro e w2 ⟨rfl, hb⟩
      have hb2 := (HB1.out.alloc HB1.out.size (.cells #[.int .i64 (((0 : Nat) : Int)), .int .i64 (ia (qa G q).2 0), .int .i64 (ia (qa G q).2 1), .int .i64 (ia (qa G q).2 2), .int .i64 (ia (qa G q).2 3)] 109))
      have hbb := hb2.trans (hb.mono hb2.size)
      have hz0 := (nrow_new (w.alloc (.cells #[.int .i64 x, .int .i64 y] 39)) (((0 : Nat) : Int), (qa G q).2)).lev
      rw [show (w.alloc (.cells #[.int .i64 x, .int .i64 y] 39)).heap.size = w.heap.size + 1 by simp] at hz0
      have hz := (hb.cell (p := ⟨w.heap.size + 1, 0, none⟩) (by simp)).trans hz0
      dsimp only at hz
      clear hz0
      clear HM n0 n1 n2 n3 n4 c0
      go_wp2_with fail
      go_ret
      rw [HV.out]
      exact ⟨g, cap, rfl, HG.out.below hbb, hbb.mono hbs, RowsKept.of_below hbb⟩
  | succ n ih =>
    intro q x y G g cap w hn hGr hlen x0 x1 y0 y1 hT hC hG
    have hq := hT.lt hGr.two
    have hlev := hT.lev hGr
    have hks := hT.kids
    have hpos := pow_pos' n
    have hle : (2 : Int) ^ n ≤ 16 := by
      rcases (show n = 0 ∨ n = 1 ∨ n = 2 ∨ n = 3 ∨ n = 4 by omega) with rfl | rfl | rfl | rfl | rfl <;> decide
    have x1' := x1
    have y1' := y1
    rw [two_pow] at x1 y1
    have hbs : base ≤ w.heap.size := Nat.le_trans hG.lowp (Nat.le_of_lt hG.box.lt)
    have hb1 := (Below.refl w.heap.size w).alloc (Nat.le_refl _) (.cells #[.int .i64 x, .int .i64 y] 39)
    have hb2 := hb1.alloc hb1.size (.cells #[.int .i64 (n + 1 : Int), .int .i64 (ia (qa G q).2 0), .int .i64 (ia (qa G q).2 1), .int .i64 (ia (qa G q).2 2), .int .i64 (ia (qa G q).2 3)] 109)
    have G1 := hid (hG.below hb1)
    have c0 := G1.out.c0
    have n0 := G1.out.lev hq
    have n1 := G1.out.kidAt hq (j := 0) (by omega)
    have n2 := G1.out.kidAt hq (j := 1) (by omega)
    have n3 := G1.out.kidAt hq (j := 2) (by omega)
    have n4 := G1.out.kidAt hq (j := 3) (by omega)
    rw [Nat.add_zero] at n1
    rw [hlev, show ((n + 1 : Nat) : Int) = (n : Int) + 1 by omega] at n0
    have i0 : (0 : Int) ≤ (q : Int) := by omega
    have i1 : (q : Int) < (G.length : Int) := by omega
    have N2 : NRow ((w.alloc (.cells #[.int .i64 x, .int .i64 y] 39)).alloc (.cells #[.int .i64 (n + 1 : Int), .int .i64 (ia (qa G q).2 0), .int .i64 (ia (qa G q).2 1), .int .i64 (ia (qa G q).2 2), .int .i64 (ia (qa G q).2 3)] 109)) (w.heap.size + 1) ((n : Int) + 1, (qa G q).2) := by
      have := nrow_new (w.alloc (.cells #[.int .i64 x, .int .i64 y] 39)) ((n : Int) + 1, (qa G q).2)
      rw [show (w.alloc (.cells #[.int .i64 x, .int .i64 y] 39)).heap.size = w.heap.size + 1 by simp] at this
      exact this
    have C2 : CRow ((w.alloc (.cells #[.int .i64 x, .int .i64 y] 39)).alloc (.cells #[.int .i64 (n + 1 : Int), .int .i64 (ia (qa G q).2 0), .int .i64 (ia (qa G q).2 1), .int .i64 (ia (qa G q).2 2), .int .i64 (ia (qa G q).2 3)] 109)) w.heap.size x y := World.rowIs.alloc (two_row (heap_alloc_new _ _)) _
    have hs2 : ((w.alloc (.cells #[.int .i64 x, .int .i64 y] 39)).alloc (.cells #[.int .i64 (n + 1 : Int), .int .i64 (ia (qa G q).2 0), .int .i64 (ia (qa G q).2 1), .int .i64 (ia (qa G q).2 2), .int .i64 (ia (qa G q).2 3)] 109)).heap.size = w.heap.size + 1 + 1 := by simp
    have G2 := hG.below hb2
    cases hM : mtB fx fy tx ty (n + 1) x y
    · have HM := hid (fun W => c_meets fx fy tx ty (n + 1) (by omega) x y x0 (by omega) y0 (by omega) false hM W)
      rw [show ((n + 1 : Nat) : Int) = (n : Int) + 1 by omega] at HM
      have HV : Hid (treeL L' (n + 1) x y G = (G, q)) := treeL_there hGr (hT.congr fun c hc => by
        have := hC c hc
        rw [mtB_no hM hc] at this
        simpa using this.symm)
      have HG := hid hG
      have HB2 := hid hb2
      clear hG hT hC hM hb1 hlev N2 C2 G2 hb2 hs2 ih hks
      go_enter Try.func103, Try.ntmps103
      go_wp2_with fail
      refine (HM.out _).mono ?_
      rintro e w2 ⟨rfl, hb⟩
      have hbb := HB2.out.trans (hb.mono HB2.out.size)
      clear HM n0 n1 n2 n3 n4 c0
      go_wp2_with fail
      go_ret
      rw [HV.out]
      exact ⟨g, cap, rfl, HG.out.below hbb, hbb.mono hbs, RowsKept.of_below hbb⟩
    · have HM := hid (fun W => c_meets fx fy tx ty (n + 1) (by omega) x y x0 (by omega) y0 (by omega) true hM W)
      rw [show ((n + 1 : Nat) : Int) = (n : Int) + 1 by omega] at HM
      have HIH := hid ih
      have h4 : (4 : Nat) ^ (n + 1) = 4 * 4 ^ n := by rw [Nat.pow_succ]; omega
      rw [h4] at hlen
      have HPF := hid (fun k => pk_facts L' n x y G (by omega) hGr k)
      have HPM := hid (fun k => pk_more L' n x y G (by omega) hGr k)
      have HPJ := hid (pk_join L' n x y G (by omega) hGr)
      have HPA := hid (fun k j => pk_at L' n x y G (by omega) hGr k j)
      have HP4 := hid (pk_four L' n x y G)
      have HLEN := hid hlen
      have HT := hid hT
      have HCC := hid hC
      have HKS := hid hks
      have HG2 := hid G2
      have HN2 := hid N2
      have HC2 := hid C2
      have HB2 := hid hb2
      have HS2 := hid hs2
      clear hG hT hC hM hb1 hlev N2 C2 G2 hb2 ih hlen h4 hks hs2
      have dn : ((n : Int) + 1 == 0) = false := by simp; omega
      go_enter Try.func103, Try.ntmps103
      go_wp2_with fail
      refine (HM.out _).mono ?_
      rintro e w2 ⟨rfl, hb⟩
      have NR := hid (World.rowIs.of_block HN2.out (hb.block _ (World.rowIs.lt HN2.out)))
      have CR := hid (World.rowIs.of_block HC2.out (hb.block _ (World.rowIs.lt HC2.out)))
      have GV := hid (HG2.out.below hb)
      have BB := hid (HB2.out.trans (hb.mono HB2.out.size))
      have hsz : w.heap.size + 1 + 1 ≤ w2.heap.size := by have := hb.size; rw [HS2.out] at this; exact this
      have NR' : Hid (NRow w2 (w.heap.size + 1) ((n : Int) + 1, (qa G q).2)) := NR.out
      have l0 := NR'.out.lev
      have l1 := NR'.out.kid 0 (by omega)
      have l2 := NR'.out.kid 1 (by omega)
      have l3 := NR'.out.kid 2 (by omega)
      have l4 := NR'.out.kid 3 (by omega)
      dsimp only at l0 l1 l2 l3 l4
      rw [Nat.add_zero] at l1
      clear HM n0 n1 n2 n3 n4 c0 hb HN2 HC2 HG2 HB2 HS2 NR
      have l0' := ((Below.refl w2.heap.size w2).alloc (Nat.le_refl _) (.cells #[.int .i64 0, .int .i64 0, .int .i64 0, .int .i64 0] 107)).cell (p := ⟨w.heap.size + 1, 0, none⟩) (by dsimp only; omega) |>.trans l0
      have l1' := ((Below.refl w2.heap.size w2).alloc (Nat.le_refl _) (.cells #[.int .i64 0, .int .i64 0, .int .i64 0, .int .i64 0] 107)).cell (p := ⟨w.heap.size + 1, 1, none⟩) (by dsimp only; omega) |>.trans l1
      have l2' := ((Below.refl w2.heap.size w2).alloc (Nat.le_refl _) (.cells #[.int .i64 0, .int .i64 0, .int .i64 0, .int .i64 0] 107)).cell (p := ⟨w.heap.size + 1, 2, none⟩) (by dsimp only; omega) |>.trans l2
      have l3' := ((Below.refl w2.heap.size w2).alloc (Nat.le_refl _) (.cells #[.int .i64 0, .int .i64 0, .int .i64 0, .int .i64 0] 107)).cell (p := ⟨w.heap.size + 1, 3, none⟩) (by dsimp only; omega) |>.trans l3
      have l4' := ((Below.refl w2.heap.size w2).alloc (Nat.le_refl _) (.cells #[.int .i64 0, .int .i64 0, .int .i64 0, .int .i64 0] 107)).cell (p := ⟨w.heap.size + 1, 4, none⟩) (by dsimp only; omega) |>.trans l4
      have hb3 := (Below.refl w2.heap.size w2).alloc (Nat.le_refl _) (.cells #[.int .i64 0, .int .i64 0, .int .i64 0, .int .i64 0] 107)
      have HG3 := hid (GV.out.below hb3)
      have HN3 : Hid (NRow (w2.alloc (.cells #[.int .i64 0, .int .i64 0, .int .i64 0, .int .i64 0] 107)) (w.heap.size + 1) ((n : Int) + 1, (qa G q).2)) := World.rowIs.alloc NR'.out _
      have HC3 : Hid (CRow (w2.alloc (.cells #[.int .i64 0, .int .i64 0, .int .i64 0, .int .i64 0] 107)) w.heap.size x y) := World.rowIs.alloc CR.out _
      have HF3 := hid (frow_new w2)
      have HB3 := hid (BB.out.alloc BB.out.size (.cells #[.int .i64 0, .int .i64 0, .int .i64 0, .int .i64 0] 107))
      clear hb3 NR' CR GV BB
      go_wp2_with fail
      clear l0 l1 l2 l3 l4 l0' l1' l2' l3' l4'
      generalize w2.alloc (.cells #[.int .i64 0, .int .i64 0, .int .i64 0, .int .i64 0] 107) = W3 at *
      generalize hFB : w2.heap.size = FB at *
      clear hFB
      go_loopw [35] (fun i wr => ∃ (k g' cap' : Nat), k ≤ 4 ∧ i = .int .i64 k ∧ Hid (Grv wr base p g' cap' mb (pk L' n x y G k).1) ∧ Hid (CRow wr w.heap.size x y) ∧ Hid (NRow wr (w.heap.size + 1) ((n : Int) + 1, (qa G q).2)) ∧ Hid (FRow wr FB (fun j => if j < k then ia (pk L' n x y G k).2 j else 0)) ∧ Hid (Below base w wr) ∧ Hid (RowsKept w wr)) (fun i _ => 4 - (intOf i).toNat)
      case atStart => exact ⟨0, g, cap, by omega, rfl, HG3.out, HC3.out, HN3.out, (HF3.out.congr fun j hj => by simp), HB3.out.mono hbs, RowsKept.of_below HB3.out⟩
      case round =>
        clear HG3 HC3 HF3 HB3 HN3
        obtain ⟨k, g1, cap1, hk, rfl, HG, HCR, HNR, HFR, HB, HRK⟩ := hrel
        by_cases hlt : k < 4
        · have hidx := four_index (qa G q).2 k hlt
          unfold kv at hidx
          have k0 : (0 : Int) ≤ (k : Int) := by omega
          have k1 : (k : Int) < 4 := by omega
          have hkk := HKS.out.2.2.1 k hlt
          rw [hkk] at hidx
          have b0 := World.rowIs.cell HCR.out (i := 0) (by omega)
          have b1 := World.rowIs.cell HCR.out (i := 1) (by omega)
          simp only [if_true, if_false, Nat.one_ne_zero] at b0 b1
          have b2 := HNR.out.lev
          dsimp only at b2
          have hx : -100000 ≤ kx n k x ∧ kx n k x + 2 ^ n ≤ 100000 := by
            rcases kx_or n k x hlt with e | e <;> rw [e] <;> omega
          have hy : -100000 ≤ ky n k y ∧ ky n k y + 2 ^ n ≤ 100000 := by
            rcases ky_or n k y hlt with e | e <;> rw [e] <;> omega
          have HKC := hid (c_kidCorner n k (by omega) hlt x y wr x0 (by omega) y0 (by omega))
          have HPK := hid (show (pk L' n x y G (k + 1)).1 = (treeL L' n (kx n k x) (ky n k y) (pk L' n x y G k).1).1 from rfl)
          go_wp2_with fail
          refine HKC.out.mono ?_
          rintro e w3 ⟨rfl, hb⟩
          have hpf := HPF.out k
          have hl4 : k * 4 ^ n ≤ 3 * 4 ^ n := Nat.mul_le_mul_right _ (by omega)
          have hkt := (HT.out.kid k hlt).more (HPM.out k).1 (HPM.out k).2
          have HPL := hid (HIH.out (kidq G q k) (kx n k x) (ky n k y) (pk L' n x y G k).1 g1 cap1 w3 (by omega) hpf.1 (by have := HLEN.out; have := hpf.2.1; omega) hx.1 hx.2 hy.1 hy.2 hkt (fun c hc => HCC.out c (sqB_kid hc (kx_or n k x hlt) (ky_or n k y hlt))) (HG.out.below hb))
          have HR2 := hid (HRK.out.trans (RowsKept.of_below hb))
          have HC2 := hid (World.rowIs.of_block HCR.out (hb.block _ (World.rowIs.lt HCR.out)))
          have HN2 := hid (World.rowIs.of_block HNR.out (hb.block _ (World.rowIs.lt HNR.out)))
          have HF2 := hid (World.rowIs.of_block HFR.out (hb.block _ (World.rowIs.lt HFR.out)))
          have HB2 := hid (HB.out.trans (hb.mono (Nat.le_trans hbs HB.out.size)))
          clear HKC hb hpf hl4 HG HCR HFR HB HRK HNR hkt hidx
          go_wp2_with fail
          refine HPL.out.mono ?_
          rintro e w4 ⟨g3, cap3, rfl, hG3, hb3, hr3⟩
          have HC3 := hid (hr3 _ _ _ _ (by decide) (by decide) HC2.out)
          have HN3 := hid (hr3 _ _ _ _ (by decide) (by decide) HN2.out)
          have hF3 := hr3 _ _ _ _ (by decide) (by decide) HF2.out
          have c9 := hF3.cell (i := k) (by omega)
          have f9 := hF3.frozen k
          have hF4 : FRow (w4.setCell ⟨FB, k, none⟩ (.int .i64 ((treeL L' n (kx n k x) (ky n k y) (pk L' n x y G k).1).2 : Int))) FB (fun j => if j < k + 1 then ia (pk L' n x y G (k + 1)).2 j else 0) := by
            refine (World.rowIs.set hF3 k _).congr fun j hj => ?_
            dsimp only
            rw [← HPA.out k j]
            by_cases e : j = k
            · rw [if_pos e, if_pos e]
            · rw [if_neg e, if_neg e]
          have HF4 := hid hF4
          have HC4 := hid (World.rowIs.setOther HC3.out (a := ⟨FB, k, none⟩) (by dsimp only; omega) (.int .i64 ((treeL L' n (kx n k x) (ky n k y) (pk L' n x y G k).1).2 : Int)))
          have HN4 := hid (World.rowIs.setOther HN3.out (a := ⟨FB, k, none⟩) (by dsimp only; omega) (.int .i64 ((treeL L' n (kx n k x) (ky n k y) (pk L' n x y G k).1).2 : Int)))
          have HG4 := hid (hG3.setFour hF3 k ((treeL L' n (kx n k x) (ky n k y) (pk L' n x y G k).1).2 : Int))
          have HB4 := hid ((HB2.out.trans hb3).setCell (p := ⟨FB, k, none⟩) (by dsimp only; omega) (.int .i64 ((treeL L' n (kx n k x) (ky n k y) (pk L' n x y G k).1).2 : Int)))
          have HR4 := hid (rows_set (HR2.out.trans hr3) (show w.heap.size ≤ FB by omega) k (.int .i64 ((treeL L' n (kx n k x) (ky n k y) (pk L' n x y G k).1).2 : Int)))
          rw [← HPK.out] at HG4
          clear HPL hG3 hb3 hr3 hF3 hF4 HC3 HC2 HF2 HB2 HR2 b0 b1 b2 HN2 HN3
          generalize ((treeL L' n (kx n k x) (ky n k y) (pk L' n x y G k).1).2 : Int) = TQ at *
          go_wp2_with fail
          go_roundw
          case rel => exact ⟨k + 1, g3, cap3, by omega, by go_num, HG4.out, HC4.out, HN4.out, HF4.out, HB4.out, HR4.out⟩
          case measure => simp [intOf]; omega
        · obtain rfl : k = 4 := by omega
          have hpf := HPF.out 4
          have b0 := World.rowIs.cell HFR.out (i := 0) (by omega)
          have b1 := World.rowIs.cell HFR.out (i := 1) (by omega)
          have b2 := World.rowIs.cell HFR.out (i := 2) (by omega)
          have b3 := World.rowIs.cell HFR.out (i := 3) (by omega)
          simp only [show (0 : Nat) < 4 by omega, show (1 : Nat) < 4 by omega, show (2 : Nat) < 4 by omega, show (3 : Nat) < 4 by omega, if_true] at b0 b1 b2 b3
          have HJ := hid (c_ijoin (pk L' n x y G 4).2 hpf.2.2 wr HG.out hpf.1 (by have := HLEN.out; have := hpf.2.1; omega) HPJ.out)
          unfold kv at HJ
          generalize pk L' n x y G 4 = PP at *
          clear hpf
          go_wp2_with fail
          refine HJ.out.mono ?_
          rintro e w3 ⟨g3, cap3, rfl, hG3, hb3, hr3⟩
          have HG3 := hid hG3
          have HB3 := hid (HB.out.trans hb3)
          have HR3 := hid (HRK.out.trans hr3)
          clear hG3 hb3 hr3 HJ
          go_wp2_with fail
          go_ret
          rw [HP4.out]
          exact ⟨g3, cap3, rfl, HG3.out, HB3.out, HR3.out⟩

end Go.Proofs.Ytmapbkefndbnnaa
