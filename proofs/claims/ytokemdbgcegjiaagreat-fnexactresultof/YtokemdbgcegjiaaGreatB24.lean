/- Texts of this seat, one behind the other: IFill, IMid. -/
import Derived.Test.YtokemdbgcegjiaaGreatITree
import Derived.Test.YtokemdbgcegjiaaGreatB10
import Derived.Deep.RegionHeld3
namespace Go.Proofs.YtokemdbgcegjiaaGreat
open Go.RowKit Go.Maps
set_option linter.unusedVariables false
set_option linter.unusedSimpArgs false
attribute [local go_sem ↓] Go.wp_at_zero Go.wp_at_succ

/-- Does the square of level n from (x, y) on meet the box? -/
def mtB (fx fy tx ty : Int) (n : Nat) (x y : Int) : Bool := decide (fx ≤ x + (2 ^ n - 1)) && decide (x ≤ tx) && decide (fy ≤ y + (2 ^ n - 1)) && decide (y ≤ ty)
theorem mtB_no {fx fy tx ty : Int} {n : Nat} {x y : Int} (h : mtB fx fy tx ty n x y = false) {c : Cl} (hc : sqB n x y c) : mtB fx fy tx ty 0 c.1 c.2 = false := by
  cases h0 : mtB fx fy tx ty 0 c.1 c.2
  · rfl
  · simp only [mtB, Bool.and_eq_true, decide_eq_true_eq] at h0
    unfold sqB at hc
    have : mtB fx fy tx ty n x y = true := by
      simp only [mtB, Bool.and_eq_true, decide_eq_true_eq]
      omega
    rw [this] at h; cases h

theorem pow_le5 {n : Nat} (h : n ≤ 5) : (2 : Int) ^ n ≤ 32 := by
  rcases (show n = 0 ∨ n = 1 ∨ n = 2 ∨ n = 3 ∨ n = 4 ∨ n = 5 by omega) with rfl | rfl | rfl | rfl | rfl | rfl <;> decide
/-- A node in a box. -/
def NRow (w : World) (B : Nat) (q : Qd) : Prop := w.rowIs B 98 5 (fun j => .int .i64 (if j = 0 then q.1 else ia q.2 (j - 1)))
theorem nrow_new (w : World) (q : Qd) : NRow (w.alloc (.cells #[.int .i64 q.1, .int .i64 (ia q.2 0), .int .i64 (ia q.2 1), .int .i64 (ia q.2 2), .int .i64 (ia q.2 3)] 98)) w.heap.size q := by
  refine ⟨_, heap_alloc_new _ _, rfl, fun i hi => ?_⟩
  rcases (show i = 0 ∨ i = 1 ∨ i = 2 ∨ i = 3 ∨ i = 4 by omega) with rfl | rfl | rfl | rfl | rfl <;> rfl
theorem NRow.lev {w : World} {B : Nat} {q : Qd} (h : NRow w B q) : w.cell? ⟨B, 0, none⟩ = some (.int .i64 q.1) := World.rowIs.cell h (i := 0) (by omega)
theorem NRow.kid {w : World} {B : Nat} {q : Qd} (h : NRow w B q) (j : Nat) (hj : j < 4) : w.cell? ⟨B, 1 + j, none⟩ = some (.int .i64 (ia q.2 j)) := by
  have := World.rowIs.cell h (i := 1 + j) (by omega)
  rw [if_neg (by omega), show 1 + j - 1 = j by omega] at this
  exact this
theorem pk_more (L : List Cl) (n : Nat) (x y : Int) (G : List Qd) (hn : n < 5) (h : Grows G) : ∀ k, G.length ≤ (pk L n x y G k).1.length ∧ ∀ i, i < G.length → qa (pk L n x y G k).1 i = qa G i
  | 0 => ⟨Nat.le_refl _, fun _ _ => rfl⟩
  | k + 1 => by
    obtain ⟨h1, h2⟩ := pk_more L n x y G hn h k
    have t := treeL_tr L n (kx n k x) (ky n k y) _ (by omega) (pk_facts L n x y G hn h k).1
    exact ⟨Nat.le_trans h1 t.more, fun i hi => (t.old i (by omega)).trans (h2 i hi)⟩
theorem kx_or (n k : Nat) (x : Int) (hk : k < 4) : kx n k x = x ∨ kx n k x = x + 2 ^ n := by
  unfold kx
  rcases (show k % 2 = 0 ∨ k % 2 = 1 by omega) with e | e <;> rw [e] <;> simp
theorem ky_or (n k : Nat) (y : Int) (hk : k < 4) : ky n k y = y ∨ ky n k y = y + 2 ^ n := by
  unfold ky
  rcases (show k / 2 = 0 ∨ k / 2 = 1 by omega) with e | e <;> rw [e] <;> simp

end Go.Proofs.YtokemdbgcegjiaaGreat

namespace Go.Proofs.YtokemdbgcegjiaaGreat
open Go.RowKit Go.Maps
set_option linter.unusedVariables false
set_option linter.unusedSimpArgs false
attribute [local go_sem ↓] Go.wp_at_zero Go.wp_at_succ

theorem c_inner (i : Nat) (hi : i < 4) (w : World) :
    Calls Tryz.prog 115 #[.int .i64 (i : Int)] w fun e w' => e = .returned (.int .i64 ((3 - i : Nat) : Int)) ∧ w' = w := by
  rcases (show i = 0 ∨ i = 1 ∨ i = 2 ∨ i = 3 by omega) with rfl | rfl | rfl | rfl
  all_goals
    go_enter Tryz.func115, Tryz.ntmps115
    go_wp2
    go_ret
    exact ⟨rfl, rfl⟩

/-- Is there a quad of that number, of a level in a range? -/
def hlB (G : List Qd) (q least most : Int) : Bool := inB 0 ((G.length : Int) - 1) q && inB least most (qa G q.toNat).1
set_option maxHeartbeats 1000000 in
theorem c_hasLevel (q least most : Int) (v : Bool) (w : World) {base p g cap mb : Nat} {G : List Qd} (hv : hlB G q least most = v) (h : Grv w base p g cap mb G) :
    Calls Tryz.prog 73 #[.pointer (some ⟨p, 0, none⟩), .int .i64 q, .int .i64 least, .int .i64 most] w fun e w' => e = .returned (.bool v) ∧ Below w.heap.size w w' := by
  have HG := hid h
  have HV := hid hv
  unfold hlB at HV
  clear hv h
  cases hin : inB 0 ((G.length : Int) - 1) q
  · have HW := hid (show v = false by have := HV.out; rw [hin] at this; simpa using this.symm)
    have HH := hid (c_has' q false w hin HG.out)
    go_enter Tryz.func73, Tryz.ntmps73
    go_wp2_with fail
    refine HH.out.mono ?_
    rintro e w1 ⟨rfl, hb⟩
    go_wp2
    go_ret
    exact ⟨ret_bool HW.out.symm, hb⟩
  · have HH := hid (c_has' q true w hin HG.out)
    have hbd := inB_bd hin
    have i0 : 0 ≤ q := hbd.1
    have i1 : q < (G.length : Int) := by omega
    by_cases h1 : least ≤ (qa G q.toNat).1
    · have d1 : decide (least ≤ (qa G q.toNat).1) = true := decide_eq_true h1
      have HW := hid (show v = decide ((qa G q.toNat).1 ≤ most) by have := HV.out; rw [hin] at this; unfold inB at this; rw [d1] at this; simpa using this.symm)
      clear hin
      go_enter Tryz.func73, Tryz.ntmps73
      go_wp2_with fail
      refine HH.out.mono ?_
      rintro e w1 ⟨rfl, hb⟩
      have G1 := HG.out.below hb
      have c0 := G1.c0
      have c1 := G1.lev (i := q.toNat) (by omega)
      clear G1 HH
      go_wp2
      go_ret
      exact ⟨ret_bool HW.out.symm, hb⟩
    · have d1 : decide (least ≤ (qa G q.toNat).1) = false := decide_eq_false h1
      have HW := hid (show v = false by have := HV.out; rw [hin] at this; unfold inB at this; rw [d1] at this; simpa using this.symm)
      clear hin
      go_enter Tryz.func73, Tryz.ntmps73
      go_wp2_with fail
      refine HH.out.mono ?_
      rintro e w1 ⟨rfl, hb⟩
      have G1 := HG.out.below hb
      have c0 := G1.c0
      have c1 := G1.lev (i := q.toNat) (by omega)
      clear G1 HH
      go_wp2
      go_ret
      exact ⟨ret_bool HW.out.symm, hb⟩

/-- Is a cell within the square of level n? -/
def hoB (n : Nat) (c : Cl) : Bool := decide (0 ≤ c.1) && decide (c.1 < 2 ^ n) && decide (0 ≤ c.2) && decide (c.2 < 2 ^ n)
theorem hoB_sq {n : Nat} {c : Cl} (h : hoB n c = true) : sqB n 0 0 c := by
  simp only [hoB, Bool.and_eq_true, decide_eq_true_eq] at h
  unfold sqB
  omega
theorem midK_at {F : List Qd} {q k : Nat} (hk : k < 4) : ia (midK F q) k = (kidq F (kidq F q k) (3 - k) : Int) := by
  rcases (show k = 0 ∨ k = 1 ∨ k = 2 ∨ k = 3 by omega) with rfl | rfl | rfl | rfl <;> rfl

set_option maxHeartbeats 4000000 in
set_option maxRecDepth 100000 in
theorem c_centre {L : List Cl} {X Y : Int} (n q : Nat) (w : World) {base p g cap mb : Nat} {G : List Qd} (hGr : Grows G) (hlen : G.length ≤ 10000) (hT : IsT L G (n + 2) q X Y) (hG : Grv w base p g cap mb G) :
    Calls Tryz.prog 78 #[.pointer (some ⟨p, 0, none⟩), .int .i64 (q : Int)] w fun e w' => ∃ g' cap', e = .returned (.int .i64 ((joinF G (midK G q)).2 : Int)) ∧ Grv w' base p g' cap' mb (joinF G (midK G q)).1 ∧ Below base w w' ∧ RowsKept w w' := by
  have hq := hT.lt hGr.two
  have hks := hid hT.kids
  have hbs : base ≤ w.heap.size := Nat.le_trans hG.lowp (Nat.le_of_lt hG.box.lt)
  have hb1 := (Below.refl w.heap.size w).alloc (Nat.le_refl _) (.cells #[.int .i64 0, .int .i64 0, .int .i64 0, .int .i64 0] 96)
  have G1 := hid (hG.below hb1)
  have c0 := G1.out.c0
  have n1 := G1.out.kidAt hq (j := 0) (by omega)
  have n2 := G1.out.kidAt hq (j := 1) (by omega)
  have n3 := G1.out.kidAt hq (j := 2) (by omega)
  have n4 := G1.out.kidAt hq (j := 3) (by omega)
  rw [Nat.add_zero] at n1
  have i0 : (0 : Int) ≤ (q : Int) := by omega
  have i1 : (q : Int) < (G.length : Int) := by omega
  have HF1 := hid (frow_new w)
  have HB1 := hid hb1
  have HGG := hid hG
  have hpl := hG.box.lt
  have hgl := hG.lt.2
  have HKK := hid (fun (k : Nat) (hk : k < 4) => (⟨(hT.kid k hk).lt hGr.two, fun j hj => (hT.kid k hk).kids.2.2.1 j hj, fun j hj => ((hT.kid k hk).kid j hj).lt hGr.two⟩ : _ ∧ (∀ j, j < 4 → ia (qa G (kidq G q k)).2 j = (kidq G (kidq G q k) j : Int)) ∧ (∀ j, j < 4 → kidq G (kidq G q k) j < G.length)))
  clear hb1 hG hT
  go_enter Tryz.func78, Tryz.ntmps78
  go_wp2_with fail
  go_loopw [16] (fun i wr => ∃ (k : Nat), k ≤ 4 ∧ i = .int .i64 k ∧ Hid (FRow wr w.heap.size (fun j => if j < k then ia (midK G q) j else 0)) ∧ Hid (Below w.heap.size w wr)) (fun i _ => 4 - (intOf i).toNat)
  case atStart => exact ⟨0, by omega, rfl, (HF1.out.congr fun j hj => by simp), HB1.out⟩
  case round =>
    clear HF1 HB1 n1 n2 n3 n4 c0 G1
    obtain ⟨k, hk, rfl, HFR, HB⟩ := hrel
    have GW := hid (HGG.out.below HB.out)
    by_cases hlt : k < 4
    · have hidx := four_index (qa G q).2 k hlt
      unfold kv at hidx
      have k0 : (0 : Int) ≤ (k : Int) := by omega
      have k1 : (k : Int) < 4 := by omega
      rw [hks.out.2.2.1 k hlt] at hidx
      obtain ⟨z1, z2, z3⟩ := HKK.out k hlt
      have e0 := GW.out.c0
      have e1 := GW.out.kidAt z1 (j := 3 - k) (by omega)
      rw [z2 (3 - k) (by omega)] at e1
      have HZ := hid (⟨e0, e1⟩ : _ ∧ _)
      have c9 := World.rowIs.cell HFR.out (i := k) (by omega)
      have f9 := World.rowIs.frozen HFR.out k
      have hF4 : FRow (wr.setCell ⟨w.heap.size, k, none⟩ (.int .i64 (kidq G (kidq G q k) (3 - k) : Int))).drew w.heap.size (fun j => if j < k + 1 then ia (midK G q) j else 0) := by
        refine (World.rowIs.drew (World.rowIs.set HFR.out k _)).congr fun j hj => ?_
        dsimp only
        by_cases e : j = k
        · subst e; rw [if_pos rfl, if_pos (by omega), midK_at hlt]
        · rw [if_neg e]
          have : (j < k + 1) = (j < k) := by apply propext; omega
          simp [this]
      have HF4 := hid hF4
      have HB4 := hid ((HB.out.setCell (p := ⟨w.heap.size, k, none⟩) (Nat.le_refl _) (.int .i64 (kidq G (kidq G q k) (3 - k) : Int))).drew)
      have GZ := HGG.out.below HB4.out
      have HZ2 := hid (⟨GZ.c0, by have := GZ.kidAt z1 (j := 3 - k) (by omega); rw [z2 (3 - k) (by omega)] at this; exact this⟩ : (wr.setCell ⟨w.heap.size, k, none⟩ (.int .i64 (kidq G (kidq G q k) (3 - k) : Int))).drew.cell? ⟨p, 0, none⟩ = some (.slice (some ⟨g, 0, none⟩) G.length cap) ∧ (wr.setCell ⟨w.heap.size, k, none⟩ (.int .i64 (kidq G (kidq G q k) (3 - k) : Int))).drew.cell? ⟨g, kidq G q k * 5 + 1 + (3 - k), none⟩ = some (.int .i64 (kidq G (kidq G q k) (3 - k) : Int)))
      clear GZ
      have j0 : (0 : Int) ≤ ((kidq G q k : Nat) : Int) := by omega
      have j1 : ((kidq G q k : Nat) : Int) < (G.length : Int) := by omega
      have j2 : (0 : Int) ≤ ((3 - k : Nat) : Int) := by omega
      have j3 : ((3 - k : Nat) : Int) < 4 := by omega
      clear hF4 z1 z2 z3
      generalize kidq G (kidq G q k) (3 - k) = RV at *
      generalize kidq G q k = KQ at *
      have HIN := hid (fun W => c_inner k hlt W)
      generalize hk3 : 3 - k = K3 at *
      clear hk3
      go_wp2_with fail
      go_region_held3 (fun W => W.cell? ⟨p, 0, none⟩ = some (.slice (some ⟨g, 0, none⟩) G.length cap) ∧ W.cell? ⟨g, KQ * 5 + 1 + K3, none⟩ = some (.int .i64 (RV : Int)))
        (first | exact HZ.out | exact HZ2.out | go_keep)
        (first | (go_at_call 115; refine (HIN.out _).mono ?_; rintro e w7 ⟨rfl, rfl⟩))
      clear e0 e1
      go_wp2_with fail
      go_roundw
      case rel => exact ⟨k + 1, by omega, by go_num, HF4.out, HB4.out⟩
      case measure => simp [intOf]; omega
    · obtain rfl : k = 4 := by omega
      have b0 := World.rowIs.cell HFR.out (i := 0) (by omega)
      have b1 := World.rowIs.cell HFR.out (i := 1) (by omega)
      have b2 := World.rowIs.cell HFR.out (i := 2) (by omega)
      have b3 := World.rowIs.cell HFR.out (i := 3) (by omega)
      simp only [show (0 : Nat) < 4 by omega, show (1 : Nat) < 4 by omega, show (2 : Nat) < 4 by omega, show (3 : Nat) < 4 by omega, if_true] at b0 b1 b2 b3
      have HJ := hid (c_ijoin (midK G q) rfl wr GW.out hGr (by omega) (fun j hj => by rw [midK_at hj]; have := (HKK.out j hj).2.2 (3 - j) (by omega); omega))
      unfold kv at HJ
      generalize hPP : midK G q = PP at *
      go_wp2_with fail
      refine HJ.out.mono ?_
      rintro e w3 ⟨g3, cap3, rfl, hG3, hb3, hr3⟩
      have HG3 := hid hG3
      have HB3 := hid ((HB.out.mono hbs).trans hb3)
      have HR3 := hid ((RowsKept.of_below HB.out).trans hr3)
      clear hG3 hb3 hr3 HJ
      go_wp2_with fail
      go_ret
      subst hPP
      exact ⟨g3, cap3, rfl, HG3.out, HB3.out, HR3.out⟩

end Go.Proofs.YtokemdbgcegjiaaGreat
