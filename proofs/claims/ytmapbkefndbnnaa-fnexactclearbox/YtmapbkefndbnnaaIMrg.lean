/- What the program's merge answers. -/
import Derived.Test.YtmapbkefndbnnaaIFill
namespace Go.Proofs.Ytmapbkefndbnnaa
open Go.RowKit Go.Maps
set_option linter.unusedVariables false
set_option linter.unusedSimpArgs false
attribute [local go_sem ↓] Go.wp_at_zero Go.wp_at_succ

/-- Alive or not, as a number. -/
def bitC (L : List Cl) (c : Cl) : Nat := if c ∈ L then 1 else 0
theorem IsT.bit {L : List Cl} {F : List Qd} {q : Nat} {x y : Int} (h : IsT L F 0 q x y) : q = bitC L (x, y) := h
theorem bitC_lt (L : List Cl) (c : Cl) : bitC L c < 2 := by unfold bitC; split <;> omega

set_option maxHeartbeats 4000000 in
set_option maxRecDepth 100000 in
theorem c_merge (La Lb L' : List Cl) (f : Nat) (hf : f = 114 ∨ f = 116) (op : Nat → Nat → Nat) (hop : ∀ (i j : Nat) (W : World), i < 2 → j < 2 → Calls Try.prog f #[.int .i64 (i : Int), .int .i64 (j : Int)] W fun e w' => e = .returned (.int .i64 (op i j : Int)) ∧ w' = W) (base p mb : Nat) : ∀ (n a b : Nat) (x y : Int) (G : List Qd) (g cap : Nat) (w : World),
    n ≤ 5 → Grows G → G.length + 4 ^ n ≤ 10000 → IsT La G n a x y → IsT Lb G n b x y → (∀ c, sqB n x y c → bitC L' c = op (bitC La c) (bitC Lb c)) → Grv w base p g cap mb G →
    Calls Try.prog 142 #[.pointer (some ⟨p, 0, none⟩), .int .i64 (a : Int), .int .i64 (b : Int), .func (.func f) #[] #[]] w fun e w' => ∃ g' cap', e = .returned (.int .i64 ((treeL L' n x y G).2 : Int)) ∧ Grv w' base p g' cap' mb (treeL L' n x y G).1 ∧ Below base w w' ∧ RowsKept w w' := by
  intro n
  induction n with
  | zero =>
    intro a b x y G g cap w hn hGr hlen hTa hTb hC hG
    have ha := hTa.lt hGr.two
    have hlev := hTa.lev hGr
    have HG := hid hG
    have c0 := hG.c0
    have n0 := hG.lev ha
    rw [hlev] at n0
    have i0 : (0 : Int) ≤ (a : Int) := by omega
    have i1 : (a : Int) < (G.length : Int) := by omega
    have ea := hTa.bit
    have eb := hTb.bit
    have hc := hC (x, y) (by unfold sqB; simp; omega)
    have HO := hid (fun W => hop a b W (by rw [ea]; exact bitC_lt _ _) (by rw [eb]; exact bitC_lt _ _))
    have HV : Hid (treeL L' 0 x y G = (G, op a b)) := by
      show treeL L' 0 x y G = (G, op a b)
      rw [ea, eb, ← hc]
      rfl
    clear hG hTa hTb hC hc ea eb hlev
    rcases hf with rfl | rfl
    all_goals
      go_enter Try.func142, Try.ntmps142
      go_wp2_with fail
      refine (HO.out _).mono ?_
      rintro e w1 ⟨rfl, rfl⟩
      go_wp2_with fail
      go_ret
      rw [HV.out]
      exact ⟨g, cap, rfl, HG.out, Below.refl _ _, RowsKept.of_below (Below.refl _ _)⟩
  | succ n ih =>
    intro a b x y G g cap w hn hGr hlen hTa hTb hC hG
    have ha := hTa.lt hGr.two
    have hb := hTb.lt hGr.two
    have hlev := hTa.lev hGr
    have HKA := hid hTa.kids
    have HKB := hid hTb.kids
    have hbs : base ≤ w.heap.size := Nat.le_trans hG.lowp (Nat.le_of_lt hG.box.lt)
    have c0 := hG.c0
    have n0 := hG.lev ha
    rw [hlev, show ((n + 1 : Nat) : Int) = (n : Int) + 1 by omega] at n0
    have i0 : (0 : Int) ≤ (a : Int) := by omega
    have i1 : (a : Int) < (G.length : Int) := by omega
    have HIH := hid ih
    have h4 : (4 : Nat) ^ (n + 1) = 4 * 4 ^ n := by rw [Nat.pow_succ]; omega
    rw [h4] at hlen
    have HPF := hid (fun k => pk_facts L' n x y G (by omega) hGr k)
    have HPM := hid (fun k => pk_more L' n x y G (by omega) hGr k)
    have HPJ := hid (pk_join L' n x y G (by omega) hGr)
    have HPA := hid (fun k j => pk_at L' n x y G (by omega) hGr k j)
    have HP4 := hid (pk_four L' n x y G)
    have HLEN := hid hlen
    have HTA := hid hTa
    have HTB := hid hTb
    have HCC := hid hC
    have HG := hid hG
    have hb1 := (Below.refl w.heap.size w).alloc (Nat.le_refl _) (.cells #[.int .i64 0, .int .i64 0, .int .i64 0, .int .i64 0] 107)
    have HG3 := hid (hG.below hb1)
    have HF3 := hid (frow_new w)
    have HB3 := hid hb1
    clear hG hTa hTb hC hlev ih hlen h4 hb1
    have dn : ((n : Int) + 1 == 0) = false := by simp; omega
    go_enter Try.func142, Try.ntmps142
    go_wp2_with fail
    go_loopw [24] (fun i wr => ∃ (k g' cap' : Nat), k ≤ 4 ∧ i = .int .i64 k ∧ Hid (Grv wr base p g' cap' mb (pk L' n x y G k).1) ∧ Hid (FRow wr w.heap.size (fun j => if j < k then ia (pk L' n x y G k).2 j else 0)) ∧ Hid (Below base w wr) ∧ Hid (RowsKept w wr)) (fun i _ => 4 - (intOf i).toNat)
    case atStart => exact ⟨0, g, cap, by omega, rfl, HG3.out, (HF3.out.congr fun j hj => by simp), HB3.out.mono hbs, RowsKept.of_below HB3.out⟩
    case round =>
      clear HG3 HF3 HB3 c0 n0 HG
      obtain ⟨k, g1, cap1, hk, rfl, HG, HFR, HB, HRK⟩ := hrel
      by_cases hlt : k < 4
      · have k0 : (0 : Int) ≤ (k : Int) := by omega
        have k1 : (k : Int) < 4 := by omega
        have hpf := HPF.out k
        have hpm := HPM.out k
        have hl4 : k * 4 ^ n ≤ 3 * 4 ^ n := Nat.mul_le_mul_right _ (by omega)
        have hkt := (HTA.out.kid k hlt).more hpm.1 hpm.2
        have hkt2 := (HTB.out.kid k hlt).more hpm.1 hpm.2
        have HPK := hid (show (pk L' n x y G (k + 1)).1 = (treeL L' n (kx n k x) (ky n k y) (pk L' n x y G k).1).1 from rfl)
        have GD := hid (HG.out.below ((Below.refl wr.heap.size wr).drew))
        have HPL := hid (HIH.out (kidq G a k) (kidq G b k) (kx n k x) (ky n k y) (pk L' n x y G k).1 g1 cap1 wr.drew (by omega) hpf.1 (by have := HLEN.out; have := hpf.2.1; omega) hkt hkt2 (fun c hc => HCC.out c (sqB_kid hc (kx_or n k x hlt) (ky_or n k y hlt))) GD.out)
        have e0 := HG.out.c0
        have e1 := HG.out.kidAt (i := a) (by omega) (j := k) hlt
        have e2 := HG.out.kidAt (i := b) (by omega) (j := k) hlt
        rw [hpm.2 a ha, HKA.out.2.2.1 k hlt] at e1
        rw [hpm.2 b hb, HKB.out.2.2.1 k hlt] at e2
        have m0 : (0 : Int) ≤ (a : Int) := by omega
        have m1 : (a : Int) < ((pk L' n x y G k).1.length : Int) := by omega
        have m2 : (0 : Int) ≤ (b : Int) := by omega
        have m3 : (b : Int) < ((pk L' n x y G k).1.length : Int) := by omega
        have FD := hid (World.rowIs.drew HFR.out)
        have HBD := hid HB.out.drew
        have HRD := hid (HRK.out.trans (RowsKept.of_below ((Below.refl wr.heap.size wr).drew)))
        have hFl := World.rowIs.lt HFR.out
        clear hpf hl4 hkt hkt2 hpm GD i0 i1
        generalize kidq G a k = KA at *
        generalize kidq G b k = KB at *
        generalize hPN : (pk L' n x y G k).1.length = PN at *
        clear hPN
        go_wp2_with fail
        go_region_with (go_at_call 142; refine HPL.out.mono ?_; rintro e w4 ⟨g3, cap3, rfl, hG3, hb3, hr3⟩; have hF3 := hr3 _ _ _ _ (by decide) (by decide) FD.out; have c9 := hF3.cell (i := k) (by omega); have f9 := hF3.frozen k)
        all_goals
          have hF4 : FRow (w4.setCell ⟨w.heap.size, k, none⟩ (.int .i64 ((treeL L' n (kx n k x) (ky n k y) (pk L' n x y G k).1).2 : Int))) w.heap.size (fun j => if j < k + 1 then ia (pk L' n x y G (k + 1)).2 j else 0) := by
            refine (World.rowIs.set hF3 k _).congr fun j hj => ?_
            dsimp only
            rw [← HPA.out k j]
            by_cases e : j = k
            · rw [if_pos e, if_pos e]
            · rw [if_neg e, if_neg e]
          have HF4 := hid hF4
          have HG4 := hid (hG3.setFour hF3 k ((treeL L' n (kx n k x) (ky n k y) (pk L' n x y G k).1).2 : Int))
          have HB4 := hid ((HBD.out.trans hb3).setCell (p := ⟨w.heap.size, k, none⟩) (by dsimp only; omega) (.int .i64 ((treeL L' n (kx n k x) (ky n k y) (pk L' n x y G k).1).2 : Int)))
          have HR4 := hid (rows_set (HRD.out.trans hr3) (Nat.le_refl w.heap.size) k (.int .i64 ((treeL L' n (kx n k x) (ky n k y) (pk L' n x y G k).1).2 : Int)))
          rw [← HPK.out] at HG4
          clear HPL hG3 hb3 hr3 hF3 hF4 FD HBD HRD e0 e1 e2 HG HFR HB HRK
          generalize ((treeL L' n (kx n k x) (ky n k y) (pk L' n x y G k).1).2 : Int) = TQ at *
          go_wp2_with fail
          go_roundw
          case rel => exact ⟨k + 1, g3, cap3, by omega, by go_num, HG4.out, HF4.out, HB4.out, HR4.out⟩
          case measure => simp [intOf]; omega
      · obtain rfl : k = 4 := by omega
        have hpf := HPF.out 4
        have b0 := World.rowIs.cell HFR.out (i := 0) (by omega)
        have b1 := World.rowIs.cell HFR.out (i := 1) (by omega)
        have b2 := World.rowIs.cell HFR.out (i := 2) (by omega)
        have b3 := World.rowIs.cell HFR.out (i := 3) (by omega)
        simp only [show (0 : Nat) < 4 by omega, show (1 : Nat) < 4 by omega, show (2 : Nat) < 4 by omega, show (3 : Nat) < 4 by omega, if_true] at b0 b1 b2 b3
        have HJ := hid (c_ijoin (pk L' n x y G 4).2 hpf.2.2 wr HG.out hpf.1 (by have := HLEN.out; have := hpf.2.1; omega) HPJ.out)
        unfold kv at HJ
        generalize pk L' n x y G 4 = PP at *
        clear hpf
        go_wp2_with fail
        refine HJ.out.mono ?_
        rintro e w3 ⟨g3, cap3, rfl, hG3, hb3, hr3⟩
        have HG3 := hid hG3
        have HB3 := hid (HB.out.trans hb3)
        have HR3 := hid (HRK.out.trans hr3)
        clear hG3 hb3 hr3 HJ
        go_wp2_with fail
        go_ret
        rw [HP4.out]
        exact ⟨g3, cap3, rfl, HG3.out, HB3.out, HR3.out⟩

/-- The two ways of merging. -/
def orN (a b : Nat) : Nat := if a = 1 then a else b
def lessN (a b : Nat) : Nat := if b = 1 then 0 else a
theorem c_either (i j : Nat) (W : World) (hi : i < 2) (hj : j < 2) : Calls Try.prog 114 #[.int .i64 (i : Int), .int .i64 (j : Int)] W fun e w' => e = .returned (.int .i64 (orN i j : Int)) ∧ w' = W := by
  rcases (show i = 0 ∨ i = 1 by omega) with rfl | rfl <;> rcases (show j = 0 ∨ j = 1 by omega) with rfl | rfl
  all_goals
    go_enter Try.func114, Try.ntmps114
    go_wp2
    go_ret
    exact ⟨rfl, rfl⟩
theorem c_without (i j : Nat) (W : World) (hi : i < 2) (hj : j < 2) : Calls Try.prog 116 #[.int .i64 (i : Int), .int .i64 (j : Int)] W fun e w' => e = .returned (.int .i64 (lessN i j : Int)) ∧ w' = W := by
  rcases (show i = 0 ∨ i = 1 by omega) with rfl | rfl <;> rcases (show j = 0 ∨ j = 1 by omega) with rfl | rfl
  all_goals
    go_enter Try.func116, Try.ntmps116
    go_wp2
    go_ret
    exact ⟨rfl, rfl⟩

end Go.Proofs.Ytmapbkefndbnnaa
