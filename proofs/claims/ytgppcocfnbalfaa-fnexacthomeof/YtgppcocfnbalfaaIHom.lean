/- HomeOf of the program. -/
import Derived.Test.YtgppcocfnbalfaaHom
namespace Go.Proofs.Ytgppcocfnbalfaa
open Go.RowKit
set_option linter.unusedVariables false
set_option linter.unusedSimpArgs false

set_option maxHeartbeats 4000000 in
set_option maxRecDepth 100000 in
theorem c_iHomeOf (a : Option Addr) (l : List Cl) (ca : Nat) (w : World) (ha : Seg w a l) (hl : l.length ≤ 1048576) :
    Calls Try.prog 31 #[.slice a l.length ca] w fun e w' => ∃ v, e = .returned (.tuple #[v, .agg #[.int .i64 (homeC l).1, .int .i64 (homeC l).2], .bool (homeOk l)]) ∧ OwnS w' w.heap.size v (homeL l) ∧ Below w.heap.size w w' := by
  have P0 := hid (WRow.new w (.int .i64 0) 0 44)
  have B0 := hid ((Below.refl w.heap.size w).alloc (Nat.le_refl _) (.cells #[.int .i64 0, .int .i64 0] 44))
  have A0 := hid (ha.below B0.out)
  have hlt0 : w.heap.size < (w.alloc (.cells #[.int .i64 0, .int .i64 0] 44)).heap.size := by simp
  have hle := home_le l
  clear ha
  cases hg : good l
  · have HV : Hid (homeL l = [] ∧ homeC l = (0, 0) ∧ homeOk l = false) := by simp [Hid, homeL, homeC, homeOk, hg]
    have HC := hid (c_iGood' a l ca false hg _ A0.out hl)
    go_enter Try.func31, Try.ntmps31
    go_wp2_with fail
    refine HC.out.mono ?_
    rintro e w1 ⟨rfl, b1⟩
    have R1 := hid (P0.out.below b1)
    have B1 := hid (B0.out.trans (b1.mono B0.out.size))
    have x0 := R1.out.c0
    have x1 := R1.out.c1
    have f0 := R1.out.fr 0
    have f1 := R1.out.fr 1
    clear HC b1 P0 B0 A0
    go_wp2_with fail
    have RZ := hid (R1.out.put (.int .i64 0) 0)
    have v0 := RZ.out.c0
    have v1 := RZ.out.c1
    refine bodyPost_ret (v := .tuple #[.slice none 0 0, .agg #[.int .i64 0, .int .i64 0], .bool false]) (by simp [results, Try.results31, go_sem, v0, v1]) rfl ⟨_, by rw [HV.out.2.1, HV.out.2.2], by rw [HV.out.1]; exact OwnS.nil _ _, ?_⟩
    exact (B1.out.setCell (p := ⟨w.heap.size, 0, none⟩) (Nat.le_refl _) _).setCell (p := ⟨w.heap.size, 1, none⟩) (Nat.le_refl _) _
  · have HC := hid (c_iGood' a l ca true hg _ A0.out hl)
    have HW := hid (fun (W : World) (h : Seg W a l) => c_homeward a l ca W h hl hg)
    have HVF : good (home l) = false → Hid (homeL l = [] ∧ homeC l = (0, 0) ∧ homeOk l = false) := fun hh => by simp [Hid, homeL, homeC, homeOk, hh]
    have HVT : good (home l) = true → Hid (homeL l = home l ∧ homeC l = boxLo l ∧ homeOk l = true) := fun hh => by simp [Hid, homeL, homeC, homeOk, hh, hg]
    have HVF := hid HVF
    have HVT := hid HVT
    go_enter Try.func31, Try.ntmps31
    go_wp2_with fail
    refine HC.out.mono ?_
    rintro e w1 ⟨rfl, b1⟩
    have R1 := hid (P0.out.below b1)
    have A1 := hid (A0.out.below b1)
    have B1 := hid (B0.out.trans (b1.mono B0.out.size))
    clear HC b1 P0 B0 A0
    go_wp2_with fail
    refine (HW.out w1 A1.out).mono ?_
    rintro e w2 ⟨v2, rfl, o2, b2⟩
    obtain ⟨a2, c2, rfl, s2⟩ := o2.form
    generalize boxLo l = lo at *
    have k2 := (Below.refl w2.heap.size w2).alloc (Nat.le_refl _) (.cells #[.int .i64 lo.1, .int .i64 lo.2] 44)
    have L2 := hid (WRow.new w2 (.int .i64 lo.1) lo.2 44)
    have O2 := hid (o2.below k2)
    have R2 := hid ((R1.out.below b2).below k2)
    have B2 := hid (B1.out.trans ((b2.trans (k2.mono b2.size)).mono B1.out.size))
    have Z1 := hid (show w.heap.size < w1.heap.size from World.rowIs.lt R1.out)
    have Z2 := hid (show w1.heap.size ≤ w2.heap.size from b2.size)
    have zl : w2.heap.size < (w2.alloc (.cells #[.int .i64 lo.1, .int .i64 lo.2] 44)).heap.size := by simp
    clear o2 s2 b2 R1 B1 A1 k2 HW
    go_wp2_with fail
    generalize w2.alloc (.cells #[.int .i64 lo.1, .int .i64 lo.2] 44) = w3 at *
    refine (c_onlyGood a2 (home l) c2 w1.heap.size w3 O2.out O2.out.seg (by omega)).mono ?_
    rintro e w4 ⟨v4, rfl, o4, b4⟩
    obtain ⟨a4, c4, rfl, s4⟩ := o4.form
    have O4 := hid o4
    have R4 := hid (R2.out.below b4)
    have L4 := hid (L2.out.below b4)
    have B4 := hid (B2.out.trans (b4.mono B2.out.size))
    have Z4 := hid (show w3.heap.size ≤ w4.heap.size from b4.size)
    clear o4 s4 b4 O2 R2 B2 L2
    have x0 := R4.out.c0
    have x1 := R4.out.c1
    have f0 := R4.out.fr 0
    have f1 := R4.out.fr 1
    cases hh : good (home l)
    · have HV := HVF.out hh
      clear HVF HVT
      go_wp2_with fail
      have RZ := hid (R4.out.put (.int .i64 0) 0)
      have v0 := RZ.out.c0
      have v1 := RZ.out.c1
      refine bodyPost_ret (v := .tuple #[.slice none 0 0, .agg #[.int .i64 0, .int .i64 0], .bool false]) (by simp [results, Try.results31, go_sem, v0, v1]) rfl ⟨_, by rw [HV.out.2.1, HV.out.2.2], by rw [HV.out.1]; exact OwnS.nil _ _, ?_⟩
      exact (B4.out.setCell (p := ⟨w.heap.size, 0, none⟩) (Nat.le_refl _) _).setCell (p := ⟨w.heap.size, 1, none⟩) (Nat.le_refl _) _
    · have HV := HVT.out hh
      have HT : Hid (tellV (home l) = home l) := by simp [Hid, tellV, hh]
      have y0 := L4.out.c0
      have y1 := L4.out.c1
      rw [HT.out] at O4
      have hne : ¬ w2.heap.size = w.heap.size := by have := Z1.out; have := Z2.out; omega
      have hne2 : ¬ w.heap.size = w2.heap.size := by have := Z1.out; have := Z2.out; omega
      clear HVF HVT
      rw [HT.out]
      go_wp2_with fail
      go_region_held3 (fun W => W.cell? ⟨w2.heap.size, 0, none⟩ = some (.int .i64 lo.1) ∧ W.cell? ⟨w2.heap.size, 1, none⟩ = some (.int .i64 lo.2))
        (first | exact ⟨y0, y1⟩ | exact ⟨((L4.out.other hne _).other hne _).c0, ((L4.out.other hne _).other hne _).c1⟩ | go_keep) (fail)
      go_wp2_with fail
      have RZ := hid (R4.out.put (.int .i64 lo.1) lo.2)
      have hlt4 := O4.out.lt
      have O5 := (O4.out.other (b := w.heap.size) (o := 0) (fun k hk => by have := (hlt4 k hk).1; have := Z1.out; omega) (.int .i64 lo.1)).other (b := w.heap.size) (o := 1) (fun k hk => by have := (hlt4 k hk).1; have := Z1.out; omega) (.int .i64 lo.2)
      have hBZ := (B4.out.setCell (p := ⟨w.heap.size, 0, none⟩) (Nat.le_refl _) (.int .i64 lo.1)).setCell (p := ⟨w.heap.size, 1, none⟩) (Nat.le_refl _) (.int .i64 lo.2)
      have hdr := (Below.refl ((w4.setCell ⟨w.heap.size, 0, none⟩ (.int .i64 lo.1)).setCell ⟨w.heap.size, 1, none⟩ (.int .i64 lo.2)).heap.size ((w4.setCell ⟨w.heap.size, 0, none⟩ (.int .i64 lo.1)).setCell ⟨w.heap.size, 1, none⟩ (.int .i64 lo.2))).drew
      have RD := RZ.out.below hdr
      have v0 := RD.c0
      have v1 := RD.c1
      refine bodyPost_ret (v := .tuple #[.slice a4 (home l).length c4, .agg #[.int .i64 lo.1, .int .i64 lo.2], .bool true]) (by simp [results, Try.results31, go_sem, v0, v1]) rfl ⟨_, by rw [HV.out.2.1, HV.out.2.2], by rw [HV.out.1]; exact (O5.below hdr).mono (by have := Z1.out; omega), ?_⟩
      exact hBZ.trans (hdr.mono hBZ.size)
end Go.Proofs.Ytgppcocfnbalfaa
