/- A cell, turned by a row of turnings: the program's turnedBy. -/
import Derived.Test.YtgfdkolhldbehaaTg
import Derived.Laws.EntriesVeiled
namespace Go.Proofs.Ytgfdkolhldbehaa
open Go.RowKit
set_option linter.unusedVariables false
set_option linter.unusedSimpArgs false

def bdC (c : Cl) : Prop := -1000 ≤ c.1 ∧ c.1 ≤ 1000 ∧ -1000 ≤ c.2 ∧ c.2 ≤ 1000
set_option maxHeartbeats 400000 in
theorem c_fromMid (p s : Nat) (c : Cl) (w : World) (hk : KdOk w (.mid p s)) (hc : bdC c) :
    Calls Try.prog 137 #[.agg #[.int .i64 c.1, .int .i64 c.2], .pointer (some ⟨p, 0, none⟩)] w fun e w' => e = .returned (.agg #[.int .i64 (midC s c).1, .int .i64 (midC s c).2]) ∧ Below w.heap.size w w' := by
  obtain ⟨x, y⟩ := c
  obtain ⟨h1, h2, h3, h4⟩ := hc
  obtain ⟨k1, k2, k3⟩ := hk
  have g1 := cell_old w (.cells #[.int .i64 x, .int .i64 y] 36) k2 k1
  have g2 := cell_old (w.alloc (.cells #[.int .i64 x, .int .i64 y] 36)) (.cells #[.int .i64 0, .int .i64 0] 36) g1 (by simp; omega)
  dsimp only [midC] at *
  obtain ⟨d, hd⟩ : ∃ d : Int, d = (s : Int) - 1 := ⟨_, rfl⟩
  rw [← hd]
  have hd2 : (s : Int) - 1 = d := hd.symm
  have hdr : -1 ≤ d ∧ d ≤ 2 := by omega
  clear hd k2 g1
  have P1 := hid ((WRow.new w (.int .i64 x) y 36).below ((Below.refl _ _).alloc (Nat.le_refl _) (.cells #[.int .i64 0, .int .i64 0] 36)))
  have P2 := hid (WRow.new (w.alloc (.cells #[.int .i64 x, .int .i64 y] 36)) (.int .i64 0) 0 36)
  have hz1 : (w.alloc (.cells #[.int .i64 x, .int .i64 y] 36)).heap.size = w.heap.size + 1 := by simp
  rw [hz1] at P2
  have RZ := hid (P2.out.put (.int .i64 (2 * x - d)) (2 * y - d))
  have z0 := RZ.out.c0
  have z1 := RZ.out.c1
  have x0 := P1.out.c0
  have x1 := P1.out.c1
  have f0 := P2.out.fr 0
  have f1 := P2.out.fr 1
  have B2 := hid (((Below.refl w.heap.size w).alloc (Nat.le_refl _) (.cells #[.int .i64 x, .int .i64 y] 36)).alloc (by simp) (.cells #[.int .i64 0, .int .i64 0] 36))
  clear hz1
  go_enter Try.func137, Try.ntmps137
  go_wp2
  refine bodyPost_ret (v := .agg #[.int .i64 (2 * x - d), .int .i64 (2 * y - d)]) (by simp [results, Try.results137, go_sem, z0, z1]) rfl ⟨rfl, ?_⟩
  exact ((Below.refl w.heap.size w).alloc (Nat.le_refl _) _).alloc (by simp) _

/-- No box that a function reads is the block b. -/
def KdNe (b : Nat) : Kd → Prop
  | .mid p _ => p ≠ b
  | _ => True
theorem KdOk.set2 {w : World} {b : Nat} {k : Kd} (h : KdOk w k) (hne : KdNe b k) {u v : Value} : KdOk ((w.setCell ⟨b, 0, none⟩ u).setCell ⟨b, 1, none⟩ v) k := by
  cases k with
  | mir => trivial
  | qtr => trivial
  | mid p s =>
    obtain ⟨h1, h2, h3⟩ := h
    refine ⟨by simpa using h1, ?_, h3⟩
    have hne' : p ≠ b := hne
    rw [World.cell?_setCell_other _ _ _ _ (by simp [Ne.symm hne']), World.cell?_setCell_other _ _ _ _ (by simp [Ne.symm hne'])]
    exact h2
/-- All cells on the way are near. -/
def Nr (T : List Tn) (c : Cl) : Prop := ∀ k, k < T.length → ∀ j, j < (ta T k).2 → bdC (tnN (ta T k).1 j (tnBy (T.take k) c))
/-- One round of the inner loop: the function is called, and what it answers stored. -/
theorem tn_call (k : Kd) (c : Cl) (w : World) (hk : KdOk w k) (hc : bdC c) :
    match k with
    | .mir => Calls Try.prog 131 #[.agg #[.int .i64 c.1, .int .i64 c.2]] w fun e w' => e = .returned (.agg #[.int .i64 (tnF k c).1, .int .i64 (tnF k c).2]) ∧ Below w.heap.size w w'
    | .qtr => Calls Try.prog 132 #[.agg #[.int .i64 c.1, .int .i64 c.2]] w fun e w' => e = .returned (.agg #[.int .i64 (tnF k c).1, .int .i64 (tnF k c).2]) ∧ Below w.heap.size w w'
    | .mid p _ => Calls Try.prog 137 #[.agg #[.int .i64 c.1, .int .i64 c.2], .pointer (some ⟨p, 0, none⟩)] w fun e w' => e = .returned (.agg #[.int .i64 (tnF k c).1, .int .i64 (tnF k c).2]) ∧ Below w.heap.size w w' := by
  cases k with
  | mir => exact c_mirrored c w hc
  | qtr => exact c_quarterTurned c w hc
  | mid p s => exact c_fromMid p s c w hk hc

set_option maxRecDepth 100000 in
set_option maxHeartbeats 4000000 in
theorem c_turnedBy (a : Option Addr) (T : List Tn) (ca : Nat) (c : Cl) (w : World) (ha : TSeg w a T) (hl : T.length ≤ 1000) (hN : Nr T c) (ht : ∀ k, k < T.length → (ta T k).2 ≤ 1000) :
    Calls Try.prog 130 #[.agg #[.int .i64 c.1, .int .i64 c.2], .slice a T.length ca] w fun e w' => e = .returned (.agg #[.int .i64 (tnBy T c).1, .int .i64 (tnBy T c).2]) ∧ Below w.heap.size w w' := by
  have P0 := hid ((WRow.new w (.int .i64 c.1) c.2 36).below ((Below.refl _ _).alloc (Nat.le_refl _) (.cells #[.int .i64 0, .int .i64 0] 36)))
  have P1 := hid (WRow.new (w.alloc (.cells #[.int .i64 c.1, .int .i64 c.2] 36)) (.int .i64 0) 0 36)
  have hz1 : (w.alloc (.cells #[.int .i64 c.1, .int .i64 c.2] 36)).heap.size = w.heap.size + 1 := by simp
  rw [hz1] at P1
  have B2 := hid (((Below.refl w.heap.size w).alloc (Nat.le_refl _) (.cells #[.int .i64 c.1, .int .i64 c.2] 36)).alloc (by simp) (.cells #[.int .i64 0, .int .i64 0] 36))
  have HA := hid ha
  have HN := hid hN
  have HT := hid ht
  clear ha hN ht hz1
  go_enter Try.func130, Try.ntmps130
  go_wp2_with fail
  go_loopw [9] (fun i wr => ∃ k : Nat, k ≤ T.length ∧ i = .int .i64 k ∧ WRow wr w.heap.size (.int .i64 (tnBy (T.take k) c).1) (tnBy (T.take k) c).2 36 ∧ WRow wr (w.heap.size + 1) (.int .i64 0) 0 36 ∧ Below w.heap.size w wr) (fun i _ => T.length - (intOf i).toNat)
  case atStart => exact ⟨0, Nat.zero_le _, rfl, P0.out, P1.out, B2.out⟩
  case round =>
    clear P0 P1 B2
    obtain ⟨k, hk, rfl, hP, hQ, hB⟩ := hrel
    have HP := hid hP
    have HQ := hid hQ
    have HB := hid hB
    clear hP hQ hB
    by_cases hlt : k < T.length
    · obtain ⟨b, o, rfl, hb, g1, g2, hKd⟩ := HA.out k hlt
      replace g1 := (HB.out.cell (p := ⟨b, o + k * 2, none⟩) hb).trans g1
      replace g2 := (HB.out.cell (p := ⟨b, o + k * 2 + 1, none⟩) hb).trans g2
      have HK := hid (hKd.below HB.out)
      have HNk := hid (fun j hj => HN.out k hlt j hj)
      have hTk := HT.out k hlt
      have HS := hid (tnBy_succ hlt c)
      have hneK : KdNe w.heap.size (ta T k).1 := by
        cases hf : (ta T k).1 with
        | mir => trivial
        | qtr => trivial
        | mid p s => rw [hf] at hKd; exact Nat.ne_of_lt hKd.1
      clear hKd
      generalize tnBy (T.take k) c = c0 at *
      generalize hta : ta T k = t at *
      obtain ⟨f, n⟩ := t
      clear hta
      dsimp only at *
      have hne1 : ¬ wr.heap.size = w.heap.size := by have := World.rowIs.lt HP.out; omega
      have hne2 : ¬ w.heap.size = wr.heap.size := by omega
      have hne3 : ¬ w.heap.size + 1 = w.heap.size := by omega
      have hlw : w.heap.size < wr.heap.size := World.rowIs.lt HP.out
      have HCall := hid (fun (c' : Cl) (W : World) (h1 : KdOk W f) (h2 : bdC c') => tn_call f c' W h1 h2)
      --WAYS
      cases f with
      | mir =>
        dsimp only [tnV] at *
        have BA := (Below.refl wr.heap.size wr).alloc (Nat.le_refl _) (.cells #[.func (.func 131) #[] #[], .int .i64 (n : Int)] 119)
        have HPa := hid (HP.out.below BA)
        have HQa := hid (HQ.out.below BA)
        have HKa := hid (HK.out.below BA)
        have HBa := hid (HB.out.alloc HB.out.size (.cells #[.func (.func 131) #[] #[], .int .i64 (n : Int)] 119))
        have HEa := hid (WRow.new wr (.func (.func 131) #[] #[]) (n : Int) 119)
        clear BA
        go_wp2_with fail
        generalize wr.alloc (.cells #[.func (.func 131) #[] #[], .int .i64 (n : Int)] 119) = wa at *
        generalize hE : wr.heap.size = E at *
        clear hE
        go_loopw [15] (fun i wq => ∃ j : Nat, j ≤ n ∧ i = .int .i64 j ∧ WRow wq w.heap.size (.int .i64 (tnN (.mir) j c0).1) (tnN (.mir) j c0).2 36 ∧ WRow wq (w.heap.size + 1) (.int .i64 0) 0 36 ∧ WRow wq E (.func (.func 131) #[] #[]) (n : Int) 119 ∧ KdOk wq (.mir) ∧ Below w.heap.size w wq) (fun i _ => n - (intOf i).toNat)
        case atStart => exact ⟨0, Nat.zero_le _, rfl, HPa.out, HQa.out, HEa.out, HKa.out, HBa.out⟩
        case round =>
          clear HPa HQa HEa HKa HBa HP HQ HK HB
          obtain ⟨j, hj, rfl, hP, hQ, hE, hKk, hB⟩ := hrel
          have HP := hid hP
          have HQ := hid hQ
          have HE := hid hE
          have HK := hid hKk
          have HB := hid hB
          clear hP hQ hE hKk hB
          by_cases hlj : j < n
          · have HC := hid (HNk.out j hlj)
            have HT1 := hid (tnN_succ (.mir) j c0)
            generalize tnN (.mir) j c0 = c1 at *
            have x0 := HP.out.c0
            have x1 := HP.out.c1
            have y0 := HE.out.c0
            have y1 := HE.out.c1
            go_wp2_with fail
            refine (HCall.out c1 _ HK.out HC.out).mono ?_
            rintro e w5 ⟨rfl, b5⟩
            have HP5 := hid (HP.out.below b5)
            have HQ5 := hid (HQ.out.below b5)
            have HE5 := hid (HE.out.below b5)
            have HK5 := hid (HK.out.below b5)
            have HB5 := hid (HB.out.trans (b5.mono HB.out.size))
            clear b5 x0 x1 y0 y1
            have x0 := HP5.out.c0
            have x1 := HP5.out.c1
            have f0 := HP5.out.fr 0
            have f1 := HP5.out.fr 1
            generalize hc2 : tnF (.mir) c1 = c2 at *

            clear hc2
            go_wp2_with fail
            go_roundw
            case rel => exact ⟨j + 1, by omega, by go_num, by rw [HT1.out]; exact HP5.out.put _ _, (HQ5.out.other hne3 _).other hne3 _, (HE5.out.other hne1 _).other hne1 _, HK5.out.set2 hneK, (HB5.out.setCell (p := ⟨w.heap.size, 0, none⟩) (Nat.le_refl _) _).setCell (p := ⟨w.heap.size, 1, none⟩) (Nat.le_refl _) _⟩
            case measure => simp [intOf]; omega
          · obtain rfl : j = n := by omega
            have y1 := HE.out.c1
            go_wp2_with fail
            go_roundw
            case rel => exact ⟨k + 1, by omega, by go_num, by rw [HS.out]; exact HP.out, HQ.out, HB.out⟩
            case measure => simp [intOf]; omega
      | qtr =>
        dsimp only [tnV] at *
        have BA := (Below.refl wr.heap.size wr).alloc (Nat.le_refl _) (.cells #[.func (.func 132) #[] #[], .int .i64 (n : Int)] 119)
        have HPa := hid (HP.out.below BA)
        have HQa := hid (HQ.out.below BA)
        have HKa := hid (HK.out.below BA)
        have HBa := hid (HB.out.alloc HB.out.size (.cells #[.func (.func 132) #[] #[], .int .i64 (n : Int)] 119))
        have HEa := hid (WRow.new wr (.func (.func 132) #[] #[]) (n : Int) 119)
        clear BA
        go_wp2_with fail
        generalize wr.alloc (.cells #[.func (.func 132) #[] #[], .int .i64 (n : Int)] 119) = wa at *
        generalize hE : wr.heap.size = E at *
        clear hE
        go_loopw [15] (fun i wq => ∃ j : Nat, j ≤ n ∧ i = .int .i64 j ∧ WRow wq w.heap.size (.int .i64 (tnN (.qtr) j c0).1) (tnN (.qtr) j c0).2 36 ∧ WRow wq (w.heap.size + 1) (.int .i64 0) 0 36 ∧ WRow wq E (.func (.func 132) #[] #[]) (n : Int) 119 ∧ KdOk wq (.qtr) ∧ Below w.heap.size w wq) (fun i _ => n - (intOf i).toNat)
        case atStart => exact ⟨0, Nat.zero_le _, rfl, HPa.out, HQa.out, HEa.out, HKa.out, HBa.out⟩
        case round =>
          clear HPa HQa HEa HKa HBa HP HQ HK HB
          obtain ⟨j, hj, rfl, hP, hQ, hE, hKk, hB⟩ := hrel
          have HP := hid hP
          have HQ := hid hQ
          have HE := hid hE
          have HK := hid hKk
          have HB := hid hB
          clear hP hQ hE hKk hB
          by_cases hlj : j < n
          · have HC := hid (HNk.out j hlj)
            have HT1 := hid (tnN_succ (.qtr) j c0)
            generalize tnN (.qtr) j c0 = c1 at *
            have x0 := HP.out.c0
            have x1 := HP.out.c1
            have y0 := HE.out.c0
            have y1 := HE.out.c1
            go_wp2_with fail
            refine (HCall.out c1 _ HK.out HC.out).mono ?_
            rintro e w5 ⟨rfl, b5⟩
            have HP5 := hid (HP.out.below b5)
            have HQ5 := hid (HQ.out.below b5)
            have HE5 := hid (HE.out.below b5)
            have HK5 := hid (HK.out.below b5)
            have HB5 := hid (HB.out.trans (b5.mono HB.out.size))
            clear b5 x0 x1 y0 y1
            have x0 := HP5.out.c0
            have x1 := HP5.out.c1
            have f0 := HP5.out.fr 0
            have f1 := HP5.out.fr 1
            generalize hc2 : tnF (.qtr) c1 = c2 at *

            clear hc2
            go_wp2_with fail
            go_roundw
            case rel => exact ⟨j + 1, by omega, by go_num, by rw [HT1.out]; exact HP5.out.put _ _, (HQ5.out.other hne3 _).other hne3 _, (HE5.out.other hne1 _).other hne1 _, HK5.out.set2 hneK, (HB5.out.setCell (p := ⟨w.heap.size, 0, none⟩) (Nat.le_refl _) _).setCell (p := ⟨w.heap.size, 1, none⟩) (Nat.le_refl _) _⟩
            case measure => simp [intOf]; omega
          · obtain rfl : j = n := by omega
            have y1 := HE.out.c1
            go_wp2_with fail
            go_roundw
            case rel => exact ⟨k + 1, by omega, by go_num, by rw [HS.out]; exact HP.out, HQ.out, HB.out⟩
            case measure => simp [intOf]; omega
      | mid p s =>
        dsimp only [tnV] at *
        have BA := (Below.refl wr.heap.size wr).alloc (Nat.le_refl _) (.cells #[.func (.func 137) #[] #[.pointer (some ⟨p, 0, none⟩)], .int .i64 (n : Int)] 119)
        have HPa := hid (HP.out.below BA)
        have HQa := hid (HQ.out.below BA)
        have HKa := hid (HK.out.below BA)
        have HBa := hid (HB.out.alloc HB.out.size (.cells #[.func (.func 137) #[] #[.pointer (some ⟨p, 0, none⟩)], .int .i64 (n : Int)] 119))
        have HEa := hid (WRow.new wr (.func (.func 137) #[] #[.pointer (some ⟨p, 0, none⟩)]) (n : Int) 119)
        clear BA
        go_wp2_with fail
        generalize wr.alloc (.cells #[.func (.func 137) #[] #[.pointer (some ⟨p, 0, none⟩)], .int .i64 (n : Int)] 119) = wa at *
        generalize hE : wr.heap.size = E at *
        clear hE
        go_loopw [15] (fun i wq => ∃ j : Nat, j ≤ n ∧ i = .int .i64 j ∧ WRow wq w.heap.size (.int .i64 (tnN (.mid p s) j c0).1) (tnN (.mid p s) j c0).2 36 ∧ WRow wq (w.heap.size + 1) (.int .i64 0) 0 36 ∧ WRow wq E (.func (.func 137) #[] #[.pointer (some ⟨p, 0, none⟩)]) (n : Int) 119 ∧ KdOk wq (.mid p s) ∧ Below w.heap.size w wq) (fun i _ => n - (intOf i).toNat)
        case atStart => exact ⟨0, Nat.zero_le _, rfl, HPa.out, HQa.out, HEa.out, HKa.out, HBa.out⟩
        case round =>
          clear HPa HQa HEa HKa HBa HP HQ HK HB
          obtain ⟨j, hj, rfl, hP, hQ, hE, hKk, hB⟩ := hrel
          have HP := hid hP
          have HQ := hid hQ
          have HE := hid hE
          have HK := hid hKk
          have HB := hid hB
          clear hP hQ hE hKk hB
          by_cases hlj : j < n
          · have HC := hid (HNk.out j hlj)
            have HT1 := hid (tnN_succ (.mid p s) j c0)
            generalize tnN (.mid p s) j c0 = c1 at *
            have x0 := HP.out.c0
            have x1 := HP.out.c1
            have y0 := HE.out.c0
            have y1 := HE.out.c1
            go_wp2_with fail
            refine (HCall.out c1 _ HK.out HC.out).mono ?_
            rintro e w5 ⟨rfl, b5⟩
            have HP5 := hid (HP.out.below b5)
            have HQ5 := hid (HQ.out.below b5)
            have HE5 := hid (HE.out.below b5)
            have HK5 := hid (HK.out.below b5)
            have HB5 := hid (HB.out.trans (b5.mono HB.out.size))
            clear b5 x0 x1 y0 y1
            have x0 := HP5.out.c0
            have x1 := HP5.out.c1
            have f0 := HP5.out.fr 0
            have f1 := HP5.out.fr 1
            generalize hc2 : tnF (.mid p s) c1 = c2 at *

            clear hc2
            go_wp2_with fail
            go_roundw
            case rel => exact ⟨j + 1, by omega, by go_num, by rw [HT1.out]; exact HP5.out.put _ _, (HQ5.out.other hne3 _).other hne3 _, (HE5.out.other hne1 _).other hne1 _, HK5.out.set2 hneK, (HB5.out.setCell (p := ⟨w.heap.size, 0, none⟩) (Nat.le_refl _) _).setCell (p := ⟨w.heap.size, 1, none⟩) (Nat.le_refl _) _⟩
            case measure => simp [intOf]; omega
          · obtain rfl : j = n := by omega
            have y1 := HE.out.c1
            go_wp2_with fail
            go_roundw
            case rel => exact ⟨k + 1, by omega, by go_num, by rw [HS.out]; exact HP.out, HQ.out, HB.out⟩
            case measure => simp [intOf]; omega
    · --END
      obtain rfl : k = T.length := by omega
      have HTT : Hid (tnBy (T.take T.length) c = tnBy T c) := by show _ = _; rw [List.take_length]
      generalize tnBy (T.take T.length) c = c0 at *
      have x0 := HP.out.c0
      have x1 := HP.out.c1
      have y0 := HQ.out.c0
      have y1 := HQ.out.c1
      have f0 := HQ.out.fr 0
      have f1 := HQ.out.fr 1
      have RZ := hid (HQ.out.put (.int .i64 c0.1) c0.2)
      have z0 := RZ.out.c0
      have z1 := RZ.out.c1
      go_wp2
      refine bodyPost_ret (v := .agg #[.int .i64 c0.1, .int .i64 c0.2]) (by simp [results, Try.results130, go_sem, z0, z1]) rfl ⟨by rw [← HTT.out], ?_⟩
      exact (HB.out.setCell (p := ⟨w.heap.size + 1, 0, none⟩) (by simp) _).setCell (p := ⟨w.heap.size + 1, 1, none⟩) (by simp) _
end Go.Proofs.Ytgfdkolhldbehaa
