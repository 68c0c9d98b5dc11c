/- What nearCounts counts: each cell as often as it is near one. -/
import Derived.Test.YtgfdkolhldbehaaMap
import Derived.Test.YtgfdkolhldbehaaNear
namespace Go.Proofs.Ytgfdkolhldbehaa
open Go.RowKit Go.Maps
set_option linter.unusedVariables false
theorem about_fits {x y : Cl} (hx : -41 ≤ x.1 ∧ x.1 ≤ 41 ∧ -41 ≤ x.2 ∧ x.2 ≤ 41) {j : Nat} (hj : j < 8) (h : at_ (about x) j = y) : fits y := by
  rcases (show j = 0 ∨ j = 1 ∨ j = 2 ∨ j = 3 ∨ j = 4 ∨ j = 5 ∨ j = 6 ∨ j = 7 by omega) with e | e | e | e | e | e | e | e
  all_goals
    subst e
    simp [at_, about] at h
    subst h
    unfold fits
    simp only
    omega
set_option maxHeartbeats 1000000 in
theorem c_nearCounts (a : Option Addr) (l : List Cl) (ca : Nat) (w : World) (ha : Seg w a l) (hl : l.length ≤ 1048576) (hin : ∀ i, i < l.length → inR (at_ l i) = true) :
    Calls Try.prog 127 #[.slice a l.length ca] w fun e w' => e = .returned (.map (some w.heap.size)) ∧ CntIs w' w.heap.size (l.flatMap about) ∧ Below w.heap.size w w' := by
  have hmm := @run_makeMap Try.prog
  have HIN := hid hin
  clear hin
  go_enter Try.func127, Try.ntmps127
  go_wp2
  go_loopw [11] (fun i wr => ∃ k : Nat, k ≤ l.length ∧ i = .int .i64 k ∧ CntIs wr w.heap.size ((l.take k).flatMap about) ∧ Below w.heap.size w wr) (fun i _ => l.length - (intOf i).toNat)
  case atStart => exact ⟨0, Nat.zero_le _, rfl, CntIs.made w, (Below.refl _ _).alloc (Nat.le_refl _) _⟩
  case round =>
    clear hmm
    obtain ⟨k, hk, rfl, hC, hbel⟩ := hrel
    have HC := hid hC
    have HB := hid hbel
    by_cases hlt : k < l.length
    · obtain ⟨b1, o1, rfl, hb1, p1, p2⟩ := ha k hlt
      have g1 := (hbel.cell (p := ⟨b1, o1 + k * 2, none⟩) hb1).trans p1
      have g2 := (hbel.cell (p := ⟨b1, o1 + k * 2 + 1, none⟩) hb1).trans p2
      change _ = some (Value.int .i64 (at_ l k).1) at g1
      change _ = some (Value.int .i64 (at_ l k).2) at g2
      have hbx := inR_bd (HIN.out k hlt)
      have HBX := hid hbx
      have HT := hid (take_snoc' hlt)
      have HLN : Hid (((l.take k).flatMap about).length = k * 8) := by
        have : ∀ m : List Cl, (m.flatMap about).length = m.length * 8 := by
          intro m
          induction m with
          | nil => rfl
          | cons c r ih => rw [List.flatMap_cons, List.length_append, ih]; simp [about]; omega
        show _ = _
        rw [this, List.length_take]; congr 1; omega
      generalize at_ l k = x at *
      clear p1 p2 hbel hC hbx
      have HB1 := hid (HB.out.alloc HB.out.size (.cells #[.int .i64 x.1, .int .i64 x.2] 36))
      have HC1 := hid (HC.out.below ((Below.refl wr.heap.size wr).alloc (Nat.le_refl _) (.cells #[.int .i64 x.1, .int .i64 x.2] 36)))
      go_wp2_with fail
      refine (c_around x _ HBX.out).mono ?_
      rintro e w3 ⟨rfl, hb3⟩
      have HB3 := hid (HB1.out.trans (hb3.mono HB1.out.size))
      have HC3 := hid (HC1.out.below hb3)
      clear hb3 HB1 HC1 g1 g2
      go_wp2_with fail
      go_loopw [17] (fun i wr => ∃ j : Nat, j ≤ 8 ∧ i = .int .i64 j ∧ CntIs wr w.heap.size ((l.take k).flatMap about ++ (about x).take j) ∧ Below w.heap.size w wr) (fun i _ => 8 - (intOf i).toNat)
      case atStart => exact ⟨0, Nat.zero_le _, rfl, by simpa using HC3.out, HB3.out⟩
      case round =>
        clear HC3 HB3 HC HB
        obtain ⟨j, hj, rfl, hC, hbel⟩ := hrel
        have HB := hid hbel
        have HC := hid hC
        clear hC hbel
        by_cases hjt : j < 8
        · have hidx := about_index x j hjt
          have HF := hid (about_fits HBX.out hjt rfl)
          have HS := hid (take_snoc' (m := about x) (j := j) (by simpa [about] using hjt))
          have HL : Hid (((l.take k).flatMap about ++ (about x).take j).length ≤ 67108864) := by
            show _ ≤ _
            rw [List.length_append, HLN.out, List.length_take]; simp [about]; omega
          generalize at_ (about x) j = y at *
          generalize hLL : (l.take k).flatMap about ++ (about x).take j = L at *
          have HLL := hid hLL
          clear hLL
          have j0 : (0 : Int) ≤ (j : Int) := by omega
          have j1 : (j : Int) < 8 := by omega
          have hbd : Below wr.heap.size wr (wr.alloc (.cells #[.int .i64 y.1, .int .i64 y.2] 36)).drew := ((Below.refl wr.heap.size wr).alloc (Nat.le_refl _) _).drew
          have HB1 := hid (HB.out.trans (hbd.mono HB.out.size))
          obtain ⟨v0, st, W1, W2, e1, e2, e3, e4, hC2, hg2, hz2⟩ := (HC.out.below hbd).step HF.out HL.out
          have q0 := cell_new0 wr (.int .i64 y.1) (.int .i64 y.2) 36
          have q1 := cell_new1 wr (.int .i64 y.1) (.int .i64 y.2) 36
          have hc1 := (cnt_le L y).1
          have hc2 : cnt L y ≤ 67108864 := by have := (cnt_le L y).2; have := HL.out; omega
          have HC2 := hid hC2
          have HG2 := hid hg2
          clear hC2 hg2 hz2 hbd
          go_wp2
          go_region
          all_goals (try go_wp2)
          go_roundw
          case rel => exact ⟨j + 1, by omega, by go_num, by rw [HS.out, ← List.append_assoc, HLL.out]; exact HC2.out, HB1.out.grown HG2.out HB1.out.size (fun k e => by cases e; exact Nat.le_refl _)⟩
          case measure => simp [intOf]; omega
        · obtain rfl : j = 8 := by omega
          go_wp2
          go_roundw
          case rel => exact ⟨k + 1, by omega, by go_num, by rw [HT.out, List.flatMap_append, List.flatMap_singleton]; exact HC.out, HB.out⟩
          case measure => simp [intOf]; omega
    · go_wp2
      go_ret
      have : k = l.length := by omega
      subst this
      exact ⟨rfl, by simpa using HC.out, HB.out⟩
end Go.Proofs.Ytgfdkolhldbehaa
