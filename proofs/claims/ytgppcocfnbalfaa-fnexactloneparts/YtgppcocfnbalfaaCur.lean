/- The cursor of the draw functions: what next gives, and that it leaves the cursor whole. -/
import Derived.Test.YtgppcocfnbalfaaBox
import Derived.Maps.AppendAt
import Derived.StillTailTactics
import Derived.Laws.BitsLemmas
namespace Go.Proofs.Ytgppcocfnbalfaa
open Go.RowKit
set_option linter.unusedVariables false

theorem grown_drew1 (w : World) (row : Option Nat) : w.grownBy w.drew row := ⟨rfl, rfl, rfl, Nat.le_refl _, fun _ _ _ => rfl⟩
theorem grown_set1 (w : World) (b o : Nat) (v : Value) : w.grownBy (w.setCell ⟨b, o, none⟩ v) (some b) :=
  ⟨rfl, rfl, rfl, by simp, fun k _ hne => Below.heap_setCell _ _ _ _ (fun e => hne (by simp at e; rw [e]))⟩
theorem grown_same (w : World) (row : Option Nat) : w.grownBy w row := ⟨rfl, rfl, rfl, Nat.le_refl _, fun _ _ _ => rfl⟩
theorem wrap_byte {v : Int} (h0 : 0 ≤ v) (h1 : v ≤ 255) : IntKind.wrap .i64 v = v := by
  simp [IntKind.wrap, IntKind.bits, IntKind.signed]
  omega

theorem wrap_u64_bd (y : Int) : 0 ≤ IntKind.wrap .u64 y ∧ IntKind.wrap .u64 y ≤ 18446744073709551615 := by
  simp [IntKind.wrap, IntKind.bits, IntKind.signed]
  omega
theorem seed_byte {sd : Int} (h0 : 0 ≤ sd) (h1 : sd ≤ 18446744073709551615) : 0 ≤ wrap64 (bits .and .u64 (sd / 1099511627776) 255) ∧ wrap64 (bits .and .u64 (sd / 1099511627776) 255) ≤ 255 := by
  have h := bits_mask .u64 63 (by decide) (fun n h0 h1 => by rw [IntKind.wrap_u64]; omega) 8 (by decide) (sd / 1099511627776) (by omega) (by omega)
  have e : ((2 : Int) ^ 8 - 1) = 255 := by decide
  have e2 : ((2 : Int) ^ 8) = 256 := by decide
  rw [e, e2] at h
  rw [h]
  have h2 : 0 ≤ sd / 1099511627776 % 256 ∧ sd / 1099511627776 % 256 ≤ 255 := by omega
  have h3 : wrap64 (sd / 1099511627776 % 256) = sd / 1099511627776 % 256 := by unfold wrap64; omega
  rw [h3]
  exact h2

set_option maxRecDepth 100000 in
set_option maxHeartbeats 1000000 in
theorem c_next_in (b g o n cap : Nat) (t sd v : Int) (w : World) (hb : b < w.heap.size) (hg : g ≠ b) (hgl : g < w.heap.size)
    (h0 : w.cell? ⟨b, 0, none⟩ = some (.slice (some ⟨g, o, none⟩) n cap)) (h1 : w.cell? ⟨b, 1, none⟩ = some (.int .i64 t)) (h2 : w.cell? ⟨b, 2, none⟩ = some (.int .u64 sd))
    (f1 : w.frozen? ⟨b, 1, none⟩ = false) (f2 : w.frozen? ⟨b, 2, none⟩ = false) (ht : 0 ≤ t) (htn : t < n) (hn : n ≤ 9223372036854775807)
    (hv : w.cell? ⟨g, o + t.toNat, none⟩ = some (.int .u8 v)) (v0 : 0 ≤ v) (v1 : v ≤ 255) :
    Calls Try.prog 97 #[.pointer (some ⟨b, 0, none⟩)] w fun e w' => ∃ sd' : Int, e = .returned (.int .i64 v) ∧ w'.cell? ⟨b, 0, none⟩ = some (.slice (some ⟨g, o, none⟩) n cap) ∧ w'.cell? ⟨b, 1, none⟩ = some (.int .i64 (t + 1)) ∧ w'.cell? ⟨b, 2, none⟩ = some (.int .u64 sd') ∧ w'.frozen? ⟨b, 1, none⟩ = false ∧ w'.frozen? ⟨b, 2, none⟩ = false ∧ w.grownBy w' (some b) := by
  have G := hid (grown_same w (some b))
  have hwv := wrap_byte v0 v1
  go_enter Try.func97, Try.ntmps97
  go_wp2
  go_still (by kernel_rfl)
  change Exit.then _ _ Exit.normal _ w.drew
  have h0' : w.drew.cell? ⟨b, 0, none⟩ = some (.slice (some ⟨g, o, none⟩) n cap) := h0
  have h1' : w.drew.cell? ⟨b, 1, none⟩ = some (.int .i64 t) := h1
  have h2' : w.drew.cell? ⟨b, 2, none⟩ = some (.int .u64 sd) := h2
  have f1' : w.drew.frozen? ⟨b, 1, none⟩ = false := f1
  have f2' : w.drew.frozen? ⟨b, 2, none⟩ = false := f2
  have G' : Hid (w.grownBy w.drew (some b)) := hid (G.out.trans (grown_drew1 w _))
  have hv' : w.drew.cell? ⟨g, o + t.toNat, none⟩ = some (.int .u8 v) := hv
  clear h0 h1 h2 f1 f2 G hv
  generalize w.drew = w1 at *
  have h0 := h0'
  have h1 := h1'
  have h2 := h2'
  have f1 := f1'
  have f2 := f2'
  have G := G'
  have hv := hv'
  clear h0' h1' h2' f1' f2' G' hv'
  go_wp2
  go_still (by kernel_rfl)
  change Exit.then _ _ Exit.normal _ w1.drew
  have h0' : w1.drew.cell? ⟨b, 0, none⟩ = some (.slice (some ⟨g, o, none⟩) n cap) := h0
  have h1' : w1.drew.cell? ⟨b, 1, none⟩ = some (.int .i64 t) := h1
  have h2' : w1.drew.cell? ⟨b, 2, none⟩ = some (.int .u64 sd) := h2
  have f1' : w1.drew.frozen? ⟨b, 1, none⟩ = false := f1
  have f2' : w1.drew.frozen? ⟨b, 2, none⟩ = false := f2
  have G' : Hid (w.grownBy w1.drew (some b)) := hid (G.out.trans (grown_drew1 w1 _))
  have hv' : w1.drew.cell? ⟨g, o + t.toNat, none⟩ = some (.int .u8 v) := hv
  clear h0 h1 h2 f1 f2 G hv
  generalize w1.drew = w2 at *
  have h0 := h0'
  have h1 := h1'
  have h2 := h2'
  have f1 := f1'
  have f2 := f2'
  have G := G'
  have hv := hv'
  clear h0' h1' h2' f1' f2' G' hv'
  go_wp2
  generalize IntKind.wrap .u64 (IntKind.wrap .u64 (IntKind.wrap .u64 (sd * 6364136223846793005) + v) + 1442695040888963407) = sd'
  generalize IntKind.wrap .u64 (IntKind.wrap .u64 (sd * 6364136223846793005) + v) = sd2
  generalize IntKind.wrap .u64 (sd * 6364136223846793005) = sd1
  have k0 : ((w2.setCell ⟨b, 1, none⟩ (.int .i64 (t + 1))).setCell ⟨b, 2, none⟩ (.int .u64 sd')).cell? ⟨b, 0, none⟩ = some (.slice (some ⟨g, o, none⟩) n cap) := ((World.cell?_setCell_other _ _ _ _ (by simp)).trans (World.cell?_setCell_other _ _ _ _ (by simp))).trans h0
  have k1 : ((w2.setCell ⟨b, 1, none⟩ (.int .i64 (t + 1))).setCell ⟨b, 2, none⟩ (.int .u64 sd')).cell? ⟨b, 1, none⟩ = some (.int .i64 (t + 1)) := (World.cell?_setCell_other _ _ _ _ (by simp)).trans (World.cell?_setCell_same _ _ _ h1)
  have k2 : ((w2.setCell ⟨b, 1, none⟩ (.int .i64 (t + 1))).setCell ⟨b, 2, none⟩ (.int .u64 sd')).cell? ⟨b, 2, none⟩ = some (.int .u64 sd') := World.cell?_setCell_same _ _ _ ((World.cell?_setCell_other _ _ _ _ (by simp)).trans h2)
  have l1 : ((w2.setCell ⟨b, 1, none⟩ (.int .i64 (t + 1))).setCell ⟨b, 2, none⟩ (.int .u64 sd')).frozen? ⟨b, 1, none⟩ = false := by simpa using f1
  have l2 : ((w2.setCell ⟨b, 1, none⟩ (.int .i64 (t + 1))).setCell ⟨b, 2, none⟩ (.int .u64 sd')).frozen? ⟨b, 2, none⟩ = false := by simpa using f2
  have GG := hid ((G.out.trans (grown_set1 w2 b 1 (.int .i64 (t + 1)))).trans (grown_set1 _ b 2 (.int .u64 sd')))
  clear h0 h1 h2 f1 f2 G
  generalize (w2.setCell ⟨b, 1, none⟩ (.int .i64 (t + 1))).setCell ⟨b, 2, none⟩ (.int .u64 sd') = w3 at *
  go_still (by kernel_rfl)
  change Exit.then _ _ Exit.normal _ w3.drew
  have K0 := hid (show w3.drew.cell? ⟨b, 0, none⟩ = some (.slice (some ⟨g, o, none⟩) n cap) from k0)
  have K1 := hid (show w3.drew.cell? ⟨b, 1, none⟩ = some (.int .i64 (t + 1)) from k1)
  have K2 := hid (show w3.drew.cell? ⟨b, 2, none⟩ = some (.int .u64 sd') from k2)
  have q2 : w3.drew.cell? ⟨b, 2, none⟩ = some (.int .u64 sd') := k2
  have L1 := hid (show w3.drew.frozen? ⟨b, 1, none⟩ = false from l1)
  have L2 := hid (show w3.drew.frozen? ⟨b, 2, none⟩ = false from l2)
  have GD := hid (GG.out.trans (grown_drew1 w3 _))
  clear k0 k1 k2 l1 l2 GG
  generalize w3.drew = w4 at *
  clear hv q2
  go_wp2
  go_ret
  exact ⟨sd', rfl, K0.out, K1.out, K2.out, L1.out, L2.out, GD.out⟩

set_option maxRecDepth 100000 in
set_option maxHeartbeats 1000000 in
theorem c_next_out (b n cap : Nat) (a : Option Addr) (t sd : Int) (w : World) (hb : b < w.heap.size)
    (h0 : w.cell? ⟨b, 0, none⟩ = some (.slice a n cap)) (h1 : w.cell? ⟨b, 1, none⟩ = some (.int .i64 t)) (h2 : w.cell? ⟨b, 2, none⟩ = some (.int .u64 sd))
    (f1 : w.frozen? ⟨b, 1, none⟩ = false) (f2 : w.frozen? ⟨b, 2, none⟩ = false) (ht : 0 ≤ t) (htm : t ≤ 1073741824) (htn : (n : Int) ≤ t) :
    Calls Try.prog 97 #[.pointer (some ⟨b, 0, none⟩)] w fun e w' => ∃ v sd' : Int, e = .returned (.int .i64 v) ∧ 0 ≤ v ∧ v ≤ 255 ∧ w'.cell? ⟨b, 0, none⟩ = some (.slice a n cap) ∧ w'.cell? ⟨b, 1, none⟩ = some (.int .i64 (t + 1)) ∧ w'.cell? ⟨b, 2, none⟩ = some (.int .u64 sd') ∧ w'.frozen? ⟨b, 1, none⟩ = false ∧ w'.frozen? ⟨b, 2, none⟩ = false ∧ w.grownBy w' (some b) := by
  have G := hid (grown_same w (some b))
  go_enter Try.func97, Try.ntmps97
  go_wp2
  go_still (by kernel_rfl)
  change Exit.then _ _ Exit.normal _ w.drew
  have h0' : w.drew.cell? ⟨b, 0, none⟩ = some (.slice a n cap) := h0
  have h1' : w.drew.cell? ⟨b, 1, none⟩ = some (.int .i64 t) := h1
  have h2' : w.drew.cell? ⟨b, 2, none⟩ = some (.int .u64 sd) := h2
  have f1' : w.drew.frozen? ⟨b, 1, none⟩ = false := f1
  have f2' : w.drew.frozen? ⟨b, 2, none⟩ = false := f2
  have G' := hid (G.out.trans (grown_drew1 w _))
  clear h0 h1 h2 f1 f2 G
  generalize w.drew = w2 at *
  have h0 := h0'
  have h1 := h1'
  have h2 := h2'
  have f1 := f1'
  have f2 := f2'
  have G := G'
  clear h0' h1' h2' f1' f2' G'
  go_wp2
  have HBD := hid (wrap_u64_bd (IntKind.wrap .u64 (IntKind.wrap .u64 (sd * 6364136223846793005)) + 1442695040888963407))
  generalize IntKind.wrap .u64 (IntKind.wrap .u64 (IntKind.wrap .u64 (sd * 6364136223846793005)) + 1442695040888963407) = sd' at *
  generalize IntKind.wrap .u64 (IntKind.wrap .u64 (sd * 6364136223846793005)) = sd2
  generalize IntKind.wrap .u64 (sd * 6364136223846793005) = sd1
  have k0 : ((w2.setCell ⟨b, 1, none⟩ (.int .i64 (t + 1))).setCell ⟨b, 2, none⟩ (.int .u64 sd')).cell? ⟨b, 0, none⟩ = some (.slice a n cap) := ((World.cell?_setCell_other _ _ _ _ (by simp)).trans (World.cell?_setCell_other _ _ _ _ (by simp))).trans h0
  have k1 : ((w2.setCell ⟨b, 1, none⟩ (.int .i64 (t + 1))).setCell ⟨b, 2, none⟩ (.int .u64 sd')).cell? ⟨b, 1, none⟩ = some (.int .i64 (t + 1)) := (World.cell?_setCell_other _ _ _ _ (by simp)).trans (World.cell?_setCell_same _ _ _ h1)
  have k2 : ((w2.setCell ⟨b, 1, none⟩ (.int .i64 (t + 1))).setCell ⟨b, 2, none⟩ (.int .u64 sd')).cell? ⟨b, 2, none⟩ = some (.int .u64 sd') := World.cell?_setCell_same _ _ _ ((World.cell?_setCell_other _ _ _ _ (by simp)).trans h2)
  have l1 : ((w2.setCell ⟨b, 1, none⟩ (.int .i64 (t + 1))).setCell ⟨b, 2, none⟩ (.int .u64 sd')).frozen? ⟨b, 1, none⟩ = false := by simpa using f1
  have l2 : ((w2.setCell ⟨b, 1, none⟩ (.int .i64 (t + 1))).setCell ⟨b, 2, none⟩ (.int .u64 sd')).frozen? ⟨b, 2, none⟩ = false := by simpa using f2
  have GG := hid ((G.out.trans (grown_set1 w2 b 1 (.int .i64 (t + 1)))).trans (grown_set1 _ b 2 (.int .u64 sd')))
  clear h0 h1 h2 f1 f2 G
  generalize (w2.setCell ⟨b, 1, none⟩ (.int .i64 (t + 1))).setCell ⟨b, 2, none⟩ (.int .u64 sd') = w3 at *
  go_still (by kernel_rfl)
  change Exit.then _ _ Exit.normal _ w3.drew
  have K0 := hid (show w3.drew.cell? ⟨b, 0, none⟩ = some (.slice a n cap) from k0)
  have K1 := hid (show w3.drew.cell? ⟨b, 1, none⟩ = some (.int .i64 (t + 1)) from k1)
  have K2 := hid (show w3.drew.cell? ⟨b, 2, none⟩ = some (.int .u64 sd') from k2)
  have q2 : w3.drew.cell? ⟨b, 2, none⟩ = some (.int .u64 sd') := k2
  have L1 := hid (show w3.drew.frozen? ⟨b, 1, none⟩ = false from l1)
  have L2 := hid (show w3.drew.frozen? ⟨b, 2, none⟩ = false from l2)
  have GD := hid (GG.out.trans (grown_drew1 w3 _))
  clear k0 k1 k2 l1 l2 GG
  generalize w3.drew = w4 at *
  have htt : ¬ t + 1 ≤ (n : Int) := by omega
  go_wp2
  go_ret
  have := seed_byte HBD.out.1 HBD.out.2
  exact ⟨_, rfl, this.1, this.2, K0.out, K1.out, ⟨sd', K2.out⟩, L1.out, L2.out, GD.out⟩

/-- A cursor in block b over n bytes that lie below base, A bytes read at most. -/
def CurAt (w : World) (base b n : Nat) (A : Int) : Prop :=
  ∃ a cap t sd, b < w.heap.size ∧ base ≤ b ∧ w.cell? ⟨b, 0, none⟩ = some (.slice a n cap) ∧ w.cell? ⟨b, 1, none⟩ = some (.int .i64 t) ∧ w.cell? ⟨b, 2, none⟩ = some (.int .u64 sd) ∧ w.frozen? ⟨b, 1, none⟩ = false ∧ w.frozen? ⟨b, 2, none⟩ = false ∧ 0 ≤ t ∧ t ≤ A ∧ n ≤ 9223372036854775807 ∧
    ∀ i, i < n → ∃ g o v, a = some ⟨g, o, none⟩ ∧ g < base ∧ w.cell? ⟨g, o + i, none⟩ = some (.int .u8 v) ∧ 0 ≤ v ∧ v ≤ 255
theorem cell_grown1 {w w' : World} {row : Option Nat} (hg : w.grownBy w' row) {k o : Nat} (hk : k < w.heap.size) (hne : some k ≠ row) : w'.cell? ⟨k, o, none⟩ = w.cell? ⟨k, o, none⟩ := World.cell?_of_block (hg.block k hk hne)
theorem frozen_grown1 {w w' : World} {row : Option Nat} (hg : w.grownBy w' row) {k o : Nat} (hk : k < w.heap.size) (hne : some k ≠ row) : w'.frozen? ⟨k, o, none⟩ = w.frozen? ⟨k, o, none⟩ := World.frozen?_of_block (hg.block k hk hne)
theorem CurAt.kept {w w' : World} {base b n : Nat} {A : Int} {row : Option Nat} (h : CurAt w base b n A) (hg : w.grownBy w' row) (h1 : some b ≠ row) (h2 : ∀ k, row = some k → base ≤ k) : CurAt w' base b n A := by
  obtain ⟨a, cap, t, sd, e1, e2, e3, e4, e5, e6, e7, e8, e9, e10, e11⟩ := h
  refine ⟨a, cap, t, sd, Nat.lt_of_lt_of_le e1 hg.size, e2, (cell_grown1 hg e1 h1).trans e3, (cell_grown1 hg e1 h1).trans e4, (cell_grown1 hg e1 h1).trans e5, (frozen_grown1 hg e1 h1).trans e6, (frozen_grown1 hg e1 h1).trans e7, e8, e9, e10, fun i hi => ?_⟩
  obtain ⟨g, o, v, q1, q2, q3, q4, q5⟩ := e11 i hi
  exact ⟨g, o, v, q1, q2, (cell_grown1 hg (by omega) (fun e => by have := h2 g e.symm; omega)).trans q3, q4, q5⟩

theorem c_next (base b n : Nat) (A : Int) (w : World) (h : CurAt w base b n A) (hA : A ≤ 1073741824) :
    Calls Try.prog 97 #[.pointer (some ⟨b, 0, none⟩)] w fun e w' => ∃ v : Int, e = .returned (.int .i64 v) ∧ 0 ≤ v ∧ v ≤ 255 ∧ CurAt w' base b n (A + 1) ∧ w.grownBy w' (some b) := by
  obtain ⟨a, cap, t, sd, e1, e2, e3, e4, e5, e6, e7, e8, e9, e10, e11⟩ := h
  have hbytes : ∀ {w' : World}, w.grownBy w' (some b) → ∀ i, i < n → ∃ g o v, a = some ⟨g, o, none⟩ ∧ g < base ∧ w'.cell? ⟨g, o + i, none⟩ = some (.int .u8 v) ∧ 0 ≤ v ∧ v ≤ 255 := by
    intro w' hg i hi
    obtain ⟨g, o, v, q1, q2, q3, q4, q5⟩ := e11 i hi
    exact ⟨g, o, v, q1, q2, (cell_grown1 hg (by omega) (fun e => by simp at e; omega)).trans q3, q4, q5⟩
  by_cases htn : t < n
  · obtain ⟨g, o, v, rfl, q2, q3, q4, q5⟩ := e11 t.toNat (by omega)
    refine (c_next_in b g o n cap t sd v w e1 (by omega) (by omega) e3 e4 e5 e6 e7 e8 htn e10 q3 q4 q5).mono ?_
    rintro e w' ⟨sd', rfl, k0, k1, k2, l1, l2, hg⟩
    exact ⟨v, rfl, q4, q5, ⟨_, cap, t + 1, sd', Nat.lt_of_lt_of_le e1 hg.size, e2, k0, k1, k2, l1, l2, by omega, by omega, e10, hbytes hg⟩, hg⟩
  · refine (c_next_out b n cap a t sd w e1 e3 e4 e5 e6 e7 e8 (by omega) (by omega)).mono ?_
    rintro e w' ⟨v, sd', rfl, v0, v1, k0, k1, k2, l1, l2, hg⟩
    exact ⟨v, rfl, v0, v1, ⟨_, cap, t + 1, sd', Nat.lt_of_lt_of_le e1 hg.size, e2, k0, k1, k2, l1, l2, by omega, by omega, e10, hbytes hg⟩, hg⟩

set_option maxRecDepth 100000 in
theorem c_pick (base b n : Nat) (A m : Int) (w : World) (h : CurAt w base b n A) (hA : A ≤ 1073741824) (hm : 1 < m) (hm2 : m ≤ 200) :
    Calls Try.prog 78 #[.pointer (some ⟨b, 0, none⟩), .int .i64 m] w fun e w' => ∃ v : Int, e = .returned (.int .i64 v) ∧ 0 ≤ v ∧ v < m ∧ CurAt w' base b n (A + 1) ∧ w.grownBy w' (some b) := by
  have HN := hid (c_next base b n A w h hA)
  go_enter Try.func78, Try.ntmps78
  go_wp2_with fail
  refine HN.out.mono ?_
  rintro e w1 ⟨v, rfl, v0, v1, hc, hg⟩
  have HC := hid hc
  have HG := hid hg
  have r0 : 0 ≤ v % m := Int.emod_nonneg _ (by omega)
  have r1 : v % m < m := Int.emod_lt_of_pos _ (by omega)
  have r2 : v.tmod m = v % m := Int.tmod_eq_emod_of_nonneg v0
  clear hc hg
  go_wp2
  go_ret
  exact ⟨_, rfl, r0, r1, HC.out, HG.out⟩

set_option maxRecDepth 100000 in
theorem c_one (base b n : Nat) (A m : Int) (w : World) (h : CurAt w base b n A) (hA : A ≤ 1073741824) (hm : 1 < m) (hm2 : m ≤ 200) :
    Calls Try.prog 79 #[.pointer (some ⟨b, 0, none⟩), .int .i64 m] w fun e w' => ∃ x : Bool, e = .returned (.bool x) ∧ CurAt w' base b n (A + 1) ∧ w.grownBy w' (some b) := by
  have HN := hid (c_pick base b n A m w h hA hm hm2)
  go_enter Try.func79, Try.ntmps79
  go_wp2_with fail
  refine HN.out.mono ?_
  rintro e w1 ⟨v, rfl, v0, v1, hc, hg⟩
  have HC := hid hc
  have HG := hid hg
  clear hc hg
  go_wp2
  go_ret
  exact ⟨_, rfl, HC.out, HG.out⟩

/-- The numbers of a slice that is not empty. -/
def AmSeg (w : World) (g o : Nat) (L : List Int) : Prop := ∀ i, i < L.length → w.cell? ⟨g, o + i, none⟩ = some (.int .i64 (L.getD i 0))

set_option maxRecDepth 100000 in
theorem c_among (base b n g o cap : Nat) (A : Int) (L : List Int) (w : World) (h : CurAt w base b n A) (hA : A ≤ 1073741824) (hl : 1 < L.length) (hl2 : L.length ≤ 200) (hs : AmSeg w g o L) (hgb : g ≠ b) (hgl : g < w.heap.size) :
    Calls Try.prog 49 #[.pointer (some ⟨b, 0, none⟩), .slice (some ⟨g, o, none⟩) L.length cap] w fun e w' => ∃ v : Int, e = .returned (.int .i64 v) ∧ v ∈ L ∧ CurAt w' base b n (A + 1) ∧ w.grownBy w' (some b) := by
  have HN := hid (c_pick base b n A (L.length : Int) w h hA (by omega) (by omega))
  have HS := hid hs
  clear hs h
  go_enter Try.func49, Try.ntmps49
  go_wp2_with fail
  refine HN.out.mono ?_
  rintro e w1 ⟨v, rfl, v0, v1, hc, hg⟩
  obtain ⟨j, rfl⟩ : ∃ j : Nat, v = (j : Int) := ⟨v.toNat, by omega⟩
  have hcell := (cell_grown1 hg (o := o + j) hgl (fun e => hgb (by simpa using e))).trans (HS.out j (by omega))
  have HM := hid (show L.getD j 0 ∈ L by
    rw [List.getD_eq_getElem?_getD, List.getElem?_eq_getElem (show j < L.length by omega), Option.getD_some]
    exact List.getElem_mem _)
  have HC := hid hc
  have HG := hid hg
  clear hc hg HN
  generalize L.getD j 0 = u at *
  go_wp2
  go_ret
  exact ⟨_, rfl, HM.out, HC.out, HG.out⟩
end Go.Proofs.Ytgppcocfnbalfaa
