/- Texts of this seat, one behind the other: Cur, Known, Cells, Same, Draw, Moved. -/
import Derived.Test.YtgfdkolhldbehaaBox
import Derived.Maps.AppendAt
import Derived.StillTailTactics
import Derived.Laws.BitsLemmas
import Derived.Test.YtgfdkolhldbehaaLc
import Derived.Test.YtgfdkolhldbehaaLa
import Derived.ChangeSlices
import Derived.OwnWalk
import Derived.Test.YtgfdkolhldbehaaLe
namespace Go.Proofs.Ytgfdkolhldbehaa
open Go.RowKit
set_option linter.unusedVariables false

theorem grown_drew1 (w : World) (row : Option Nat) : w.grownBy w.drew row := ⟨rfl, rfl, rfl, Nat.le_refl _, fun _ _ _ => rfl⟩
theorem grown_set1 (w : World) (b o : Nat) (v : Value) : w.grownBy (w.setCell ⟨b, o, none⟩ v) (some b) :=
  ⟨rfl, rfl, rfl, by simp, fun k _ hne => Below.heap_setCell _ _ _ _ (fun e => hne (by simp at e; rw [e]))⟩
theorem grown_same (w : World) (row : Option Nat) : w.grownBy w row := ⟨rfl, rfl, rfl, Nat.le_refl _, fun _ _ _ => rfl⟩
theorem wrap_byte {v : Int} (h0 : 0 ≤ v) (h1 : v ≤ 255) : IntKind.wrap .i64 v = v := by
  simp [IntKind.wrap, IntKind.bits, IntKind.signed]
  omega

theorem wrap_u64_bd (y : Int) : 0 ≤ IntKind.wrap .u64 y ∧ IntKind.wrap .u64 y ≤ 18446744073709551615 := by
  simp [IntKind.wrap, IntKind.bits, IntKind.signed]
  omega
theorem seed_byte {sd : Int} (h0 : 0 ≤ sd) (h1 : sd ≤ 18446744073709551615) : 0 ≤ wrap64 (bits .and .u64 (sd / 1099511627776) 255) ∧ wrap64 (bits .and .u64 (sd / 1099511627776) 255) ≤ 255 := by
  have h := bits_mask .u64 63 (by decide) (fun n h0 h1 => by rw [IntKind.wrap_u64]; omega) 8 (by decide) (sd / 1099511627776) (by omega) (by omega)
  have e : ((2 : Int) ^ 8 - 1) = 255 := by decide
  have e2 : ((2 : Int) ^ 8) = 256 := by decide
  rw [e, e2] at h
  rw [h]
  have h2 : 0 ≤ sd / 1099511627776 % 256 ∧ sd / 1099511627776 % 256 ≤ 255 := by omega
  have h3 : wrap64 (sd / 1099511627776 % 256) = sd / 1099511627776 % 256 := by unfold wrap64; omega
  rw [h3]
  exact h2

set_option maxRecDepth 100000 in
set_option maxHeartbeats 1000000 in
theorem c_next_in (b g o n cap : Nat) (t sd v : Int) (w : World) (hb : b < w.heap.size) (hg : g ≠ b) (hgl : g < w.heap.size)
    (h0 : w.cell? ⟨b, 0, none⟩ = some (.slice (some ⟨g, o, none⟩) n cap)) (h1 : w.cell? ⟨b, 1, none⟩ = some (.int .i64 t)) (h2 : w.cell? ⟨b, 2, none⟩ = some (.int .u64 sd))
    (f1 : w.frozen? ⟨b, 1, none⟩ = false) (f2 : w.frozen? ⟨b, 2, none⟩ = false) (ht : 0 ≤ t) (htn : t < n) (hn : n ≤ 9223372036854775807)
    (hv : w.cell? ⟨g, o + t.toNat, none⟩ = some (.int .u8 v)) (v0 : 0 ≤ v) (v1 : v ≤ 255) :
    Calls Try.prog 129 #[.pointer (some ⟨b, 0, none⟩)] w fun e w' => ∃ sd' : Int, e = .returned (.int .i64 v) ∧ w'.cell? ⟨b, 0, none⟩ = some (.slice (some ⟨g, o, none⟩) n cap) ∧ w'.cell? ⟨b, 1, none⟩ = some (.int .i64 (t + 1)) ∧ w'.cell? ⟨b, 2, none⟩ = some (.int .u64 sd') ∧ w'.frozen? ⟨b, 1, none⟩ = false ∧ w'.frozen? ⟨b, 2, none⟩ = false ∧ w.grownBy w' (some b) := by
  have G := hid (grown_same w (some b))
  have hwv := wrap_byte v0 v1
  go_enter Try.func129, Try.ntmps129
  go_wp2
  go_still (by kernel_rfl)
  change Exit.then _ _ Exit.normal _ w.drew
  have h0' : w.drew.cell? ⟨b, 0, none⟩ = some (.slice (some ⟨g, o, none⟩) n cap) := h0
  have h1' : w.drew.cell? ⟨b, 1, none⟩ = some (.int .i64 t) := h1
  have h2' : w.drew.cell? ⟨b, 2, none⟩ = some (.int .u64 sd) := h2
  have f1' : w.drew.frozen? ⟨b, 1, none⟩ = false := f1
  have f2' : w.drew.frozen? ⟨b, 2, none⟩ = false := f2
  have G' : Hid (w.grownBy w.drew (some b)) := hid (G.out.trans (grown_drew1 w _))
  have hv' : w.drew.cell? ⟨g, o + t.toNat, none⟩ = some (.int .u8 v) := hv
  clear h0 h1 h2 f1 f2 G hv
  generalize w.drew = w1 at *
  have h0 := h0'
  have h1 := h1'
  have h2 := h2'
  have f1 := f1'
  have f2 := f2'
  have G := G'
  have hv := hv'
  clear h0' h1' h2' f1' f2' G' hv'
  go_wp2
  go_still (by kernel_rfl)
  change Exit.then _ _ Exit.normal _ w1.drew
  have h0' : w1.drew.cell? ⟨b, 0, none⟩ = some (.slice (some ⟨g, o, none⟩) n cap) := h0
  have h1' : w1.drew.cell? ⟨b, 1, none⟩ = some (.int .i64 t) := h1
  have h2' : w1.drew.cell? ⟨b, 2, none⟩ = some (.int .u64 sd) := h2
  have f1' : w1.drew.frozen? ⟨b, 1, none⟩ = false := f1
  have f2' : w1.drew.frozen? ⟨b, 2, none⟩ = false := f2
  have G' : Hid (w.grownBy w1.drew (some b)) := hid (G.out.trans (grown_drew1 w1 _))
  have hv' : w1.drew.cell? ⟨g, o + t.toNat, none⟩ = some (.int .u8 v) := hv
  clear h0 h1 h2 f1 f2 G hv
  generalize w1.drew = w2 at *
  have h0 := h0'
  have h1 := h1'
  have h2 := h2'
  have f1 := f1'
  have f2 := f2'
  have G := G'
  have hv := hv'
  clear h0' h1' h2' f1' f2' G' hv'
  go_wp2
  generalize IntKind.wrap .u64 (IntKind.wrap .u64 (IntKind.wrap .u64 (sd * 6364136223846793005) + v) + 1442695040888963407) = sd'
  generalize IntKind.wrap .u64 (IntKind.wrap .u64 (sd * 6364136223846793005) + v) = sd2
  generalize IntKind.wrap .u64 (sd * 6364136223846793005) = sd1
  have k0 : ((w2.setCell ⟨b, 1, none⟩ (.int .i64 (t + 1))).setCell ⟨b, 2, none⟩ (.int .u64 sd')).cell? ⟨b, 0, none⟩ = some (.slice (some ⟨g, o, none⟩) n cap) := ((World.cell?_setCell_other _ _ _ _ (by simp)).trans (World.cell?_setCell_other _ _ _ _ (by simp))).trans h0
  have k1 : ((w2.setCell ⟨b, 1, none⟩ (.int .i64 (t + 1))).setCell ⟨b, 2, none⟩ (.int .u64 sd')).cell? ⟨b, 1, none⟩ = some (.int .i64 (t + 1)) := (World.cell?_setCell_other _ _ _ _ (by simp)).trans (World.cell?_setCell_same _ _ _ h1)
  have k2 : ((w2.setCell ⟨b, 1, none⟩ (.int .i64 (t + 1))).setCell ⟨b, 2, none⟩ (.int .u64 sd')).cell? ⟨b, 2, none⟩ = some (.int .u64 sd') := World.cell?_setCell_same _ _ _ ((World.cell?_setCell_other _ _ _ _ (by simp)).trans h2)
  have l1 : ((w2.setCell ⟨b, 1, none⟩ (.int .i64 (t + 1))).setCell ⟨b, 2, none⟩ (.int .u64 sd')).frozen? ⟨b, 1, none⟩ = false := by simpa using f1
  have l2 : ((w2.setCell ⟨b, 1, none⟩ (.int .i64 (t + 1))).setCell ⟨b, 2, none⟩ (.int .u64 sd')).frozen? ⟨b, 2, none⟩ = false := by simpa using f2
  have GG := hid ((G.out.trans (grown_set1 w2 b 1 (.int .i64 (t + 1)))).trans (grown_set1 _ b 2 (.int .u64 sd')))
  clear h0 h1 h2 f1 f2 G
  generalize (w2.setCell ⟨b, 1, none⟩ (.int .i64 (t + 1))).setCell ⟨b, 2, none⟩ (.int .u64 sd') = w3 at *
  go_still (by kernel_rfl)
  change Exit.then _ _ Exit.normal _ w3.drew
  have K0 := hid (show w3.drew.cell? ⟨b, 0, none⟩ = some (.slice (some ⟨g, o, none⟩) n cap) from k0)
  have K1 := hid (show w3.drew.cell? ⟨b, 1, none⟩ = some (.int .i64 (t + 1)) from k1)
  have K2 := hid (show w3.drew.cell? ⟨b, 2, none⟩ = some (.int .u64 sd') from k2)
  have q2 : w3.drew.cell? ⟨b, 2, none⟩ = some (.int .u64 sd') := k2
  have L1 := hid (show w3.drew.frozen? ⟨b, 1, none⟩ = false from l1)
  have L2 := hid (show w3.drew.frozen? ⟨b, 2, none⟩ = false from l2)
  have GD := hid (GG.out.trans (grown_drew1 w3 _))
  clear k0 k1 k2 l1 l2 GG
  generalize w3.drew = w4 at *
  clear hv q2
  go_wp2
  go_ret
  exact ⟨sd', rfl, K0.out, K1.out, K2.out, L1.out, L2.out, GD.out⟩

set_option maxRecDepth 100000 in
set_option maxHeartbeats 1000000 in
theorem c_next_out (b n cap : Nat) (a : Option Addr) (t sd : Int) (w : World) (hb : b < w.heap.size)
    (h0 : w.cell? ⟨b, 0, none⟩ = some (.slice a n cap)) (h1 : w.cell? ⟨b, 1, none⟩ = some (.int .i64 t)) (h2 : w.cell? ⟨b, 2, none⟩ = some (.int .u64 sd))
    (f1 : w.frozen? ⟨b, 1, none⟩ = false) (f2 : w.frozen? ⟨b, 2, none⟩ = false) (ht : 0 ≤ t) (htm : t ≤ 1073741824) (htn : (n : Int) ≤ t) :
    Calls Try.prog 129 #[.pointer (some ⟨b, 0, none⟩)] w fun e w' => ∃ v sd' : Int, e = .returned (.int .i64 v) ∧ 0 ≤ v ∧ v ≤ 255 ∧ w'.cell? ⟨b, 0, none⟩ = some (.slice a n cap) ∧ w'.cell? ⟨b, 1, none⟩ = some (.int .i64 (t + 1)) ∧ w'.cell? ⟨b, 2, none⟩ = some (.int .u64 sd') ∧ w'.frozen? ⟨b, 1, none⟩ = false ∧ w'.frozen? ⟨b, 2, none⟩ = false ∧ w.grownBy w' (some b) := by
  have G := hid (grown_same w (some b))
  go_enter Try.func129, Try.ntmps129
  go_wp2
  go_still (by kernel_rfl)
  change Exit.then _ _ Exit.normal _ w.drew
  have h0' : w.drew.cell? ⟨b, 0, none⟩ = some (.slice a n cap) := h0
  have h1' : w.drew.cell? ⟨b, 1, none⟩ = some (.int .i64 t) := h1
  have h2' : w.drew.cell? ⟨b, 2, none⟩ = some (.int .u64 sd) := h2
  have f1' : w.drew.frozen? ⟨b, 1, none⟩ = false := f1
  have f2' : w.drew.frozen? ⟨b, 2, none⟩ = false := f2
  have G' := hid (G.out.trans (grown_drew1 w _))
  clear h0 h1 h2 f1 f2 G
  generalize w.drew = w2 at *
  have h0 := h0'
  have h1 := h1'
  have h2 := h2'
  have f1 := f1'
  have f2 := f2'
  have G := G'
  clear h0' h1' h2' f1' f2' G'
  go_wp2
  have HBD := hid (wrap_u64_bd (IntKind.wrap .u64 (IntKind.wrap .u64 (sd * 6364136223846793005)) + 1442695040888963407))
  generalize IntKind.wrap .u64 (IntKind.wrap .u64 (IntKind.wrap .u64 (sd * 6364136223846793005)) + 1442695040888963407) = sd' at *
  generalize IntKind.wrap .u64 (IntKind.wrap .u64 (sd * 6364136223846793005)) = sd2
  generalize IntKind.wrap .u64 (sd * 6364136223846793005) = sd1
  have k0 : ((w2.setCell ⟨b, 1, none⟩ (.int .i64 (t + 1))).setCell ⟨b, 2, none⟩ (.int .u64 sd')).cell? ⟨b, 0, none⟩ = some (.slice a n cap) := ((World.cell?_setCell_other _ _ _ _ (by simp)).trans (World.cell?_setCell_other _ _ _ _ (by simp))).trans h0
  have k1 : ((w2.setCell ⟨b, 1, none⟩ (.int .i64 (t + 1))).setCell ⟨b, 2, none⟩ (.int .u64 sd')).cell? ⟨b, 1, none⟩ = some (.int .i64 (t + 1)) := (World.cell?_setCell_other _ _ _ _ (by simp)).trans (World.cell?_setCell_same _ _ _ h1)
  have k2 : ((w2.setCell ⟨b, 1, none⟩ (.int .i64 (t + 1))).setCell ⟨b, 2, none⟩ (.int .u64 sd')).cell? ⟨b, 2, none⟩ = some (.int .u64 sd') := World.cell?_setCell_same _ _ _ ((World.cell?_setCell_other _ _ _ _ (by simp)).trans h2)
  have l1 : ((w2.setCell ⟨b, 1, none⟩ (.int .i64 (t + 1))).setCell ⟨b, 2, none⟩ (.int .u64 sd')).frozen? ⟨b, 1, none⟩ = false := by simpa using f1
  have l2 : ((w2.setCell ⟨b, 1, none⟩ (.int .i64 (t + 1))).setCell ⟨b, 2, none⟩ (.int .u64 sd')).frozen? ⟨b, 2, none⟩ = false := by simpa using f2
  have GG := hid ((G.out.trans (grown_set1 w2 b 1 (.int .i64 (t + 1)))).trans (grown_set1 _ b 2 (.int .u64 sd')))
  clear h0 h1 h2 f1 f2 G
  generalize (w2.setCell ⟨b, 1, none⟩ (.int .i64 (t + 1))).setCell ⟨b, 2, none⟩ (.int .u64 sd') = w3 at *
  go_still (by kernel_rfl)
  change Exit.then _ _ Exit.normal _ w3.drew
  have K0 := hid (show w3.drew.cell? ⟨b, 0, none⟩ = some (.slice a n cap) from k0)
  have K1 := hid (show w3.drew.cell? ⟨b, 1, none⟩ = some (.int .i64 (t + 1)) from k1)
  have K2 := hid (show w3.drew.cell? ⟨b, 2, none⟩ = some (.int .u64 sd') from k2)
  have q2 : w3.drew.cell? ⟨b, 2, none⟩ = some (.int .u64 sd') := k2
  have L1 := hid (show w3.drew.frozen? ⟨b, 1, none⟩ = false from l1)
  have L2 := hid (show w3.drew.frozen? ⟨b, 2, none⟩ = false from l2)
  have GD := hid (GG.out.trans (grown_drew1 w3 _))
  clear k0 k1 k2 l1 l2 GG
  generalize w3.drew = w4 at *
  have htt : ¬ t + 1 ≤ (n : Int) := by omega
  go_wp2
  go_ret
  have := seed_byte HBD.out.1 HBD.out.2
  exact ⟨_, rfl, this.1, this.2, K0.out, K1.out, ⟨sd', K2.out⟩, L1.out, L2.out, GD.out⟩

/-- A cursor in block b over n bytes that lie below base, A bytes read at most. -/
def CurAt (w : World) (base b n : Nat) (A : Int) : Prop :=
  ∃ a cap t sd, b < w.heap.size ∧ base ≤ b ∧ w.cell? ⟨b, 0, none⟩ = some (.slice a n cap) ∧ w.cell? ⟨b, 1, none⟩ = some (.int .i64 t) ∧ w.cell? ⟨b, 2, none⟩ = some (.int .u64 sd) ∧ w.frozen? ⟨b, 1, none⟩ = false ∧ w.frozen? ⟨b, 2, none⟩ = false ∧ 0 ≤ t ∧ t ≤ A ∧ n ≤ 9223372036854775807 ∧
    ∀ i, i < n → ∃ g o v, a = some ⟨g, o, none⟩ ∧ g < base ∧ w.cell? ⟨g, o + i, none⟩ = some (.int .u8 v) ∧ 0 ≤ v ∧ v ≤ 255
theorem cell_grown1 {w w' : World} {row : Option Nat} (hg : w.grownBy w' row) {k o : Nat} (hk : k < w.heap.size) (hne : some k ≠ row) : w'.cell? ⟨k, o, none⟩ = w.cell? ⟨k, o, none⟩ := World.cell?_of_block (hg.block k hk hne)
theorem frozen_grown1 {w w' : World} {row : Option Nat} (hg : w.grownBy w' row) {k o : Nat} (hk : k < w.heap.size) (hne : some k ≠ row) : w'.frozen? ⟨k, o, none⟩ = w.frozen? ⟨k, o, none⟩ := World.frozen?_of_block (hg.block k hk hne)
theorem CurAt.kept {w w' : World} {base b n : Nat} {A : Int} {row : Option Nat} (h : CurAt w base b n A) (hg : w.grownBy w' row) (h1 : some b ≠ row) (h2 : ∀ k, row = some k → base ≤ k) : CurAt w' base b n A := by
  obtain ⟨a, cap, t, sd, e1, e2, e3, e4, e5, e6, e7, e8, e9, e10, e11⟩ := h
  refine ⟨a, cap, t, sd, Nat.lt_of_lt_of_le e1 hg.size, e2, (cell_grown1 hg e1 h1).trans e3, (cell_grown1 hg e1 h1).trans e4, (cell_grown1 hg e1 h1).trans e5, (frozen_grown1 hg e1 h1).trans e6, (frozen_grown1 hg e1 h1).trans e7, e8, e9, e10, fun i hi => ?_⟩
  obtain ⟨g, o, v, q1, q2, q3, q4, q5⟩ := e11 i hi
  exact ⟨g, o, v, q1, q2, (cell_grown1 hg (by omega) (fun e => by have := h2 g e.symm; omega)).trans q3, q4, q5⟩

theorem c_next (base b n : Nat) (A : Int) (w : World) (h : CurAt w base b n A) (hA : A ≤ 1073741824) :
    Calls Try.prog 129 #[.pointer (some ⟨b, 0, none⟩)] w fun e w' => ∃ v : Int, e = .returned (.int .i64 v) ∧ 0 ≤ v ∧ v ≤ 255 ∧ CurAt w' base b n (A + 1) ∧ w.grownBy w' (some b) := by
  obtain ⟨a, cap, t, sd, e1, e2, e3, e4, e5, e6, e7, e8, e9, e10, e11⟩ := h
  have hbytes : ∀ {w' : World}, w.grownBy w' (some b) → ∀ i, i < n → ∃ g o v, a = some ⟨g, o, none⟩ ∧ g < base ∧ w'.cell? ⟨g, o + i, none⟩ = some (.int .u8 v) ∧ 0 ≤ v ∧ v ≤ 255 := by
    intro w' hg i hi
    obtain ⟨g, o, v, q1, q2, q3, q4, q5⟩ := e11 i hi
    exact ⟨g, o, v, q1, q2, (cell_grown1 hg (by omega) (fun e => by simp at e; omega)).trans q3, q4, q5⟩
  by_cases htn : t < n
  · obtain ⟨g, o, v, rfl, q2, q3, q4, q5⟩ := e11 t.toNat (by omega)
    refine (c_next_in b g o n cap t sd v w e1 (by omega) (by omega) e3 e4 e5 e6 e7 e8 htn e10 q3 q4 q5).mono ?_
    rintro e w' ⟨sd', rfl, k0, k1, k2, l1, l2, hg⟩
    exact ⟨v, rfl, q4, q5, ⟨_, cap, t + 1, sd', Nat.lt_of_lt_of_le e1 hg.size, e2, k0, k1, k2, l1, l2, by omega, by omega, e10, hbytes hg⟩, hg⟩
  · refine (c_next_out b n cap a t sd w e1 e3 e4 e5 e6 e7 e8 (by omega) (by omega)).mono ?_
    rintro e w' ⟨v, sd', rfl, v0, v1, k0, k1, k2, l1, l2, hg⟩
    exact ⟨v, rfl, v0, v1, ⟨_, cap, t + 1, sd', Nat.lt_of_lt_of_le e1 hg.size, e2, k0, k1, k2, l1, l2, by omega, by omega, e10, hbytes hg⟩, hg⟩

set_option maxRecDepth 100000 in
theorem c_pick (base b n : Nat) (A m : Int) (w : World) (h : CurAt w base b n A) (hA : A ≤ 1073741824) (hm : 1 < m) (hm2 : m ≤ 200) :
    Calls Try.prog 81 #[.pointer (some ⟨b, 0, none⟩), .int .i64 m] w fun e w' => ∃ v : Int, e = .returned (.int .i64 v) ∧ 0 ≤ v ∧ v < m ∧ CurAt w' base b n (A + 1) ∧ w.grownBy w' (some b) := by
  have HN := hid (c_next base b n A w h hA)
  go_enter Try.func81, Try.ntmps81
  go_wp2_with fail
  refine HN.out.mono ?_
  rintro e w1 ⟨v, rfl, v0, v1, hc, hg⟩
  have HC := hid hc
  have HG := hid hg
  have r0 : 0 ≤ v % m := Int.emod_nonneg _ (by omega)
  have r1 : v % m < m := Int.emod_lt_of_pos _ (by omega)
  have r2 : v.tmod m = v % m := Int.tmod_eq_emod_of_nonneg v0
  clear hc hg
  go_wp2
  go_ret
  exact ⟨_, rfl, r0, r1, HC.out, HG.out⟩

set_option maxRecDepth 100000 in
theorem c_one (base b n : Nat) (A m : Int) (w : World) (h : CurAt w base b n A) (hA : A ≤ 1073741824) (hm : 1 < m) (hm2 : m ≤ 200) :
    Calls Try.prog 122 #[.pointer (some ⟨b, 0, none⟩), .int .i64 m] w fun e w' => ∃ x : Bool, e = .returned (.bool x) ∧ CurAt w' base b n (A + 1) ∧ w.grownBy w' (some b) := by
  have HN := hid (c_pick base b n A m w h hA hm hm2)
  go_enter Try.func122, Try.ntmps122
  go_wp2_with fail
  refine HN.out.mono ?_
  rintro e w1 ⟨v, rfl, v0, v1, hc, hg⟩
  have HC := hid hc
  have HG := hid hg
  clear hc hg
  go_wp2
  go_ret
  exact ⟨_, rfl, HC.out, HG.out⟩

/-- The numbers of a slice that is not empty. -/
def AmSeg (w : World) (g o : Nat) (L : List Int) : Prop := ∀ i, i < L.length → w.cell? ⟨g, o + i, none⟩ = some (.int .i64 (L.getD i 0))

set_option maxRecDepth 100000 in
theorem c_among (base b n g o cap : Nat) (A : Int) (L : List Int) (w : World) (h : CurAt w base b n A) (hA : A ≤ 1073741824) (hl : 1 < L.length) (hl2 : L.length ≤ 200) (hs : AmSeg w g o L) (hgb : g ≠ b) (hgl : g < w.heap.size) :
    Calls Try.prog 110 #[.pointer (some ⟨b, 0, none⟩), .slice (some ⟨g, o, none⟩) L.length cap] w fun e w' => ∃ v : Int, e = .returned (.int .i64 v) ∧ v ∈ L ∧ CurAt w' base b n (A + 1) ∧ w.grownBy w' (some b) := by
  have HN := hid (c_pick base b n A (L.length : Int) w h hA (by omega) (by omega))
  have HS := hid hs
  clear hs h
  go_enter Try.func110, Try.ntmps110
  go_wp2_with fail
  refine HN.out.mono ?_
  rintro e w1 ⟨v, rfl, v0, v1, hc, hg⟩
  obtain ⟨j, rfl⟩ : ∃ j : Nat, v = (j : Int) := ⟨v.toNat, by omega⟩
  have hcell := (cell_grown1 hg (o := o + j) hgl (fun e => hgb (by simpa using e))).trans (HS.out j (by omega))
  have HM := hid (show L.getD j 0 ∈ L by
    rw [List.getD_eq_getElem?_getD, List.getElem?_eq_getElem (show j < L.length by omega), Option.getD_some]
    exact List.getElem_mem _)
  have HC := hid hc
  have HG := hid hg
  clear hc hg HN
  generalize L.getD j 0 = u at *
  go_wp2
  go_ret
  exact ⟨_, rfl, HM.out, HC.out, HG.out⟩
end Go.Proofs.Ytgfdkolhldbehaa

namespace Go.Proofs.Ytgfdkolhldbehaa
open Go.RowKit
set_option linter.unusedVariables false

/-- A slice's literal owns its memory. -/
theorem own_lit (w : World) (l : List Cl) (cs : Array Value) (k : Nat) (hk : l.length = k) (hl : k ≤ 1000) (hc : cs.toList = flat l) : OwnS (w.alloc (.cells cs 36)) w.heap.size (.slice (some ⟨w.heap.size, 0, none⟩) k k) l := by
  subst hk
  have hsz : cs.size = l.length * 2 := by
    have := congrArg List.length hc
    rw [flat_length] at this
    simpa using this
  refine ⟨flat_length l, .inr ⟨w.heap.size, l.length, cs, rfl, Nat.le_refl _, heap_alloc_new w _, Nat.le_refl _, by unfold maxLen; omega, hsz, ?_⟩⟩
  rw [hc]
  first | rfl | exact List.take_of_length_le (Nat.le_of_eq (flat_length l)) | exact List.take_length | (rw [← flat_length]; exact List.take_length) | trace_state

/-- Cells that are small. -/
def Small (l : List Cl) : Prop := ∀ c ∈ l, -100 ≤ c.1 ∧ c.1 ≤ 100 ∧ -100 ≤ c.2 ∧ c.2 ≤ 100

set_option maxRecDepth 100000 in
set_option maxHeartbeats 1000000 in
theorem c_known (base b n : Nat) (A : Int) (w : World) (h : CurAt w base b n A) (hA : A ≤ 1073741824) :
    Calls Try.prog 121 #[.pointer (some ⟨b, 0, none⟩)] w fun e w' => ∃ (v : Value) (l : List Cl), e = .returned v ∧ OwnS w' w.heap.size v l ∧ l.length ≤ 5 ∧ Small l ∧ CurAt w' base b n (A + 1) ∧ w.grownBy w' (some b) := by
  have HN := hid (c_pick base b n A 6 w h hA (by omega) (by omega))
  have hbb : base ≤ b := by obtain ⟨_, _, _, _, _, h2, _⟩ := h; exact h2
  have hbl : b < w.heap.size := by obtain ⟨_, _, _, _, h1, _⟩ := h; exact h1
  clear h
  go_enter Try.func121, Try.ntmps121
  go_wp2_with fail
  refine HN.out.mono ?_
  rintro e w1 ⟨v, rfl, v0, v1, hc, hg⟩
  have HC := hid hc
  have HG := hid hg
  clear hc hg HN
  have HK : ∀ o : Obj, Hid (CurAt (w1.alloc o) base b n (A + 1) ∧ w.grownBy (w1.alloc o) (some b)) := fun o =>
    ⟨HC.out.kept (World.grownBy_alloc w1 o none) (by simp) (fun k e => by cases e), HG.out.trans (World.grownBy_alloc w1 o (some b))⟩
  have hsz := HG.out.size
  rcases (show v = 0 ∨ v = 1 ∨ v = 2 ∨ v = 3 ∨ 3 < v by omega) with e | e | e | e | e
  · subst e
    go_wp2
    go_ret
    exact ⟨_, [(0, 0), (1, 0), (0, 1), (1, 1)], rfl, (own_lit w1 _ _ 4 rfl (by omega) rfl).mono hsz, by simp, by simp [Small], (HK _).out.1, (HK _).out.2⟩
  · subst e
    go_wp2
    go_ret
    exact ⟨_, [(-1, 0), (0, 0), (1, 0)], rfl, (own_lit w1 _ _ 3 rfl (by omega) rfl).mono hsz, by simp, by simp [Small], (HK _).out.1, (HK _).out.2⟩
  · subst e
    go_wp2
    go_ret
    exact ⟨_, [(1, -1), (2, 0), (0, 1), (1, 1), (2, 1)], rfl, (own_lit w1 _ _ 5 rfl (by omega) rfl).mono hsz, by simp, by simp [Small], (HK _).out.1, (HK _).out.2⟩
  · subst e
    go_wp2
    go_ret
    exact ⟨_, [(1, -1), (2, -1), (0, 0), (1, 0), (1, 1)], rfl, (own_lit w1 _ _ 5 rfl (by omega) rfl).mono hsz, by simp, by simp [Small], (HK _).out.1, (HK _).out.2⟩
  · have e0 : (v == 0) = false := beq_eq_false_iff_ne.2 (by omega)
    have e1 : (v == 1) = false := beq_eq_false_iff_ne.2 (by omega)
    have e2 : (v == 2) = false := beq_eq_false_iff_ne.2 (by omega)
    have e3 : (v == 3) = false := beq_eq_false_iff_ne.2 (by omega)
    go_wp2
    go_ret
    exact ⟨_, [], rfl, OwnS.nil _ _, by simp, by simp [Small], HC.out, HG.out⟩
end Go.Proofs.Ytgfdkolhldbehaa

namespace Go.Proofs.Ytgfdkolhldbehaa
open Go.RowKit
set_option linter.unusedVariables false

theorem CurAt.more {w : World} {base b n : Nat} {A A' : Int} (h : CurAt w base b n A) (hA : A ≤ A') : CurAt w base b n A' := by
  obtain ⟨a, cap, t, sd, e1, e2, e3, e4, e5, e6, e7, e8, e9, e10⟩ := h
  exact ⟨a, cap, t, sd, e1, e2, e3, e4, e5, e6, e7, e8, by omega, e10⟩
theorem CurAt.lt {w : World} {base b n : Nat} {A : Int} (h : CurAt w base b n A) : base ≤ b ∧ b < w.heap.size := by
  obtain ⟨a, cap, t, sd, e1, e2, _⟩ := h
  exact ⟨e2, e1⟩
/-- What is written behind a world's blocks leaves these as they were. -/
theorem grown_over {w W W' : World} {r row : Option Nat} (h : w.grownBy W r) (k : W.grownBy W' row) (hk : ∀ j, row = some j → w.heap.size ≤ j) : w.grownBy W' r :=
  ⟨k.os.trans h.os, k.tape.trans h.tape, k.output.trans h.output, Nat.le_trans h.size k.size, fun i hi hn => (k.block i (Nat.lt_of_lt_of_le hi h.size) (fun e => by have := hk i e.symm; omega)).trans (h.block i hi hn)⟩
theorem own_set0 {W : World} {base g ca : Nat} {l : List Cl} (c : Cl) (h : OwnS W base (.slice (some ⟨g, 0, none⟩) l.length ca) l) (hl : 0 < l.length) :
    OwnS ((W.setCell ⟨g, 0, none⟩ (.int .i64 c.1)).setCell ⟨g, 1, none⟩ (.int .i64 c.2)) base (.slice (some ⟨g, 0, none⟩) l.length ca) (l.set 0 c) ∧ W.grownBy ((W.setCell ⟨g, 0, none⟩ (.int .i64 c.1)).setCell ⟨g, 1, none⟩ (.int .i64 c.2)) (some g) := by
  unfold OwnS at h ⊢
  obtain ⟨h1, g1⟩ := World.ownsRow.stored h 0 (.int .i64 c.1)
  obtain ⟨h2, g2⟩ := World.ownsRow.stored h1 1 (.int .i64 c.2)
  refine ⟨?_, grown_trans g1 g2⟩
  rw [← flat_set _ _ _ hl, List.length_set]
  exact h2
theorem amseg_new (w : World) (L : List Int) (cs : Array Value) (t : TypeId) (h : cs = (L.map (Value.int .i64)).toArray) : AmSeg (w.alloc (.cells cs t)) w.heap.size 0 L := by
  subst h
  intro i hi
  unfold World.cell?
  rw [heap_alloc_new]
  simp [hi]

/-- What stands while cells runs. -/
structure CU (w W : World) (base b n : Nat) (A : Int) (v : Value) (l : List Cl) : Prop where
  own : OwnS W w.heap.size v l
  cur : CurAt W base b n A
  gr : w.grownBy W (some b)
  bl : b < w.heap.size
section
variable {w W W' : World} {base b n : Nat} {A A' : Int} {v v' : Value} {l l' : List Cl}
theorem CU.cur' (h : CU w W base b n A v l) (hc : CurAt W' base b n A') (hg : W.grownBy W' (some b)) : CU w W' base b n A' v l :=
  ⟨own_keep h.own hg (fun k hk e => by have := (h.own.lt k hk).1; have := h.bl; simp only [Option.some.injEq] at e; omega), hc, grown_trans h.gr hg, h.bl⟩
theorem CU.app (h : CU w W base b n A v l) (ho : OwnS W' w.heap.size v' l') (hg : W.grownBy W' v.ownBlock) : CU w W' base b n A v' l' :=
  ⟨ho, h.cur.kept hg (fun e => by have := (h.own.lt b e.symm).1; have := h.bl; omega) (fun k e => by have := (h.own.lt k e).1; have := h.bl; have := h.cur.lt; omega), grown_over h.gr hg (fun k e => (h.own.lt k e).1), h.bl⟩
theorem CU.alloc (h : CU w W base b n A v l) (o : Obj) : CU w (W.alloc o) base b n A v l :=
  ⟨own_keep h.own (World.grownBy_alloc W o none) (fun k _ e => by cases e), h.cur.kept (World.grownBy_alloc W o none) (by simp) (fun k e => by cases e), grown_over h.gr (World.grownBy_alloc W o none) (fun k e => by cases e), h.bl⟩
theorem CU.below (h : CU w W base b n A v l) (hb : Below W.heap.size W W') : CU w W' base b n A v l :=
  ⟨h.own.below hb, h.cur.kept (grown_of_below hb none) (by simp) (fun k e => by cases e), grown_over h.gr (grown_of_below hb none) (fun k e => by cases e), h.bl⟩
theorem CU.more (h : CU w W base b n A v l) (hA : A ≤ A') : CU w W base b n A' v l := ⟨h.own, h.cur.more hA, h.gr, h.bl⟩
end

theorem small_snoc {l : List Cl} {c : Cl} (h : Small l) (hc : -100 ≤ c.1 ∧ c.1 ≤ 100 ∧ -100 ≤ c.2 ∧ c.2 ≤ 100) : Small (l ++ [c]) := by
  intro d hd
  rcases List.mem_append.1 hd with h1 | h1
  · exact h d h1
  · rw [List.mem_singleton.1 h1]; exact hc
theorem small_set {l : List Cl} {c : Cl} (h : Small l) (hc : -100 ≤ c.1 ∧ c.1 ≤ 100 ∧ -100 ≤ c.2 ∧ c.2 ≤ 100) : Small (l.set 0 c) := by
  intro d hd
  rcases List.mem_or_eq_of_mem_set hd with h1 | h1
  · exact h d h1
  · rw [h1]; exact hc

set_option maxRecDepth 100000 in
set_option maxHeartbeats 1000000 in
theorem c_cells (base b n : Nat) (A m wd q : Int) (w : World) (h : CurAt w base b n A) (hA : A ≤ 1000000) (hm : 0 < m) (hm2 : m ≤ 100) (hw : 1 < wd) (hw2 : wd ≤ 200) (hq : wd.tdiv 2 = q) (hq0 : 0 ≤ q) (hq1 : q ≤ 100) (hq2 : wd ≤ 2 * q + 1) :
    Calls Try.prog 73 #[.pointer (some ⟨b, 0, none⟩), .int .i64 m, .int .i64 wd] w fun e w' => ∃ (v : Value) (l : List Cl), e = .returned v ∧ OwnS w' w.heap.size v l ∧ l.length ≤ 105 ∧ Small l ∧ CurAt w' base b n (A + 1000) ∧ w.grownBy w' (some b) := by
  have HN := hid (c_known base b n A w h (by omega))
  have hbl := h.lt
  have hwq : IntKind.wrap .i64 q = q := by rw [IntKind.wrap_i64]; omega
  clear h
  go_enter Try.func73, Try.ntmps73
  go_wp2_with fail
  refine HN.out.mono ?_
  rintro e w1 ⟨v1, l1, rfl, hO1, hl1, hs1, hc1, hg1⟩
  have HU := hid (show CU w w1 base b n (A + 1) v1 l1 from ⟨hO1, hc1, hg1, hbl.2⟩)
  have HS := hid hs1
  clear hO1 hs1 hc1 hg1 HN
  go_wp2_with fail
  refine (c_pick base b n (A + 1) (m + 1) w1 HU.out.cur (by omega) (by omega) (by omega)).mono ?_
  rintro e w2 ⟨p, rfl, p0, p1, hc2, hg2⟩
  have HU2 := hid (HU.out.cur' hc2 hg2)
  clear hc2 hg2 HU
  go_wp2
  go_loopw [7, 8] (fun lv nv wr => ∃ (j : Nat) (L : List Cl), nv = .int .i64 j ∧ j ≤ 100 ∧ L.length + j ≤ 105 ∧ Hid (Small L) ∧ Hid (CU w wr base b n (A + 300 - 2 * (j : Int)) lv L)) (fun _ nv _ => (intOf nv).toNat)
  case atStart => exact ⟨p.toNat, l1, by go_num, by omega, by omega, HS.out, HU2.out.more (by omega)⟩
  case round =>
    obtain ⟨j, L, rfl, hj, hL, hSm, hCU⟩ := hrel
    clear HU2 HS
    by_cases hj0 : 0 < j
    · have j0 : (0 : Int) < (j : Int) := by omega
      go_wp2_with fail
      refine (c_pick base b n _ wd wr hCU.out.cur (by omega) hw hw2).mono ?_
      rintro e w3 ⟨p3, rfl, p30, p31, hc3, hg3⟩
      have HU3 := hid (hCU.out.cur' hc3 hg3)
      clear hc3 hg3 hCU
      go_wp2_with fail
      refine (c_pick base b n _ wd w3 HU3.out.cur (by omega) hw hw2).mono ?_
      rintro e w4 ⟨p4, rfl, p40, p41, hc4, hg4⟩
      have HU4 := hid (HU3.out.cur' hc4 hg4)
      clear hc4 hg4 HU3
      have HU5 := hid (HU4.out.alloc (.cells #[.int .i64 (p3 - q), .int .i64 (p4 - q)] 36))
      go_wp2_with (at_builtin; refine wpList_app' rfl (.tmp 19) (.tmp 33) rfl w.heap.size _ L [(p3 - q, p4 - q)] (some ⟨w4.heap.size, 0, none⟩) 1 1 rfl HU5.out.own rfl rfl (seg_block (heap_alloc_new w4 _)) (by intro h; cases h) (by simp; omega) HU5.out.gr.size ?_; intro v6 w6 hO6 hG6; have HU6 := hid (HU5.out.app hO6 hG6); clear hO6 hG6)
      go_roundw
      case rel => exact ⟨j - 1, _, by go_num, by omega, by simp; omega, small_snoc hSm.out (by simp only []; omega), HU6.out.more (by omega)⟩
      case measure => simp [intOf]; omega
    · have j0 : decide ((0 : Int) < (j : Int)) = false := by simp; omega
      obtain rfl : j = 0 := by omega
      clear hj0 j0
      obtain ⟨a5, ca5, rfl, hs5⟩ := hCU.out.own.form
      go_wp2_with fail
      refine (c_l1Sort a5 L ca5 wr hs5 (by omega)).mono ?_
      rintro e w7 ⟨v7, l7, rfl, hO7, hr7, hm7, hl7, hb7⟩
      have HU7 := hid (show CU w w7 base b n (A + 300) v7 l7 from ⟨hO7.mono hCU.out.gr.size, (hCU.out.below hb7).cur.more (by omega), (hCU.out.below hb7).gr, hbl.2⟩)
      have HS7 := hid (show Small l7 from fun c hc => hSm.out c ((hm7 c).1 hc))
      clear hO7 hr7 hm7 hb7 hCU hs5 hSm
      by_cases h0 : l7 = []
      · subst h0
        obtain ⟨a7, ca7, rfl, _⟩ := HU7.out.own.form
        go_wp2
        go_ret
        exact ⟨_, [], rfl, HU7.out.own, by simp, HS7.out, HU7.out.cur.more (by omega), HU7.out.gr⟩
      · have hlen : 0 < l7.length := List.length_pos_iff.2 h0
        have hlen' : (0 : Int) < (l7.length : Int) := by omega
        obtain ⟨g, cap, rfl⟩ : ∃ g cap, v7 = .slice (some ⟨g, 0, none⟩) l7.length cap := by
          rcases HU7.out.own.2 with ⟨_, hn⟩ | ⟨g, cap, cur, e, _⟩
          · omega
          · exact ⟨g, cap, e⟩
        clear h0
        go_wp2_with fail
        refine (c_one base b n _ 40 w7 HU7.out.cur (by omega) (by omega) (by omega)).mono ?_
        rintro e w8 ⟨x, rfl, hc8, hg8⟩
        have HU8 := hid (HU7.out.cur' hc8 hg8)
        clear hc8 hg8 HU7
        cases x
        · go_wp2
          go_ret
          exact ⟨_, l7, rfl, HU8.out.own, by omega, HS7.out, HU8.out.cur.more (by omega), HU8.out.gr⟩
        · have HU9 := hid (HU8.out.alloc (.cells #[.int .i64 (-41), .int .i64 (-40), .int .i64 40, .int .i64 41] 3))
          have HI9 := hid (amseg_new w8 [-41, -40, 40, 41] #[.int .i64 (-41), .int .i64 (-40), .int .i64 40, .int .i64 41] 3 rfl)
          go_wp2_with fail
          refine (c_among base b n _ 0 4 _ [-41, -40, 40, 41] _ HU9.out.cur (by omega) (by simp) (by simp) HI9.out (by have := HU8.out.cur.lt; omega) (by simp)).mono ?_
          rintro e w10 ⟨x1, rfl, hx1, hc10, hg10⟩
          have HU10 := hid (HU9.out.cur' hc10 hg10)
          have HX1 := hid (show -100 ≤ x1 ∧ x1 ≤ 100 by simp at hx1; omega)
          clear hc10 hg10 HU9 HU8 HI9 hx1
          have HU11 := hid (HU10.out.alloc (.cells #[.int .i64 (-41), .int .i64 (-40), .int .i64 0] 3))
          have HI11 := hid (amseg_new w10 [-41, -40, 0] #[.int .i64 (-41), .int .i64 (-40), .int .i64 0] 3 rfl)
          go_wp2_with fail
          refine (c_among base b n _ 0 3 _ [-41, -40, 0] _ HU11.out.cur (by omega) (by simp) (by simp) HI11.out (by have := HU10.out.cur.lt; omega) (by simp)).mono ?_
          rintro e w12 ⟨x2, rfl, hx2, hc12, hg12⟩
          have HU12 := hid (HU11.out.cur' hc12 hg12)
          have HX2 := hid (show -100 ≤ x2 ∧ x2 ≤ 100 by simp at hx2; omega)
          clear hc12 hg12 HU11 HU10 HI11 hx2
          have e0 := World.ownsRow.cellAt HU12.out.own 0 (by omega)
          have e1 := World.ownsRow.cellAt HU12.out.own 1 (by omega)
          have z0 : (flat l7)[0]? = some (.int .i64 (at_ l7 0).1) := flat_even (i := 0) hlen
          have z1 : (flat l7)[1]? = some (.int .i64 (at_ l7 0).2) := flat_odd (i := 0) hlen
          rw [z0] at e0
          rw [z1] at e1
          have f0 := World.ownsRow.frozenAt HU12.out.own 0
          have f1 := World.ownsRow.frozenAt HU12.out.own 1
          have R := hid (own_set0 (x1, x2) HU12.out.own hlen)
          have HU13 := hid (HU12.out.app R.out.1 (by exact R.out.2))
          clear z0 z1 R
          generalize at_ l7 0 = y at *
          go_wp2
          go_ret
          exact ⟨_, _, rfl, HU13.out.own, by simp; omega, small_set HS7.out ⟨HX1.out.1, HX1.out.2, HX2.out.1, HX2.out.2⟩, HU13.out.cur.more (by omega), HU13.out.gr⟩
end Go.Proofs.Ytgfdkolhldbehaa

namespace Go.Proofs.Ytgfdkolhldbehaa
open Go.RowKit Go.ChangeShapes Go.WideShapes Go.ChangeAt Go.Deep Go.Joins
set_option linter.unusedVariables false

/-- The bytes of a slice. -/
def BSeg (W : World) (a : Option Addr) (l : List Int) : Prop :=
  ∀ i, i < l.length → ∃ g o, a = some ⟨g, o, none⟩ ∧ g < W.heap.size ∧ W.cell? ⟨g, o + i, none⟩ = some (.int .u8 (l.getD i 0)) ∧ 0 ≤ l.getD i 0 ∧ l.getD i 0 ≤ 255
theorem BSeg.below {w w' : World} {a : Option Addr} {l : List Int} (h : BSeg w a l) (hb : Below w.heap.size w w') : BSeg w' a l := by
  intro i hi
  obtain ⟨g, o, e, hg, hc, h0, h1⟩ := h i hi
  exact ⟨g, o, e, Nat.lt_of_lt_of_le hg hb.size, (hb.cell (p := ⟨g, o + i, none⟩) hg).trans hc, h0, h1⟩
theorem cells_u8 : Try.prog.cellsOf 5 = 1 := by kernel_rfl
/-- A slice of bytes that came in. -/
theorem open_bytes {H : Type} {enc : TypeId × Value → H} {W : World} {base fuel : Nat} {spare : Nat → Bool} {held : Bool} {a : Option Addr} {len cap : Nat} {x : DataW H × List MemPlace}
    (h : DataW.trod enc Try.prog W base spare held fuel 22 [.slice a len cap] = some x) : ∃ l : List Int, l.length = len ∧ l.length ≤ maxLen ∧ BSeg W a l := by
  rcases open_ints Try.underlying22 Try.underlying5 cells_u8 h with ⟨hcs, _⟩ | ⟨ad, len', cap', zs, hcs, _, hl, hm, hz, _, hc, hw⟩
  · simp at hcs
    obtain ⟨rfl, rfl, rfl⟩ := hcs
    exact ⟨[], rfl, by simp [maxLen], fun i hi => by simp at hi⟩
  · simp at hcs
    obtain ⟨rfl, rfl, rfl⟩ := hcs
    have hlm : len ≤ zs.length := by rw [hz]; split <;> omega
    refine ⟨zs.take len, by simp; omega, by simp; omega, fun i hi => ?_⟩
    have hi' : i < len := by simp at hi; omega
    have c0 := hc i (by omega)
    have c00 := hc 0 (by omega)
    obtain ⟨b, o, spot⟩ := ad
    have hspot : spot = none := by simpa [Addr.add] using World.cell?_spot c00
    subst hspot
    rw [add_plain] at c0
    have hlt := lt_of_cell c0
    have hget : (zs.take len).getD i 0 = zs.getD i 0 := by
      rw [List.getD_eq_getElem?_getD, List.getD_eq_getElem?_getD, List.getElem?_take_of_lt hi']
    have hmem : zs.getD i 0 ∈ zs := by
      rw [List.getD_eq_getElem?_getD, List.getElem?_eq_getElem (show i < zs.length by omega), Option.getD_some]
      exact List.getElem_mem _
    have hwf := hw _ hmem
    refine ⟨b, o, rfl, hlt, by rw [hget]; exact c0, ?_⟩
    rw [hget]
    have hmin : IntKind.min .u8 = 0 := by decide
    have hmax : IntKind.max .u8 = 255 := by decide
    simp only [Lit.wf, hmin, hmax, Bool.and_eq_true, decide_eq_true_eq] at hwf
    exact hwf

theorem take_one {l m : List Cl} {k : Nat} (h1 : k < l.length) (h2 : k < m.length) (ht : l.take k = m.take k) (h : at_ l k = at_ m k) : l.take (k + 1) = m.take (k + 1) := by
  rw [take_snoc' h1, take_snoc' h2, ht, h]

set_option maxHeartbeats 1000000 in
set_option maxRecDepth 100000 in
theorem c_sameCells (a b : Option Addr) (l m : List Cl) (ca cb : Nat) (w : World) (ha : Seg w a l) (hb : Seg w b m) (hl : l.length ≤ 1048576) (hm : m.length ≤ 1048576) :
    Calls Try.prog 18 #[.slice a l.length ca, .slice b m.length cb] w fun e w' => e = .returned (.bool (decide (l = m))) ∧ Below w.heap.size w w' := by
  by_cases hlm : l.length = m.length
  · have hlm' : ((l.length : Int) != (m.length : Int)) = false := by simp [hlm]
    have HLM : Hid (l.length = m.length) := hlm
    have hle : l.length ≤ m.length := by omega
    clear hlm
    go_enter Try.func18, Try.ntmps18
    go_wp2
    go_loopw [13] (fun i wr => ∃ k : Nat, k ≤ l.length ∧ i = .int .i64 k ∧ Hid (l.take k = m.take k) ∧ Below w.heap.size w wr) (fun i _ => l.length - (intOf i).toNat)
    case atStart => exact ⟨0, Nat.zero_le _, rfl, (rfl : _ = _), Below.refl _ _⟩
    case round =>
      obtain ⟨k, hk, rfl, ht, hbel⟩ := hrel
      by_cases hlt : k < l.length
      · obtain ⟨b1, o1, rfl, hb1, p1, p2⟩ := (ha k hlt)
        obtain ⟨b2, o2, rfl, hb2, q1, q2⟩ := (hb k (by omega))
        have g1 := (hbel.cell (p := ⟨b1, o1 + k * 2, none⟩) hb1).trans p1
        have g2 := (hbel.cell (p := ⟨b1, o1 + k * 2 + 1, none⟩) hb1).trans p2
        have g3 := (hbel.cell (p := ⟨b2, o2 + k * 2, none⟩) hb2).trans q1
        have g4 := (hbel.cell (p := ⟨b2, o2 + k * 2 + 1, none⟩) hb2).trans q2
        change _ = some (Value.int .i64 (at_ l k).1) at g1
        change _ = some (Value.int .i64 (at_ l k).2) at g2
        change _ = some (Value.int .i64 (at_ m k).1) at g3
        change _ = some (Value.int .i64 (at_ m k).2) at g4
        clear p1 p2 q1 q2
        have HT := hid (fun h : at_ l k = at_ m k => take_one hlt (by omega) ht.out h)
        have HF := hid (show ¬ at_ l k = at_ m k → decide (l = m) = false from fun h => by simp; intro e; exact h (by rw [e]))
        have HB := hid (hbel.trans (((Below.refl wr.heap.size wr).drew).mono hbel.size))
        clear hbel
        generalize at_ l k = x at *
        generalize at_ m k = y at *
        have k0 : (0 : Int) ≤ (k : Int) := by omega
        have k1 : (k : Int) < (l.length : Int) := by omega
        have k2 : (k : Int) < (m.length : Int) := by omega
        by_cases hx1 : x.1 = y.1
        · by_cases hx2 : x.2 = y.2
          · have HT' := hid (HT.out (Prod.ext hx1 hx2))
            go_wp2
            go_still (by kernel_rfl)
            go_wp2
            go_roundw
            case rel => exact ⟨k + 1, by omega, by go_num, HT'.out, HB.out⟩
            case measure => simp [intOf]; omega
          · have HF' := hid (HF.out (fun e => hx2 (by rw [e])))
            have hb2 : (x.2 == y.2) = false := beq_eq_false_iff_ne.2 hx2
            go_wp2
            go_still (by kernel_rfl)
            go_wp2
            go_ret
            exact ⟨ret_bool HF'.out.symm, HB.out⟩
        · have HF' := hid (HF.out (fun e => hx1 (by rw [e])))
          have hb2 : (x.1 == y.1) = false := beq_eq_false_iff_ne.2 hx1
          go_wp2
          go_still (by kernel_rfl)
          go_wp2
          go_ret
          exact ⟨ret_bool HF'.out.symm, HB.out⟩
      · go_wp2
        go_ret
        have e1 : l.take k = l := List.take_of_length_le (by omega)
        have e2 : m.take k = m := List.take_of_length_le (by have := HLM.out; omega)
        have e3 := ht.out
        rw [e1, e2] at e3
        exact ⟨ret_bool (by simp [e3]), hbel⟩
  · have hlm' : ((l.length : Int) != (m.length : Int)) = true := by simp; omega
    go_enter Try.func18, Try.ntmps18
    go_wp2
    go_ret
    exact ⟨ret_bool (by simp; intro e; exact hlm (by rw [e])), Below.refl _ _⟩

end Go.Proofs.Ytgfdkolhldbehaa

namespace Go.Proofs.Ytgfdkolhldbehaa
open Go.RowKit
set_option linter.unusedVariables false

/-- The world with a new cursor. -/
abbrev curW (w : World) (a : Option Addr) (n ca : Nat) : World := w.alloc (.cells #[.slice a n ca, .int .i64 0, .int .u64 0] 88)
theorem cur_new (w : World) (a : Option Addr) (l : List Int) (ca : Nat) (ha : BSeg w a l) (hl : l.length ≤ 9223372036854775807) : CurAt (curW w a l.length ca) w.heap.size w.heap.size l.length 0 := by
  refine ⟨a, ca, 0, 0, by simp, Nat.le_refl _, ?_, ?_, ?_, ?_, ?_, by omega, by omega, hl, fun i hi => ?_⟩
  · unfold World.cell?; rw [heap_alloc_new]; rfl
  · unfold World.cell?; rw [heap_alloc_new]; rfl
  · unfold World.cell?; rw [heap_alloc_new]; rfl
  · unfold World.frozen?; rw [heap_alloc_new]; rfl
  · unfold World.frozen?; rw [heap_alloc_new]; rfl
  · obtain ⟨g, o, e, hg, hc, h0, h1⟩ := ha i hi
    exact ⟨g, o, _, e, hg, cell_old w _ hc hg, h0, h1⟩
theorem below_cur {w w' : World} {a : Option Addr} {n ca : Nat} (h : (curW w a n ca).grownBy w' (some w.heap.size)) : Below w.heap.size w w' :=
  ((Below.refl w.heap.size w).alloc (Nat.le_refl _) _).grown h (by simp) (fun k e => by simp only [Option.some.injEq] at e; omega)

end Go.Proofs.Ytgfdkolhldbehaa

namespace Go.Proofs.Ytgfdkolhldbehaa
set_option linter.unusedVariables false

theorem timesOk_parts {l : List Cl} {t : Int} (h : timesOk l t = true) : good l = true ∧ 0 ≤ t ∧ t ≤ 20 ∧ ∃ s, timesO t.toNat l = some s ∧ timesL l t = s ∧ good s = true := by
  unfold timesOk at h
  simp only [Bool.and_eq_true] at h
  obtain ⟨⟨hg, ht⟩, hs⟩ := h
  obtain ⟨s, e⟩ := Option.isSome_iff_exists.1 hs
  refine ⟨hg, (inT_bd ht).1, (inT_bd ht).2, s, e, ?_, timesO_good hg e⟩
  unfold timesL
  rw [hg, ht, e]
  rfl
theorem timesOk_bd {l : List Cl} {t : Int} (h : timesOk l t = true) : 0 ≤ t ∧ t ≤ 20 := ⟨(timesOk_parts h).2.1, (timesOk_parts h).2.2.1⟩
theorem timesOk_mk {l s : List Cl} {t : Int} (hg : good l = true) (h0 : 0 ≤ t) (h1 : t ≤ 20) (e : timesO t.toNat l = some s) : timesOk l t = true ∧ timesL l t = s := by
  have hi : inT t = true := by simp [inT]; omega
  constructor
  · unfold timesOk; rw [hg, hi, e]; rfl
  · unfold timesL; rw [hg, hi, e]; rfl
/-- Steps that are parted add up. -/
theorem moved1 {l : List Cl} {t : Int} (h : timesOk l t = true) : ∀ k, 0 ≤ k → k ≤ t → timesOk l k = true ∧ timesOk (timesL l k) (t - k) = true ∧ timesL (timesL l k) (t - k) = timesL l t := by
  intro k k0 k1
  obtain ⟨hg, t0, t1, s, e, es, gs⟩ := timesOk_parts h
  have ht : t.toNat = k.toNat + (t - k).toNat := by omega
  rw [ht, times_add] at e
  cases ek : timesO k.toNat l with
  | none => rw [ek] at e; cases e
  | some m =>
    rw [ek] at e
    obtain ⟨q1, q2⟩ := timesOk_mk hg k0 (by omega) ek
    have gm := timesO_good hg ek
    obtain ⟨q3, q4⟩ := timesOk_mk (t := t - k) gm (by omega) (by omega) e
    rw [q2, es]
    exact ⟨q1, q3, q4⟩
theorem moveOk_parts {l : List Cl} {x y : Int} (h : moveOk l x y = true) : good l = true ∧ inM x = true ∧ inM y = true ∧ good (mv l x y) = true ∧ moveL l x y = mv l x y := by
  unfold moveOk at h
  simp only [Bool.and_eq_true] at h
  obtain ⟨⟨⟨h1, h2⟩, h3⟩, h4⟩ := h
  refine ⟨h1, h2, h3, h4, ?_⟩
  unfold moveL tellV
  rw [h1, h2, h3, h4]
  rfl
theorem moveOk_mk {l : List Cl} {x y : Int} (h1 : good l = true) (h2 : inM x = true) (h3 : inM y = true) (h4 : good (mv l x y) = true) : moveOk l x y = true ∧ moveL l x y = mv l x y := by
  have : moveOk l x y = true := by unfold moveOk; rw [h1, h2, h3, h4]; rfl
  exact ⟨this, (moveOk_parts this).2.2.2.2⟩
/-- Cells that are moved come to the same, moved. -/
theorem moved2 {l : List Cl} {t : Int} (h : timesOk l t = true) : ∀ x y, moveOk l x y = true → timesOk (moveL l x y) t = true → moveOk (timesL l t) x y = true ∧ timesL (moveL l x y) t = moveL (timesL l t) x y := by
  intro x y hm ht
  obtain ⟨hg, t0, t1, s, e, es, gs⟩ := timesOk_parts h
  obtain ⟨_, h2, h3, h4, h5⟩ := moveOk_parts hm
  obtain ⟨_, _, _, m, em, esm, gm⟩ := timesOk_parts ht
  rw [h5] at em
  have hmm := times_mv x y _ _ _ _ e em
  rw [es, esm]
  obtain ⟨p1, p2⟩ := moveOk_mk gs h2 h3 (by rw [← hmm]; exact gm)
  exact ⟨p1, by rw [p2]; exact hmm⟩
/-- Moving back. -/
theorem moved3 (l : List Cl) (x y : Int) (h : moveOk l x y = true) : moveOk (moveL l x y) (-x) (-y) = true ∧ moveL (moveL l x y) (-x) (-y) = l := by
  obtain ⟨h1, h2, h3, h4, h5⟩ := moveOk_parts h
  rw [h5]
  obtain ⟨p1, p2⟩ := moveOk_mk (x := -x) (y := -y) h4 (by have := inM_bd h2; simp [inM]; omega) (by have := inM_bd h3; simp [inM]; omega) (by rw [mv_mv]; exact h1)
  exact ⟨p1, by rw [p2, mv_mv]⟩
theorem small_fits {l : List Cl} (h : Small l) : ∀ c ∈ l, fits c := by
  intro c hc
  have := h c hc
  unfold fits
  omega
end Go.Proofs.Ytgfdkolhldbehaa
