/- Cells, all turned and put in order: the program's allTurned. -/
import Derived.Test.YtgfdkolhldbehaaTgO
import Derived.Test.YtgfdkolhldbehaaSort
import Derived.Test.YtgfdkolhldbehaaOrder
namespace Go.Proofs.Ytgfdkolhldbehaa
open Go.RowKit Go.Maps
set_option linter.unusedVariables false
set_option linter.unusedSimpArgs false

set_option maxRecDepth 100000 in
set_option maxHeartbeats 4000000 in
theorem c_allTurned (a b : Option Addr) (l : List Cl) (T : List Tn) (ca cb : Nat) (w : World) (ha : Seg w a l) (hb : TSeg w b T) (hl : l.length ≤ 1048576) (hT : T.length ≤ 1000) (hN : ∀ c ∈ l, Nr T c) (ht : ∀ k, k < T.length → (ta T k).2 ≤ 1000) (hnd : (l.map (tnBy T)).Nodup) :
    Calls Try.prog 83 #[.slice a l.length ca, .slice b T.length cb] w fun e w' => ∃ v, e = .returned v ∧ OwnS w' w.heap.size v (ordL (l.map (tnBy T))) ∧ (ordL (l.map (tnBy T))).length = l.length ∧ Below w.heap.size w w' := by
  obtain ⟨M, hM⟩ : ∃ M : List Cl, M = l.map (tnBy T) := ⟨_, rfl⟩
  have hML : M.length = l.length := by rw [hM, List.length_map]
  have HAt := hid (fun k (h : k < l.length) => show at_ M k = tnBy T (at_ l k) by simp [hM, at_, h])
  rw [← hM] at hnd ⊢
  have HMem := hid (fun k (h : k < l.length) => hN (at_ l k) (by simp [at_, h]))
  have hmk := make_Cells l.length hl
  have HR := made_row w M
  rw [hML] at HR
  have R0 := hid HR
  have HA := hid ha
  have HB := hid hb
  have HT := hid ht
  have HND := hid hnd
  clear HR ha hb hN ht hM hnd
  go_enter Try.func83, Try.ntmps83
  go_wp2_with fail
  go_loopw [13] (fun i wr => ∃ k : Nat, k ≤ l.length ∧ i = .int .i64 k ∧ wr.rowIs w.heap.size 36 (M.length * 2) (cellTo M k) ∧ Below w.heap.size w wr) (fun i _ => l.length - (intOf i).toNat)
  case atStart => exact ⟨0, Nat.zero_le _, rfl, by rw [hML]; exact R0.out, (Below.refl _ _).alloc (Nat.le_refl _) _⟩
  case round =>
    clear R0 hmk
    obtain ⟨k, hk, rfl, hR, hbel⟩ := hrel
    by_cases hlt : k < l.length
    · obtain ⟨b1, o1, rfl, hb1, p1, p2⟩ := HA.out k hlt
      have g1 := (hbel.cell (p := ⟨b1, o1 + k * 2, none⟩) hb1).trans p1
      have g2 := (hbel.cell (p := ⟨b1, o1 + k * 2 + 1, none⟩) hb1).trans p2
      change _ = some (Value.int .i64 (at_ l k).1) at g1
      change _ = some (Value.int .i64 (at_ l k).2) at g2
      have HX := hid (HMem.out k hlt)
      have HE := hid (HAt.out k hlt)
      generalize at_ l k = x at *
      clear p1 p2
      have k0 : (0 : Int) ≤ (k : Int) := by omega
      have k1 : (k : Int) < (l.length : Int) := by omega
      have hR' := hid hR
      have q0 := cell_new0 wr (.int .i64 x.1) (.int .i64 x.2) 36
      have q1 := cell_new1 wr (.int .i64 x.1) (.int .i64 x.2) 36
      have BA := (Below.refl wr.heap.size wr).alloc (Nat.le_refl _) (.cells #[.int .i64 x.1, .int .i64 x.2] 36)
      have HB1 := hid (hbel.trans (BA.mono hbel.size))
      have HR1 := hid (hR'.out.of_block (BA.block _ hR'.out.lt))
      clear hR BA
      go_wp2_with fail
      refine (c_turnedBy b T cb x _ (HB.out.below HB1.out) hT HX.out HT.out).mono ?_
      rintro e w3 ⟨rfl, b3⟩
      have HB3 := hid (HB1.out.trans (b3.mono HB1.out.size))
      have HR3 := hid (HR1.out.of_block (b3.block _ HR1.out.lt))
      have hkm : k < M.length := by omega
      clear b3 q0 q1
      rw [← HE.out]
      have c1 := HR3.out.cell (i := k * 2) (by omega)
      have c2 := HR3.out.cell (i := k * 2 + 1) (by omega)
      have f1 := HR3.out.frozen (k * 2)
      have f2 := HR3.out.frozen (k * 2 + 1)
      go_wp2_with fail
      go_roundw
      case rel => exact ⟨k + 1, by omega, by go_num, row_step HR3.out hkm, (HB3.out.setCell (p := ⟨w.heap.size, _, none⟩) (Nat.le_refl _) _).setCell (p := ⟨w.heap.size, _, none⟩) (Nat.le_refl _) _⟩
      case measure => simp [intOf]; omega
    · obtain rfl : k = l.length := by omega
      rw [← hML] at hR
      have HO := hid ((row_done hR).own (by omega))
      have HBB := hid hbel
      clear hR hbel
      rw [hML] at HO
      have HSRT := hid (c_sortOwn w.heap.size w.heap.size l.length M wr (by rw [hML]; exact HO.out) (by omega))
      rw [hML] at HSRT
      go_wp2_with fail
      refine HSRT.out.mono ?_
      rintro e w3 ⟨rfl, l', hperm, hsrt, hO3, hg3, hll⟩
      have HO3 := hid hO3
      have HLL := hid hll
      have HRS := hid (nodup_sorted_ris hsrt (hperm.symm.nodup HND.out))
      have HEQ := hid (ordL_eq HRS.out (fun c => hperm.mem_iff))
      have HG3 := hid hg3
      clear hO3 hll hsrt hperm hg3
      go_wp2
      go_ret
      refine ⟨_, rfl, ?_, ?_, HBB.out.grown HG3.out HBB.out.size (fun k e => by cases e; exact Nat.le_refl _)⟩
      · rw [HEQ.out]
        have := HO3.out
        rw [HLL.out] at this
        exact this
      · rw [HEQ.out, HLL.out]
end Go.Proofs.Ytgfdkolhldbehaa
