/- What the program's FrameOf answers. -/
import Derived.Test.YtmapbkefndbnnaaICh
import Derived.Test.YtmapbkefndbnnaaIFrm
namespace Go.Proofs.Ytmapbkefndbnnaa
open Go.RowKit
set_option linter.unusedVariables false
set_option linter.unusedSimpArgs false
attribute [local go_sem ↓] Go.wp_at_zero Go.wp_at_succ

theorem frm_ok (F : List Qd) (q : Int) : (goodF F && hlB F q 1 4) = frmOK F q := by
  unfold frmOK thereB hlB
  rw [Bool.and_assoc]
theorem frm_call {F : List Qd} {q : Int} (h : frmOK F q = true) : Grows (frmR F q).1 ∧ (frmR F q).1.length ≤ 10000 ∧ ∀ (W : World) (base p g cap mb : Nat), Grv W base p g cap mb F → Calls Try.prog 118 #[.pointer (some ⟨p, 0, none⟩), .int .i64 q] W fun e w' => ∃ g' cap', e = .returned (.int .i64 ((frmR F q).2 : Int)) ∧ Grv w' base p g' cap' mb (frmR F q).1 ∧ Below base W w' := by
  have hgr := frm_grows h
  simp only [frmOK, Bool.and_eq_true] at h
  obtain ⟨h1, h2, h3⟩ := there_to h.1
  have hb := inB_bd h.2
  have h5 := levN_le h1 h2
  have h6 := good_len2 h1
  obtain ⟨m, hm⟩ : ∃ m, levN F q.toNat = m + 1 := ⟨levN F q.toNat - 1, by omega⟩
  refine ⟨hgr, ?_, ?_⟩
  · have t := (treeL_tr (mv (cellsOfQ F q.toNat) (2 ^ (levN F q.toNat - 1)) (2 ^ (levN F q.toNat - 1))) (levN F q.toNat + 1) 0 0 F (by omega) (good_grows h1)).most
    have := pow4_le (show levN F q.toNat + 1 ≤ 5 by omega)
    unfold frmR; omega
  · intro W base p g cap mb hG
    have hj := frm_join h1 h2 hm (by omega)
    rw [h3] at hj
    rw [hj]
    have hT := cellsOfQ_is h1 h2
    rw [hm] at hT
    have := c_frame m q.toNat (by omega) W (good_grows h1) (by omega) hT hG
    rw [h3] at this
    exact this.mono fun e w' ⟨g', c', e1, e2, e3, _⟩ => ⟨g', c', e1, e2, e3⟩

set_option maxHeartbeats 1000000 in
set_option maxRecDepth 100000 in
theorem c_iFrameOf (a : Option Addr) (F : List Qd) (ca : Nat) (q : Int) (w : World) (ha : QSeg w a F) (hl : F.length ≤ 1048576) (hk : KidsLe F) (hca : F.length ≤ ca) (hcm : ca ≤ 9223372036854775807) :
    Calls Try.prog 58 #[.agg #[.slice a F.length ca], .int .i64 q] w fun e w' => ∃ u, e = .returned (.tuple #[.agg #[u], .int .i64 (ansQ (frmOK F q) (frmR F q)), .bool (ansB (frmOK F q) (frmR F q))]) ∧ FOwn w' w.heap.size w'.heap.size u (ansF (frmOK F q) (frmR F q)) ∧ Below w.heap.size w w' := by
  have B1 := (Bx.nil w).add (by simp) #[.slice a F.length ca] 25
  have B2 := hid (B1.add (by simp) #[.slice none 0 0] 25)
  have x0 := B2.out.cell 0 0 (v := .slice a F.length ca) rfl rfl
  rw [Nat.add_zero] at x0
  have HC := hid (c_changeQuad 118 (by simp) 1 4 (frmR F q) a F ca q _ (ha.below B2.out.2.2) hl hk hca hcm (frmOK F q) (frm_ok F q) frm_call)
  clear B1 ha
  generalize ansF (frmOK F q) (frmR F q) = TF at *
  generalize ansQ (frmOK F q) (frmR F q) = TQ at *
  generalize ansB (frmOK F q) (frmR F q) = TB at *
  go_enter Try.func58, Try.ntmps58
  go_wp2_with fail
  refine HC.out.mono ?_
  rintro e w8 ⟨u8, rfl, hO8, hb8⟩
  have HO8 := hid hO8
  obtain ⟨ua8, uc8, rfl, _⟩ := hO8.form
  have R9 := (B2.out.step hb8).row 1 (v := .slice none 0 0) (t := 25) rfl
  have r0 := R9.cell (i := 0) (by omega)
  have f0 := R9.frozen 0
  have E0 := hid ((R9.set 0 (.slice ua8 TF.length uc8)).cell (i := 0) (by omega))
  simp only [if_true] at E0
  have hs9 : (w8.setCell ⟨w.heap.size + 1, 0, none⟩ (.slice ua8 TF.length uc8)).heap.size = w8.heap.size := by simp
  have hGW : Grew w8 (w8.setCell ⟨w.heap.size + 1, 0, none⟩ (.slice ua8 TF.length uc8)) (w.heap.size + 1) (w.heap.size + 1 + 1) := (Grew.refl w8 _ _).set (Nat.le_refl _) (by omega) _
  have h21 := B2.out.2.1
  simp only [List.length_append, List.length_cons, List.length_nil] at h21
  have HO9 := hid ((HO8.out.kept hGW (by omega)).wide (lo' := w.heap.size) (hi' := w8.heap.size) (by omega) (Nat.le_refl _) (by rw [hs9]; exact Nat.le_refl _))
  have HB9 := hid ((B2.out.step hb8).2.2.setCell (p := ⟨w.heap.size + 1, 0, none⟩) (by dsimp only; omega) (.slice ua8 TF.length uc8))
  have HS9 := hid hs9
  clear HC hO8 HO8 hb8 R9 hGW hs9 h21
  go_wp2_with fail
  exact bodyPost_ret (v := .tuple #[.agg #[.slice ua8 TF.length uc8], .int .i64 TQ, .bool TB]) (by simp [results, Try.results58, go_sem, E0.out]) rfl ⟨.slice ua8 TF.length uc8, rfl, by rw [HS9.out]; exact HO9.out, HB9.out⟩

end Go.Proofs.Ytmapbkefndbnnaa
