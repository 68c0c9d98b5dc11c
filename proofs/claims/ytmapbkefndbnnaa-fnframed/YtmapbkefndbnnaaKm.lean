/- Texts of this seat, one behind the other: ChF, DrV, DrS, DrQ, DrI, DrB. -/
import Derived.Test.YtmapbkefndbnnaaKk
import Derived.Test.YtmapbkefndbnnaaKi
import Derived.Deep.RegionHeld3
import Derived.Test.YtmapbkefndbnnaaKh
namespace Go.Proofs.Ytmapbkefndbnnaa
set_option linter.unusedVariables false

theorem ans_got {ok : Bool} {R : List Qd × Nat} (h : ansB ok R = true) : ok = true ∧ R.1.length ≤ 400 ∧ ansF ok R = R.1 ∧ ansQ ok R = (R.2 : Int) := by
  simp only [ansB, Bool.and_eq_true, tellB, decide_eq_true_eq] at h
  refine ⟨h.1, h.2, ?_, ?_⟩
  · unfold ansF tellF; rw [h.1, if_pos rfl, if_pos h.2]
  · unfold ansQ tellQ; rw [h.1, if_pos rfl, if_pos h.2]
theorem tree_got {F : List Qd} {L : List Cl} {n : Nat} (hg : goodF F = true) (hn : n ≤ 5) (h4 : (treeL L n 0 0 F).1.length ≤ 400) :
    goodF (treeL L n 0 0 F).1 = true ∧ thereB (treeL L n 0 0 F).1 ((treeL L n 0 0 F).2 : Int) = true ∧ levN (treeL L n 0 0 F).1 (treeL L n 0 0 F).2 = n ∧ (treeL L n 0 0 F).2 < (treeL L n 0 0 F).1.length ∧ (∀ c, c ∈ cellsOfQ (treeL L n 0 0 F).1 (treeL L n 0 0 F).2 ↔ sqB n 0 0 c ∧ c ∈ L) ∧ ∀ c, c ∈ cinV (treeL L n 0 0 F).1 ((treeL L n 0 0 F).2 : Int) ↔ sqB n 0 0 c ∧ c ∈ L := by
  have t := treeL_tr L n 0 0 F hn (good_grows hg)
  have f := treeL_fine L n 0 0 F hn (good_grows hg) (good_fineF hg)
  have g := f.good h4
  have c := tree_cells (L := L) hg hn
  have hth : thereB (treeL L n 0 0 F).1 ((treeL L n 0 0 F).2 : Int) = true := there_of g (by omega) (by have := t.lt; omega)
  refine ⟨g, hth, c.1, t.lt, c.2, fun d => ?_⟩
  rw [cin_mem hth, Int.toNat_natCast]
  exact c.2 d
theorem setL_mem (F : List Qd) (q : Nat) (c : Cl) (al : Bool) : (c ∈ setL F q c al ↔ al = true) ∧ ∀ x, x ≠ c → (x ∈ setL F q c al ↔ x ∈ cellsOfQ F q) := by
  cases al
  · refine ⟨by simp [setL, dropL], fun x hx => by simp [setL, dropL, hx]⟩
  · refine ⟨by simp [setL], fun x hx => by simp [setL, hx]⟩
/-- What FnChanged asks of a cell that is set. -/
theorem set_facts {F : List Qd} {q : Int} {c : Cl} {al : Bool} (h : ansB (setOK F q c) (setR F q c al) = true) :
    thereB F q = true ∧ goodF (ansF (setOK F q c) (setR F q c al)) = true ∧ thereB (ansF (setOK F q c) (setR F q c al)) (ansQ (setOK F q c) (setR F q c al)) = true ∧
    setOK (ansF (setOK F q c) (setR F q c al)) (ansQ (setOK F q c) (setR F q c al)) c = true ∧ getV (ansF (setOK F q c) (setR F q c al)) (ansQ (setOK F q c) (setR F q c al)) c = al ∧
    ∀ x, x ≠ c → (x ∈ cinV F q ↔ x ∈ cinV (ansF (setOK F q c) (setR F q c al)) (ansQ (setOK F q c) (setR F q c al))) := by
  obtain ⟨h1, h2, h3, h4⟩ := ans_got h
  rw [h3, h4]
  clear h3 h4 h
  simp only [setOK, Bool.and_eq_true] at h1
  obtain ⟨g1, g2, g3⟩ := there_to h1.1
  obtain ⟨t1, t2, t3, t4, t5, t6⟩ := tree_got (L := setL F q.toNat c al) g1 (levN_le g1 g2).1 h2
  obtain ⟨m1, m2⟩ := setL_mem F q.toNat c al
  have hok : setOK (setR F q c al).1 ((setR F q c al).2 : Int) c = true := by
    unfold setOK setR
    rw [t2, Int.toNat_natCast, t3, h1.2]; rfl
  refine ⟨h1.1, t1, t2, hok, ?_, fun x hx => ?_⟩
  · unfold getV
    rw [hok, Bool.true_and, Bool.eq_iff_iff, decide_eq_true_iff]
    unfold setR
    rw [Int.toNat_natCast, t5, m1]
    exact ⟨fun k => k.2, fun k => ⟨hoB_iff.1 h1.2, k⟩⟩
  · unfold setR
    rw [t6, m2 x hx, cin_mem h1.1]
    exact ⟨fun k => ⟨cellsOfQ_sq _ _ _ k, k⟩, fun k => k.2⟩
/-- What FnChanged asks of a box that is cleared. -/
theorem clr_facts {F : List Qd} {q : Int} {a b : Cl} (h : ansB (clrOK F q a b) (clrR F q a b) = true) :
    thereB (ansF (clrOK F q a b) (clrR F q a b)) (ansQ (clrOK F q a b) (clrR F q a b)) = true ∧
    ∀ z, z ∈ cinV (ansF (clrOK F q a b) (clrR F q a b)) (ansQ (clrOK F q a b) (clrR F q a b)) → ¬ (a.1 ≤ z.1 ∧ z.1 ≤ b.1 ∧ a.2 ≤ z.2 ∧ z.2 ≤ b.2) := by
  obtain ⟨h1, h2, h3, h4⟩ := ans_got h
  rw [h3, h4]
  clear h3 h4 h
  simp only [clrOK, Bool.and_eq_true] at h1
  obtain ⟨g1, g2, g3⟩ := there_to h1.1.1
  obtain ⟨t1, t2, t3, t4, t5, t6⟩ := tree_got (L := clrL F q.toNat a b) g1 (levN_le g1 g2).1 h2
  refine ⟨t2, fun z hz => ?_⟩
  have hz' := ((t6 z).1 hz).2
  unfold clrL at hz'
  rw [List.mem_filter] at hz'
  have hz2 := hz'.2
  intro hb
  have : (inB a.1 b.1 z.1 && inB a.2 b.2 z.2) = true := by
    unfold inB
    rw [decide_eq_true hb.1, decide_eq_true hb.2.1, decide_eq_true hb.2.2.1, decide_eq_true hb.2.2.2]; rfl
  rw [this] at hz2
  cases hz2
theorem cin_card {F : List Qd} {q : Int} (h : thereB F q = true) : (cinV F q).length = (cellsOfQ F q.toNat).length := by
  have := cin_len F q
  unfold cntV at this
  rw [h, if_pos rfl] at this
  omega
/-- What FnFramed asks of trees put together and apart. -/
theorem two_facts {F : List Qd} {a b : Int} (h : ansB (twoOK F a b) (uniR F a b) = true) (k : ansB (twoOK F a b) (witR F a b) = true) :
    thereB F a = true ∧ thereB F b = true ∧ thereB (ansF (twoOK F a b) (uniR F a b)) (ansQ (twoOK F a b) (uniR F a b)) = true ∧ thereB (ansF (twoOK F a b) (witR F a b)) (ansQ (twoOK F a b) (witR F a b)) = true ∧
    (cinV (ansF (twoOK F a b) (uniR F a b)) (ansQ (twoOK F a b) (uniR F a b))).length = (cinV (ansF (twoOK F a b) (witR F a b)) (ansQ (twoOK F a b) (witR F a b))).length + (cinV F b).length ∧
    ∀ c, c ∈ cinV F a → c ∈ cinV (ansF (twoOK F a b) (uniR F a b)) (ansQ (twoOK F a b) (uniR F a b)) ∧ decide (c ∈ cinV (ansF (twoOK F a b) (witR F a b)) (ansQ (twoOK F a b) (witR F a b))) = !decide (c ∈ cinV F b) := by
  obtain ⟨h1, h2, h3, h4⟩ := ans_got h
  obtain ⟨_, k2, k3, k4⟩ := ans_got k
  rw [h3, h4, k3, k4]
  clear h3 h4 h k3 k4 k
  simp only [twoOK, Bool.and_eq_true, decide_eq_true_eq] at h1
  obtain ⟨g1, g2, g3⟩ := there_to h1.1.1
  obtain ⟨_, b2, _⟩ := there_to h1.1.2
  have hlev : levN F b.toNat = levN F a.toNat := by unfold levN; rw [h1.2]
  obtain ⟨t1, t2, t3, t4, t5, t6⟩ := tree_got (L := cellsOfQ F a.toNat ++ cellsOfQ F b.toNat) g1 (levN_le g1 g2).1 h2
  obtain ⟨s1, s2, s3, s4, s5, s6⟩ := tree_got (L := dropL (cellsOfQ F a.toNat) (cellsOfQ F b.toNat)) g1 (levN_le g1 g2).1 k2
  have hA : ∀ c, c ∈ cellsOfQ F a.toNat → sqB (levN F a.toNat) 0 0 c := cellsOfQ_sq F a.toNat
  have hB : ∀ c, c ∈ cellsOfQ F b.toNat → sqB (levN F a.toNat) 0 0 c := fun c hc => by rw [← hlev]; exact cellsOfQ_sq F b.toNat c hc
  have hd : ∀ c, c ∈ dropL (cellsOfQ F a.toNat) (cellsOfQ F b.toNat) ↔ c ∈ cellsOfQ F a.toNat ∧ ¬ c ∈ cellsOfQ F b.toNat := fun c => by simp [dropL]
  refine ⟨h1.1.1, h1.1.2, t2, s2, ?_, fun c hc => ⟨?_, ?_⟩⟩
  · unfold uniR witR
    rw [cin_card t2, cin_card s2, cin_card h1.1.2, Int.toNat_natCast, Int.toNat_natCast, ← List.length_append]
    refine ((List.perm_ext_iff_of_nodup (cellsOfQ_nodup _ _) ?_).2 fun c => ?_).length_eq
    · refine List.nodup_append.2 ⟨cellsOfQ_nodup _ _, cellsOfQ_nodup _ _, fun x hx y hy e => ?_⟩
      subst e
      exact ((hd x).1 ((s5 x).1 hx).2).2 hy
    · rw [t5, List.mem_append, List.mem_append, s5, hd]
      constructor
      · rintro ⟨k1, k3⟩
        by_cases hb : c ∈ cellsOfQ F b.toNat
        · exact .inr hb
        · exact .inl ⟨k1, k3.resolve_right hb, hb⟩
      · rintro (k1 | k1)
        · exact ⟨k1.1, .inl k1.2.1⟩
        · exact ⟨hB c k1, .inr k1⟩
  · rw [cin_mem h1.1.1] at hc
    unfold uniR
    rw [t6]
    exact ⟨hA c hc, List.mem_append.2 (.inl hc)⟩
  · rw [cin_mem h1.1.1] at hc
    unfold witR
    have : c ∈ cinV (treeL (dropL (cellsOfQ F a.toNat) (cellsOfQ F b.toNat)) (levN F a.toNat) 0 0 F).1 ((treeL (dropL (cellsOfQ F a.toNat) (cellsOfQ F b.toNat)) (levN F a.toNat) 0 0 F).2 : Int) ↔ ¬ c ∈ cinV F b := by
      rw [s6, hd, cin_mem h1.1.2]
      exact ⟨fun k => k.2.2, fun k => ⟨hA c hc, hc, k⟩⟩
    by_cases hb : c ∈ cinV F b
    · rw [decide_eq_true hb, decide_eq_false (fun k => this.1 k hb)]; rfl
    · rw [decide_eq_false hb, decide_eq_true (this.2 hb)]; rfl
/-- What FnFramed asks of a tree that is framed. -/
theorem frm_facts {F : List Qd} {q : Int} (h : ansB (frmOK F q) (frmR F q) = true) :
    cenOK (ansF (frmOK F q) (frmR F q)) (ansQ (frmOK F q) (frmR F q)) = true ∧ frdV (ansF (frmOK F q) (frmR F q)) (ansQ (frmOK F q) (frmR F q)) = true ∧
    ansF (cenOK (ansF (frmOK F q) (frmR F q)) (ansQ (frmOK F q) (frmR F q))) (cenR (ansF (frmOK F q) (frmR F q)) (ansQ (frmOK F q) (frmR F q))) = ansF (frmOK F q) (frmR F q) ∧
    ansQ (cenOK (ansF (frmOK F q) (frmR F q)) (ansQ (frmOK F q) (frmR F q))) (cenR (ansF (frmOK F q) (frmR F q)) (ansQ (frmOK F q) (frmR F q))) = q ∧
    ansB (cenOK (ansF (frmOK F q) (frmR F q)) (ansQ (frmOK F q) (frmR F q))) (cenR (ansF (frmOK F q) (frmR F q)) (ansQ (frmOK F q) (frmR F q))) = true := by
  obtain ⟨h1, h2, h3, h4⟩ := ans_got h
  rw [h3, h4]
  clear h3 h4 h
  simp only [frmOK, Bool.and_eq_true] at h1
  have hb := inB_bd h1.2
  obtain ⟨g1, g2, g3⟩ := there_to h1.1
  have hl := (levN_le g1 g2).2
  obtain ⟨n, hn⟩ : ∃ n, levN F q.toNat = n + 1 := ⟨levN F q.toNat - 1, by omega⟩
  have h2' : (treeL (mv (cellsOfQ F q.toNat) (2 ^ n) (2 ^ n)) (n + 2) 0 0 F).1.length ≤ 400 := by
    have := h2
    unfold frmR at this
    rw [hn, show n + 1 - 1 = n by omega] at this
    exact this
  have hR : frmR F q = treeL (mv (cellsOfQ F q.toNat) (2 ^ n) (2 ^ n)) (n + 2) 0 0 F := by
    unfold frmR
    rw [hn, show n + 1 - 1 = n by omega]
  rw [hR]
  have hpos := pow_pos' n
  have hp := two_pow n
  have hp1 : (2 : Int) ^ (n + 2) = _ := two_pow (n + 1)
  have tr := treeL_tr (mv (cellsOfQ F q.toNat) (2 ^ n) (2 ^ n)) (n + 2) 0 0 F (by omega) (good_grows g1)
  obtain ⟨t1, t2, t3, t4, t5, t6⟩ := tree_got (L := mv (cellsOfQ F q.toNat) (2 ^ n) (2 ^ n)) g1 (show n + 2 ≤ 5 by omega) h2'
  generalize treeL (mv (cellsOfQ F q.toNat) (2 ^ n) (2 ^ n)) (n + 2) 0 0 F = M at *
  have hq2 : 2 ≤ (qa M.1 M.2).1 := by
    have := (levN_le t1 t4).2
    omega
  have hcen : cenOK M.1 (M.2 : Int) = true := by
    unfold cenOK
    rw [t2, Int.toNat_natCast, decide_eq_true hq2]; rfl
  have hIs := cellsOfQ_is g1 g2
  rw [hn] at hIs
  have hIs2 := (hIs.more tr.more tr.old).congr (L' := mv (cellsOfQ M.1 M.2) (-(2 ^ n)) (-(2 ^ n))) fun c hc => by
    have e1 := mv_mem (cellsOfQ M.1 M.2) (-(2 ^ n)) (-(2 ^ n)) (c.1 + 2 ^ n, c.2 + 2 ^ n)
    have e2 := mv_mem (cellsOfQ F q.toNat) (2 ^ n) (2 ^ n) c
    rw [show ((c.1 + 2 ^ n, c.2 + 2 ^ n).1 + -(2 ^ n), (c.1 + 2 ^ n, c.2 + 2 ^ n).2 + -(2 ^ n)) = c from Prod.ext (by simp; omega) (by simp; omega)] at e1
    rw [← e1, t5, e2]
    unfold sqB at hc ⊢
    constructor
    · intro h'; exact ⟨by dsimp only; omega, h'⟩
    · intro h'; exact h'.2
  have hC : cenR M.1 (M.2 : Int) = (M.1, q.toNat) := by
    unfold cenR
    rw [Int.toNat_natCast, t3, show n + 2 - 2 = n by omega, show n + 2 - 1 = n + 1 by omega]
    exact treeL_there tr.grows hIs2
  refine ⟨hcen, ?_, ?_, ?_, ?_⟩
  · unfold frdV
    rw [hcen, Bool.true_and, Int.toNat_natCast, List.all_eq_true]
    intro c hc
    have hm := ((t5 c).1 hc).2
    rw [t3, show n + 2 - 2 = n by omega, midB_iff]
    unfold mv at hm
    rw [List.mem_map] at hm
    obtain ⟨d, hd, rfl⟩ := hm
    have hs := cellsOfQ_sq F q.toNat d hd
    rw [hn] at hs
    unfold sqB at hs
    dsimp only
    omega
  · rw [hcen, hC, (ans_yes _).1]; unfold tellF; rw [if_pos h2']
  · rw [hcen, hC, (ans_yes _).2.1]; unfold tellQ; rw [if_pos h2']; exact g3
  · rw [hcen, hC, (ans_yes _).2.2]; unfold tellB; rw [decide_eq_true h2']

end Go.Proofs.Ytmapbkefndbnnaa

namespace Go.Proofs.Ytmapbkefndbnnaa
open Go.RowKit
set_option linter.unusedVariables false
set_option linter.unusedSimpArgs false
attribute [local go_sem ↓] Go.wp_at_zero Go.wp_at_succ

/-- A cell in block B. -/
def CR (W : World) (B : Nat) (c : Cl) : Prop := W.rowIs B 39 2 (fun i => if i = 0 then .int .i64 c.1 else .int .i64 c.2)
theorem CR.new (w : World) (c : Cl) : CR (w.alloc (.cells #[.int .i64 c.1, .int .i64 c.2] 39)) w.heap.size c := by
  refine ⟨_, heap_alloc_new _ _, rfl, fun i hi => ?_⟩
  rcases (show i = 0 ∨ i = 1 by omega) with rfl | rfl <;> rfl
theorem CR.lt {W : World} {B : Nat} {c : Cl} (h : CR W B c) : B < W.heap.size := World.rowIs.lt h
theorem CR.below {W W' : World} {B : Nat} {c : Cl} (h : CR W B c) (hb : Below W.heap.size W W') : CR W' B c := World.rowIs.of_block h (hb.block _ (World.rowIs.lt h))
theorem CR.cur {W W' : World} {B b : Nat} {c : Cl} (h : CR W B c) (hg : W.grownBy W' (some b)) (hne : B ≠ b) : CR W' B c := World.rowIs.of_block h (hg.block _ (World.rowIs.lt h) (fun e => by simp only [Option.some.injEq] at e; omega))
theorem CR.other {W : World} {B p o : Nat} {c : Cl} (h : CR W B c) (hne : B ≠ p) (v : Value) : CR (W.setCell ⟨p, o, none⟩ v) B c := World.rowIs.setOther h (a := ⟨p, o, none⟩) (by dsimp only; omega) v
theorem CR.set2 {W : World} {B : Nat} {c : Cl} (h : CR W B c) (x y : Int) : CR ((W.setCell ⟨B, 0, none⟩ (.int .i64 x)).setCell ⟨B, 1, none⟩ (.int .i64 y)) B (x, y) := by
  refine (World.rowIs.set (World.rowIs.set h 0 (.int .i64 x)) 1 (.int .i64 y)).congr fun j hj => ?_
  rcases (show j = 0 ∨ j = 1 by omega) with rfl | rfl <;> rfl
theorem CR.cells {W : World} {B : Nat} {c : Cl} (h : CR W B c) : W.cell? ⟨B, 0, none⟩ = some (.int .i64 c.1) ∧ W.cell? ⟨B, 1, none⟩ = some (.int .i64 c.2) ∧ W.frozen? ⟨B, 0, none⟩ = false ∧ W.frozen? ⟨B, 1, none⟩ = false :=
  ⟨World.rowIs.cell h (i := 0) (by omega), World.rowIs.cell h (i := 1) (by omega), World.rowIs.frozen h 0, World.rowIs.frozen h 1⟩
/-- What stands when a draw returns. -/
structure DRet (w W : World) (bf : Nat) (v : Value) (F : List Qd) : Prop where
  gf : GF W w.heap.size v F
  bel : Below w.heap.size w W
  res : W.rowIs w.heap.size 25 1 (fun _ => v)
  box : W.rowIs bf 25 1 (fun _ => v)
theorem DU.ret' {w W : World} {b n bf : Nat} {A : Int} {v : Value} {F : List Qd} (h : DU w W b n A bf v F) : DRet w (W.setCell ⟨w.heap.size, 0, none⟩ v) bf v F := by
  have hb := h.lb
  have hf := h.lf
  have e := (h.res.set 0 v).congr (g := fun _ => v) fun j hj => by
    have : j = 0 := by omega
    subst this; simp
  exact ⟨(h.gf.mono (by omega)).setRow (o := 0) h.res (by decide) (by decide) v, h.bel.setCell (p := ⟨w.heap.size, 0, none⟩) (Nat.le_refl _) v, e, h.box.setOther (a := ⟨w.heap.size, 0, none⟩) (by dsimp only; omega) v⟩
theorem DRet.setC {w W : World} {bf B : Nat} {v : Value} {F : List Qd} {c : Cl} (h : DRet w W bf v F) (hC : CR W B c) (hB : w.heap.size < B) (hne : B ≠ bf) (x y : Int) : DRet w ((W.setCell ⟨B, 0, none⟩ (.int .i64 x)).setCell ⟨B, 1, none⟩ (.int .i64 y)) bf v F := by
  have hC1 : (W.setCell ⟨B, 0, none⟩ (.int .i64 x)).rowIs B 39 2 _ := World.rowIs.set hC 0 (.int .i64 x)
  exact ⟨(h.gf.setRow (o := 0) hC (by decide) (by decide) _).setRow (o := 1) hC1 (by decide) (by decide) _, (h.bel.setCell (p := ⟨B, 0, none⟩) (by dsimp only; omega) _).setCell (p := ⟨B, 1, none⟩) (by dsimp only; omega) _, (h.res.setOther (a := ⟨B, 0, none⟩) (by dsimp only; omega) _).setOther (a := ⟨B, 1, none⟩) (by dsimp only; omega) _, (h.box.setOther (a := ⟨B, 0, none⟩) (by dsimp only; omega) _).setOther (a := ⟨B, 1, none⟩) (by dsimp only; omega) _⟩
/-- The cursor of a draw, behind the answer's boxes. -/
abbrev drWc (w : World) (a : Option Addr) (n ca : Nat) : World := curW ((w.alloc (.cells #[.slice none 0 0] 25)).alloc (.cells #[.int .i64 0, .int .i64 0] 39)) a n ca
theorem drwc_new (w : World) (a : Option Addr) (l : List Int) (ca : Nat) (ha : BSeg w a l) (hl : l.length ≤ 9223372036854775807) : CurAt (drWc w a l.length ca) (w.heap.size + 2) (w.heap.size + 2) l.length 0 ∧ (drWc w a l.length ca).rowIs w.heap.size 25 1 (fun _ => .slice none 0 0) ∧ CR (drWc w a l.length ca) (w.heap.size + 1) (0, 0) ∧ Below w.heap.size w (drWc w a l.length ca) ∧ w.heap.size + 2 < (drWc w a l.length ca).heap.size := by
  have b1 := (Below.refl w.heap.size w).alloc (Nat.le_refl _) (.cells #[.slice none 0 0] 25)
  have s1 : (w.alloc (.cells #[.slice none 0 0] 25)).heap.size = w.heap.size + 1 := by simp
  have b2 := b1.alloc (by rw [s1]; omega) (.cells #[.int .i64 0, .int .i64 0] 39)
  have s2 : ((w.alloc (.cells #[.slice none 0 0] 25)).alloc (.cells #[.int .i64 0, .int .i64 0] 39)).heap.size = w.heap.size + 2 := by simp
  have h := cur_new ((w.alloc (.cells #[.slice none 0 0] 25)).alloc (.cells #[.int .i64 0, .int .i64 0] 39)) a l ca (ha.below b2) hl
  rw [s2] at h
  have c1 := CR.new (w.alloc (.cells #[.slice none 0 0] 25)) (0, 0)
  rw [s1] at c1
  exact ⟨h, ((one_row (heap_alloc_new w _)).alloc _).alloc _, c1.below ((Below.refl _ _).alloc (Nat.le_refl _) _), b2.alloc (by rw [s2]; omega) _, by simp⟩

set_option maxHeartbeats 4000000 in
set_option maxRecDepth 100000 in
theorem c_DrawGetCell (a : Option Addr) (l : List Int) (ca : Nat) (w : World) (ha : BSeg w a l) (hl : l.length ≤ 9223372036854775807) :
    Calls Try.prog 50 #[.slice a l.length ca] w fun e w' => ∃ (u : Value) (q : Int) (F : List Qd) (c : Cl), e = .returned (.tuple #[.agg #[u], .int .i64 q, .agg #[.int .i64 c.1, .int .i64 c.2]]) ∧ GF w' w.heap.size u F ∧ (2 ≤ F.length ∧ F.length ≤ 401 ∧ KidsLe F) ∧ Below w.heap.size w w' := by
  obtain ⟨h1, h2, h5, h3, h4⟩ := drwc_new w a l ca ha hl
  have HC := hid h1
  have HR := hid h2
  have HB := hid h3
  have HL := hid h4
  have HX := hid h5
  clear ha h1 h2 h3 h4 h5
  go_enter Try.func50, Try.ntmps50
  go_wp2_with fail
  refine (c_drawForest (w.heap.size + 2) (w.heap.size + 2) l.length 0 _ HC.out (by omega)).mono ?_
  rintro e w1 ⟨u, q, F, rfl, hG, hD, hc, hg⟩
  have HD := hid hD
  have HG := hid hG
  obtain ⟨ua, uc, rfl, _⟩ := hG.form
  have DD := hid (DU.new HR.out HB.out (by omega) HL.out HG.out hc hg)
  have HX1 := hid ((HX.out.cur hg (by omega)).below ((Below.refl w1.heap.size w1).alloc (Nat.le_refl _) (.cells #[.slice ua F.length uc] 25)))
  clear hD hG hc hg HC HR HB HL HG HX
  go_wp2_with fail
  generalize w1.alloc (.cells #[.slice ua F.length uc] 25) = W1 at *
  generalize w1.heap.size = bf at *
  have hlf := DD.out.lf
  have FB := DD.out.below ((Below.refl W1.heap.size W1).drew)
  have FX := HX1.out.below ((Below.refl W1.heap.size W1).drew)
  have keepR : Hid (∀ (W : World) (A' : Int), DU w W (w.heap.size + 2) l.length A' bf (.slice ua F.length uc) F → W.cell? ⟨bf, 0, none⟩ = some (.slice ua F.length uc)) := fun W A' h => h.cells.1
  go_region_held3 (fun W => W.cell? ⟨bf, 0, none⟩ = some (.slice ua F.length uc))
    (first | exact keepR.out _ _ FB | exact keepR.out _ _ DD.out | exact (FB.ret'.setC (FX.other (by omega) _) (by omega) (by omega) _ _).box.cell (i := 0) (by omega) | exact FB.ret'.box.cell (i := 0) (by omega) | go_keep)
    (first
      | (go_at_call 91; have _g := y0; refine (c_pick (w.heap.size + 2) (w.heap.size + 2) l.length _ 8 _ FB.cur (by omega) (by omega) (by omega)).mono ?_; rintro e w5 ⟨z, rfl, z0, z1, hc3, hg3⟩; replace FB := FB.cur' hc3 hg3; replace FX := FX.cur hg3 (by omega); obtain ⟨u1, u2, u3⟩ := FB.cells; obtain ⟨t1, t2, t3, t4⟩ := FX.cells; clear hc3 hg3)
      | (go_at_call 91; have _g := x0; refine (c_pick (w.heap.size + 2) (w.heap.size + 2) l.length _ 9 _ FB.cur (by omega) (by omega) (by omega)).mono ?_; rintro e w4 ⟨y, rfl, y0, y1, hc3, hg3⟩; replace FB := FB.cur' hc3 hg3; replace FX := FX.cur hg3 (by omega); clear hc3 hg3)
      | (go_at_call 91; refine (c_pick (w.heap.size + 2) (w.heap.size + 2) l.length _ 9 _ FB.cur (by omega) (by omega) (by omega)).mono ?_; rintro e w3 ⟨x, rfl, x0, x1, hc3, hg3⟩; replace FB := FB.cur' hc3 hg3; replace FX := FX.cur hg3 (by omega); clear hc3 hg3))
  clear keepR
  generalize (IntKind.i64.wrap (x - IntKind.i64.wrap (y.tdiv 8))) = X at *
  have D2 := hid (FB.ret'.setC (FX.other (by omega) (.slice ua F.length uc)) (by omega) (by omega) X z)
  have C2 := hid ((FX.other (p := w.heap.size) (o := 0) (by omega) (.slice ua F.length uc)).set2 X z)
  have E0 := hid (D2.out.res.cell (i := 0) (by omega))
  obtain ⟨e1, e2, _, _⟩ := C2.out.cells
  have E1 := hid e1
  have E2 := hid e2
  clear e1 e2 t1 t2 t3 t4 u1 u2 u3
  go_wp2_with fail
  exact bodyPost_ret (v := .tuple #[.agg #[.slice ua F.length uc], .int .i64 q, .agg #[.int .i64 X, .int .i64 z]]) (by simp [results, Try.results50, go_sem, E0.out, E1.out, E2.out]) rfl ⟨_, ⟨q, X, z, rfl⟩, F, D2.out.gf, ⟨HD.out.1, HD.out.2.1, HD.out.2.2.1⟩, D2.out.bel⟩

end Go.Proofs.Ytmapbkefndbnnaa

namespace Go.Proofs.Ytmapbkefndbnnaa
open Go.RowKit
set_option linter.unusedVariables false
set_option linter.unusedSimpArgs false
attribute [local go_sem ↓] Go.wp_at_zero Go.wp_at_succ

/-- The answer's boxes. -/
abbrev ansW (w : World) : World := (w.alloc (.cells #[.slice none 0 0] 25)).alloc (.cells #[.int .i64 0, .int .i64 0] 39)
theorem answ_new (w : World) : (ansW w).rowIs w.heap.size 25 1 (fun _ => .slice none 0 0) ∧ CR (ansW w) (w.heap.size + 1) (0, 0) ∧ Below w.heap.size w (ansW w) ∧ (ansW w).heap.size = w.heap.size + 2 := by
  have b1 := (Below.refl w.heap.size w).alloc (Nat.le_refl _) (.cells #[.slice none 0 0] 25)
  have s1 : (w.alloc (.cells #[.slice none 0 0] 25)).heap.size = w.heap.size + 1 := by simp
  have c1 := CR.new (w.alloc (.cells #[.slice none 0 0] 25)) (0, 0)
  rw [s1] at c1
  exact ⟨(one_row (heap_alloc_new w _)).alloc _, c1, b1.alloc (by rw [s1]; omega) _, by simp⟩

/-- What stands while a draw goes on behind another one that it called: w1 is the world behind that call. -/
structure DS (w w1 W : World) (b bf bc : Nat) (v : Value) (F : List Qd) (c : Cl) : Prop where
  bel : Below w.heap.size w w1
  gf : GF w1 w.heap.size v F
  res : w1.rowIs w.heap.size 25 1 (fun _ => .slice none 0 0)
  cx : CR w1 (w.heap.size + 1) (0, 0)
  b1 : Below w1.heap.size w1 W
  box : W.rowIs bf 25 1 (fun _ => v)
  cb : CR W bc c
  n : w1.heap.size ≤ b ∧ bf ≠ b ∧ bc ≠ b ∧ w1.heap.size ≤ bf ∧ w1.heap.size ≤ bc
section
variable {w w1 W W' : World} {b bf bc : Nat} {v : Value} {F : List Qd} {c : Cl}
theorem DS.below (h : DS w w1 W b bf bc v F c) (hb : Below W.heap.size W W') : DS w w1 W' b bf bc v F c :=
  ⟨h.bel, h.gf, h.res, h.cx, h.b1.trans (hb.mono h.b1.size), h.box.of_block (hb.block _ h.box.lt), h.cb.below hb, h.n⟩
theorem DS.cur (h : DS w w1 W b bf bc v F c) (hg : W.grownBy W' (some b)) : DS w w1 W' b bf bc v F c := by
  obtain ⟨n1, n2, n3, n4, n5⟩ := h.n
  exact ⟨h.bel, h.gf, h.res, h.cx, below_cur' h.b1 hg n1, h.box.of_block (hg.block _ h.box.lt (fun e => by simp only [Option.some.injEq] at e; omega)), h.cb.cur hg n3, h.n⟩
theorem DS.ret (h : DS w w1 W b bf bc v F c) (x y : Int) :
    DRet w (((W.setCell ⟨w.heap.size, 0, none⟩ v).setCell ⟨w.heap.size + 1, 0, none⟩ (.int .i64 x)).setCell ⟨w.heap.size + 1, 1, none⟩ (.int .i64 y)) bf v F ∧
    CR (((W.setCell ⟨w.heap.size, 0, none⟩ v).setCell ⟨w.heap.size + 1, 0, none⟩ (.int .i64 x)).setCell ⟨w.heap.size + 1, 1, none⟩ (.int .i64 y)) (w.heap.size + 1) (x, y) ∧
    CR (((W.setCell ⟨w.heap.size, 0, none⟩ v).setCell ⟨w.heap.size + 1, 0, none⟩ (.int .i64 x)).setCell ⟨w.heap.size + 1, 1, none⟩ (.int .i64 y)) bc c := by
  obtain ⟨n1, n2, n3, n4, n5⟩ := h.n
  have hx := h.cx.lt
  have hr : W.rowIs w.heap.size 25 1 (fun _ => .slice none 0 0) := h.res.of_block (h.b1.block _ h.res.lt)
  have hc : CR W (w.heap.size + 1) (0, 0) := h.cx.below h.b1
  have e := (hr.set 0 v).congr (g := fun _ => v) fun j hj => by
    have : j = 0 := by omega
    subst this; simp
  have d : DRet w (W.setCell ⟨w.heap.size, 0, none⟩ v) bf v F := ⟨(h.gf.below h.b1).setRow (o := 0) hr (by decide) (by decide) v, (h.bel.trans (h.b1.mono h.bel.size)).setCell (p := ⟨w.heap.size, 0, none⟩) (Nat.le_refl _) v, e, h.box.setOther (a := ⟨w.heap.size, 0, none⟩) (by dsimp only; omega) v⟩
  have hc2 := hc.other (p := w.heap.size) (o := 0) (by omega) v
  have hb2 := h.cb.other (p := w.heap.size) (o := 0) (by omega) v
  exact ⟨d.setC hc2 (by omega) (by omega) x y, hc2.set2 x y, (hb2.other (p := w.heap.size + 1) (o := 0) (by omega) _).other (p := w.heap.size + 1) (o := 1) (by omega) _⟩
theorem DS.ret1 (h : DS w w1 W b bf bc v F c) : (W.setCell ⟨w.heap.size, 0, none⟩ v).cell? ⟨bf, 0, none⟩ = some v ∧ (W.setCell ⟨w.heap.size, 0, none⟩ v).cell? ⟨bc, 0, none⟩ = some (.int .i64 c.1) ∧ (W.setCell ⟨w.heap.size, 0, none⟩ v).cell? ⟨bc, 1, none⟩ = some (.int .i64 c.2) := by
  obtain ⟨n1, n2, n3, n4, n5⟩ := h.n
  have hx := h.cx.lt
  have hb2 := h.cb.other (p := w.heap.size) (o := 0) (by omega) v
  exact ⟨(h.box.setOther (a := ⟨w.heap.size, 0, none⟩) (by dsimp only; omega) v).cell (i := 0) (by omega), hb2.cells.1, hb2.cells.2.1⟩
theorem DS.cells (h : DS w w1 W b bf bc v F c) : (W.cell? ⟨bf, 0, none⟩ = some v ∧ W.cell? ⟨bc, 0, none⟩ = some (.int .i64 c.1) ∧ W.cell? ⟨bc, 1, none⟩ = some (.int .i64 c.2)) ∧ W.cell? ⟨w.heap.size, 0, none⟩ = some (.slice none 0 0) ∧ W.frozen? ⟨w.heap.size, 0, none⟩ = false ∧ W.cell? ⟨w.heap.size + 1, 0, none⟩ = some (.int .i64 0) ∧ W.cell? ⟨w.heap.size + 1, 1, none⟩ = some (.int .i64 0) ∧ W.frozen? ⟨w.heap.size + 1, 0, none⟩ = false ∧ W.frozen? ⟨w.heap.size + 1, 1, none⟩ = false := by
  have hr : W.rowIs w.heap.size 25 1 (fun _ => .slice none 0 0) := h.res.of_block (h.b1.block _ h.res.lt)
  obtain ⟨c1, c2, c3, c4⟩ := (h.cx.below h.b1).cells
  obtain ⟨d1, d2, _, _⟩ := h.cb.cells
  exact ⟨⟨h.box.cell (i := 0) (by omega), d1, d2⟩, hr.cell (i := 0) (by omega), hr.frozen 0, c1, c2, c3, c4⟩
end

/-- What DrawSetCell answers. -/
def SetP (w : World) (e : Ending) (w' : World) : Prop := ∃ (u : Value) (q : Int) (F : List Qd) (c : Cl) (al : Bool), e = .returned (.tuple #[.agg #[u], .int .i64 q, .agg #[.int .i64 c.1, .int .i64 c.2], .bool al]) ∧ GF w' w.heap.size u F ∧ (2 ≤ F.length ∧ F.length ≤ 401 ∧ KidsLe F) ∧ Below w.heap.size w w'
set_option maxHeartbeats 4000000 in
set_option maxRecDepth 100000 in
theorem c_DrawSetCell (a : Option Addr) (l : List Int) (ca : Nat) (w : World) (ha : BSeg w a l) (hl : l.length ≤ 9223372036854775807) :
    Calls Try.prog 43 #[.slice a l.length ca] w (SetP w) := by
  obtain ⟨h1, h2, h3, h4⟩ := answ_new w
  have HR := hid h1
  have HX := hid h2
  have HB := hid h3
  have HS := hid h4
  have HA := hid (ha.below h3)
  clear ha h1 h2 h3 h4
  go_enter Try.func43, Try.ntmps43
  go_wp2_with fail
  refine (c_DrawGetCell a l ca (ansW w) HA.out hl).mono ?_
  rintro e w1 ⟨u, q, F, c, rfl, hG, hD, hb⟩
  have HD := hid hD
  have HG := hid hG
  obtain ⟨ua, uc, rfl, _⟩ := hG.form
  have hs1 : (w1.alloc (.cells #[.slice ua F.length uc] 25)).heap.size = w1.heap.size + 1 := by simp
  have hs2 : ((w1.alloc (.cells #[.slice ua F.length uc] 25)).alloc (.cells #[.int .i64 c.1, .int .i64 c.2] 39)).heap.size = w1.heap.size + 2 := by simp
  have a1 := (Below.refl w1.heap.size w1).alloc (Nat.le_refl _) (.cells #[.slice ua F.length uc] 25)
  have a2 := a1.alloc (by rw [hs1]; omega) (.cells #[.int .i64 c.1, .int .i64 c.2] 39)
  have a3 := a2.alloc (by rw [hs2]; omega) (.cells #[.slice a l.length ca, .int .i64 0, .int .u64 0] 87)
  have cn := CR.new (w1.alloc (.cells #[.slice ua F.length uc] 25)) c
  rw [hs1] at cn
  have cu := cur_new ((w1.alloc (.cells #[.slice ua F.length uc] 25)).alloc (.cells #[.int .i64 c.1, .int .i64 c.2] 39)) a l ca ((HA.out.below hb).below a2) hl
  rw [hs2] at cu
  have hsz := HS.out
  have D3 := hid (show DS w w1 (((w1.alloc (.cells #[.slice ua F.length uc] 25)).alloc (.cells #[.int .i64 c.1, .int .i64 c.2] 39)).alloc (.cells #[.slice a l.length ca, .int .i64 0, .int .u64 0] 87)) (w1.heap.size + 2) w1.heap.size (w1.heap.size + 1) (.slice ua F.length uc) F c from
    ⟨HB.out.trans (hb.mono HB.out.size), hG.mono (by omega), HR.out.of_block (hb.block _ HR.out.lt), HX.out.below hb, a3, ((one_row (heap_alloc_new w1 _)).alloc _).alloc _, cn.below ((Below.refl _ _).alloc (Nat.le_refl _) _), by omega⟩)
  have CU := hid (show CurAt (((w1.alloc (.cells #[.slice ua F.length uc] 25)).alloc (.cells #[.int .i64 c.1, .int .i64 c.2] 39)).alloc (.cells #[.slice a l.length ca, .int .i64 0, .int .u64 0] 87)) (w1.heap.size + 2) (w1.heap.size + 2) l.length 0 from cu)
  clear hs1 hs2 a1 a2 a3 cn cu hG hD hb HR HX HB HG HA hsz
  go_wp2_with fail
  generalize ((w1.alloc (.cells #[.slice ua F.length uc] 25)).alloc (.cells #[.int .i64 c.1, .int .i64 c.2] 39)).alloc (.cells #[.slice a l.length ca, .int .i64 0, .int .u64 0] 87) = W3 at *
  have FB := D3.out.below ((Below.refl W3.heap.size W3).drew)
  have FC := CU.out.kept (grown_drew1 W3 none) (by simp) (fun k e => by cases e)
  go_region_held3 (fun W => W.cell? ⟨w1.heap.size, 0, none⟩ = some (.slice ua F.length uc) ∧ W.cell? ⟨w1.heap.size + 1, 0, none⟩ = some (.int .i64 c.1) ∧ W.cell? ⟨w1.heap.size + 1, 1, none⟩ = some (.int .i64 c.2))
    (first | exact FB.cells.1 | exact D3.out.cells.1 | exact FB.ret1 | exact ⟨(FB.ret _ _).1.box.cell (i := 0) (by omega), (FB.ret _ _).2.2.cells.1, (FB.ret _ _).2.2.cells.2.1⟩ | go_keep)
    (first
      | (go_at_call 90; refine (c_one (w1.heap.size + 2) (w1.heap.size + 2) l.length _ 2 _ FC (by omega) (by omega) (by omega)).mono ?_; rintro e w5 ⟨z, rfl, hc3, hg3⟩; replace FB := FB.cur hg3; obtain ⟨_, u1, u2, u3, u4, u5, u6⟩ := FB.cells; clear hc3 hg3))
  have D2 := hid ((FB.ret c.1 c.2).1)
  have C2 := hid ((FB.ret c.1 c.2).2.1)
  have E0 := hid (D2.out.res.cell (i := 0) (by omega))
  obtain ⟨e1, e2, _, _⟩ := C2.out.cells
  have E1 := hid e1
  have E2 := hid e2
  clear e1 e2 u1 u2 u3 u4 u5 u6
  go_wp2_with fail
  exact bodyPost_ret (v := .tuple #[.agg #[.slice ua F.length uc], .int .i64 q, .agg #[.int .i64 c.1, .int .i64 c.2], .bool z]) (by simp [results, Try.results43, go_sem, E0.out, E1.out, E2.out]) rfl ⟨_, q, F, c, z, rfl, D2.out.gf, HD.out, D2.out.bel⟩

end Go.Proofs.Ytmapbkefndbnnaa

namespace Go.Proofs.Ytmapbkefndbnnaa
open Go.RowKit
set_option linter.unusedVariables false
set_option linter.unusedSimpArgs false
attribute [local go_sem ↓] Go.wp_at_zero Go.wp_at_succ

section
variable {w W W0 w1 : World} {cb b n bf : Nat} {A A' : Int} {v : Value} {F : List Qd}
theorem FU.retBox (h : FU w W cb b n A bf v F) : (W.setCell ⟨w.heap.size, 0, none⟩ v).cell? ⟨bf, 0, none⟩ = some v :=
  (h.box.setOther (a := ⟨w.heap.size, 0, none⟩) (by have := h.lf; dsimp only; omega) v).cell (i := 0) (by omega)
theorem FU.retRes (h : FU w W cb b n A bf v F) (u : Value) : (W.setCell ⟨w.heap.size, 0, none⟩ u).cell? ⟨w.heap.size, 0, none⟩ = some u := by
  have e := (h.res.set 0 u).cell (i := 0) (by omega)
  simp only [if_true] at e
  exact e
theorem FU.setBoxRes (h : FU w W cb b n A bf v F) {u : Value} {G : List Qd} (hu : GF W w.heap.size u G) : GF (W.setCell ⟨w.heap.size, 0, none⟩ u) w.heap.size u G ∧ CurAt (W.setCell ⟨w.heap.size, 0, none⟩ u) cb b n A ∧ w.grownBy (W.setCell ⟨w.heap.size, 0, none⟩ u) (some b) := by
  have hb := h.bl
  have hg := grown_set1 W w.heap.size 0 u
  have hcl := h.cur.lt
  exact ⟨hu.setRow (o := 0) h.res (by decide) (by decide) u, h.cur.kept hg (fun e => by simp only [Option.some.injEq] at e; omega) (fun k e => by simp only [Option.some.injEq] at e; omega), grown_over h.gr hg (fun k e => by simp only [Option.some.injEq] at e; omega)⟩
theorem FU.two (hR : W0.rowIs w.heap.size 25 1 (fun _ => .slice none 0 0)) (hB : Below w.heap.size w W0) (hb : b < w.heap.size) (hc : CurAt w1 cb b n A) (hg : W0.grownBy w1 (some b)) (hG : GF w1 w.heap.size v F) : FU w (w1.alloc (.cells #[v] 25)) cb b n A w1.heap.size v F := by
  have ba := (Below.refl w1.heap.size w1).alloc (Nat.le_refl _) (.cells #[v] 25)
  have hs := hg.size
  have hl := hR.lt
  exact ⟨hc.kept (grown_of_below ba none) (by simp) (fun k e => by cases e), grown_over (grown_trans (grown_of_below hB (some b)) hg) (grown_of_below ba none) (fun k e => by cases e), (hR.of_block (hg.block _ hR.lt (fun e => by simp only [Option.some.injEq] at e; omega))).alloc _, one_row (heap_alloc_new _ _), hG.below ba, hb, by omega⟩
end

set_option maxHeartbeats 8000000 in
set_option maxRecDepth 100000 in
theorem c_twoQuads (cb b n : Nat) (A : Int) (w : World) (h : CurAt w cb b n A) (hA : A ≤ 400000) :
    Calls Try.prog 112 #[.pointer (some ⟨b, 0, none⟩)] w fun e w' => ∃ (u : Value) (p q : Int) (F : List Qd), e = .returned (.tuple #[.agg #[u], .int .i64 p, .int .i64 q]) ∧ GF w' w.heap.size u F ∧ (2 ≤ F.length ∧ F.length ≤ 401 ∧ KidsLe F) ∧ CurAt w' cb b n (A + 2000) ∧ w.grownBy w' (some b) := by
  have hbl := h.lt
  have R0 := hid (show (w.alloc (.cells #[.slice none 0 0] 25)).rowIs w.heap.size 25 1 (fun _ => .slice none 0 0) from one_row (heap_alloc_new w (.cells #[.slice none 0 0] 25)))
  have B0 := hid ((Below.refl w.heap.size w).alloc (Nat.le_refl _) (.cells #[.slice none 0 0] 25))
  have HCA := hid (h.kept (grown_of_below B0.out none) (by simp) (fun k e => by cases e))
  clear h
  go_enter Try.func112, Try.ntmps112
  go_wp2_with fail
  refine (c_drawForest cb b n A _ HCA.out (by omega)).mono ?_
  rintro e w1 ⟨u, q, F, rfl, hG, hD, hc, hg⟩
  have HD := hid hD
  have HG := hid (hG.mono (show w.heap.size ≤ _ from B0.out.size))
  obtain ⟨ua, uc, rfl, _⟩ := hG.form
  have HU := hid (FU.two R0.out B0.out hbl.2 hc hg HG.out)
  clear hG hD hc hg R0 B0 HCA HG
  have x0 := HU.out.cells.1
  have hFk := hid HD.out.2.2.1
  have hFl : F.length ≤ 1048576 := by have := HD.out.2.1; omega
  go_wp2_with fail
  generalize w1.alloc (.cells #[.slice ua F.length uc] 25) = W1 at *
  generalize w1.heap.size = bf at *
  refine (c_sLevelOf ua F uc q W1 HU.out.gf.at.1 hFl hFk.out HU.out.gf.at.2.2.1 HU.out.gf.at.2.2.2).mono ?_
  rintro e w2 ⟨rfl, b2⟩
  replace HU := hid (HU.out.below b2)
  clear b2 x0
  have HLV := hid (show thereB F q = true → 0 ≤ levV F q ∧ levV F q ≤ 5 ∧ goodF F = true from fun h => by
    obtain ⟨g1, g2, g3⟩ := there_bd h
    have := lev_nonneg g1 (q := q.toNat) (by omega)
    unfold levV
    rw [h, if_pos rfl]
    exact ⟨this.1, this.2, g1⟩)
  generalize thereB F q = th at *
  generalize levV F q = lv at *
  cases th
  case false =>
    clear HLV
    have FB := HU.out.below ((Below.refl w2.heap.size w2).drew)
    have keepR : Hid (∀ (W : World) (A' : Int), FU w W cb b n A' bf (.slice ua F.length uc) F → W.cell? ⟨bf, 0, none⟩ = some (.slice ua F.length uc)) := fun W A' h => h.cells.1
    have hFn := HD.out.2.1
    go_wp2_with fail
    go_region_held3 (fun W => W.cell? ⟨bf, 0, none⟩ = some (.slice ua F.length uc))
      (first | exact keepR.out _ _ FB | exact keepR.out _ _ HU.out | exact FB.retBox | go_keep)
      (first
        | (go_at_call 91; refine (c_pickAny cb b n _ (F.length : Int) _ FB.cur (by omega) (by omega)).mono ?_; rintro e w9 ⟨p, rfl, p0, p1, hc3, hg3⟩; replace FB := FB.cur' hc3 hg3; obtain ⟨y1, y2, y3, y4⟩ := FB.cells; clear hc3 hg3 p1))
    have RT := hid FB.ret
    have E0 := hid (FB.retRes (.slice ua F.length uc))
    go_wp2_with fail
    exact bodyPost_ret (v := .tuple #[.agg #[.slice ua F.length uc], .int .i64 q, .int .i64 p]) (by simp [results, Try.results112, go_sem, E0.out]) rfl ⟨_, q, p, F, rfl, RT.out.1, ⟨HD.out.1, HD.out.2.1, HD.out.2.2.1⟩, RT.out.2.1.more (by omega), RT.out.2.2⟩
  case true =>
    have HLQ := hid (HLV.out (by first | rfl | trivial))
    have hlv0 : 0 ≤ lv ∧ lv ≤ 5 := ⟨HLQ.out.1, HLQ.out.2.1⟩
    clear HLV
    go_wp2_with fail
    refine (c_one cb b n _ 12 w2 HU.out.cur (by omega) (by omega) (by omega)).mono ?_
    rintro e w3 ⟨x, rfl, hc3, hg3⟩
    replace HU := hid (HU.out.cur' hc3 hg3)
    clear hc3 hg3
    cases x
    case true =>
      have FB := HU.out.below ((Below.refl w3.heap.size w3).drew)
      have keepR : Hid (∀ (W : World) (A' : Int), FU w W cb b n A' bf (.slice ua F.length uc) F → W.cell? ⟨bf, 0, none⟩ = some (.slice ua F.length uc)) := fun W A' h => h.cells.1
      have hFn := HD.out.2.1
      go_wp2_with fail
      go_region_held3 (fun W => W.cell? ⟨bf, 0, none⟩ = some (.slice ua F.length uc))
        (first | exact keepR.out _ _ FB | exact keepR.out _ _ HU.out | exact FB.retBox | go_keep)
        (first
          | (go_at_call 91; refine (c_pickAny cb b n _ (F.length : Int) _ FB.cur (by omega) (by omega)).mono ?_; rintro e w9 ⟨p, rfl, p0, p1, hc3, hg3⟩; replace FB := FB.cur' hc3 hg3; obtain ⟨y1, y2, y3, y4⟩ := FB.cells; clear hc3 hg3 p1))
      have RT := hid FB.ret
      have E0 := hid (FB.retRes (.slice ua F.length uc))
      go_wp2_with fail
      exact bodyPost_ret (v := .tuple #[.agg #[.slice ua F.length uc], .int .i64 q, .int .i64 p]) (by simp [results, Try.results112, go_sem, E0.out]) rfl ⟨_, q, p, F, rfl, RT.out.1, ⟨HD.out.1, HD.out.2.1, HD.out.2.2.1⟩, RT.out.2.1.more (by omega), RT.out.2.2⟩
    case false =>
      go_wp2_with fail
      have hbf := HU.out.size
      have hbb := HU.out.bl
      have hlf := HU.out.lf
      have FB := HU.out.below ((Below.refl w3.heap.size w3).drew)
      have HKL := hid HD.out.2.2.1
      have HL4 := hid HD.out.2.1
      have keepR : Hid (∀ (W : World) (A' : Int), FU w W cb b n A' bf (.slice ua F.length uc) F → W.cell? ⟨bf, 0, none⟩ = some (.slice ua F.length uc)) := fun W A' h => h.cells.1
      apply cut6 (C := fun (_ u : Value) (tq : Int) (tb : Bool) (bg : Nat) (W : World) => FU w W cb b n (A + 1000 + 1 + 100) bf (.slice ua F.length uc) F ∧ W.rowIs bg 25 1 (fun _ => u) ∧ ∃ F', GF W w.heap.size u F' ∧ (tb = true → goodF F' = true))
      case main =>
        intro key
        go_region_held3 (fun W => W.cell? ⟨bf, 0, none⟩ = some (.slice ua F.length uc))
          (first | exact keepR.out _ _ FB | exact keepR.out _ _ HU.out | exact keepR.out _ _ (FB.below ((Below.refl _ _).alloc (Nat.le_refl _) _)) | exact keepR.out _ _ (FB.setBox RZ.out (by omega) (by omega) _) | go_keep)
          (first
            | (go_at_call 74; refine (c_square cb b n _ lv _ (FU.cur (show FU w _ cb b n _ bf (.slice ua F.length uc) F by first | exact FB | exact FB.below ((Below.refl _ _).alloc (Nat.le_refl _) _))) (by omega) (by omega) (by omega)).mono ?_; rintro e ws ⟨sv0, L, rfl, hOL, hrL, hLl, hIn, hcs, hgs⟩; obtain ⟨sa, sc, rfl, hsL⟩ := hOL.form; (first | have RZ := hid (box_newGD hgs (by omega)) | skip); (try have hl1 := RZ.out.lt); replace FB := FU.cur' (show FU w _ cb b n _ bf (.slice ua F.length uc) F by first | exact FB | exact FB.below ((Below.refl _ _).alloc (Nat.le_refl _) _)) hcs hgs; (first | have hzs : w3.heap.size ≤ ws.heap.size := hgs.size | have hzs : w3.heap.size + 1 ≤ ws.heap.size := (by have := hgs.size; simpa using this)); have HSL := hid hsL; clear hOL hrL hIn hcs hgs hsL)
            | (go_at_call 17; refine (c_sTreeOf ua F uc lv sa L sc _ (FU.gf (show FU w _ cb b n _ bf (.slice ua F.length uc) F by first | exact FB | exact FB.below ((Below.refl _ _).alloc (Nat.le_refl _) _))).at.1 (by have := HL4.out; omega) HKL.out FB.gf.at.2.2.1 FB.gf.at.2.2.2 (FU.gf (show FU w _ cb b n _ bf (.slice ua F.length uc) F by first | exact FB | exact FB.below ((Below.refl _ _).alloc (Nat.le_refl _) _))).at.2.1 (by first | exact HSL.out | exact HSL.out.below ((Below.refl _ _).alloc (Nat.le_refl _) _)) (by omega)).mono ?_; rintro e wt ⟨u0, rfl, hG, bt⟩; have HG := hid (hG.mono (show w.heap.size ≤ _ by first | (have := FB.size; omega) | (have := FB.size; rw [alloc_size]; omega))); obtain ⟨va, vc, rfl, _⟩ := hG.form; (first | have RZ := hid (box_new bt) | replace RZ := hid (RZ.out.of_block (bt.block _ RZ.out.lt)) | skip); replace FB := FU.below (show FU w _ cb b n _ bf (.slice ua F.length uc) F by first | exact FB | exact FB.below ((Below.refl _ _).alloc (Nat.le_refl _) _)) bt; (try have r0 := RZ.out.cell (i := 0) (by omega)); (try have f0 := RZ.out.frozen 0); clear hG bt))
        · have hT : tofB F lv L = true → goodF (tofF F lv L) = true := fun h => (tof_good h).1
          have FB2 := FB.below ((Below.refl wt.heap.size wt).alloc (Nat.le_refl _) (.cells #[.slice va (tofF F lv L).length vc] 25))
          have HG2 := HG.out.below ((Below.refl wt.heap.size wt).alloc (Nat.le_refl _) (.cells #[.slice va (tofF F lv L).length vc] 25))
          have HR2 := one_row (heap_alloc_new wt (.cells #[.slice va (tofF F lv L).length vc] 25))
          generalize wt.alloc (.cells #[.slice va (tofF F lv L).length vc] 25) = W9 at FB2 HG2 HR2 ⊢
          generalize tofF F lv L = TF at HG2 HR2 hT ⊢
          generalize tofQ F lv L = tq at hT ⊢
          generalize tofB F lv L = tb at hT ⊢
          generalize wt.heap.size = bg at HR2 ⊢
          generalize Value.slice va TF.length vc = u at HG2 HR2 ⊢
          generalize Value.slice sa L.length sc = sv
          exact key.out sv u tq tb bg W9 ⟨FB2, HR2, TF, HG2, hT⟩
        all_goals
          exact key.out _ _ _ _ _ _ ⟨FB.setBox RZ.out (by omega) (by omega) _, own_next RZ.out _, _, HG.out.setRow (o := 0) RZ.out (by decide) (by decide) _, fun h => (tof_good h).1⟩
      case pf =>
        intro sv u tq tb bg W hCC
        obtain ⟨hFU, hRW, F', hG', hT⟩ := hCC
        obtain ⟨ga, gc, rfl, _⟩ := hG'.form
        have HU9 := hid hFU
        have HG5 := hid hG'
        have g0 := hRW.cell (i := 0) (by omega)
        have HRW := hid hRW
        clear hFU hG' hRW HU keepR
        cases tb
        case false =>
          clear g0
          have RT := hid HU9.out.ret
          obtain ⟨z1, z2, z3, z4⟩ := HU9.out.cells
          have E0 := hid (HU9.out.retRes (.slice ua F.length uc))
          go_wp2_with fail
          exact bodyPost_ret (v := .tuple #[.agg #[.slice ua F.length uc], .int .i64 q, .int .i64 q]) (by simp [results, Try.results112, go_sem, E0.out]) rfl ⟨_, q, q, F, rfl, RT.out.1, ⟨HD.out.1, HD.out.2.1, HD.out.2.2.1⟩, RT.out.2.1.more (by omega), RT.out.2.2⟩
        case true =>
          have HT := hid (hT (by first | rfl | trivial))
          clear hT
          have hg2 := good_len2 HT.out
          have RT := hid (HU9.out.setBoxRes HG5.out)
          obtain ⟨z1, z2, z3, z4⟩ := HU9.out.cells
          have E0 := hid (HU9.out.retRes (.slice ga F'.length gc))
          go_wp2_with fail
          exact bodyPost_ret (v := .tuple #[.agg #[.slice ga F'.length gc], .int .i64 q, .int .i64 tq]) (by simp [results, Try.results112, go_sem, E0.out]) rfl ⟨_, q, tq, F', rfl, RT.out.1, ⟨hg2.1, by have := hg2.2; omega, good_kidsLe HT.out⟩, RT.out.2.1.more (by omega), RT.out.2.2⟩

set_option maxHeartbeats 2000000 in
set_option maxRecDepth 100000 in
theorem c_DrawUnionOf (a : Option Addr) (l : List Int) (ca : Nat) (w : World) (ha : BSeg w a l) (hl : l.length ≤ 9223372036854775807) :
    Calls Try.prog 52 #[.slice a l.length ca] w fun e w' => ∃ (u : Value) (p q : Int) (F : List Qd), e = .returned (.tuple #[.agg #[u], .int .i64 p, .int .i64 q]) ∧ GF w' w.heap.size u F ∧ (2 ≤ F.length ∧ F.length ≤ 401 ∧ KidsLe F) ∧ Below w.heap.size w w' := by
  obtain ⟨h1, h2, h3, h4⟩ := drw_new w a l ca ha hl
  have HC := hid h1
  have HR := hid h2
  have HB := hid h3
  have HL := hid h4
  clear ha h1 h2 h3 h4
  go_enter Try.func52, Try.ntmps52
  go_wp2_with fail
  refine (c_twoQuads (w.heap.size + 1) (w.heap.size + 1) l.length 0 _ HC.out (by omega)).mono ?_
  rintro e w1 ⟨u, p, q, F, rfl, hG, hF, hc, hg⟩
  have HF := hid hF
  have HG := hid (hG.mono (show w.heap.size ≤ _ from HB.out.size))
  obtain ⟨ua, uc, rfl, _⟩ := hG.form
  have R1 := HR.out.of_block (hg.block _ HR.out.lt (by simp))
  have r0 := R1.cell (i := 0) (by omega)
  have f0 := R1.frozen 0
  have E0 := hid ((R1.set 0 (.slice ua F.length uc)).cell (i := 0) (by omega))
  simp only [if_true] at E0
  have HG2 := hid (HG.out.setRow (o := 0) R1 (by decide) (by decide) (.slice ua F.length uc))
  have HB2 := hid ((below_cur' HB.out hg (by omega)).setCell (p := ⟨w.heap.size, 0, none⟩) (Nat.le_refl _) (.slice ua F.length uc))
  clear hG hF hc hg R1 HC HR HB HL HG
  go_wp2_with fail
  exact bodyPost_ret (v := .tuple #[.agg #[.slice ua F.length uc], .int .i64 p, .int .i64 q]) (by simp [results, Try.results52, go_sem, E0.out]) rfl ⟨_, p, q, F, rfl, HG2.out, HF.out, HB2.out⟩

end Go.Proofs.Ytmapbkefndbnnaa

namespace Go.Proofs.Ytmapbkefndbnnaa
open Go.RowKit
set_option linter.unusedVariables false
set_option linter.unusedSimpArgs false
attribute [local go_sem ↓] Go.wp_at_zero Go.wp_at_succ

/-- What DrawIsFramed answers. -/
def IsfP (w : World) (e : Ending) (w' : World) : Prop := ∃ (u : Value) (q : Int) (F : List Qd), e = .returned (.tuple #[.agg #[u], .int .i64 q]) ∧ GF w' w.heap.size u F ∧ (F.length ≤ 1048576 ∧ KidsLe F) ∧ Below w.heap.size w w'

theorem DU.setBoxRes {w W : World} {b n bf : Nat} {A : Int} {v u : Value} {F G : List Qd} (h : DU w W b n A bf v F) (hu : GF W w.heap.size u G) : GF (W.setCell ⟨w.heap.size, 0, none⟩ u) w.heap.size u G ∧ Below w.heap.size w (W.setCell ⟨w.heap.size, 0, none⟩ u) ∧ (W.setCell ⟨w.heap.size, 0, none⟩ u).cell? ⟨w.heap.size, 0, none⟩ = some u := by
  have e := (h.res.set 0 u).cell (i := 0) (by omega)
  simp only [if_true] at e
  exact ⟨hu.setRow (o := 0) h.res (by decide) (by decide) u, h.bel.setCell (p := ⟨w.heap.size, 0, none⟩) (Nat.le_refl _) u, e⟩

set_option maxHeartbeats 4000000 in
set_option maxRecDepth 100000 in
theorem c_DrawIsFramed (a : Option Addr) (l : List Int) (ca : Nat) (w : World) (ha : BSeg w a l) (hl : l.length ≤ 9223372036854775807) :
    Calls Try.prog 64 #[.slice a l.length ca] w (IsfP w) := by
  obtain ⟨h1, h2, h3, h4⟩ := drw_new w a l ca ha hl
  have HC := hid h1
  have HR := hid h2
  have HB := hid h3
  have HL := hid h4
  clear ha h1 h2 h3 h4
  go_enter Try.func64, Try.ntmps64
  go_wp2_with fail
  refine (c_drawForest (w.heap.size + 1) (w.heap.size + 1) l.length 0 _ HC.out (by omega)).mono ?_
  rintro e w1 ⟨u, q, F, rfl, hG, hD, hc, hg⟩
  have HD := hid hD
  have HG := hid hG
  obtain ⟨ua, uc, rfl, _⟩ := hG.form
  have DD := hid (DU.new HR.out HB.out (by omega) HL.out HG.out hc hg)
  have hlw := HL.out
  have hlg := hg.size
  clear hD hG hc hg HC HR HB HL HG
  have x0 := DD.out.cells.1
  have hFk := hid HD.out.2.2.1
  have hFl : F.length ≤ 1048576 := by have := HD.out.2.1; omega
  go_wp2_with fail
  generalize w1.alloc (.cells #[.slice ua F.length uc] 25) = W1 at *
  generalize w1.heap.size = bf at *
  refine (c_sFrameOf ua F uc q W1 DD.out.gf.at.1 hFl hFk.out DD.out.gf.at.2.2.1 DD.out.gf.at.2.2.2 DD.out.gf.at.2.1).mono ?_
  rintro e w2 ⟨u2, rfl, hG2, b2⟩
  have hsm := ans_small (frmOK F q) (frmR F q) frm_grows
  have HSM := hid (⟨hsm.1, hsm.2.1⟩ : _ ∧ _)
  have hw1 : w.heap.size ≤ W1.heap.size := DD.out.bel.size
  have hw2 : w.heap.size + 1 < W1.heap.size := DD.out.cur.lt.2
  have hw3 : W1.heap.size ≤ w2.heap.size := b2.size
  replace DD := hid (DD.out.below b2)
  clear hsm x0
  obtain ⟨ga, gc, rfl, _⟩ := hG2.form
  generalize ansF (frmOK F q) (frmR F q) = G at *
  generalize ansQ (frmOK F q) (frmR F q) = k at *
  generalize ansB (frmOK F q) (frmR F q) = ok at *
  have ba := (Below.refl w2.heap.size w2).alloc (Nat.le_refl _) (.cells #[.slice ga G.length gc] 25)
  have HG3 := hid (hG2.below ba)
  have HR2 := hid (one_row (heap_alloc_new w2 (.cells #[.slice ga G.length gc] 25)))
  replace DD := hid (DD.out.below ba)
  clear hG2 ba b2
  cases ok
  case false =>
    obtain ⟨y1, y2, y3⟩ := DD.out.cells
    obtain ⟨r1, r2, r3, _⟩ := DD.out.ret
    have R1 := hid r1
    have R2 := hid r2
    have R3 := hid r3
    clear r1 r2 r3
    go_wp2_with fail
    exact bodyPost_ret (v := .tuple #[.agg #[.slice ua F.length uc], .int .i64 q]) (by simp [results, Try.results64, go_sem, R3.out]) rfl ⟨_, q, F, rfl, R1.out, ⟨hFl, hFk.out⟩, R2.out⟩
  case true =>
    go_wp2_with fail
    generalize w2.alloc (.cells #[.slice ga G.length gc] 25) = W2 at *
    generalize w2.heap.size = bg at *
    refine (c_one _ _ _ _ 2 W2 DD.out.cur (by omega) (by omega) (by omega)).mono ?_
    rintro e w3 ⟨x, rfl, hc3, hg3⟩
    have HG4 := hid ((HG3.out.grown hg3 (fun k e => by simp only [Option.some.injEq] at e; omega)).mono hw1)
    have HR4 := hid (HR2.out.of_block (hg3.block _ HR2.out.lt (fun e => by simp only [Option.some.injEq] at e; omega)))
    replace DD := hid (DD.out.cur' hc3 hg3)
    clear hc3 hg3 HG3 HR2
    obtain ⟨y1, y2, y3⟩ := DD.out.cells
    have g1 := HR4.out.cell (i := 0) (by omega)
    cases x
    case false =>
      clear g1
      obtain ⟨r1, r2, r3, _⟩ := DD.out.ret
      have R1 := hid r1
      have R2 := hid r2
      have R3 := hid r3
      clear r1 r2 r3
      go_wp2_with fail
      exact bodyPost_ret (v := .tuple #[.agg #[.slice ua F.length uc], .int .i64 q]) (by simp [results, Try.results64, go_sem, R3.out]) rfl ⟨_, q, F, rfl, R1.out, ⟨hFl, hFk.out⟩, R2.out⟩
    case true =>
      obtain ⟨r1, r2, r3⟩ := DD.out.setBoxRes HG4.out
      have R1 := hid r1
      have R2 := hid r2
      have R3 := hid r3
      clear r1 r2 r3 y1
      go_wp2_with fail
      exact bodyPost_ret (v := .tuple #[.agg #[.slice ga G.length gc], .int .i64 k]) (by simp [results, Try.results64, go_sem, R3.out]) rfl ⟨_, k, G, rfl, R1.out, HSM.out, R2.out⟩

end Go.Proofs.Ytmapbkefndbnnaa

namespace Go.Proofs.Ytmapbkefndbnnaa
open Go.RowKit
set_option linter.unusedVariables false
set_option linter.unusedSimpArgs false
attribute [local go_sem ↓] Go.wp_at_zero Go.wp_at_succ

/-- All orders of a region come to one thing. -/
theorem cutB {C P : Nat → Int → Int → Int → Int → World → Prop} {G : Prop} (main : KeyP (∀ a b c d e W, C a b c d e W → P a b c d e W) → G) (pf : ∀ a b c d e W, C a b c d e W → P a b c d e W) : G := main ⟨pf⟩
theorem DU.setC {w W : World} {b n bf B : Nat} {A : Int} {v : Value} {F : List Qd} {c : Cl} (h : DU w W b n A bf v F) (hC : CR W B c) (hB : b < B) (hne : B ≠ bf) (o : Nat) (u : Value) : DU w (W.setCell ⟨B, o, none⟩ u) b n A bf v F := by
  have hb := h.lb
  have hg := grown_set1 W B o u
  exact ⟨h.cur.kept hg (fun e => by simp only [Option.some.injEq] at e; omega) (fun k e => by simp only [Option.some.injEq] at e; omega), h.bel.setCell (p := ⟨B, o, none⟩) (by dsimp only; omega) u, h.res.setOther (a := ⟨B, o, none⟩) (by dsimp only; omega) u, h.box.setOther (a := ⟨B, o, none⟩) (by dsimp only; omega) u, h.gf.setRow (o := o) hC (by decide) (by decide) u, h.lb, h.lf⟩
theorem CR.set1 {W : World} {B : Nat} {c : Cl} (h : CR W B c) (x : Int) : CR (W.setCell ⟨B, 0, none⟩ (.int .i64 x)) B (x, c.2) := by
  refine (World.rowIs.set h 0 (.int .i64 x)).congr fun j hj => ?_
  rcases (show j = 0 ∨ j = 1 by omega) with rfl | rfl <;> rfl
theorem cr_newG {W W' : World} {b : Nat} (hg : (W.alloc (.cells #[.int .i64 0, .int .i64 0] 39)).grownBy W' (some b)) (hb : b < W.heap.size) : CR W' W.heap.size (0, 0) := (CR.new W (0, 0)).cur hg (by omega)
theorem cr_newGD {W W' : World} {b : Nat} (hg : (W.alloc (.cells #[.int .i64 0, .int .i64 0] 39)).drew.grownBy W' (some b)) (hb : b < W.heap.size) : CR W' W.heap.size (0, 0) :=
  cr_newG (b := b) ⟨hg.os, hg.tape, hg.output, hg.size, hg.block⟩ hb
/-- What stands while the draw runs. -/
structure DB (w W : World) (b n : Nat) (A : Int) (bf : Nat) (v : Value) (F : List Qd) (ba : Nat) (c : Cl) : Prop where
  du : DU w W b n A bf v F
  cx : CR W (w.heap.size + 1) (0, 0)
  cy : CR W (w.heap.size + 2) (0, 0)
  ca : CR W ba c
  n : w.heap.size + 2 < b ∧ b < bf ∧ bf < ba
section
variable {w W W' : World} {b n bf ba bb : Nat} {A A' : Int} {v : Value} {F : List Qd} {c d : Cl}
theorem DB.below (h : DB w W b n A bf v F ba c) (hb : Below W.heap.size W W') : DB w W' b n A bf v F ba c := ⟨h.du.below hb, h.cx.below hb, h.cy.below hb, h.ca.below hb, h.n⟩
theorem DB.cur' (h : DB w W b n A bf v F ba c) (hc : CurAt W' b b n A') (hg : W.grownBy W' (some b)) : DB w W' b n A' bf v F ba c := by
  obtain ⟨n1, n2, n3⟩ := h.n
  exact ⟨h.du.cur' hc hg, h.cx.cur hg (by omega), h.cy.cur hg (by omega), h.ca.cur hg (by omega), h.n⟩
theorem DB.setC (h : DB w W b n A bf v F ba c) (hC : CR W bb d) (hne : ba < bb) (o : Nat) (u : Value) : DB w (W.setCell ⟨bb, o, none⟩ u) b n A bf v F ba c := by
  obtain ⟨n1, n2, n3⟩ := h.n
  exact ⟨h.du.setC hC (by omega) (by omega) o u, h.cx.other (by omega) u, h.cy.other (by omega) u, h.ca.other (by omega) u, h.n⟩
theorem DB.cells (h : DB w W b n A bf v F ba c) : W.cell? ⟨ba, 0, none⟩ = some (.int .i64 c.1) ∧ W.cell? ⟨ba, 1, none⟩ = some (.int .i64 c.2) := ⟨h.ca.cells.1, h.ca.cells.2.1⟩
/-- The cells that the last statement reads. -/
def S5 (W : World) (bf ba bb : Nat) (v : Value) (c d : Cl) : Prop := W.cell? ⟨bf, 0, none⟩ = some v ∧ W.cell? ⟨ba, 0, none⟩ = some (.int .i64 c.1) ∧ W.cell? ⟨ba, 1, none⟩ = some (.int .i64 c.2) ∧ W.cell? ⟨bb, 0, none⟩ = some (.int .i64 d.1) ∧ W.cell? ⟨bb, 1, none⟩ = some (.int .i64 d.2)
/-- What stands while the last statement is done: cells at X and Y besides. -/
structure DE (w W : World) (bf ba bb : Nat) (v : Value) (F : List Qd) (c d x y : Cl) : Prop where
  ret : DRet w W bf v F
  cx : CR W (w.heap.size + 1) x
  cy : CR W (w.heap.size + 2) y
  ca : CR W ba c
  cb : CR W bb d
  n : w.heap.size + 2 < bf ∧ w.heap.size + 2 < ba ∧ w.heap.size + 2 < bb
theorem DB.ret (h : DB w W b n A bf v F ba c) (hb : CR W bb d) (hn : w.heap.size + 2 < bb) : DE w (W.setCell ⟨w.heap.size, 0, none⟩ v) bf ba bb v F c d (0, 0) (0, 0) := by
  obtain ⟨n1, n2, n3⟩ := h.n
  exact ⟨h.du.ret', h.cx.other (by omega) v, h.cy.other (by omega) v, h.ca.other (by omega) v, hb.other (by omega) v, by omega, by omega, hn⟩
theorem DE.setX {x y : Cl} (h : DE w W bf ba bb v F c d x y) (s t : Int) : DE w ((W.setCell ⟨w.heap.size + 1, 0, none⟩ (.int .i64 s)).setCell ⟨w.heap.size + 1, 1, none⟩ (.int .i64 t)) bf ba bb v F c d (s, t) y := by
  obtain ⟨n1, n2, n3⟩ := h.n
  exact ⟨h.ret.setC h.cx (by omega) (by omega) s t, h.cx.set2 s t, (h.cy.other (by omega) _).other (by omega) _, (h.ca.other (by omega) _).other (by omega) _, (h.cb.other (by omega) _).other (by omega) _, h.n⟩
theorem DE.setY {x y : Cl} (h : DE w W bf ba bb v F c d x y) (s t : Int) : DE w ((W.setCell ⟨w.heap.size + 2, 0, none⟩ (.int .i64 s)).setCell ⟨w.heap.size + 2, 1, none⟩ (.int .i64 t)) bf ba bb v F c d x (s, t) := by
  obtain ⟨n1, n2, n3⟩ := h.n
  exact ⟨h.ret.setC h.cy (by omega) (by omega) s t, (h.cx.other (by omega) _).other (by omega) _, h.cy.set2 s t, (h.ca.other (by omega) _).other (by omega) _, (h.cb.other (by omega) _).other (by omega) _, h.n⟩
theorem DE.drew {x y : Cl} (h : DE w W bf ba bb v F c d x y) : DE w W.drew bf ba bb v F c d x y := by
  have hb := (Below.refl W.heap.size W).drew
  exact ⟨⟨h.ret.gf.below hb, h.ret.bel.trans (hb.mono h.ret.bel.size), h.ret.res.of_block (hb.block _ h.ret.res.lt), h.ret.box.of_block (hb.block _ h.ret.box.lt)⟩, h.cx.below hb, h.cy.below hb, h.ca.below hb, h.cb.below hb, h.n⟩
theorem DE.s5 {x y : Cl} (h : DE w W bf ba bb v F c d x y) : S5 W bf ba bb v c d := ⟨h.ret.box.cell (i := 0) (by omega), h.ca.cells.1, h.ca.cells.2.1, h.cb.cells.1, h.cb.cells.2.1⟩
theorem DB.s5 (h : DB w W b n A bf v F ba c) (hb : CR W bb d) : S5 W bf ba bb v c d := ⟨h.du.box.cell (i := 0) (by omega), h.ca.cells.1, h.ca.cells.2.1, hb.cells.1, hb.cells.2.1⟩
theorem DB.frz (h : DB w W b n A bf v F ba c) : W.cell? ⟨w.heap.size, 0, none⟩ = some (.slice none 0 0) ∧ W.frozen? ⟨w.heap.size, 0, none⟩ = false ∧ (W.cell? ⟨w.heap.size + 1, 0, none⟩ = some (.int .i64 0) ∧ W.cell? ⟨w.heap.size + 1, 1, none⟩ = some (.int .i64 0) ∧ W.frozen? ⟨w.heap.size + 1, 0, none⟩ = false ∧ W.frozen? ⟨w.heap.size + 1, 1, none⟩ = false) ∧ (W.cell? ⟨w.heap.size + 2, 0, none⟩ = some (.int .i64 0) ∧ W.cell? ⟨w.heap.size + 2, 1, none⟩ = some (.int .i64 0) ∧ W.frozen? ⟨w.heap.size + 2, 0, none⟩ = false ∧ W.frozen? ⟨w.heap.size + 2, 1, none⟩ = false) :=
  ⟨h.du.res.cell (i := 0) (by omega), h.du.res.frozen 0, h.cx.cells, h.cy.cells⟩
end

/-- What DrawClearBox answers. -/
def ClrP (w : World) (e : Ending) (w' : World) : Prop := ∃ (u : Value) (q : Int) (F : List Qd) (c d : Cl), e = .returned (.tuple #[.agg #[u], .int .i64 q, .agg #[.int .i64 c.1, .int .i64 c.2], .agg #[.int .i64 d.1, .int .i64 d.2]]) ∧ GF w' w.heap.size u F ∧ (2 ≤ F.length ∧ F.length ≤ 401 ∧ KidsLe F) ∧ Below w.heap.size w w'
/-- The cursor of the draw, behind the answer's boxes. -/
abbrev drWb (w : World) (a : Option Addr) (n ca : Nat) : World := curW (((w.alloc (.cells #[.slice none 0 0] 25)).alloc (.cells #[.int .i64 0, .int .i64 0] 39)).alloc (.cells #[.int .i64 0, .int .i64 0] 39)) a n ca
theorem drwb_new (w : World) (a : Option Addr) (l : List Int) (ca : Nat) (ha : BSeg w a l) (hl : l.length ≤ 9223372036854775807) : CurAt (drWb w a l.length ca) (w.heap.size + 3) (w.heap.size + 3) l.length 0 ∧ (drWb w a l.length ca).rowIs w.heap.size 25 1 (fun _ => .slice none 0 0) ∧ CR (drWb w a l.length ca) (w.heap.size + 1) (0, 0) ∧ CR (drWb w a l.length ca) (w.heap.size + 2) (0, 0) ∧ Below w.heap.size w (drWb w a l.length ca) ∧ w.heap.size + 3 < (drWb w a l.length ca).heap.size := by
  have b1 := (Below.refl w.heap.size w).alloc (Nat.le_refl _) (.cells #[.slice none 0 0] 25)
  have s1 : (w.alloc (.cells #[.slice none 0 0] 25)).heap.size = w.heap.size + 1 := by simp
  have b2 := b1.alloc (by rw [s1]; omega) (.cells #[.int .i64 0, .int .i64 0] 39)
  have s2 : ((w.alloc (.cells #[.slice none 0 0] 25)).alloc (.cells #[.int .i64 0, .int .i64 0] 39)).heap.size = w.heap.size + 2 := by simp
  have b3 := b2.alloc (by rw [s2]; omega) (.cells #[.int .i64 0, .int .i64 0] 39)
  have s3 : (((w.alloc (.cells #[.slice none 0 0] 25)).alloc (.cells #[.int .i64 0, .int .i64 0] 39)).alloc (.cells #[.int .i64 0, .int .i64 0] 39)).heap.size = w.heap.size + 3 := by simp
  have h := cur_new (((w.alloc (.cells #[.slice none 0 0] 25)).alloc (.cells #[.int .i64 0, .int .i64 0] 39)).alloc (.cells #[.int .i64 0, .int .i64 0] 39)) a l ca (ha.below b3) hl
  rw [s3] at h
  have c1 := CR.new (w.alloc (.cells #[.slice none 0 0] 25)) (0, 0)
  rw [s1] at c1
  have c2 := CR.new ((w.alloc (.cells #[.slice none 0 0] 25)).alloc (.cells #[.int .i64 0, .int .i64 0] 39)) (0, 0)
  rw [s2] at c2
  exact ⟨h, (((one_row (heap_alloc_new w _)).alloc _).alloc _).alloc _, (c1.below ((Below.refl _ _).alloc (Nat.le_refl _) _)).below ((Below.refl _ _).alloc (Nat.le_refl _) _), c2.below ((Below.refl _ _).alloc (Nat.le_refl _) _), b3.alloc (by rw [s3]; omega) _, by simp⟩

set_option maxHeartbeats 4000000 in
set_option maxRecDepth 100000 in
theorem c_DrawClearBox (a : Option Addr) (l : List Int) (ca : Nat) (w : World) (ha : BSeg w a l) (hl : l.length ≤ 9223372036854775807) :
    Calls Try.prog 47 #[.slice a l.length ca] w (ClrP w) := by
  obtain ⟨h1, h2, h5, h6, h3, h4⟩ := drwb_new w a l ca ha hl
  have HC := hid h1
  have HR := hid h2
  have HB := hid h3
  have HL := hid h4
  have HX := hid h5
  have HY := hid h6
  clear ha h1 h2 h3 h4 h5 h6
  go_enter Try.func47, Try.ntmps47
  go_wp2_with fail
  refine (c_drawForest (w.heap.size + 3) (w.heap.size + 3) l.length 0 _ HC.out (by omega)).mono ?_
  rintro e w1 ⟨u, q, F, rfl, hG, hD, hc, hg⟩
  have HD := hid hD
  have HG := hid hG
  obtain ⟨ua, uc, rfl, _⟩ := hG.form
  have DD := hid (DU.new HR.out HB.out (by omega) HL.out HG.out hc hg)
  have FX := hid ((HX.out.cur hg (by omega)).below ((Below.refl w1.heap.size w1).alloc (Nat.le_refl _) (.cells #[.slice ua F.length uc] 25)))
  have FY := hid ((HY.out.cur hg (by omega)).below ((Below.refl w1.heap.size w1).alloc (Nat.le_refl _) (.cells #[.slice ua F.length uc] 25)))
  clear hD hG hc hg HC HR HB HL HG HX HY
  go_wp2_with fail
  generalize w1.alloc (.cells #[.slice ua F.length uc] 25) = W1 at *
  generalize w1.heap.size = bf at *
  have hlf := DD.out.lf
  refine (c_pick (w.heap.size + 3) (w.heap.size + 3) l.length _ 6 W1 DD.out.cur (by omega) (by omega) (by omega)).mono ?_
  rintro e w2 ⟨x1, rfl, x10, x11, hc2, hg2⟩
  replace DD := hid (DD.out.cur' hc2 hg2)
  replace FX := hid (FX.out.cur hg2 (by omega))
  replace FY := hid (FY.out.cur hg2 (by omega))
  clear hc2 hg2
  go_wp2_with fail
  refine (c_pick (w.heap.size + 3) (w.heap.size + 3) l.length _ 6 w2 DD.out.cur (by omega) (by omega) (by omega)).mono ?_
  rintro e w3 ⟨y1, rfl, y10, y11, hc2, hg2⟩
  replace DD := hid (DD.out.cur' hc2 hg2)
  replace FX := hid (FX.out.cur hg2 (by omega))
  replace FY := hid (FY.out.cur hg2 (by omega))
  clear hc2 hg2
  obtain ⟨c, hc⟩ : ∃ c : Cl, c = (x1 - 1, y1 - 1) := ⟨_, rfl⟩
  have FA := hid (CR.new w3 (x1 - 1, y1 - 1))
  have ba := (Below.refl w3.heap.size w3).alloc (Nat.le_refl _) (.cells #[.int .i64 (x1 - 1), .int .i64 (y1 - 1)] 39)
  have hl3 := DD.out.cur.lt
  have hf3 := DD.out.box.lt
  replace DD := hid (DD.out.below ba)
  replace FX := hid (FX.out.below ba)
  replace FY := hid (FY.out.below ba)
  have hn3 : w.heap.size + 2 < w.heap.size + 3 ∧ w.heap.size + 3 < bf ∧ bf < w3.heap.size := by omega
  have D0 := hid (show DB w (w3.alloc (.cells #[.int .i64 (x1 - 1), .int .i64 (y1 - 1)] 39)) (w.heap.size + 3) l.length (0 + 1000 + 1 + 1) bf (.slice ua F.length uc) F w3.heap.size (x1 - 1, y1 - 1) from ⟨DD.out, FX.out, FY.out, FA.out, hn3⟩)
  clear DD FX FY FA ba hc hl3 hf3
  go_wp2_with fail
  generalize w3.alloc (.cells #[.int .i64 (x1 - 1), .int .i64 (y1 - 1)] 39) = W3 at *
  generalize w3.heap.size = ba at *
  generalize x1 - 1 = xa at *
  generalize y1 - 1 = ya at *
  have FB := D0.out.below ((Below.refl W3.heap.size W3).drew)
  have hsz : ba < W3.heap.size := D0.out.ca.lt
  apply cutB (C := fun (bb : Nat) (_ _ x2 y2 : Int) (W : World) => DB w W (w.heap.size + 3) l.length (0 + 1000 + 1 + 1 + 1 + 1) bf (.slice ua F.length uc) F ba (xa, ya) ∧ CR W bb (x2, y2) ∧ ba < bb)
  case main =>
    intro key
    go_region_held3 (fun W => W.cell? ⟨ba, 0, none⟩ = some (.int .i64 xa) ∧ W.cell? ⟨ba, 1, none⟩ = some (.int .i64 ya))
      (first | exact FB.cells | exact D0.out.cells | exact (FB.below ((Below.refl _ _).alloc (Nat.le_refl _) _)).cells | exact (FB.setC RZ.out (by omega) _ _).cells | exact ((FB.setC RZ.out (by omega) _ _).setC (RZ.out.set1 _) (by omega) _ _).cells | go_keep)
      (first
        | (go_at_call 91; have _g := x20; refine (c_pick (w.heap.size + 3) (w.heap.size + 3) l.length _ 5 _ (DB.du (show DB w _ _ l.length _ bf (.slice ua F.length uc) F ba (xa, ya) by first | exact FB | exact FB.below ((Below.refl _ _).alloc (Nat.le_refl _) _))).cur (by omega) (by omega) (by omega)).mono ?_; rintro e w5 ⟨y2, rfl, y20, y21, hc3, hg3⟩; replace FB := DB.cur' (show DB w _ _ l.length _ bf (.slice ua F.length uc) F ba (xa, ya) by first | exact FB | exact FB.below ((Below.refl _ _).alloc (Nat.le_refl _) _)) hc3 hg3; have hz5 := FB.ca.lt; (first | replace RZ := hid (RZ.out.cur hg3 (by omega)) | have RZ := hid (cr_newGD hg3 (by omega)) | have RZ := hid (cr_newG hg3 (by omega)) | skip); (try obtain ⟨r1, r2, r3, r4⟩ := RZ.out.cells); clear hc3 hg3)
        | (go_at_call 91; refine (c_pick (w.heap.size + 3) (w.heap.size + 3) l.length _ 5 _ (DB.du (show DB w _ _ l.length _ bf (.slice ua F.length uc) F ba (xa, ya) by first | exact FB | exact FB.below ((Below.refl _ _).alloc (Nat.le_refl _) _))).cur (by omega) (by omega) (by omega)).mono ?_; rintro e w4 ⟨x2, rfl, x20, x21, hc3, hg3⟩; replace FB := DB.cur' (show DB w _ _ l.length _ bf (.slice ua F.length uc) F ba (xa, ya) by first | exact FB | exact FB.below ((Below.refl _ _).alloc (Nat.le_refl _) _)) hc3 hg3; have hz4 := FB.ca.lt; (first | have RZ := hid (cr_newGD hg3 (by omega)) | have RZ := hid (cr_newG hg3 (by omega)) | skip); clear hc3 hg3))
    · have FB2 := FB.below ((Below.refl w5.heap.size w5).alloc (Nat.le_refl _) (.cells #[.int .i64 (IntKind.i64.wrap (xa + x2)), .int .i64 (IntKind.i64.wrap (ya + y2))] 39))
      have R2 := CR.new w5 (IntKind.i64.wrap (xa + x2), IntKind.i64.wrap (ya + y2))
      generalize w5.alloc (.cells #[.int .i64 (IntKind.i64.wrap (xa + x2)), .int .i64 (IntKind.i64.wrap (ya + y2))] 39) = W9 at FB2 R2 ⊢
      generalize IntKind.i64.wrap (xa + x2) = X at R2 ⊢
      generalize IntKind.i64.wrap (ya + y2) = Y at R2 ⊢
      generalize w5.heap.size = bb at R2 hz5 ⊢
      exact key.out bb x2 y2 X Y W9 ⟨FB2, R2, hz5⟩
    all_goals
      exact key.out _ _ _ _ _ _ ⟨(FB.setC RZ.out (by omega) _ _).setC (RZ.out.set1 _) (by omega) _ _, RZ.out.set2 _ _, by omega⟩
  case pf =>
    intro bb x2 y2 X Y W ⟨hD, hR, hn⟩
    have D1 := hid hD
    have R1 := hid hR
    clear hD hR D0
    clear FB
    go_wp2_with fail
    refine (c_one (w.heap.size + 3) (w.heap.size + 3) l.length _ 20 W D1.out.du.cur (by omega) (by omega) (by omega)).mono ?_
    rintro e w6 ⟨x, rfl, hc3, hg3⟩
    replace D1 := hid (D1.out.cur' hc3 hg3)
    replace R1 := hid (R1.out.cur hg3 (by omega))
    clear hc3 hg3
    cases x
    case false =>
      go_wp2_with fail
      have hN := D1.out.n
      have hbb : w.heap.size + 2 < bb := by omega
      have FB := D1.out.below ((Below.refl w6.heap.size w6).drew)
      have GB := R1.out.below ((Below.refl w6.heap.size w6).drew)
      obtain ⟨f1, f2, ⟨f3, f4, f5, f6⟩, f7, f8, f9, f10⟩ := D1.out.frz
      obtain ⟨a0, a1, a2, a3, a4⟩ := D1.out.s5 R1.out
      have k0 := And.intro a0 (And.intro a1 (And.intro a2 (And.intro a3 a4)))
      obtain ⟨b0, b1, b2, b3, b4⟩ := (D1.out.ret R1.out hbb).drew.s5
      obtain ⟨g0, g1, g2, g3, g4⟩ := FB.s5 GB
      have k4 := And.intro g0 (And.intro g1 (And.intro g2 (And.intro g3 g4)))
      obtain ⟨c0, c1, c2, c3, c4⟩ := ((D1.out.ret R1.out hbb).setX xa ya).drew.s5
      obtain ⟨d0, d1, d2, d3, d4⟩ := (((D1.out.ret R1.out hbb).setX xa ya).setY X Y).drew.s5
      have k2 := And.intro c0 (And.intro c1 (And.intro c2 (And.intro c3 c4)))
      have k3 := And.intro d0 (And.intro d1 (And.intro d2 (And.intro d3 d4)))
      have k1 := And.intro b0 (And.intro b1 (And.intro b2 (And.intro b3 b4)))
      go_region_held3 (fun W => W.cell? ⟨bf, 0, none⟩ = some (.slice ua F.length uc) ∧ W.cell? ⟨ba, 0, none⟩ = some (.int .i64 xa) ∧ W.cell? ⟨ba, 1, none⟩ = some (.int .i64 ya) ∧ W.cell? ⟨bb, 0, none⟩ = some (.int .i64 X) ∧ W.cell? ⟨bb, 1, none⟩ = some (.int .i64 Y))
        (first | with_reducible exact k0 | with_reducible exact k1 | with_reducible exact k2 | with_reducible exact k3 | with_reducible exact k4 | fail)
        (fail)
      have E := hid (((D1.out.ret R1.out hbb).setX xa ya).setY X Y).drew
      have E0 := hid (E.out.ret.res.cell (i := 0) (by omega))
      obtain ⟨e1, e2, _, _⟩ := E.out.cx.cells
      obtain ⟨e3, e4, _, _⟩ := E.out.cy.cells
      have E1 := hid e1
      have E2 := hid e2
      have E3 := hid e3
      have E4 := hid e4
      clear e1 e2 e3 e4 f1 f2 f3 f4 f5 f6 f7 f8 f9 f10
      go_wp2_with fail
      exact bodyPost_ret (v := .tuple #[.agg #[.slice ua F.length uc], .int .i64 q, .agg #[.int .i64 xa, .int .i64 ya], .agg #[.int .i64 X, .int .i64 Y]]) (by simp [results, Try.results47, go_sem, E0.out, E1.out, E2.out, E3.out, E4.out]) rfl ⟨_, q, F, (xa, ya), (X, Y), rfl, E.out.ret.gf, ⟨HD.out.1, HD.out.2.1, HD.out.2.2.1⟩, E.out.ret.bel⟩
    case true =>
      have DA := hid (D1.out.below ((Below.refl w6.heap.size w6).alloc (Nat.le_refl _) (.cells #[.int .i64 (-41), .int .i64 40, .int .i64 41] 3)))
      have RA := hid (R1.out.below ((Below.refl w6.heap.size w6).alloc (Nat.le_refl _) (.cells #[.int .i64 (-41), .int .i64 40, .int .i64 41] 3)))
      have HI := hid (amseg_new w6 [-41, 40, 41] #[.int .i64 (-41), .int .i64 40, .int .i64 41] 3 rfl)
      have hne := D1.out.du.cur.lt
      go_wp2_with fail
      refine (c_among (w.heap.size + 3) (w.heap.size + 3) l.length _ 0 3 _ [-41, 40, 41] _ DA.out.du.cur (by omega) (by simp) (by simp) HI.out (by omega) (by simp)).mono ?_
      rintro e w7 ⟨x3, rfl, hx3, hc2, hg2⟩
      replace D1 := hid (DA.out.cur' hc2 hg2)
      replace R1 := hid (RA.out.cur hg2 (by omega))
      clear hc2 hg2 hx3 hne HI DA RA
      obtain ⟨t1, t2, t3, t4⟩ := R1.out.cells
      have D2 := hid (D1.out.setC R1.out hn 0 (.int .i64 x3))
      have R2 := hid (R1.out.set1 x3)
      clear D1 R1
      have D1 := hid D2.out
      have R1 := hid R2.out
      clear D2 R2
      go_wp2_with fail
      clear t1 t2 t3 t4
      generalize w7.setCell ⟨bb, 0, none⟩ (.int .i64 x3) = w8 at *
      have hN := D1.out.n
      have hbb : w.heap.size + 2 < bb := by omega
      have FB := D1.out.below ((Below.refl w8.heap.size w8).drew)
      have GB := R1.out.below ((Below.refl w8.heap.size w8).drew)
      obtain ⟨f1, f2, ⟨f3, f4, f5, f6⟩, f7, f8, f9, f10⟩ := D1.out.frz
      obtain ⟨a0, a1, a2, a3, a4⟩ := D1.out.s5 R1.out
      have k0 := And.intro a0 (And.intro a1 (And.intro a2 (And.intro a3 a4)))
      obtain ⟨b0, b1, b2, b3, b4⟩ := (D1.out.ret R1.out hbb).drew.s5
      obtain ⟨g0, g1, g2, g3, g4⟩ := FB.s5 GB
      have k4 := And.intro g0 (And.intro g1 (And.intro g2 (And.intro g3 g4)))
      obtain ⟨c0, c1, c2, c3, c4⟩ := ((D1.out.ret R1.out hbb).setX xa ya).drew.s5
      obtain ⟨d0, d1, d2, d3, d4⟩ := (((D1.out.ret R1.out hbb).setX xa ya).setY x3 Y).drew.s5
      have k2 := And.intro c0 (And.intro c1 (And.intro c2 (And.intro c3 c4)))
      have k3 := And.intro d0 (And.intro d1 (And.intro d2 (And.intro d3 d4)))
      have k1 := And.intro b0 (And.intro b1 (And.intro b2 (And.intro b3 b4)))
      go_region_held3 (fun W => W.cell? ⟨bf, 0, none⟩ = some (.slice ua F.length uc) ∧ W.cell? ⟨ba, 0, none⟩ = some (.int .i64 xa) ∧ W.cell? ⟨ba, 1, none⟩ = some (.int .i64 ya) ∧ W.cell? ⟨bb, 0, none⟩ = some (.int .i64 x3) ∧ W.cell? ⟨bb, 1, none⟩ = some (.int .i64 Y))
        (first | with_reducible exact k0 | with_reducible exact k1 | with_reducible exact k2 | with_reducible exact k3 | with_reducible exact k4 | fail)
        (fail)
      have E := hid (((D1.out.ret R1.out hbb).setX xa ya).setY x3 Y).drew
      have E0 := hid (E.out.ret.res.cell (i := 0) (by omega))
      obtain ⟨e1, e2, _, _⟩ := E.out.cx.cells
      obtain ⟨e3, e4, _, _⟩ := E.out.cy.cells
      have E1 := hid e1
      have E2 := hid e2
      have E3 := hid e3
      have E4 := hid e4
      clear e1 e2 e3 e4 f1 f2 f3 f4 f5 f6 f7 f8 f9 f10
      go_wp2_with fail
      exact bodyPost_ret (v := .tuple #[.agg #[.slice ua F.length uc], .int .i64 q, .agg #[.int .i64 xa, .int .i64 ya], .agg #[.int .i64 x3, .int .i64 Y]]) (by simp [results, Try.results47, go_sem, E0.out, E1.out, E2.out, E3.out, E4.out]) rfl ⟨_, q, F, (xa, ya), (x3, Y), rfl, E.out.ret.gf, ⟨HD.out.1, HD.out.2.1, HD.out.2.2.1⟩, E.out.ret.bel⟩

end Go.Proofs.Ytmapbkefndbnnaa
