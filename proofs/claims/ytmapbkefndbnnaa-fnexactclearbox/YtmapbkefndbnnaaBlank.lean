/- What both BlankOf answer; a forest that the specification has told, kept while a law is walked. -/
import Derived.Test.YtmapbkefndbnnaaITof
import Derived.Test.YtmapbkefndbnnaaLawX
namespace Go.Proofs.Ytmapbkefndbnnaa
open Go.RowKit
set_option linter.unusedVariables false
set_option linter.unusedSimpArgs false
attribute [local go_sem ↓] Go.wp_at_zero Go.wp_at_succ

theorem seg_none (w : World) : Seg w none ([] : List Cl) := fun i hi => by simp at hi

set_option maxHeartbeats 1000000 in
set_option maxRecDepth 100000 in
theorem c_sBlankOf (a : Option Addr) (F : List Qd) (ca : Nat) (lv : Int) (w : World) (ha : QSeg w a F) (hl : F.length ≤ 1048576) (hk : KidsLe F) (hca : F.length ≤ ca) (hcm : ca ≤ 9223372036854775807) (hnc : NoneCap w a F) :
    Calls Try.prog 27 #[.agg #[.slice a F.length ca], .int .i64 lv] w fun e w' => ∃ u, e = .returned (.tuple #[.agg #[u], .int .i64 (tofQ F lv []), .bool (tofB F lv [])]) ∧ GF w' w.heap.size u (tofF F lv []) ∧ Below w.heap.size w w' := by
  obtain ⟨W1, hW1⟩ : ∃ W1, W1 = w.alloc (.cells #[.slice a F.length ca] 25) := ⟨_, rfl⟩
  have X1 := Box1.new w (.slice a F.length ca) 25
  rw [← hW1] at X1
  have hb2 := (Below.refl W1.heap.size W1).alloc (Nat.le_refl _) (.cells #[.slice none 0 0] 25)
  have X2 := X1.step hb2
  have R2 := one_row (heap_alloc_new W1 (.cells #[.slice none 0 0] 25))
  have s1 : W1.heap.size = w.heap.size + 1 := by rw [hW1]; simp
  rw [s1] at R2
  rw [hW1] at X2 R2
  have HX := hid X2
  have HR := hid R2
  clear X1 X2 R2 s1 hb2 hW1
  clear W1
  have x0 := HX.out.1
  have HC := hid (c_sTreeOf a F ca lv none [] 0 _ (ha.below HX.out.2.2) hl hk hca hcm (hnc.below ha HX.out.2.2) (seg_none _) (by simp))
  rw [show ([] : List Cl).length = 0 from rfl] at HC
  clear ha hnc
  generalize tofF F lv [] = TF at *
  generalize tofQ F lv [] = TQ at *
  generalize tofB F lv [] = TB at *
  go_enter Try.func27, Try.ntmps27
  go_wp2_with fail
  refine HC.out.mono ?_
  rintro e w8 ⟨u8, rfl, hG8, hb8⟩
  have HG8 := hid hG8
  obtain ⟨ua8, uc8, rfl, _⟩ := hG8.form
  have R9 := HR.out.of_block (hb8.block _ HR.out.lt)
  have r0 := R9.cell (i := 0) (by omega)
  have f0 := R9.frozen 0
  have E0 := hid ((R9.set 0 (.slice ua8 TF.length uc8)).cell (i := 0) (by omega))
  simp only [if_true] at E0
  have HG9 := hid ((HG8.out.setRow (o := 0) R9 (by decide) (by decide) (.slice ua8 TF.length uc8)).mono (show w.heap.size ≤ _ from HX.out.2.2.size))
  have HB9 := hid ((HX.out.step hb8).2.2.setCell (p := ⟨w.heap.size + 1, 0, none⟩) (by dsimp only; omega) (.slice ua8 TF.length uc8))
  clear HC hG8 HG8 hb8 R9
  go_wp2_with fail
  exact bodyPost_ret (v := .tuple #[.agg #[.slice ua8 TF.length uc8], .int .i64 TQ, .bool TB]) (by simp [results, Try.results27, go_sem, E0.out]) rfl ⟨.slice ua8 TF.length uc8, rfl, HG9.out, HB9.out⟩

set_option maxHeartbeats 1000000 in
set_option maxRecDepth 100000 in
theorem c_iBlankOf (a : Option Addr) (F : List Qd) (ca : Nat) (lv : Int) (w : World) (ha : QSeg w a F) (hl : F.length ≤ 1048576) (hk : KidsLe F) (hca : F.length ≤ ca) (hcm : ca ≤ 9223372036854775807) :
    Calls Try.prog 26 #[.agg #[.slice a F.length ca], .int .i64 lv] w fun e w' => ∃ u, e = .returned (.tuple #[.agg #[u], .int .i64 (tofQ F lv []), .bool (tofB F lv [])]) ∧ FOwn w' w.heap.size w'.heap.size u (tofF F lv []) ∧ Below w.heap.size w w' := by
  obtain ⟨W1, hW1⟩ : ∃ W1, W1 = w.alloc (.cells #[.slice a F.length ca] 25) := ⟨_, rfl⟩
  have X1 := Box1.new w (.slice a F.length ca) 25
  rw [← hW1] at X1
  have hb2 := (Below.refl W1.heap.size W1).alloc (Nat.le_refl _) (.cells #[.slice none 0 0] 25)
  have X2 := X1.step hb2
  have R2 := one_row (heap_alloc_new W1 (.cells #[.slice none 0 0] 25))
  have s1 : W1.heap.size = w.heap.size + 1 := by rw [hW1]; simp
  rw [s1] at R2
  have s2 : (W1.alloc (.cells #[.slice none 0 0] 25)).heap.size = w.heap.size + 1 + 1 := by simp [s1]
  rw [hW1] at X2 R2 s2
  have HX := hid X2
  have HR := hid R2
  have HSZ := hid s2
  clear X1 X2 R2 s1 hb2 hW1 s2
  clear W1
  have x0 := HX.out.1
  have HC := hid (c_iTreeOf a F ca lv none [] 0 _ (ha.below HX.out.2.2) hl hk hca hcm (seg_none _) (by simp))
  rw [show ([] : List Cl).length = 0 from rfl] at HC
  clear ha
  generalize tofF F lv [] = TF at *
  generalize tofQ F lv [] = TQ at *
  generalize tofB F lv [] = TB at *
  go_enter Try.func26, Try.ntmps26
  go_wp2_with fail
  refine HC.out.mono ?_
  rintro e w8 ⟨u8, rfl, hO8, hb8⟩
  have hb8' := hb8
  rw [HSZ.out] at hO8
  have HO8 := hid hO8
  obtain ⟨ua8, uc8, rfl, _⟩ := hO8.form
  have R9 := HR.out.of_block (hb8'.block _ HR.out.lt)
  have r0 := R9.cell (i := 0) (by omega)
  have f0 := R9.frozen 0
  have E0 := hid ((R9.set 0 (.slice ua8 TF.length uc8)).cell (i := 0) (by omega))
  simp only [if_true] at E0
  have hs9 : (w8.setCell ⟨w.heap.size + 1, 0, none⟩ (.slice ua8 TF.length uc8)).heap.size = w8.heap.size := by simp
  have hGW : Grew w8 (w8.setCell ⟨w.heap.size + 1, 0, none⟩ (.slice ua8 TF.length uc8)) (w.heap.size + 1) (w.heap.size + 1 + 1) := (Grew.refl w8 _ _).set (Nat.le_refl _) (by omega) _
  have HO9 := hid ((HO8.out.kept hGW (by omega)).wide (lo' := w.heap.size) (hi' := w8.heap.size) (by omega) (Nat.le_refl _) (by rw [hs9]; exact Nat.le_refl _))
  have HB9 := hid ((HX.out.step hb8').2.2.setCell (p := ⟨w.heap.size + 1, 0, none⟩) (by dsimp only; omega) (.slice ua8 TF.length uc8))
  have HS9 := hid hs9
  clear HC hO8 HO8 hb8 hb8' R9 hGW hs9
  go_wp2_with fail
  exact bodyPost_ret (v := .tuple #[.agg #[.slice ua8 TF.length uc8], .int .i64 TQ, .bool TB]) (by simp [results, Try.results26, go_sem, E0.out]) rfl ⟨.slice ua8 TF.length uc8, rfl, by rw [HS9.out]; exact HO9.out, HB9.out⟩

/-- A forest that the specification has told: its memory is that of the world in which it was told. -/
def SG (W : World) (lo hi : Nat) (v : Value) (F : List Qd) : Prop := ∃ W3 : World, GF W3 lo v F ∧ W3.heap.size ≤ hi ∧ hi ≤ W.heap.size ∧ ∀ k, lo ≤ k → k < W3.heap.size → W.heap[k]? = W3.heap[k]?
theorem SG.gf {W : World} {lo hi : Nat} {v : Value} {F : List Qd} (h : SG W lo hi v F) : GF W lo v F := by
  obtain ⟨W3, ⟨ad, h1, h2⟩, h3, h4, h5⟩ := h
  refine ⟨ad, ⟨h1.1, ?_⟩, fun i hi => ⟨fun j hj => ?_, (h2 i hi).2⟩⟩
  · rcases h1.2 with h | ⟨g, cap, cur, e, hb, hg, r⟩
    · exact .inl h
    · exact .inr ⟨g, cap, cur, e, hb, (h5 g hb (lt_of_blk hg)).trans hg, r⟩
  · obtain ⟨b, o, cur, fr, e1, e2, e3, e4⟩ := (h2 i hi).1 j hj
    have hb := h5 b e2 (lt_of_blk e3)
    exact ⟨b, o, cur, fr, e1, e2, hb.trans e3, (World.cell?_of_block (a := ⟨b, o + j, none⟩) hb).trans e4⟩
theorem SG.of {W : World} {lo : Nat} {v : Value} {F : List Qd} (h : GF W lo v F) : SG W lo W.heap.size v F := ⟨W, h, Nat.le_refl _, Nat.le_refl _, fun _ _ _ => rfl⟩
theorem SG.kpt (lo hi : Nat) (v : Value) (F : List Qd) : Kpt (fun W => SG W lo hi v F) lo hi := by
  rintro W W' lo' hi' ⟨W3, h1, h2, h3, h4⟩ hg hd
  exact ⟨W3, h1, h2, Nat.le_trans h3 hg.size, fun k hk1 hk2 => (hg.block k (by omega) (by omega)).trans (h4 k hk1 hk2)⟩
/-- .. in a variable, whose box is block b. -/
def PS (w : World) (lo b : Nat) (v : Value) (F : List Qd) : Prop := SG w lo b v F ∧ w.cell? ⟨b, 0, none⟩ = some v ∧ b < w.heap.size ∧ lo ≤ b
theorem PS.kpt (lo b : Nat) (v : Value) (F : List Qd) : Kpt (fun W => PS W lo b v F) lo (b + 1) := by
  rintro W W' lo' hi' ⟨h1, h2, h3, h4⟩ hg hd
  exact ⟨SG.kpt lo b v F W W' lo' hi' h1 hg (by omega), (World.cell?_of_block (a := ⟨b, 0, none⟩) (hg.block b h3 (by omega))).trans h2, Nat.lt_of_lt_of_le h3 hg.size, h4⟩
theorem PS.new {w : World} {lo : Nat} {v : Value} {F : List Qd} (h : GF w lo v F) (hl : lo ≤ w.heap.size) (t : TypeId) : PS (w.alloc (.cells #[v] t)) lo w.heap.size v F := by
  have hb := (Below.refl w.heap.size w).alloc (Nat.le_refl _) (.cells #[v] t)
  refine ⟨(SG.kpt _ _ _ _).below (SG.of h) hb, ?_, by simp, hl⟩
  unfold World.cell?; rw [heap_alloc_new]; rfl
theorem c_eqFS (v u : Value) (F : List Qd) (w : World) {lo hi lo' : Nat} (h1 : FOwn w lo hi v F) (h2 : GF w lo' u F) (hl : F.length ≤ 1048576) (hk : KidsLe F) :
    Calls Try.prog 69 #[.agg #[v], .agg #[u]] w fun e w' => e = .returned (.bool true) ∧ Below w.heap.size w w' := by
  obtain ⟨a, ca, rfl, _, _, ha⟩ := h1.form
  obtain ⟨b, cb, rfl, _, _, hb⟩ := h2.form
  have := c_eqForest a b F F ca cb w ha hb hl hl hk hk
  simpa using this
theorem tof_small (F : List Qd) (lv : Int) (L : List Cl) : (tofF F lv L).length ≤ 1048576 ∧ KidsLe (tofF F lv L) ∧ posF (nsF (tofF F lv L)) (tofF F lv L).length ≤ 8388608 := by
  unfold tofF
  split
  · rename_i hok
    unfold tellF
    split
    · rename_i h4
      simp only [tofOK, Bool.and_eq_true] at hok
      have hlv := inB_bd hok.1.2
      have hG := (treeL_tr L lv.toNat 0 0 F (by omega) (good_grows hok.1.1)).grows
      refine ⟨by unfold tofR; unfold tofR at h4; omega, hG.kidsLe, ?_⟩
      have hp : ∀ G : List Qd, Grows G → ∀ k, k ≤ G.length → posF (nsF G) k ≤ 1 + 5 * k := by
        intro G hG k
        induction k with
        | zero => intro _; simp [posF]
        | succ k ih =>
          intro hk
          have := ih (by omega)
          have : nsF G k ≤ 4 := by
            unfold nsF
            by_cases h2 : k < 2
            · rw [hG.low k h2]; simp
            · have := hG.len k (by omega) (by omega); omega
          simp only [posF]; omega
      have := hp _ hG (tofR F lv L).1.length (Nat.le_refl _)
      unfold tofR at this h4 ⊢
      omega
    · exact ⟨by simp, fun i hi => by simp at hi, by simp [posF]⟩
  · exact ⟨by simp, fun i hi => by simp at hi, by simp [posF]⟩

end Go.Proofs.Ytmapbkefndbnnaa
