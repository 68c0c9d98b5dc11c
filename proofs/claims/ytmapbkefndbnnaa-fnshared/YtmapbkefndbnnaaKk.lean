/- Texts of this seat, one behind the other: DrG, SameF, DrT, DrU, FVx. -/
import Derived.Test.YtmapbkefndbnnaaKj
import Derived.Deep.RegionHeld3
import Derived.Test.YtmapbkefndbnnaaKa
import Derived.Test.YtmapbkefndbnnaaKf
import Derived.Test.YtmapbkefndbnnaaKb
import Derived.Test.YtmapbkefndbnnaaKc
import Derived.Test.YtmapbkefndbnnaaKe
import Derived.Test.YtmapbkefndbnnaaKg
namespace Go.Proofs.Ytmapbkefndbnnaa
open Go.RowKit
set_option linter.unusedVariables false
set_option linter.unusedSimpArgs false
attribute [local go_sem ↓] Go.wp_at_zero Go.wp_at_succ

theorem c_sNewForestA (w : World) :
    Calls Try.prog 32 #[] w fun e w' => ∃ g, e = .returned (.agg #[.slice (some ⟨g, 0, none⟩) 2 2]) ∧ NwRow w' g (fun _ => 0) ∧ w.heap.size < g ∧ Below w.heap.size w w' :=
  (c_sNewForest w).mono fun e w' ⟨h1, h2, h3⟩ => ⟨_, h1, h2, by omega, h3⟩
theorem GF.at {w : World} {base : Nat} {a : Option Addr} {cap : Nat} {F : List Qd} (h : GF w base (.slice a F.length cap) F) : QSeg w a F ∧ NoneCap w a F ∧ F.length ≤ cap ∧ cap ≤ 9223372036854775807 := by
  obtain ⟨a', c', e, h1, h2, h3⟩ := h.form
  simp only [Value.slice.injEq, true_and] at e
  obtain ⟨rfl, rfl⟩ := e
  exact ⟨h3, h.noneCap, h1, h2⟩
theorem GF.filled {w : World} {base : Nat} {v : Value} {F : List Qd} (h : GF w base v F) (hl : 0 < F.length) : ∃ g cap, v = .slice (some ⟨g, 0, none⟩) F.length cap := by
  obtain ⟨ad, h1, _⟩ := h
  rcases h1.2 with ⟨_, hn⟩ | ⟨g, cap, cur, e, _⟩
  · omega
  · exact ⟨g, cap, e⟩
theorem box_newG {W W' : World} {b : Nat} (hg : (W.alloc (.cells #[.slice none 0 0] 25)).grownBy W' (some b)) (hb : b < W.heap.size) : W'.rowIs W.heap.size 25 1 (fun _ => .slice none 0 0) :=
  one_row ((hg.block W.heap.size (by simp) (fun e => by simp only [Option.some.injEq] at e; omega)).trans (heap_alloc_new W _))
theorem box_newGD {W W' : World} {b : Nat} (hg : (W.alloc (.cells #[.slice none 0 0] 25)).drew.grownBy W' (some b)) (hb : b < W.heap.size) : W'.rowIs W.heap.size 25 1 (fun _ => .slice none 0 0) :=
  box_newG (b := b) ⟨hg.os, hg.tape, hg.output, hg.size, hg.block⟩ hb
section
variable {w W W' : World} {cb b n bf : Nat} {A A' : Int} {v : Value} {F : List Qd}
theorem FU.setBox (h : FU w W cb b n A bf v F) {B : Nat} {f : Nat → Value} (hr : W.rowIs B 25 1 f) (hB : w.heap.size < B) (hne : B ≠ bf) (u : Value) : FU w (W.setCell ⟨B, 0, none⟩ u) cb b n A bf v F := by
  have hf := h.lf
  have hb := h.bl
  have hg := grown_set1 W B 0 u
  have hcl := h.cur.lt
  exact ⟨h.cur.kept hg (fun e => by simp only [Option.some.injEq] at e; omega) (fun k e => by simp only [Option.some.injEq] at e; omega), grown_over h.gr hg (fun k e => by simp only [Option.some.injEq] at e; omega), h.res.setOther (a := ⟨B, 0, none⟩) (by dsimp only; omega) u, h.box.setOther (a := ⟨B, 0, none⟩) (by dsimp only; omega) u, h.gf.setRow (o := 0) hr (by decide) (by decide) u, h.bl, h.lf⟩
theorem FU.setLev {g cap : Nat} (h : FU w W cb b n A bf (.slice (some ⟨g, 0, none⟩) F.length cap) F) {i : Nat} (hi : i < F.length) (lv : Int) : FU w (W.setCell ⟨g, i * 2, none⟩ (.int .i64 lv)) cb b n A bf (.slice (some ⟨g, 0, none⟩) F.length cap) (F.set i (lv, (qa F i).2)) := by
  obtain ⟨k1, k2⟩ := h.gf.setLev hi lv
  have hgl := (h.gf.lt g rfl).1
  have hb := h.bl
  have hcl := h.cur.lt
  have n1 := h.gf.ne_row h.res (by decide)
  have n2 := h.gf.ne_row h.box (by decide)
  exact ⟨h.cur.kept k2 (fun e => by simp only [Option.some.injEq] at e; omega) (fun k e => by simp only [Option.some.injEq] at e; omega), grown_over h.gr k2 (fun k e => by simp only [Option.some.injEq] at e; omega), h.res.of_block (k2.block _ h.res.lt n1), h.box.of_block (k2.block _ h.box.lt n2), k1, h.bl, h.lf⟩
theorem FU.ret (h : FU w W cb b n A bf v F) : GF (W.setCell ⟨w.heap.size, 0, none⟩ v) w.heap.size v F ∧ CurAt (W.setCell ⟨w.heap.size, 0, none⟩ v) cb b n A ∧ w.grownBy (W.setCell ⟨w.heap.size, 0, none⟩ v) (some b) := by
  have hb := h.bl
  have hg := grown_set1 W w.heap.size 0 v
  have hcl := h.cur.lt
  exact ⟨h.gf.setRow (o := 0) h.res (by decide) (by decide) v, h.cur.kept hg (fun e => by simp only [Option.some.injEq] at e; omega) (fun k e => by simp only [Option.some.injEq] at e; omega), grown_over h.gr hg (fun k e => by simp only [Option.some.injEq] at e; omega)⟩
theorem FU.app (h : FU w W cb b n A bf v F) (hg : W.grownBy W' v.ownBlock) {u : Value} {G : List Qd} (hu : GF W' w.heap.size u G) : W'.rowIs bf 25 1 (fun _ => v) ∧ FU w (W'.setCell ⟨bf, 0, none⟩ u) cb b n A bf u G := by
  have hb := h.bl
  have hf := h.lf
  have hcl := h.cur.lt
  have n1 := h.gf.ne_row h.res (by decide)
  have n2 := h.gf.ne_row h.box (by decide)
  have hlo := h.gf.lt
  have r1 := h.res.of_block (hg.block _ h.res.lt n1)
  have r2 := h.box.of_block (hg.block _ h.box.lt n2)
  have c1 := h.cur.kept hg (fun e => by have := (hlo b e.symm).1; omega) (fun k e => by have := (hlo k e).1; omega)
  have g1 := grown_over h.gr hg (fun k e => (hlo k e).1)
  have hs := grown_set1 W' bf 0 u
  exact ⟨r2, c1.kept hs (fun e => by simp only [Option.some.injEq] at e; omega) (fun k e => by simp only [Option.some.injEq] at e; omega), grown_over g1 hs (fun k e => by simp only [Option.some.injEq] at e; omega), r1.setOther (a := ⟨bf, 0, none⟩) (by dsimp only; omega) u, own_next r2 u, hu.setRow (o := 0) r2 (by decide) (by decide) u, h.bl, h.lf⟩
theorem FU.cells {va : Option Addr} {k vc : Nat} (h : FU w W cb b n A bf (.slice va k vc) F) : W.cell? ⟨bf, 0, none⟩ = some (.slice va k vc) ∧ W.frozen? ⟨bf, 0, none⟩ = false ∧ W.cell? ⟨w.heap.size, 0, none⟩ = some (.slice none 0 0) ∧ W.frozen? ⟨w.heap.size, 0, none⟩ = false :=
  ⟨h.box.cell (i := 0) (by omega), h.box.frozen 0, h.res.cell (i := 0) (by omega), h.res.frozen 0⟩
end
theorem good_kidsLe {F : List Qd} (h : goodF F = true) : KidsLe F := (good_grows h).kidsLe
theorem GF.kidCell {w : World} {base g cap : Nat} {F : List Qd} (h : GF w base (.slice (some ⟨g, 0, none⟩) F.length cap) F) {i : Nat} (hi : i < F.length) : ∃ a c, w.cell? ⟨g, i * 2 + 1, none⟩ = some (.slice a (qa F i).2.length c) ∧ KidAt w base a (qa F i).2 ∧ (qa F i).2.length ≤ c ∧ (a = none → c = 0) := by
  obtain ⟨ad, h1, h2⟩ := h
  have c1 := World.ownsRow.cellAt h1 (i * 2 + 1) (by omega)
  rw [(qfl_at F ad hi).2] at c1
  exact ⟨_, _, c1, h2 i hi⟩
/-- What a drawn forest is like. -/
def DrOK (F : List Qd) (q : Int) : Prop := 2 ≤ F.length ∧ F.length ≤ 401 ∧ KidsLe F ∧ 0 ≤ q ∧ q < (F.length : Int)
theorem drok_good {F : List Qd} {q : Int} (h : goodF F = true) (h0 : 0 ≤ q) (h1 : q < (F.length : Int)) : DrOK F q := by
  have := good_len2 h
  exact ⟨by omega, by omega, good_kidsLe h, h0, h1⟩

theorem drok_set {F : List Qd} {q lv : Int} {i : Nat} (hi : i < F.length) (h : DrOK F q) : DrOK (F.set i (lv, (qa F i).2)) q := by
  obtain ⟨h1, h2, h3, h4, h5⟩ := h
  refine ⟨by rw [List.length_set]; exact h1, by rw [List.length_set]; exact h2, fun j hj => ?_, h4, by rw [List.length_set]; exact h5⟩
  rw [List.length_set] at hj
  rw [qa_set F i j _ hi]
  split
  · exact h3 i hi
  · exact h3 j hj
theorem drok_app {F : List Qd} {q : Int} {i : Nat} (hi : i < F.length) (hl : F.length ≤ 400) (h : DrOK F q) : DrOK (F ++ [qa F i]) q := by
  obtain ⟨h1, h2, h3, h4, h5⟩ := h
  refine ⟨by simp; omega, by simp; omega, fun j hj => ?_, h4, by simp; omega⟩
  simp at hj
  by_cases e : j = F.length
  · subst e; rw [qa_app_new]; exact h3 i hi
  · rw [qa_app_old (by omega)]; exact h3 j (by omega)

set_option maxHeartbeats 8000000 in
set_option maxRecDepth 100000 in
theorem c_drawForest (cb b n : Nat) (A : Int) (w : World) (h : CurAt w cb b n A) (hA : A ≤ 500000) :
    Calls Try.prog 72 #[.pointer (some ⟨b, 0, none⟩)] w fun e w' => ∃ (u : Value) (q : Int) (F : List Qd), e = .returned (.tuple #[.agg #[u], .int .i64 q]) ∧ GF w' w.heap.size u F ∧ DrOK F q ∧ CurAt w' cb b n (A + 1000) ∧ w.grownBy w' (some b) := by
  have hbl := h.lt
  have R0 := hid (show (w.alloc (.cells #[.slice none 0 0] 25)).rowIs w.heap.size 25 1 (fun _ => .slice none 0 0) from one_row (heap_alloc_new w (.cells #[.slice none 0 0] 25)))
  have B0 := hid ((Below.refl w.heap.size w).alloc (Nat.le_refl _) (.cells #[.slice none 0 0] 25))
  have HCA := hid h
  clear h
  go_enter Try.func72, Try.ntmps72
  go_wp2_with fail
  refine (c_sNewForestA _).mono ?_
  rintro e w1 ⟨g1, rfl, hN, hg1, hb1⟩
  have hbB := B0.out.trans (hb1.mono B0.out.size)
  have ba := (Below.refl w1.heap.size w1).alloc (Nat.le_refl _) (.cells #[.slice (some ⟨g1, 0, none⟩) 2 2] 25)
  have hbA := hbB.trans (ba.mono hbB.size)
  have hg1' : w.heap.size ≤ g1 := by have := B0.out.size; omega
  have hlw : w.heap.size < w1.heap.size := by have := hb1.size; simp at this; omega
  have HU := hid (show FU w (w1.alloc (.cells #[.slice (some ⟨g1, 0, none⟩) 2 2] 25)) cb b n A w1.heap.size (.slice (some ⟨g1, 0, none⟩) 2 2) [(0, []), (0, [])] from
    ⟨HCA.out.kept (grown_of_below hbA none) (by simp) (fun k e => by cases e), grown_of_below hbA _, (R0.out.of_block (hb1.block _ R0.out.lt)).alloc _, one_row (heap_alloc_new _ _), (hN.gf hg1').below ba, hbl.2, hlw⟩)
  clear hN hb1 hbB ba hbA HCA R0 B0 hg1
  go_wp2_with fail
  generalize w1.alloc (.cells #[.slice (some ⟨g1, 0, none⟩) 2 2] 25) = W1 at *
  generalize w1.heap.size = bf at *
  refine (c_pick cb b n A 2 _ HU.out.cur (by omega) (by omega) (by omega)).mono ?_
  rintro e w2 ⟨p, rfl, p0, p1, hc2, hg2⟩
  replace HU := hid (HU.out.cur' hc2 hg2)
  clear hc2 hg2
  go_wp2_with fail
  go_loopw [5, 6] (fun qv nv wr => ∃ (j : Nat) (q : Int) (v : Value) (F : List Qd), nv = .int .i64 (j : Int) ∧ j ≤ 2 ∧ qv = .int .i64 q ∧ Hid (goodF F = true ∧ 0 ≤ q ∧ q < (F.length : Int)) ∧ Hid (FU w wr cb b n (A + 400 - 150 * (j : Int)) bf v F)) (fun _ nv _ => (intOf nv).toNat)
  case atStart => exact ⟨(1 + p).toNat, 0, _, _, by go_num, by omega, rfl, ⟨good_first, by omega, by simp⟩, HU.out.more (by omega)⟩
  case round =>
    clear HU
    obtain ⟨j, q, v, F, rfl, hj, rfl, HQ, HU⟩ := hrel
    obtain ⟨va, vc, rfl, _⟩ := HU.out.gf.form
    by_cases hj0 : 0 < j
    · have j0 : (0 : Int) < (j : Int) := by omega
      go_wp2_with fail
      refine (c_pick cb b n _ 3 wr HU.out.cur (by omega) (by omega) (by omega)).mono ?_
      rintro e w3 ⟨p3, rfl, p30, p31, hc3, hg3⟩
      have HU3 := hid (HU.out.cur' hc3 hg3)
      clear hc3 hg3 HU
      go_wp2_with fail
      refine (c_one cb b n _ 6 w3 HU3.out.cur (by omega) (by omega) (by omega)).mono ?_
      rintro e w4 ⟨x, rfl, hc4, hg4⟩
      have HU4 := hid (HU3.out.cur' hc4 hg4)
      clear hc4 hg4 HU3
      have REG : True := trivial
      cases x
      · obtain ⟨lv, hlv⟩ : ∃ lv, 1 + p3 = lv := ⟨_, rfl⟩
        have hlv0 : 0 ≤ lv ∧ lv ≤ 5 := by omega
        go_wp2_with fail
        clear hlv
        have hbf := HU4.out.size
        have hbb := HU4.out.bl
        have hlf := HU4.out.lf
        have FB := HU4.out.below ((Below.refl w4.heap.size w4).drew)
        have HKL := hid (good_kidsLe HQ.out.1)
        have HL4 := hid (good_len2 HQ.out.1)
        have keepR : Hid (∀ (W : World) (A' : Int), FU w W cb b n A' bf (.slice va F.length vc) F → W.cell? ⟨bf, 0, none⟩ = some (.slice va F.length vc)) := fun W A' h => h.cells.1
        apply cut6 (C := fun (_ u : Value) (tq : Int) (tb : Bool) (bg : Nat) (W : World) => FU w W cb b n (A + 400 - 150 * (j : Int) + 1 + 1 + 100) bf (.slice va F.length vc) F ∧ W.rowIs bg 25 1 (fun _ => u) ∧ ∃ F', GF W w.heap.size u F' ∧ (tb = true → goodF F' = true ∧ 0 ≤ tq ∧ tq < (F'.length : Int)))
        case main =>
          intro key
          go_region_held3 (fun W => W.cell? ⟨bf, 0, none⟩ = some (.slice va F.length vc))
            (first | exact keepR.out _ _ FB | exact keepR.out _ _ HU4.out | exact keepR.out _ _ (FB.below ((Below.refl _ _).alloc (Nat.le_refl _) _)) | exact keepR.out _ _ (FB.setBox RZ.out (by omega) (by omega) _) | go_keep)
            (first
              | (go_at_call 74; refine (c_square cb b n _ lv _ (FU.cur (show FU w _ cb b n _ bf (.slice va F.length vc) F by first | exact FB | exact FB.below ((Below.refl _ _).alloc (Nat.le_refl _) _))) (by omega) (by omega) (by omega)).mono ?_; rintro e ws ⟨sv0, L, rfl, hOL, hrL, hLl, hIn, hcs, hgs⟩; obtain ⟨sa, sc, rfl, hsL⟩ := hOL.form; (first | have RZ := hid (box_newGD hgs (by omega)) | skip); (try have hl1 := RZ.out.lt); replace FB := FU.cur' (show FU w _ cb b n _ bf (.slice va F.length vc) F by first | exact FB | exact FB.below ((Below.refl _ _).alloc (Nat.le_refl _) _)) hcs hgs; (first | have hzs : w4.heap.size ≤ ws.heap.size := hgs.size | have hzs : w4.heap.size + 1 ≤ ws.heap.size := (by have := hgs.size; simpa using this)); have HSL := hid hsL; clear hOL hrL hIn hcs hgs hsL)
              | (go_at_call 17; refine (c_sTreeOf va F vc lv sa L sc _ (FU.gf (show FU w _ cb b n _ bf (.slice va F.length vc) F by first | exact FB | exact FB.below ((Below.refl _ _).alloc (Nat.le_refl _) _))).at.1 (by have := HL4.out; omega) HKL.out FB.gf.at.2.2.1 FB.gf.at.2.2.2 (FU.gf (show FU w _ cb b n _ bf (.slice va F.length vc) F by first | exact FB | exact FB.below ((Below.refl _ _).alloc (Nat.le_refl _) _))).at.2.1 (by first | exact HSL.out | exact HSL.out.below ((Below.refl _ _).alloc (Nat.le_refl _) _)) (by omega)).mono ?_; rintro e wt ⟨u0, rfl, hG, bt⟩; have HG := hid (hG.mono (show w.heap.size ≤ _ by first | (have := FB.size; omega) | (have := FB.size; rw [alloc_size]; omega))); obtain ⟨ua, uc, rfl, _⟩ := hG.form; (first | have RZ := hid (box_new bt) | replace RZ := hid (RZ.out.of_block (bt.block _ RZ.out.lt)) | skip); replace FB := FU.below (show FU w _ cb b n _ bf (.slice va F.length vc) F by first | exact FB | exact FB.below ((Below.refl _ _).alloc (Nat.le_refl _) _)) bt; (try have r0 := RZ.out.cell (i := 0) (by omega)); (try have f0 := RZ.out.frozen 0); clear hG bt))
          · have hT := tof_good (F := F) (lv := lv) (L := L)
            have FB2 := FB.below ((Below.refl wt.heap.size wt).alloc (Nat.le_refl _) (.cells #[.slice ua (tofF F lv L).length uc] 25))
            have HG2 := HG.out.below ((Below.refl wt.heap.size wt).alloc (Nat.le_refl _) (.cells #[.slice ua (tofF F lv L).length uc] 25))
            have HR2 := one_row (heap_alloc_new wt (.cells #[.slice ua (tofF F lv L).length uc] 25))
            generalize wt.alloc (.cells #[.slice ua (tofF F lv L).length uc] 25) = W9 at FB2 HG2 HR2 ⊢
            generalize tofF F lv L = TF at HG2 HR2 hT ⊢
            generalize tofQ F lv L = tq at hT ⊢
            generalize tofB F lv L = tb at hT ⊢
            generalize wt.heap.size = bg at HR2 ⊢
            generalize Value.slice ua TF.length uc = u at HG2 HR2 ⊢
            generalize Value.slice sa L.length sc = sv
            exact key.out sv u tq tb bg W9 ⟨FB2, HR2, TF, HG2, hT⟩
          all_goals
            exact key.out _ _ _ _ _ _ ⟨FB.setBox RZ.out (by omega) (by omega) _, own_next RZ.out _, _, HG.out.setRow (o := 0) RZ.out (by decide) (by decide) _, tof_good⟩
        case pf =>
          intro sv u tq tb bg W hCC
          obtain ⟨hFU, hRW, F', hG', hT⟩ := hCC
          obtain ⟨ua, uc, rfl, _⟩ := hG'.form
          have HU5 := hid hFU
          have HG5 := hid hG'
          have g0 := hRW.cell (i := 0) (by omega)
          obtain ⟨x1, x2, _, _⟩ := hFU.cells
          clear hFU hG' hRW HU4 keepR
          cases tb
          · clear g0 x1 x2
            go_wp2_with fail
            go_roundw
            case rel => exact ⟨j - 1, q, _, F, by go_num, by omega, rfl, HQ.out, HU5.out.more (by omega)⟩
            case measure => simp [intOf]; omega
          · have HU6 := hid (HU5.out.put HG5.out)
            have HT := hid (hT rfl)
            clear hT
            go_wp2_with fail
            go_roundw
            case rel => exact ⟨j - 1, tq, _, F', by go_num, by omega, rfl, HT.out, HU6.out.more (by omega)⟩
            case measure => simp [intOf]; omega
      · go_wp2_with fail
        have hbf := HU4.out.size
        have hbb := HU4.out.bl
        have hlf := HU4.out.lf
        have FB := HU4.out.below ((Below.refl w4.heap.size w4).drew)
        have HKL := hid (good_kidsLe HQ.out.1)
        have HL4 := hid (good_len2 HQ.out.1)
        have keepR : Hid (∀ (W : World) (A' : Int), FU w W cb b n A' bf (.slice va F.length vc) F → W.cell? ⟨bf, 0, none⟩ = some (.slice va F.length vc)) := fun W A' h => h.cells.1
        apply cut6 (C := fun (_ u : Value) (tq : Int) (tb : Bool) (bg : Nat) (W : World) => FU w W cb b n (A + 400 - 150 * (j : Int) + 1 + 1 + 100) bf (.slice va F.length vc) F ∧ W.rowIs bg 25 1 (fun _ => u) ∧ ∃ F', GF W w.heap.size u F' ∧ (tb = true → goodF F' = true ∧ 0 ≤ tq ∧ tq < (F'.length : Int)))
        case main =>
          intro key
          go_region_held3 (fun W => W.cell? ⟨bf, 0, none⟩ = some (.slice va F.length vc))
            (first | exact keepR.out _ _ FB | exact keepR.out _ _ HU4.out | exact keepR.out _ _ (FB.below ((Below.refl _ _).alloc (Nat.le_refl _) _)) | exact keepR.out _ _ (FB.setBox RZ.out (by omega) (by omega) _) | go_keep)
            (first
              | (go_at_call 74; refine (c_square cb b n _ 4 _ (FU.cur (show FU w _ cb b n _ bf (.slice va F.length vc) F by first | exact FB | exact FB.below ((Below.refl _ _).alloc (Nat.le_refl _) _))) (by omega) (by omega) (by omega)).mono ?_; rintro e ws ⟨sv0, L, rfl, hOL, hrL, hLl, hIn, hcs, hgs⟩; obtain ⟨sa, sc, rfl, hsL⟩ := hOL.form; (first | have RZ := hid (box_newGD hgs (by omega)) | skip); (try have hl1 := RZ.out.lt); replace FB := FU.cur' (show FU w _ cb b n _ bf (.slice va F.length vc) F by first | exact FB | exact FB.below ((Below.refl _ _).alloc (Nat.le_refl _) _)) hcs hgs; (first | have hzs : w4.heap.size ≤ ws.heap.size := hgs.size | have hzs : w4.heap.size + 1 ≤ ws.heap.size := (by have := hgs.size; simpa using this)); have HSL := hid hsL; clear hOL hrL hIn hcs hgs hsL)
              | (go_at_call 17; refine (c_sTreeOf va F vc 4 sa L sc _ (FU.gf (show FU w _ cb b n _ bf (.slice va F.length vc) F by first | exact FB | exact FB.below ((Below.refl _ _).alloc (Nat.le_refl _) _))).at.1 (by have := HL4.out; omega) HKL.out FB.gf.at.2.2.1 FB.gf.at.2.2.2 (FU.gf (show FU w _ cb b n _ bf (.slice va F.length vc) F by first | exact FB | exact FB.below ((Below.refl _ _).alloc (Nat.le_refl _) _))).at.2.1 (by first | exact HSL.out | exact HSL.out.below ((Below.refl _ _).alloc (Nat.le_refl _) _)) (by omega)).mono ?_; rintro e wt ⟨u0, rfl, hG, bt⟩; have HG := hid (hG.mono (show w.heap.size ≤ _ by first | (have := FB.size; omega) | (have := FB.size; rw [alloc_size]; omega))); obtain ⟨ua, uc, rfl, _⟩ := hG.form; (first | have RZ := hid (box_new bt) | replace RZ := hid (RZ.out.of_block (bt.block _ RZ.out.lt)) | skip); replace FB := FU.below (show FU w _ cb b n _ bf (.slice va F.length vc) F by first | exact FB | exact FB.below ((Below.refl _ _).alloc (Nat.le_refl _) _)) bt; (try have r0 := RZ.out.cell (i := 0) (by omega)); (try have f0 := RZ.out.frozen 0); clear hG bt))
          · have hT := tof_good (F := F) (lv := 4) (L := L)
            have FB2 := FB.below ((Below.refl wt.heap.size wt).alloc (Nat.le_refl _) (.cells #[.slice ua (tofF F 4 L).length uc] 25))
            have HG2 := HG.out.below ((Below.refl wt.heap.size wt).alloc (Nat.le_refl _) (.cells #[.slice ua (tofF F 4 L).length uc] 25))
            have HR2 := one_row (heap_alloc_new wt (.cells #[.slice ua (tofF F 4 L).length uc] 25))
            generalize wt.alloc (.cells #[.slice ua (tofF F 4 L).length uc] 25) = W9 at FB2 HG2 HR2 ⊢
            generalize tofF F 4 L = TF at HG2 HR2 hT ⊢
            generalize tofQ F 4 L = tq at hT ⊢
            generalize tofB F 4 L = tb at hT ⊢
            generalize wt.heap.size = bg at HR2 ⊢
            generalize Value.slice ua TF.length uc = u at HG2 HR2 ⊢
            generalize Value.slice sa L.length sc = sv
            exact key.out sv u tq tb bg W9 ⟨FB2, HR2, TF, HG2, hT⟩
          all_goals
            exact key.out _ _ _ _ _ _ ⟨FB.setBox RZ.out (by omega) (by omega) _, own_next RZ.out _, _, HG.out.setRow (o := 0) RZ.out (by decide) (by decide) _, tof_good⟩
        case pf =>
          intro sv u tq tb bg W hCC
          obtain ⟨hFU, hRW, F', hG', hT⟩ := hCC
          obtain ⟨ua, uc, rfl, _⟩ := hG'.form
          have HU5 := hid hFU
          have HG5 := hid hG'
          have g0 := hRW.cell (i := 0) (by omega)
          obtain ⟨x1, x2, _, _⟩ := hFU.cells
          clear hFU hG' hRW HU4 keepR
          cases tb
          · clear g0 x1 x2
            go_wp2_with fail
            go_roundw
            case rel => exact ⟨j - 1, q, _, F, by go_num, by omega, rfl, HQ.out, HU5.out.more (by omega)⟩
            case measure => simp [intOf]; omega
          · have HU6 := hid (HU5.out.put HG5.out)
            have HT := hid (hT rfl)
            clear hT
            go_wp2_with fail
            go_roundw
            case rel => exact ⟨j - 1, tq, _, F', by go_num, by omega, rfl, HT.out, HU6.out.more (by omega)⟩
            case measure => simp [intOf]; omega
    · obtain rfl : j = 0 := by omega
      have HUJ := hid (HU.out.more (show A + 400 - 150 * ((0 : Nat) : Int) ≤ A + 400 by omega))
      clear HU hj0
      go_wp2_with fail
      refine (c_pick cb b n _ 30 wr HUJ.out.cur (by omega) (by omega) (by omega)).mono ?_
      rintro e w3 ⟨x, rfl, x0, x1, hc3, hg3⟩
      have HU3 := hid (HUJ.out.cur' hc3 hg3)
      clear hc3 hg3 HUJ
      have DK0 := hid (drok_good HQ.out.1 HQ.out.2.1 HQ.out.2.2)
      have hL2 := good_len2 HQ.out.1
      obtain ⟨g, cap, hv⟩ := HU3.out.gf.filled (by omega)
      simp only [Value.slice.injEq, true_and] at hv
      obtain ⟨rfl, rfl⟩ := hv
      by_cases hx0 : x = 0
      · subst hx0
        have hi : (F.length - 1) < F.length := by omega
        obtain ⟨lc, lf⟩ := HU3.out.gf.levCell hi
        have hlb := lev_nonneg HQ.out.1 hi
        have hLV : ∀ lv, HU3.out.setLev hi lv = HU3.out.setLev hi lv := fun _ => rfl
        have HU6 := hid (HU3.out.setLev hi ((qa F (F.length - 1)).1 + 1))
        have DK := hid (drok_set (lv := (qa F (F.length - 1)).1 + 1) hi DK0.out)
        obtain ⟨y1, y2, _, _⟩ := HU3.out.cells
        clear hLV
        have k0 : (0 : Int) ≤ (F.length : Int) - 1 := by omega
        have k1 : (F.length : Int) - 1 < (F.length : Int) := by omega
        have RT := hid HU6.out.ret
        obtain ⟨x1, x2, x3, x4⟩ := HU6.out.cells
        have E0 := hid ((HU6.out.res.set 0 (Value.slice (some ⟨g, 0, none⟩) F.length vc)).cell (i := 0) (by omega))
        simp only [if_true] at E0
        clear HQ
        generalize (qa F (F.length - 1)).1 = lv at *
        go_wp2_with fail
        exact bodyPost_ret (v := .tuple #[.agg #[Value.slice (some ⟨g, 0, none⟩) F.length vc], .int .i64 q]) (by simp [results, Try.results72, go_sem, E0.out]) rfl ⟨_, q, _, rfl, RT.out.1, DK.out, RT.out.2.1.more (by omega), RT.out.2.2⟩
      · by_cases hx1 : x = 1
        · subst hx1
          have d0 : ((1 : Int) == 0) = false := rfl
          have hi : F.length - 1 < F.length := by omega
          obtain ⟨lc, lf⟩ := HU3.out.gf.levCell hi
          obtain ⟨ak, ck, kc, hK, hck, hnk⟩ := HU3.out.gf.kidCell hi
          have DK := hid (drok_app hi (by omega) DK0.out)
          obtain ⟨y1, y2, y3, y4⟩ := HU3.out.cells
          have k0 : (0 : Int) ≤ (F.length : Int) - 1 := by omega
          have k1 : (F.length : Int) - 1 < (F.length : Int) := by omega
          clear HQ
          generalize qa F (F.length - 1) = qd at *
          have bA := ((Below.refl w3.heap.size w3).alloc (Nat.le_refl _) (.cells (qf qd (ak, ck)).toArray 56)).drew
          have HUA := hid (HU3.out.below bA)
          have HKA := hid (hK.below bA)
          have HLE := hid (show (F ++ [qd]).length = F.length + 1 by simp)
          have hws := HU3.out.size
          have hwr : IntKind.i64.wrap ((F.length : Int) - 1) = (F.length : Int) - 1 := IntWalk.i64_in _ ⟨by omega, by omega⟩
          have k2 : (1 : Int) ≤ (F.length : Int) := by omega
          have hti : ((F.length : Int) - 1).toNat = F.length - 1 := by omega
          go_wp2_with fail
          go_region_law (first
            | (refine step_appQ rfl (.tmp 56) (.tmp 65) rfl w.heap.size _ F qd ak ck w3.heap.size (by simp [Act.eval, Act.put]) HUA.out.gf (by simp [Act.eval, Act.put]) (heap_alloc_new _ _) HKA.out hck hnk (by omega) (by simp; omega) ?_
               intro v7 w7 hG7 hg7 _
               have HG7 := hid hG7
               obtain ⟨a7, c7, rfl, _⟩ := hG7.form
               rw [HLE.out] at HG7
               obtain ⟨hr7, hU7⟩ := HUA.out.app hg7 HG7.out
               have HU6 := hid hU7
               have q1 := hr7.cell (i := 0) (by omega)
               have q2 := hr7.frozen 0
               clear hG7 hg7 hr7 hU7))
          all_goals
            have RT := hid HU6.out.ret
            obtain ⟨z1, z2, z3, z4⟩ := HU6.out.cells
            have E0 := hid ((HU6.out.res.set 0 (Value.slice a7 (F.length + 1) c7)).cell (i := 0) (by omega))
            simp only [if_true] at E0
            go_wp2_with fail
            exact bodyPost_ret (v := .tuple #[.agg #[Value.slice a7 (F.length + 1) c7], .int .i64 q]) (by simp [results, Try.results72, go_sem, E0.out]) rfl ⟨_, q, _, rfl, RT.out.1, DK.out, RT.out.2.1.more (by omega), RT.out.2.2⟩
        · have d0 : (x == 0) = false := beq_eq_false_iff_ne.2 hx0
          have d1 : (x == 1) = false := beq_eq_false_iff_ne.2 hx1
          have HU6 := hid HU3.out
          have DK := hid DK0.out
          have RT := hid HU6.out.ret
          obtain ⟨x1, x2, x3, x4⟩ := HU6.out.cells
          have E0 := hid ((HU6.out.res.set 0 (Value.slice (some ⟨g, 0, none⟩) F.length vc)).cell (i := 0) (by omega))
          simp only [if_true] at E0
          clear HU3
          go_wp2_with fail
          exact bodyPost_ret (v := .tuple #[.agg #[Value.slice (some ⟨g, 0, none⟩) F.length vc], .int .i64 q]) (by simp [results, Try.results72, go_sem, E0.out]) rfl ⟨_, q, _, rfl, RT.out.1, DK.out, RT.out.2.1.more (by omega), RT.out.2.2⟩

end Go.Proofs.Ytmapbkefndbnnaa

namespace Go.Proofs.Ytmapbkefndbnnaa
open Go.RowKit
set_option linter.unusedVariables false
set_option linter.unusedSimpArgs false
attribute [local go_sem ↓] Go.wp_at_zero Go.wp_at_succ

set_option maxHeartbeats 400000 in
theorem c_hasCellL (a : Option Addr) (l : List Cl) (ca : Nat) (c : Cl) (w : World) (ha : Seg w a l) (hl : l.length ≤ 1048576) :
    Calls Try.prog 24 #[.slice a l.length ca, .agg #[.int .i64 c.1, .int .i64 c.2]] w fun e w' => e = .returned (.bool (decide (c ∈ l))) ∧ Below w.heap.size w w' := by
  go_enter Try.func24, Try.ntmps24
  go_wp2
  go_loopw [9] (fun i wr => ∃ k : Nat, k ≤ l.length ∧ i = .int .i64 k ∧ Hid (∀ t, t < k → at_ l t ≠ c) ∧ Below (w.alloc (.cells #[.int .i64 c.1, .int .i64 c.2] 39)).heap.size (w.alloc (.cells #[.int .i64 c.1, .int .i64 c.2] 39)) wr) (fun i _ => l.length - (intOf i).toNat)
  case atStart => exact ⟨0, Nat.zero_le _, rfl, (fun t ht => absurd ht (Nat.not_lt_zero _)), Below.refl _ _⟩
  case round =>
    obtain ⟨k, hk, rfl, hT, hbel⟩ := hrel
    have hB : Below w.heap.size w wr := ((Below.refl _ _).alloc (Nat.le_refl _) _).trans (hbel.mono (by simp))
    by_cases hlt : k < l.length
    · obtain ⟨b1, o1, rfl, hb1, p1, p2⟩ := ha k hlt
      have g1 := (hB.cell (p := ⟨b1, o1 + k * 2, none⟩) hb1).trans p1
      have g2 := (hB.cell (p := ⟨b1, o1 + k * 2 + 1, none⟩) hb1).trans p2
      change _ = some (Value.int .i64 (at_ l k).1) at g1
      change _ = some (Value.int .i64 (at_ l k).2) at g2
      have g3 := (hbel.cell (p := ⟨w.heap.size, 0, none⟩) (by simp)).trans (cell_new0 w (.int .i64 c.1) (.int .i64 c.2) 39)
      have g4 := (hbel.cell (p := ⟨w.heap.size, 1, none⟩) (by simp)).trans (cell_new1 w (.int .i64 c.1) (.int .i64 c.2) 39)
      have hsz : w.heap.size < wr.heap.size := by have := hbel.size; simp at this; omega
      clear p1 p2
      have k0 : (0 : Int) ≤ (k : Int) := by omega
      have k1 : (k : Int) < (l.length : Int) := by omega
      have HM := hid (fun e : at_ l k = c => mem_at.2 ⟨k, hlt, e⟩)
      have HN := hid (show at_ l k ≠ c → ∀ t, t < k + 1 → at_ l t ≠ c from fun hn t ht => by
        by_cases e : t = k
        · rw [e]; exact hn
        · exact hT.out t (by omega))
      generalize at_ l k = x at *
      by_cases h1 : x.1 = c.1
      · by_cases h2 : x.2 = c.2
        · go_wp2
          go_ret
          exact ⟨ret_bool (by simp [HM.out (Prod.ext h1 h2)]), hB.alloc hB.size _⟩
        · have hn : x ≠ c := fun e => h2 (by rw [e])
          have HN' := hid (HN.out hn)
          clear hn HN HM
          go_wp2
          go_roundw
          case rel => exact ⟨k + 1, by omega, by go_num, HN'.out, hbel.alloc hbel.size _⟩
          case measure => simp [intOf]; omega
      · have hn : x ≠ c := fun e => h1 (by rw [e])
        have HN' := hid (HN.out hn)
        clear hn HN HM
        go_wp2
        go_roundw
        case rel => exact ⟨k + 1, by omega, by go_num, HN'.out, hbel.alloc hbel.size _⟩
        case measure => simp [intOf]; omega
    · go_wp2
      go_ret
      exact ⟨ret_bool (not_mem_to (fun t ht => hT.out t (by omega))).symm, hB⟩

set_option maxHeartbeats 400000 in
theorem c_has_ (a : Option Addr) (l : List Int) (ca : Nat) (n : Int) (w : World) (ha : ISeg w a l) (hl : l.length ≤ 1048576) :
    Calls Try.prog 42 #[.slice a l.length ca, .int .i64 n] w fun e w' => e = .returned (.bool (decide (n ∈ l))) ∧ w' = w := by
  go_enter Try.func42, Try.ntmps42
  go_wp2
  go_loopw [9] (fun i wr => ∃ k : Nat, k ≤ l.length ∧ i = .int .i64 k ∧ Hid (¬ n ∈ l.take k) ∧ wr = w) (fun i _ => l.length - (intOf i).toNat)
  case atStart => exact ⟨0, Nat.zero_le _, rfl, (by show ¬ _; simp), rfl⟩
  case round =>
    obtain ⟨k, hk, rfl, HT, rfl⟩ := hrel
    by_cases hlt : k < l.length
    · obtain ⟨b1, o1, rfl, hb1, p1⟩ := ha k hlt
      have k0 : (0 : Int) ≤ (k : Int) := by omega
      have k1 : (k : Int) < (l.length : Int) := by omega
      have HM := hid (fun e : ia l k = n => (mem_ia.2 ⟨k, hlt, e⟩ : n ∈ l))
      have HN := hid (fun e : ¬ ia l k = n => mem_take_ia HT.out hlt e)
      generalize ia l k = x at *
      by_cases e : x = n
      · have d : (x == n) = true := by simp [e]
        have HV := hid (HM.out e)
        clear e
        go_wp2
        go_ret
        exact ⟨ret_bool (by simp [HV.out]), rfl⟩
      · have d : (x == n) = false := by simp [e]
        have HV := hid (HN.out e)
        clear e
        go_wp2
        go_roundw
        case rel => exact ⟨k + 1, by omega, by go_num, HV.out, by first | rfl | trivial⟩
        case measure => simp [intOf]; omega
    · go_wp2
      go_ret
      have : l.take k = l := List.take_of_length_le (by omega)
      have h := HT.out
      rw [this] at h
      exact ⟨ret_bool (by simp [h]), rfl⟩

set_option maxHeartbeats 1000000 in
set_option maxRecDepth 100000 in
theorem c_sameInts (a b : Option Addr) (l : List Int) (ca cb : Nat) (w : World) (ha : ISeg w a l) (hb : ISeg w b l) (hl : l.length ≤ 1048576) :
    Calls Try.prog 41 #[.slice a l.length ca, .slice b l.length cb] w fun e w' => e = .returned (.bool true) ∧ Below w.heap.size w w' := by
  have hlm' : ((l.length : Int) != (l.length : Int)) = false := by simp
  go_enter Try.func41, Try.ntmps41
  go_wp2
  go_loopw [13] (fun i wr => ∃ k : Nat, k ≤ l.length ∧ i = .int .i64 k ∧ Below w.heap.size w wr) (fun i _ => l.length - (intOf i).toNat)
  case atStart => exact ⟨0, Nat.zero_le _, rfl, Below.refl _ _⟩
  case round =>
    obtain ⟨k, hk, rfl, hbel⟩ := hrel
    by_cases hlt : k < l.length
    · obtain ⟨b1, o1, rfl, hb1, p1⟩ := ha k hlt
      obtain ⟨b2, o2, rfl, hb2, q1⟩ := hb k hlt
      have g1 := (hbel.cell (p := ⟨b1, o1 + k, none⟩) hb1).trans p1
      have g3 := (hbel.cell (p := ⟨b2, o2 + k, none⟩) hb2).trans q1
      clear p1 q1
      have HB := hid (hbel.trans (((Below.refl wr.heap.size wr).drew).mono hbel.size))
      clear hbel
      generalize ia l k = x at *
      have hx : (x != x) = false := by simp
      have k0 : (0 : Int) ≤ (k : Int) := by omega
      have k1 : (k : Int) < (l.length : Int) := by omega
      go_wp2
      go_still (by kernel_rfl)
      go_wp2
      go_roundw
      case rel => exact ⟨k + 1, by omega, by go_num, HB.out⟩
      case measure => simp [intOf]; omega
    · go_wp2
      go_ret
      exact ⟨rfl, hbel⟩

set_option maxHeartbeats 4000000 in
set_option maxRecDepth 100000 in
theorem c_sameForest (a b : Option Addr) (F : List Qd) (ca cb : Nat) (w : World) (ha : QSeg w a F) (hb : QSeg w b F) (hl : F.length ≤ 1048576) (hk : KidsLe F) :
    Calls Try.prog 18 #[.agg #[.slice a F.length ca], .agg #[.slice b F.length cb]] w fun e w' => e = .returned (.bool true) ∧ Below w.heap.size w w' := by
  have hlm' : ((F.length : Int) != (F.length : Int)) = false := by simp
  have bA := (Below.refl w.heap.size w).alloc (Nat.le_refl _) (.cells #[.slice a F.length ca] 25)
  have X0 := hid ((Box1.new w (.slice a F.length ca) 25).step ((Below.refl _ (w.alloc (.cells #[.slice a F.length ca] 25))).alloc (Nat.le_refl _) (.cells #[.slice b F.length cb] 25)))
  have Y0 := hid (Box1.new (w.alloc (.cells #[.slice a F.length ca] 25)) (.slice b F.length cb) 25)
  have s1 : (w.alloc (.cells #[.slice a F.length ca] 25)).heap.size = w.heap.size + 1 := by simp
  have HA := hid ha
  have HB := hid hb
  have x0 := X0.out.1
  have y0 := Y0.out.1
  rw [s1] at y0
  have HS1 := hid s1
  clear ha hb bA s1
  go_enter Try.func18, Try.ntmps18
  go_wp2_with fail
  generalize hW0 : (w.alloc (.cells #[.slice a F.length ca] 25)).alloc (.cells #[.slice b F.length cb] 25) = W0 at *
  go_loopw [16] (fun i wr => ∃ k : Nat, k ≤ F.length ∧ i = .int .i64 k ∧ Hid (Below W0.heap.size W0 wr)) (fun i _ => F.length - (intOf i).toNat)
  case atStart => exact ⟨0, Nat.zero_le _, rfl, Below.refl _ _⟩
  case round =>
    obtain ⟨k, hk', rfl, HBW⟩ := hrel
    clear x0 y0
    have X1 := hid (X0.out.step HBW.out)
    by_cases hlt : k < F.length
    · obtain ⟨b1, o1, ak, ck, rfl, hb1, p1, p2, p3, p4⟩ := HA.out k hlt
      obtain ⟨b2, o2, bk, dk, rfl, hb2, q1, q2, q3, q4⟩ := HB.out k hlt
      have hkl := hk k hlt
      have HP3 := hid p3
      have HQ3 := hid q3
      have HLT := hid (⟨hb1, hb2⟩ : b1 < w.heap.size ∧ b2 < w.heap.size)
      have HC := hid (⟨p1, p2, q1, q2⟩ : _ ∧ _ ∧ _ ∧ _)
      generalize qa F k = qd at *
      have Yc := hid (⟨Y0.out.1, Y0.out.2.1⟩ : _ ∧ _)
      have keep : Hid (∀ W : World, Below wr.heap.size wr W → W.cell? ⟨w.heap.size, 0, none⟩ = some (.slice (some ⟨b1, o1, none⟩) F.length ca) ∧ W.cell? ⟨w.heap.size + 1, 0, none⟩ = some (.slice (some ⟨b2, o2, none⟩) F.length cb) ∧ W.cell? ⟨b1, o1 + k * 2, none⟩ = some (.int .i64 qd.1) ∧ W.cell? ⟨b1, o1 + k * 2 + 1, none⟩ = some (.slice ak qd.2.length ck) ∧ W.cell? ⟨b2, o2 + k * 2, none⟩ = some (.int .i64 qd.1) ∧ W.cell? ⟨b2, o2 + k * 2 + 1, none⟩ = some (.slice bk qd.2.length dk)) := by
        intro W h
        have hx := X1.out.step h
        have hW := HBW.out.trans (h.mono HBW.out.size)
        have y1 := Yc.out.1
        have y2 := Yc.out.2
        rw [HS1.out] at y1 y2
        have hy := (hW.cell (p := ⟨w.heap.size + 1, 0, none⟩) y2).trans y1
        exact ⟨hx.1, hy, (hx.2.2.cell (p := ⟨b1, o1 + k * 2, none⟩) HLT.out.1).trans HC.out.1, (hx.2.2.cell (p := ⟨b1, o1 + k * 2 + 1, none⟩) HLT.out.1).trans HC.out.2.1, (hx.2.2.cell (p := ⟨b2, o2 + k * 2, none⟩) HLT.out.2).trans HC.out.2.2.1, (hx.2.2.cell (p := ⟨b2, o2 + k * 2 + 1, none⟩) HLT.out.2).trans HC.out.2.2.2⟩
      have HSI := hid (fun (W : World) (h : Below wr.heap.size wr W) => c_sameInts ak bk qd.2 ck dk W (HP3.out.below (X1.out.step h).2.2) (HQ3.out.below (X1.out.step h).2.2) hkl)
      have hd : (qd.1 != qd.1) = false := by simp
      have k0 : (0 : Int) ≤ (k : Int) := by omega
      have k1 : (k : Int) < (F.length : Int) := by omega
      clear p1 p2 p3 q1 q2 q3 p4 q4
      go_wp2_with fail
      have BB := (Below.refl wr.heap.size wr).drew
      go_region_held3 (fun W => W.cell? ⟨w.heap.size, 0, none⟩ = some (.slice (some ⟨b1, o1, none⟩) F.length ca) ∧ W.cell? ⟨w.heap.size + 1, 0, none⟩ = some (.slice (some ⟨b2, o2, none⟩) F.length cb) ∧ W.cell? ⟨b1, o1 + k * 2, none⟩ = some (.int .i64 qd.1) ∧ W.cell? ⟨b1, o1 + k * 2 + 1, none⟩ = some (.slice ak qd.2.length ck) ∧ W.cell? ⟨b2, o2 + k * 2, none⟩ = some (.int .i64 qd.1) ∧ W.cell? ⟨b2, o2 + k * 2 + 1, none⟩ = some (.slice bk qd.2.length dk))
        (first | exact keep.out _ (Below.refl wr.heap.size wr) | exact keep.out _ BB | go_keep)
        (first
          | (go_at_call 41; refine (HSI.out _ BB).mono ?_; rintro e w5 ⟨rfl, b5⟩; replace BB := BB.trans (b5.mono BB.size)))
      have HBB := hid (HBW.out.trans (BB.mono HBW.out.size))
      go_wp2_with fail
      go_roundw
      case rel => exact ⟨k + 1, by omega, by go_num, HBB.out⟩
      case measure => simp [intOf]; omega
    · go_wp2
      go_ret
      exact ⟨rfl, X1.out.2.2⟩

end Go.Proofs.Ytmapbkefndbnnaa

namespace Go.Proofs.Ytmapbkefndbnnaa
open Go.RowKit
set_option linter.unusedVariables false
set_option linter.unusedSimpArgs false
attribute [local go_sem ↓] Go.wp_at_zero Go.wp_at_succ

/-- What stands while a draw of a tree runs: the answer's box (the first new block), the cursor in block b, the forest's box bf, the forest. -/
structure DU (w W : World) (b n : Nat) (A : Int) (bf : Nat) (v : Value) (F : List Qd) : Prop where
  cur : CurAt W b b n A
  bel : Below w.heap.size w W
  res : W.rowIs w.heap.size 25 1 (fun _ => .slice none 0 0)
  box : W.rowIs bf 25 1 (fun _ => v)
  gf : GF W (b + 1) v F
  lb : w.heap.size < b
  lf : b < bf
section
variable {w W W' : World} {b n bf : Nat} {A A' : Int} {v : Value} {F : List Qd}
theorem DU.below (h : DU w W b n A bf v F) (hb : Below W.heap.size W W') : DU w W' b n A bf v F :=
  ⟨h.cur.kept (grown_of_below hb none) (by simp) (fun k e => by cases e), h.bel.trans (hb.mono h.bel.size), h.res.of_block (hb.block _ h.res.lt), h.box.of_block (hb.block _ h.box.lt), h.gf.below hb, h.lb, h.lf⟩
theorem below_cur' {w W W' : World} {b : Nat} (h : Below w.heap.size w W) (hg : W.grownBy W' (some b)) (hb : w.heap.size ≤ b) : Below w.heap.size w W' :=
  h.grown hg h.size (fun k e => by simp only [Option.some.injEq] at e; omega)
theorem DU.cur' (h : DU w W b n A bf v F) (hc : CurAt W' b b n A') (hg : W.grownBy W' (some b)) : DU w W' b n A' bf v F := by
  have hb := h.lb
  have hf := h.lf
  exact ⟨hc, below_cur' h.bel hg (by omega), h.res.of_block (hg.block _ h.res.lt (fun e => by simp only [Option.some.injEq] at e; omega)), h.box.of_block (hg.block _ h.box.lt (fun e => by simp only [Option.some.injEq] at e; omega)), h.gf.grown hg (fun k e => by simp only [Option.some.injEq] at e; omega), h.lb, h.lf⟩
theorem DU.more (h : DU w W b n A bf v F) (hA : A ≤ A') : DU w W b n A' bf v F := ⟨h.cur.more hA, h.bel, h.res, h.box, h.gf, h.lb, h.lf⟩
theorem DU.new {w Wc w1 : World} {b n : Nat} {A : Int} {v : Value} {F : List Qd} (hR : Wc.rowIs w.heap.size 25 1 (fun _ => .slice none 0 0)) (hB : Below w.heap.size w Wc) (hb : w.heap.size < b) (hbc : b < Wc.heap.size) (hG : GF w1 Wc.heap.size v F) (hc : CurAt w1 b b n A) (hg : Wc.grownBy w1 (some b)) : DU w (w1.alloc (.cells #[v] 25)) b n A w1.heap.size v F := by
  have ba := (Below.refl w1.heap.size w1).alloc (Nat.le_refl _) (.cells #[v] 25)
  have hs := hg.size
  exact ⟨hc.kept (grown_of_below ba none) (by simp) (fun k e => by cases e), (below_cur' hB hg (by omega)).trans (ba.mono (below_cur' hB hg (by omega)).size), (hR.of_block (hg.block _ hR.lt (fun e => by simp only [Option.some.injEq] at e; omega))).alloc _, one_row (heap_alloc_new _ _), (hG.mono (by omega)).below ba, hb, by omega⟩
theorem DU.cells {va : Option Addr} {k vc : Nat} (h : DU w W b n A bf (.slice va k vc) F) : W.cell? ⟨bf, 0, none⟩ = some (.slice va k vc) ∧ W.cell? ⟨w.heap.size, 0, none⟩ = some (.slice none 0 0) ∧ W.frozen? ⟨w.heap.size, 0, none⟩ = false :=
  ⟨h.box.cell (i := 0) (by omega), h.res.cell (i := 0) (by omega), h.res.frozen 0⟩
theorem DU.ret (h : DU w W b n A bf v F) : GF (W.setCell ⟨w.heap.size, 0, none⟩ v) w.heap.size v F ∧ Below w.heap.size w (W.setCell ⟨w.heap.size, 0, none⟩ v) ∧ (W.setCell ⟨w.heap.size, 0, none⟩ v).cell? ⟨w.heap.size, 0, none⟩ = some v ∧ (W.setCell ⟨w.heap.size, 0, none⟩ v).cell? ⟨bf, 0, none⟩ = some v := by
  have hb := h.lb
  have hf := h.lf
  have e := (h.res.set 0 v).cell (i := 0) (by omega)
  simp only [if_true] at e
  exact ⟨(h.gf.mono (by omega)).setRow (o := 0) h.res (by decide) (by decide) v, h.bel.setCell (p := ⟨w.heap.size, 0, none⟩) (Nat.le_refl _) v, e, (h.box.setOther (a := ⟨w.heap.size, 0, none⟩) (by dsimp only; omega) v).cell (i := 0) (by omega)⟩
end
/-- The cursor of a draw, behind the answer's box. -/
abbrev drW (w : World) (a : Option Addr) (n ca : Nat) : World := curW (w.alloc (.cells #[.slice none 0 0] 25)) a n ca
theorem drw_new (w : World) (a : Option Addr) (l : List Int) (ca : Nat) (ha : BSeg w a l) (hl : l.length ≤ 9223372036854775807) : CurAt (drW w a l.length ca) (w.heap.size + 1) (w.heap.size + 1) l.length 0 ∧ (drW w a l.length ca).rowIs w.heap.size 25 1 (fun _ => .slice none 0 0) ∧ Below w.heap.size w (drW w a l.length ca) ∧ w.heap.size + 1 < (drW w a l.length ca).heap.size := by
  have b1 := (Below.refl w.heap.size w).alloc (Nat.le_refl _) (.cells #[.slice none 0 0] 25)
  have s1 : (w.alloc (.cells #[.slice none 0 0] 25)).heap.size = w.heap.size + 1 := by simp
  have h := cur_new (w.alloc (.cells #[.slice none 0 0] 25)) a l ca (ha.below b1) hl
  rw [s1] at h
  exact ⟨h, (one_row (heap_alloc_new w _)).alloc _, b1.alloc (by rw [s1]; omega) _, by simp⟩

set_option maxHeartbeats 2000000 in
set_option maxRecDepth 100000 in
theorem c_DrawCellsIn (a : Option Addr) (l : List Int) (ca : Nat) (w : World) (ha : BSeg w a l) (hl : l.length ≤ 9223372036854775807) :
    Calls Try.prog 28 #[.slice a l.length ca] w fun e w' => ∃ (u : Value) (q : Int) (F : List Qd), e = .returned (.tuple #[.agg #[u], .int .i64 q]) ∧ GF w' w.heap.size u F ∧ (2 ≤ F.length ∧ F.length ≤ 401 ∧ KidsLe F) ∧ -1 ≤ q ∧ q ≤ 500 ∧ Below w.heap.size w w' := by
  obtain ⟨h1, h2, h3, h4⟩ := drw_new w a l ca ha hl
  have HC := hid h1
  have HR := hid h2
  have HB := hid h3
  have HL := hid h4
  clear ha h1 h2 h3 h4
  go_enter Try.func28, Try.ntmps28
  go_wp2_with fail
  refine (c_drawForest (w.heap.size + 1) (w.heap.size + 1) l.length 0 _ HC.out (by omega)).mono ?_
  rintro e w1 ⟨u, q, F, rfl, hG, hD, hc, hg⟩
  have HD := hid hD
  have HG := hid hG
  obtain ⟨ua, uc, rfl, _⟩ := hG.form
  have DD := hid (DU.new HR.out HB.out (by omega) HL.out HG.out hc hg)
  clear hD hG hc hg HC HR HB HL HG
  go_wp2_with fail
  generalize w1.alloc (.cells #[.slice ua F.length uc] 25) = W1 at *
  generalize w1.heap.size = bf at *
  refine (c_one _ _ _ _ 2 W1 DD.out.cur (by omega) (by omega) (by omega)).mono ?_
  rintro e w2 ⟨x, rfl, hc2, hg2⟩
  replace DD := hid (DD.out.cur' hc2 hg2)
  clear hc2 hg2
  cases x
  · have BB := DD.out
    have hFl := HD.out.2.1
    have hF2 := HD.out.1
    have hwr : IntKind.i64.wrap ((F.length : Int) + 2) = (F.length : Int) + 2 := IntWalk.i64_in _ ⟨by omega, by omega⟩
    have keepR : Hid (∀ (W : World) (A' : Int), DU w W (w.heap.size + 1) l.length A' bf (.slice ua F.length uc) F → W.cell? ⟨bf, 0, none⟩ = some (.slice ua F.length uc)) := fun W A' h => h.cells.1
    have FB := DD.out.below ((Below.refl w2.heap.size w2).drew)
    go_wp2_with fail
    go_region_held3 (fun W => W.cell? ⟨bf, 0, none⟩ = some (.slice ua F.length uc))
      (first | exact keepR.out _ _ FB | exact keepR.out _ _ DD.out | exact FB.ret.2.2.2 | go_keep)
      (first
        | (go_at_call 91; refine (c_pickAny (w.heap.size + 1) (w.heap.size + 1) l.length _ ((F.length : Int) + 2) _ FB.cur (by omega) (by omega)).mono ?_; rintro e w3 ⟨p, rfl, p0, p1, hc3, hg3⟩; replace FB := FB.cur' hc3 hg3; have p2 : p ≤ 403 := (by omega); have hwp : IntKind.i64.wrap (p - 1) = p - 1 := IntWalk.i64_in _ ⟨by omega, by omega⟩; obtain ⟨y1, y2, y3⟩ := FB.cells; clear hc3 hg3 p1))
    obtain ⟨r1, r2, r3, r4⟩ := FB.ret
    have R1 := hid r1
    have R2 := hid r2
    have R3 := hid r3
    go_wp2_with fail
    exact bodyPost_ret (v := .tuple #[.agg #[.slice ua F.length uc], .int .i64 (p - 1)]) (by simp [results, Try.results28, go_sem, R3.out]) rfl ⟨_, p - 1, F, rfl, R1.out, ⟨HD.out.1, HD.out.2.1, HD.out.2.2.1⟩, by omega, by omega, R2.out⟩
  · obtain ⟨y1, y2, y3⟩ := DD.out.cells
    obtain ⟨r1, r2, r3, r4⟩ := DD.out.ret
    have R1 := hid r1
    have R2 := hid r2
    have R3 := hid r3
    clear r1 r2 r3 r4
    go_wp2_with fail
    exact bodyPost_ret (v := .tuple #[.agg #[.slice ua F.length uc], .int .i64 q]) (by simp [results, Try.results28, go_sem, R3.out]) rfl ⟨_, q, F, rfl, R1.out, ⟨HD.out.1, HD.out.2.1, HD.out.2.2.1⟩, by have := HD.out.2.2.2.1; omega, by have := HD.out.2.2.2.2; have := HD.out.2.1; omega, R2.out⟩

/-- A forest's box is written: cells are as they were. -/
theorem ownS_set {W : World} {base p : Nat} {v : Value} {L : List Cl} {f : Nat → Value} (h : OwnS W base v L) (hr : W.rowIs p 25 1 f) (u : Value) : OwnS (W.setCell ⟨p, 0, none⟩ u) base v L := by
  refine own_keep h (grown_set1 W p 0 u) (fun k hk e => ?_)
  simp only [Option.some.injEq] at e
  subst e
  rcases h.2 with ⟨rfl, _⟩ | ⟨g, cap, cur, rfl, hb, hg, _⟩
  · simp [Value.ownBlock] at hk
  · simp [Value.ownBlock] at hk
    subst hk
    obtain ⟨c, hc, _⟩ := hr
    rw [hg] at hc
    simp at hc
theorem c_l1MostV (a b v : Int) (hv : (if a < b then b else a) = v) (w : World) : Calls Try.prog 76 #[.int .i64 a, .int .i64 b] w fun e w' => e = .returned (.int .i64 v) ∧ w' = w := by
  rw [← hv]; exact c_l1Most a b w
theorem c_l1LeastV (a b v : Int) (hv : (if b < a then b else a) = v) (w : World) : Calls Try.prog 75 #[.int .i64 a, .int .i64 b] w fun e w' => e = .returned (.int .i64 v) ∧ w' = w := by
  rw [← hv]; exact c_l1Least a b w

set_option maxHeartbeats 2000000 in
set_option maxRecDepth 100000 in
theorem c_DrawTreeOf (a : Option Addr) (l : List Int) (ca : Nat) (w : World) (ha : BSeg w a l) (hl : l.length ≤ 9223372036854775807) :
    Calls Try.prog 15 #[.slice a l.length ca] w fun e w' => ∃ (u : Value) (lv : Int) (F : List Qd) (v : Value) (L : List Cl), e = .returned (.tuple #[.agg #[u], .int .i64 lv, v]) ∧ GF w' w.heap.size u F ∧ (2 ≤ F.length ∧ F.length ≤ 401 ∧ KidsLe F) ∧ -1 ≤ lv ∧ lv ≤ 6 ∧ OwnS w' w.heap.size v L ∧ L.length ≤ 13 ∧ risTo L L.length = true ∧ InSq L ∧ Below w.heap.size w w' := by
  obtain ⟨h1, h2, h3, h4⟩ := drw_new w a l ca ha hl
  have HC := hid h1
  have HR := hid h2
  have HB := hid h3
  have HL := hid h4
  clear ha h1 h2 h3 h4
  go_enter Try.func15, Try.ntmps15
  go_wp2_with fail
  refine (c_drawForest (w.heap.size + 1) (w.heap.size + 1) l.length 0 _ HC.out (by omega)).mono ?_
  rintro e w1 ⟨u, q, F, rfl, hG, hD, hc, hg⟩
  have HD := hid hD
  have HG := hid hG
  obtain ⟨ua, uc, rfl, _⟩ := hG.form
  have DD := hid (DU.new HR.out HB.out (by omega) HL.out HG.out hc hg)
  clear hD hG hc hg HC HR HB HL HG
  generalize hW1 : w1.alloc (.cells #[.slice ua F.length uc] 25) = W1 at *
  have D9 := hid (DD.out.below ((Below.refl W1.heap.size W1).alloc (Nat.le_refl _) (.cells #[.int .i64 (-1), .int .i64 0, .int .i64 1, .int .i64 2, .int .i64 3, .int .i64 3, .int .i64 4, .int .i64 5, .int .i64 6] 3)))
  have HI9 := hid (amseg_new W1 [-1, 0, 1, 2, 3, 3, 4, 5, 6] #[.int .i64 (-1), .int .i64 0, .int .i64 1, .int .i64 2, .int .i64 3, .int .i64 3, .int .i64 4, .int .i64 5, .int .i64 6] 3 rfl)
  have hne := DD.out.cur.lt
  go_wp2_with fail
  refine (c_among (w.heap.size + 1) (w.heap.size + 1) l.length _ 0 9 _ [-1, 0, 1, 2, 3, 3, 4, 5, 6] _ D9.out.cur (by omega) (by simp) (by simp) HI9.out (by omega) (by simp)).mono ?_
  rintro e w2 ⟨lv, rfl, hlv, hc2, hg2⟩
  have D2 := hid (D9.out.cur' hc2 hg2)
  have hlv2 : -1 ≤ lv ∧ lv ≤ 6 := by simp at hlv; omega
  clear hc2 hg2 hlv hne HI9 D9 DD hW1
  obtain ⟨m, hm⟩ : ∃ m, (if (0 : Int) < lv then lv else 0) = m := ⟨_, rfl⟩
  obtain ⟨z, hz⟩ : ∃ z, (if m < (5 : Int) then m else 5) = z := ⟨_, rfl⟩
  have hz2 : 0 ≤ z ∧ z ≤ 5 := by
    have : 0 ≤ m := by rw [← hm]; split <;> omega
    rw [← hz]; split <;> omega
  have HM := hid (fun W => c_l1MostV 0 lv m hm W)
  have HZ := hid (fun W => c_l1LeastV 5 m z hz W)
  clear hm hz
  have keepR : Hid (∀ (W : World) (A' : Int), DU w W (w.heap.size + 1) l.length A' w1.heap.size (.slice ua F.length uc) F → W.cell? ⟨w1.heap.size, 0, none⟩ = some (.slice ua F.length uc)) := fun W A' h => h.cells.1
  have FB := D2.out.below ((Below.refl w2.heap.size w2).drew)
  go_wp2_with fail
  go_region_held3 (fun W => W.cell? ⟨w1.heap.size, 0, none⟩ = some (.slice ua F.length uc))
    (first | exact keepR.out _ _ FB | exact keepR.out _ _ D2.out | exact FB.ret.2.2.2 | go_keep)
    (first
      | (go_at_call 76; refine (HM.out _).mono ?_; rintro e w3 ⟨rfl, rfl⟩)
      | (go_at_call 75; refine (HZ.out _).mono ?_; rintro e w3 ⟨rfl, rfl⟩)
      | (go_at_call 74; refine (c_square (w.heap.size + 1) (w.heap.size + 1) l.length _ z _ FB.cur (by omega) (by omega) (by omega)).mono ?_; rintro e w4 ⟨sv, L, rfl, hO, hr, hLl, hIn, hc4, hg4⟩; obtain ⟨sa, sc, rfl, _⟩ := hO.form; have HO := hid (hO.mono (show w.heap.size ≤ _ from FB.bel.size)); replace FB := FB.cur' hc4 hg4; have HLL := hid (⟨hr, hLl, hIn⟩ : _ ∧ _ ∧ _); obtain ⟨y1, y2, y3⟩ := FB.cells; clear hO hr hIn hc4 hg4))
  obtain ⟨r1, r2, r3, r4⟩ := FB.ret
  have R1 := hid r1
  have R2 := hid r2
  have R3 := hid r3
  have HO2 := hid (ownS_set HO.out FB.res (.slice ua F.length uc))
  go_wp2_with fail
  exact bodyPost_ret (v := .tuple #[.agg #[.slice ua F.length uc], .int .i64 lv, .slice sa L.length sc]) (by simp [results, Try.results15, go_sem, R3.out]) rfl ⟨_, lv, F, _, L, rfl, R1.out, ⟨HD.out.1, HD.out.2.1, HD.out.2.2.1⟩, hlv2.1, hlv2.2, HO2.out, HLL.out.2.1, HLL.out.1, HLL.out.2.2, R2.out⟩

end Go.Proofs.Ytmapbkefndbnnaa

namespace Go.Proofs.Ytmapbkefndbnnaa
open Go.RowKit
set_option linter.unusedVariables false
set_option linter.unusedSimpArgs false
attribute [local go_sem ↓] Go.wp_at_zero Go.wp_at_succ

theorem bseg_box {w : World} {a : Option Addr} {l : List Int} (ha : BSeg w a l) : BSeg (w.alloc (.cells #[.slice none 0 0] 25)) a l ∧ (w.alloc (.cells #[.slice none 0 0] 25)).rowIs w.heap.size 25 1 (fun _ => .slice none 0 0) ∧ Below w.heap.size w (w.alloc (.cells #[.slice none 0 0] 25)) :=
  ⟨ha.below ((Below.refl w.heap.size w).alloc (Nat.le_refl _) _), one_row (heap_alloc_new w _), (Below.refl w.heap.size w).alloc (Nat.le_refl _) _⟩

set_option maxHeartbeats 1000000 in
set_option maxRecDepth 100000 in
theorem c_DrawSharedIn (a : Option Addr) (l : List Int) (ca : Nat) (w : World) (ha : BSeg w a l) (hl : l.length ≤ 9223372036854775807) :
    Calls Try.prog 36 #[.slice a l.length ca] w fun e w' => ∃ (u : Value) (q : Int) (F : List Qd), e = .returned (.tuple #[.agg #[u], .int .i64 q]) ∧ GF w' w.heap.size u F ∧ (2 ≤ F.length ∧ F.length ≤ 401 ∧ KidsLe F) ∧ -1 ≤ q ∧ q ≤ 500 ∧ Below w.heap.size w w' := by
  obtain ⟨h1, h2, h3⟩ := bseg_box ha
  have HC := hid (c_DrawCellsIn a l ca _ h1 hl)
  have HR := hid h2
  have HB := hid h3
  clear ha h1 h2 h3
  go_enter Try.func36, Try.ntmps36
  go_wp2_with fail
  refine HC.out.mono ?_
  rintro e w1 ⟨u, q, F, rfl, hG, hF, hq0, hq1, hb1⟩
  have HG := hid hG
  have HF := hid hF
  obtain ⟨ua, uc, rfl, _⟩ := hG.form
  have R1 := HR.out.of_block (hb1.block _ HR.out.lt)
  have r0 := R1.cell (i := 0) (by omega)
  have f0 := R1.frozen 0
  have E0 := hid ((R1.set 0 (.slice ua F.length uc)).cell (i := 0) (by omega))
  simp only [if_true] at E0
  have HG2 := hid ((HG.out.setRow (o := 0) R1 (by decide) (by decide) (.slice ua F.length uc)).mono HB.out.size)
  have HB2 := hid ((HB.out.trans (hb1.mono HB.out.size)).setCell (p := ⟨w.heap.size, 0, none⟩) (Nat.le_refl _) (.slice ua F.length uc))
  clear hG hF hb1 R1 HC HR HB HG
  go_wp2_with fail
  exact bodyPost_ret (v := .tuple #[.agg #[.slice ua F.length uc], .int .i64 q]) (by simp [results, Try.results36, go_sem, E0.out]) rfl ⟨_, q, F, rfl, HG2.out, HF.out, hq0, hq1, HB2.out⟩

set_option maxHeartbeats 1000000 in
set_option maxRecDepth 100000 in
theorem c_DrawFrameOf (a : Option Addr) (l : List Int) (ca : Nat) (w : World) (ha : BSeg w a l) (hl : l.length ≤ 9223372036854775807) :
    Calls Try.prog 57 #[.slice a l.length ca] w fun e w' => ∃ (u : Value) (q : Int) (F : List Qd), e = .returned (.tuple #[.agg #[u], .int .i64 q]) ∧ GF w' w.heap.size u F ∧ (2 ≤ F.length ∧ F.length ≤ 401 ∧ KidsLe F) ∧ -1 ≤ q ∧ q ≤ 500 ∧ Below w.heap.size w w' := by
  obtain ⟨h1, h2, h3⟩ := bseg_box ha
  have HC := hid (c_DrawCellsIn a l ca _ h1 hl)
  have HR := hid h2
  have HB := hid h3
  clear ha h1 h2 h3
  go_enter Try.func57, Try.ntmps57
  go_wp2_with fail
  refine HC.out.mono ?_
  rintro e w1 ⟨u, q, F, rfl, hG, hF, hq0, hq1, hb1⟩
  have HG := hid hG
  have HF := hid hF
  obtain ⟨ua, uc, rfl, _⟩ := hG.form
  have R1 := HR.out.of_block (hb1.block _ HR.out.lt)
  have r0 := R1.cell (i := 0) (by omega)
  have f0 := R1.frozen 0
  have E0 := hid ((R1.set 0 (.slice ua F.length uc)).cell (i := 0) (by omega))
  simp only [if_true] at E0
  have HG2 := hid ((HG.out.setRow (o := 0) R1 (by decide) (by decide) (.slice ua F.length uc)).mono HB.out.size)
  have HB2 := hid ((HB.out.trans (hb1.mono HB.out.size)).setCell (p := ⟨w.heap.size, 0, none⟩) (Nat.le_refl _) (.slice ua F.length uc))
  clear hG hF hb1 R1 HC HR HB HG
  go_wp2_with fail
  exact bodyPost_ret (v := .tuple #[.agg #[.slice ua F.length uc], .int .i64 q]) (by simp [results, Try.results57, go_sem, E0.out]) rfl ⟨_, q, F, rfl, HG2.out, HF.out, hq0, hq1, HB2.out⟩

set_option maxHeartbeats 1000000 in
set_option maxRecDepth 100000 in
theorem c_DrawCentreOf (a : Option Addr) (l : List Int) (ca : Nat) (w : World) (ha : BSeg w a l) (hl : l.length ≤ 9223372036854775807) :
    Calls Try.prog 62 #[.slice a l.length ca] w fun e w' => ∃ (u : Value) (q : Int) (F : List Qd), e = .returned (.tuple #[.agg #[u], .int .i64 q]) ∧ GF w' w.heap.size u F ∧ (2 ≤ F.length ∧ F.length ≤ 401 ∧ KidsLe F) ∧ -1 ≤ q ∧ q ≤ 500 ∧ Below w.heap.size w w' := by
  obtain ⟨h1, h2, h3⟩ := bseg_box ha
  have HC := hid (c_DrawCellsIn a l ca _ h1 hl)
  have HR := hid h2
  have HB := hid h3
  clear ha h1 h2 h3
  go_enter Try.func62, Try.ntmps62
  go_wp2_with fail
  refine HC.out.mono ?_
  rintro e w1 ⟨u, q, F, rfl, hG, hF, hq0, hq1, hb1⟩
  have HG := hid hG
  have HF := hid hF
  obtain ⟨ua, uc, rfl, _⟩ := hG.form
  have R1 := HR.out.of_block (hb1.block _ HR.out.lt)
  have r0 := R1.cell (i := 0) (by omega)
  have f0 := R1.frozen 0
  have E0 := hid ((R1.set 0 (.slice ua F.length uc)).cell (i := 0) (by omega))
  simp only [if_true] at E0
  have HG2 := hid ((HG.out.setRow (o := 0) R1 (by decide) (by decide) (.slice ua F.length uc)).mono HB.out.size)
  have HB2 := hid ((HB.out.trans (hb1.mono HB.out.size)).setCell (p := ⟨w.heap.size, 0, none⟩) (Nat.le_refl _) (.slice ua F.length uc))
  clear hG hF hb1 R1 HC HR HB HG
  go_wp2_with fail
  exact bodyPost_ret (v := .tuple #[.agg #[.slice ua F.length uc], .int .i64 q]) (by simp [results, Try.results62, go_sem, E0.out]) rfl ⟨_, q, F, rfl, HG2.out, HF.out, hq0, hq1, HB2.out⟩

set_option maxHeartbeats 1000000 in
set_option maxRecDepth 100000 in
theorem c_DrawBlankOf (a : Option Addr) (l : List Int) (ca : Nat) (w : World) (ha : BSeg w a l) (hl : l.length ≤ 9223372036854775807) :
    Calls Try.prog 25 #[.slice a l.length ca] w fun e w' => ∃ (u : Value) (q : Int) (F : List Qd), e = .returned (.tuple #[.agg #[u], .int .i64 q]) ∧ GF w' w.heap.size u F ∧ (2 ≤ F.length ∧ F.length ≤ 401 ∧ KidsLe F) ∧ -1 ≤ q ∧ q ≤ 500 ∧ Below w.heap.size w w' := by
  obtain ⟨h1, h2, h3⟩ := bseg_box ha
  have HC := hid (c_DrawTreeOf a l ca _ h1 hl)
  have HR := hid h2
  have HB := hid h3
  clear ha h1 h2 h3
  go_enter Try.func25, Try.ntmps25
  go_wp2_with fail
  refine HC.out.mono ?_
  rintro e w1 ⟨u, q, F, v, L, rfl, hG, hF, hq0, hq1, hO, _, _, _, hb1⟩
  have HG := hid hG
  have HF := hid hF
  obtain ⟨ua, uc, rfl, _⟩ := hG.form
  obtain ⟨sa, sc, rfl, _⟩ := hO.form
  have ba := (Below.refl w1.heap.size w1).alloc (Nat.le_refl _) (.cells #[.slice ua F.length uc] 25)
  have R1 := (HR.out.of_block (hb1.block _ HR.out.lt)).alloc (.cells #[.slice ua F.length uc] 25)
  have r0 := R1.cell (i := 0) (by omega)
  have f0 := R1.frozen 0
  have E0 := hid ((R1.set 0 (.slice ua F.length uc)).cell (i := 0) (by omega))
  simp only [if_true] at E0
  have HG2 := hid (((HG.out.below ba).setRow (o := 0) R1 (by decide) (by decide) (.slice ua F.length uc)).mono HB.out.size)
  have hb2 := hb1.trans (ba.mono hb1.size)
  have HB2 := hid ((HB.out.trans (hb2.mono HB.out.size)).setCell (p := ⟨w.heap.size, 0, none⟩) (Nat.le_refl _) (.slice ua F.length uc))
  have hq1' : q ≤ 500 := by omega
  replace hq1 := hq1'
  clear hG hF hb1 hb2 ba R1 HC HR HB HG hO
  go_wp2_with fail
  exact bodyPost_ret (v := .tuple #[.agg #[.slice ua F.length uc], .int .i64 q]) (by simp [results, Try.results25, go_sem, E0.out]) rfl ⟨_, q, F, rfl, HG2.out, HF.out, hq0, hq1, HB2.out⟩

end Go.Proofs.Ytmapbkefndbnnaa

namespace Go.Proofs.Ytmapbkefndbnnaa
open Go.RowKit
set_option linter.unusedVariables false
set_option linter.unusedSimpArgs false

/-- A forest in a variable whose box is block b. -/
def FV (W : World) (b : Nat) (a : Option Addr) (ca : Nat) (F : List Qd) : Prop := b < W.heap.size ∧ W.cell? ⟨b, 0, none⟩ = some (.slice a F.length ca) ∧ QSeg W a F ∧ F.length ≤ ca ∧ ca ≤ 9223372036854775807
theorem FV.below {W W' : World} {b : Nat} {a : Option Addr} {ca : Nat} {F : List Qd} (h : FV W b a ca F) (hb : Below W.heap.size W W') : FV W' b a ca F :=
  ⟨Nat.lt_of_lt_of_le h.1 hb.size, (hb.cell (p := ⟨b, 0, none⟩) h.1).trans h.2.1, h.2.2.1.below hb, h.2.2.2⟩
theorem FV.new {w : World} {a : Option Addr} {ca : Nat} {F : List Qd} (h : QSeg w a F) (h1 : F.length ≤ ca) (h2 : ca ≤ 9223372036854775807) (t : TypeId) : FV (w.alloc (.cells #[.slice a F.length ca] t)) w.heap.size a ca F := by
  refine ⟨by simp, ?_, h.below ((Below.refl w.heap.size w).alloc (Nat.le_refl _) _), h1, h2⟩
  unfold World.cell?; rw [heap_alloc_new]; rfl
/-- .. where kids that lie nowhere have no room. -/
def FN (W : World) (a : Option Addr) (F : List Qd) : Prop := QSeg W a F ∧ NoneCap W a F
theorem FN.below {W W' : World} {a : Option Addr} {F : List Qd} (h : FN W a F) (hb : Below W.heap.size W W') : FN W' a F := ⟨h.1.below hb, h.2.below h.1 hb⟩
/-- Cells of the call's own, somewhere. -/
def CV (W : World) (a : Option Addr) (l : List Cl) : Prop := Seg W a l
theorem CV.below {W W' : World} {a : Option Addr} {l : List Cl} (h : CV W a l) (hb : Below W.heap.size W W') : CV W' a l := Seg.below h hb

theorem tof_yes {F : List Qd} {lv : Int} {L : List Cl} (h : tofB F lv L = true) : goodF F = true ∧ 0 ≤ lv ∧ lv ≤ 5 ∧ good L = true ∧ tofF F lv L = (treeL L lv.toNat 0 0 F).1 ∧ tofQ F lv L = ((treeL L lv.toNat 0 0 F).2 : Int) ∧ (treeL L lv.toNat 0 0 F).1.length ≤ 400 := by
  simp only [tofB, Bool.and_eq_true] at h
  have hok := h.1
  have hb := h.2
  simp only [tofOK, Bool.and_eq_true] at hok
  have hlv := inB_bd hok.1.2
  simp only [tellB, decide_eq_true_eq] at hb
  refine ⟨hok.1.1, hlv.1, hlv.2, hok.2, ?_, ?_, hb⟩
  · unfold tofF tellF; rw [h.1, if_pos hb]; rfl
  · unfold tofQ tellQ; rw [h.1, if_pos hb]; rfl
theorem there_of {G : List Qd} {q : Int} (h1 : goodF G = true) (h2 : 0 ≤ q) (h3 : q < (G.length : Int)) : thereB G q = true := by
  unfold thereB inB
  rw [h1, decide_eq_true h2, decide_eq_true (show q ≤ (G.length : Int) - 1 by omega)]
  rfl
theorem hoB_iff {n : Nat} {c : Cl} : hoB n c = true ↔ sqB n 0 0 c := by
  simp only [hoB, Bool.and_eq_true, decide_eq_true_eq, sqB]
  omega
/-- The cells of the tree that was told. -/
theorem tree_cells {F : List Qd} {n : Nat} {L : List Cl} (hg : goodF F = true) (hn : n ≤ 5) : levN (treeL L n 0 0 F).1 (treeL L n 0 0 F).2 = n ∧ ∀ c, c ∈ cellsOfQ (treeL L n 0 0 F).1 (treeL L n 0 0 F).2 ↔ sqB n 0 0 c ∧ c ∈ L := by
  have t := treeL_tr L n 0 0 F hn (good_grows hg)
  have i := treeL_is L n 0 0 F hn (good_grows hg)
  have hl : levN (treeL L n 0 0 F).1 (treeL L n 0 0 F).2 = n := by unfold levN; rw [t.lev]; simp
  refine ⟨hl, fun c => ?_⟩
  unfold cellsOfQ
  rw [hl, i.mem c]
  unfold sqB
  exact Iff.rfl
theorem cin_mem {G : List Qd} {q : Int} (h : thereB G q = true) (c : Cl) : c ∈ cinV G q ↔ c ∈ cellsOfQ G q.toNat := by
  unfold cinV
  rw [h]
  exact (ordL_facts (ord_exists _)).2 c
theorem cin_le (G : List Qd) (q : Int) : (cinV G q).length ≤ 1024 := by
  have h := cin_len G q
  unfold cntV at h
  cases ht : thereB G q
  · rw [ht, if_neg (by simp)] at h; omega
  · rw [ht, if_pos rfl] at h
    obtain ⟨h1, h2, h3⟩ := there_bd ht
    have := cellsOfQ_len h1 (show q.toNat < G.length by omega)
    omega
/-- The first forest's quads. -/
theorem NwRow.qseg {w : World} {g : Nat} (h : NwRow w g (fun _ => 0)) : QSeg w (some ⟨g, 0, none⟩) [(0, []), (0, [])] := (h.gf (Nat.le_refl g)).at.1
theorem cellsOfQ_nodup (F : List Qd) (q : Nat) : (cellsOfQ F q).Nodup := cellsL_nodup F _ _ _ _
/-- What FnTrees asks of a tree. -/
theorem trees_facts {F : List Qd} {lv : Int} {L : List Cl} (h : tofB F lv L = true) :
    goodF (tofF F lv L) = true ∧ thereB (tofF F lv L) (tofQ F lv L) = true ∧ levV (tofF F lv L) (tofQ F lv L) = lv ∧ (tofF (tofF F lv L) lv L = tofF F lv L ∧ tofQ (tofF F lv L) lv L = tofQ F lv L ∧ tofB (tofF F lv L) lv L = true) ∧ (∀ x, x ∈ L → decide (x ∈ cinV (tofF F lv L) (tofQ F lv L)) = hoB lv.toNat x) ∧ cntV (tofF F lv L) (tofQ F lv L) = ((L.filter (hoB lv.toNat)).length : Int) ∧ (cinV (tofF F lv L) (tofQ F lv L)).length = (L.filter (hoB lv.toNat)).length := by
  obtain ⟨g1, g2, g3⟩ := tof_good h
  obtain ⟨hF, h0, h5, hL, eF, eQ, e4⟩ := tof_yes h
  have hth := there_of g1 g2 g3
  have hn : lv.toNat ≤ 5 := by omega
  obtain ⟨c1, c2⟩ := tree_cells (L := L) hF hn
  have t := treeL_tr L lv.toNat 0 0 F hn (good_grows hF)
  have hagain := treeL_again (L := L) (x := 0) (y := 0) hn (good_grows hF)
  have hmem : ∀ x, x ∈ cinV (tofF F lv L) (tofQ F lv L) ↔ hoB lv.toNat x = true ∧ x ∈ L := by
    intro x
    rw [cin_mem hth, eF, eQ, Int.toNat_natCast, c2, hoB_iff]
  have hris : risTo L L.length = true := by simp only [good, Bool.and_eq_true] at hL; exact hL.2
  have hnd := ris_nodup hris
  have hcount : (cellsOfQ (tofF F lv L) (tofQ F lv L).toNat).length = (L.filter (hoB lv.toNat)).length := by
    refine ((List.perm_ext_iff_of_nodup (cellsOfQ_nodup _ _) (hnd.filter _)).2 fun c => ?_).length_eq
    rw [eF, eQ, Int.toNat_natCast, c2, List.mem_filter, hoB_iff]
    exact And.comm
  have hcnt : cntV (tofF F lv L) (tofQ F lv L) = ((L.filter (hoB lv.toNat)).length : Int) := by
    unfold cntV; rw [hth, if_pos rfl, hcount]
  have hok : tofOK (tofF F lv L) lv L = true := by
    unfold tofOK
    rw [g1, hL]
    unfold inB
    rw [decide_eq_true h0, decide_eq_true h5]
    rfl
  have hR : tofR (tofF F lv L) lv L = treeL L lv.toNat 0 0 F := by unfold tofR; rw [eF, hagain]
  refine ⟨g1, hth, ?_, ⟨?_, ?_, ?_⟩, ?_, hcnt, ?_⟩
  · unfold levV; rw [hth, if_pos rfl, eF, eQ, Int.toNat_natCast, t.lev]; omega
  · show (if tofOK (tofF F lv L) lv L = true then tellF (tofR (tofF F lv L) lv L).1 else []) = _
    rw [hok, if_pos rfl, hR, eF]; unfold tellF; rw [if_pos e4]
  · show (if tofOK (tofF F lv L) lv L = true then tellQ (tofR (tofF F lv L) lv L).1 ((tofR (tofF F lv L) lv L).2 : Int) else 0) = _
    rw [hok, if_pos rfl, hR, eQ]; unfold tellQ; rw [if_pos e4]
  · unfold tofB; rw [hok, hR]; unfold tellB; rw [decide_eq_true e4]; rfl
  · intro x hx
    rw [Bool.eq_iff_iff, decide_eq_true_iff, hmem x]
    exact ⟨fun h => h.1, fun h => ⟨h, hx⟩⟩
  · have := cin_len (tofF F lv L) (tofQ F lv L)
    rw [hcnt] at this
    omega

end Go.Proofs.Ytmapbkefndbnnaa
