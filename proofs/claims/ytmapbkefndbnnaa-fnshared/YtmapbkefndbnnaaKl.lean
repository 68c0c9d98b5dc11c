/- Texts of this seat, one behind the other: DrJ, ShP, Meet. -/
import Derived.Test.YtmapbkefndbnnaaKk
import Derived.Test.YtmapbkefndbnnaaKf
import Derived.Test.YtmapbkefndbnnaaKa
import Derived.Deep.Cut
namespace Go.Proofs.Ytmapbkefndbnnaa
open Go.RowKit
set_option linter.unusedVariables false
set_option linter.unusedSimpArgs false
attribute [local go_sem ↓] Go.wp_at_zero Go.wp_at_succ

/-- Four numbers in block B. -/
def KR (W : World) (B : Nat) (f : Nat → Int) : Prop := W.rowIs B 3 4 (fun i => .int .i64 (f i))
theorem KR.new (w : World) (x y z u : Int) : KR (w.alloc (.cells #[.int .i64 x, .int .i64 y, .int .i64 z, .int .i64 u] 3)) w.heap.size (fun i => if i = 0 then x else if i = 1 then y else if i = 2 then z else u) := by
  refine ⟨_, heap_alloc_new _ _, rfl, fun i hi => ?_⟩
  rcases (show i = 0 ∨ i = 1 ∨ i = 2 ∨ i = 3 by omega) with rfl | rfl | rfl | rfl <;> rfl
theorem KR.below {W W' : World} {B : Nat} {f : Nat → Int} (h : KR W B f) (hb : Below W.heap.size W W') : KR W' B f := World.rowIs.of_block h (hb.block _ (World.rowIs.lt h))
theorem KR.cur {W W' : World} {B b : Nat} {f : Nat → Int} (h : KR W B f) (hg : W.grownBy W' (some b)) (hne : B ≠ b) : KR W' B f := World.rowIs.of_block h (hg.block _ (World.rowIs.lt h) (fun e => by simp only [Option.some.injEq] at e; omega))
theorem KR.put {W : World} {B : Nat} {f : Nat → Int} (h : KR W B f) (k : Nat) (x : Int) : KR (W.setCell ⟨B, k, none⟩ (.int .i64 x)) B (fun i => if i = k then x else f i) := by
  refine (World.rowIs.set h k _).congr fun j hj => ?_
  dsimp only
  split <;> rfl
theorem KR.other {W : World} {B p : Nat} {f : Nat → Int} (h : KR W B f) (hne : p ≠ B) (v : Value) : KR (W.setCell ⟨p, 0, none⟩ v) B f := World.rowIs.setOther h (a := ⟨p, 0, none⟩) (by dsimp only; omega) v
theorem KR.seg {W : World} {B : Nat} {f : Nat → Int} (h : KR W B f) : ISeg W (some ⟨B, 0, none⟩) [f 0, f 1, f 2, f 3] ∧ ISeg W (some ⟨B, 1, none⟩) [f 1, f 2, f 3] := by
  have c : ∀ i, i < 4 → W.cell? ⟨B, i, none⟩ = some (.int .i64 (f i)) := fun i hi => World.rowIs.cell h hi
  refine ⟨fun i hi => ⟨B, 0, rfl, World.rowIs.lt h, ?_⟩, fun i hi => ⟨B, 1, rfl, World.rowIs.lt h, ?_⟩⟩
  · have hi' : i < 4 := by simpa using hi
    rw [Nat.zero_add, c i hi']
    rcases (show i = 0 ∨ i = 1 ∨ i = 2 ∨ i = 3 by omega) with rfl | rfl | rfl | rfl <;> rfl
  · have hi' : i < 3 := by simpa using hi
    rw [c (1 + i) (by omega)]
    rcases (show i = 0 ∨ i = 1 ∨ i = 2 by omega) with rfl | rfl | rfl <;> rfl
/-- What stands while kids are drawn behind a forest: the world W1 in which the forest was, the cursor in block b, the kids in block B. -/
structure JU (W1 W : World) (b n : Nat) (A : Int) (B : Nat) (f : Nat → Int) : Prop where
  cur : CurAt W b b n A
  gr : W1.grownBy W (some b)
  kr : KR W B f
  hB : W1.heap.size ≤ B
  hb : b < W1.heap.size
section
variable {W1 W W' : World} {b n B : Nat} {A A' : Int} {f : Nat → Int}
theorem JU.cur' (h : JU W1 W b n A B f) (hc : CurAt W' b b n A') (hg : W.grownBy W' (some b)) : JU W1 W' b n A' B f := by
  have := h.hB
  have := h.hb
  exact ⟨hc, grown_trans h.gr hg, h.kr.cur hg (by omega), h.hB, h.hb⟩
theorem JU.below (h : JU W1 W b n A B f) (hb : Below W.heap.size W W') : JU W1 W' b n A B f :=
  ⟨h.cur.kept (grown_of_below hb none) (by simp) (fun k e => by cases e), grown_over h.gr (grown_of_below hb none) (fun k e => by cases e), h.kr.below hb, h.hB, h.hb⟩
theorem JU.put (h : JU W1 W b n A B f) (k : Nat) (x : Int) : JU W1 (W.setCell ⟨B, k, none⟩ (.int .i64 x)) b n A B (fun i => if i = k then x else f i) := by
  have h1 := h.hB
  have h2 := h.hb
  have hg := grown_set1 W B k (.int .i64 x)
  exact ⟨h.cur.kept hg (fun e => by simp only [Option.some.injEq] at e; omega) (fun j e => by simp only [Option.some.injEq] at e; omega), grown_over h.gr hg (fun j e => by simp only [Option.some.injEq] at e; omega), h.kr.put k x, h.hB, h.hb⟩
theorem JU.four (h : JU W1 W b n A B f) (x y z u : Int) : JU W1 (W.alloc (.cells #[.int .i64 x, .int .i64 y, .int .i64 z, .int .i64 u] 3)) b n A W.heap.size (fun i => if i = 0 then x else if i = 1 then y else if i = 2 then z else u) := by
  have k := h.below ((Below.refl W.heap.size W).alloc (Nat.le_refl _) (.cells #[.int .i64 x, .int .i64 y, .int .i64 z, .int .i64 u] 3))
  exact ⟨k.cur, k.gr, KR.new W x y z u, h.gr.size, h.hb⟩
end

set_option maxHeartbeats 4000000 in
set_option maxRecDepth 100000 in
theorem c_DrawJoinQuads (a : Option Addr) (l : List Int) (ca : Nat) (w : World) (ha : BSeg w a l) (hl : l.length ≤ 9223372036854775807) :
    Calls Try.prog 33 #[.slice a l.length ca] w fun e w' => ∃ (u : Value) (F : List Qd) (kd : Option Addr) (kids : List Int) (kc : Nat), e = .returned (.tuple #[.agg #[u], .slice kd kids.length kc]) ∧ GF w' w.heap.size u F ∧ (2 ≤ F.length ∧ F.length ≤ 401 ∧ KidsLe F) ∧ ISeg w' kd kids ∧ kids.length ≤ 4 ∧ Below w.heap.size w w' := by
  obtain ⟨h1, h2, h3, h4⟩ := drw_new w a l ca ha hl
  have HC := hid h1
  have HR := hid h2
  have HB := hid h3
  have HL := hid h4
  clear ha h1 h2 h3 h4
  go_enter Try.func33, Try.ntmps33
  go_wp2_with fail
  refine (c_drawForest (w.heap.size + 1) (w.heap.size + 1) l.length 0 _ HC.out (by omega)).mono ?_
  rintro e w1 ⟨u, q, F, rfl, hG, hD, hc, hg⟩
  have HD := hid hD
  have HG := hid hG
  obtain ⟨ua, uc, rfl, _⟩ := hG.form
  have DD := hid (DU.new HR.out HB.out (by omega) HL.out HG.out hc hg)
  clear hD hG hc hg HC HR HB HL HG
  generalize hW1 : w1.alloc (.cells #[.slice ua F.length uc] 25) = W1 at *
  have D2 := hid (DD.out.below ((Below.refl W1.heap.size W1).alloc (Nat.le_refl _) (.cells #[.int .i64 q, .int .i64 q, .int .i64 q, .int .i64 q] 3)))
  have K2 := hid (KR.new W1 q q q q)
  have hne := DD.out.cur.lt
  have hbx := DD.out.box.lt
  have hbf := DD.out.lf
  have D1 := hid DD.out
  clear DD
  go_wp2_with fail
  clear hW1
  generalize w1.heap.size = bf at *
  have J2 := hid (show JU W1 (W1.alloc (.cells #[.int .i64 q, .int .i64 q, .int .i64 q, .int .i64 q] 3)) (w.heap.size + 1) l.length (0 + 1000) W1.heap.size (fun i => if i = 0 then q else if i = 1 then q else if i = 2 then q else q) from ⟨D2.out.cur, grown_of_below ((Below.refl W1.heap.size W1).alloc (Nat.le_refl _) _) _, K2.out, Nat.le_refl _, by omega⟩)
  clear D2 K2
  have TAIL : ∀ (W : World) (B : Nat) (f : Nat → Int) (A' : Int), JU W1 W (w.heap.size + 1) l.length A' B f → DU w W (w.heap.size + 1) l.length A' bf (.slice ua F.length uc) F := fun W B f A' h => D1.out.cur' h.cur h.gr
  have HTL := hid TAIL
  clear TAIL
  have hFl := HD.out.2.1
  have hF2 := HD.out.1
  generalize W1.alloc (.cells #[.int .i64 q, .int .i64 q, .int .i64 q, .int .i64 q] 3) = W2 at *
  refine (c_one _ _ _ _ 2 W2 J2.out.cur (by omega) (by omega) (by omega)).mono ?_
  rintro e w2 ⟨x, rfl, hc2, hg2⟩
  replace J2 := hid (J2.out.cur' hc2 hg2)
  clear hc2 hg2
  cases x
  · go_wp2_with fail
    refine (c_one _ _ _ _ 3 _ J2.out.cur (by omega) (by omega) (by omega)).mono ?_
    rintro e w5 ⟨x, rfl, hc5, hg5⟩
    replace J2 := hid (J2.out.cur' hc5 hg5)
    clear hc5 hg5
    cases x
    · go_wp2_with fail
      refine (c_one _ _ _ _ 30 _ J2.out.cur (by omega) (by omega) (by omega)).mono ?_
      rintro e wz ⟨x, rfl, hc5, hg5⟩
      replace J2 := hid (J2.out.cur' hc5 hg5)
      clear hc5 hg5
      have DZ := hid (HTL.out _ _ _ _ J2.out)
      obtain ⟨v1, v2, v3⟩ := DZ.out.cells
      obtain ⟨r1, r2, r3, r4⟩ := DZ.out.ret
      have R1 := hid r1
      have R2 := hid r2
      have R3 := hid r3
      have hJB := J2.out.hB
      have hwl : w.heap.size < W1.heap.size := by omega
      obtain ⟨s1, s2⟩ := (J2.out.kr.other (p := w.heap.size) (by omega) (.slice ua F.length uc)).seg
      have G1 := hid s1
      have G2 := hid s2
      clear r1 r2 r3 r4 s1 s2
      cases x
      · go_wp2_with fail
        exact bodyPost_ret (v := .tuple #[.agg #[.slice ua F.length uc], .slice (some ⟨W1.heap.size, 0, none⟩) 4 4]) (by simp [results, Try.results33, go_sem, R3.out]) rfl ⟨_, F, _, _, _, rfl, R1.out, ⟨HD.out.1, HD.out.2.1, HD.out.2.2.1⟩, G1.out, by simp, R2.out⟩
      · go_wp2_with fail
        exact bodyPost_ret (v := .tuple #[.agg #[.slice ua F.length uc], .slice (some ⟨W1.heap.size, 1, none⟩) 3 3]) (by simp [results, Try.results33, go_sem, R3.out]) rfl ⟨_, F, _, _, _, rfl, R1.out, ⟨HD.out.1, HD.out.2.1, HD.out.2.2.1⟩, G2.out, by simp, R2.out⟩
    · go_wp2_with fail
      refine (c_pick _ _ _ _ 2 _ J2.out.cur (by omega) (by omega) (by omega)).mono ?_
      rintro e w6 ⟨z1, rfl, _, _, hc6, hg6⟩
      replace J2 := hid (J2.out.cur' hc6 hg6)
      clear hc6 hg6
      go_wp2_with fail
      refine (c_pick _ _ _ _ 2 _ J2.out.cur (by omega) (by omega) (by omega)).mono ?_
      rintro e w7 ⟨z2, rfl, _, _, hc6, hg6⟩
      replace J2 := hid (J2.out.cur' hc6 hg6)
      clear hc6 hg6
      go_wp2_with fail
      refine (c_pick _ _ _ _ 2 _ J2.out.cur (by omega) (by omega) (by omega)).mono ?_
      rintro e w8 ⟨z3, rfl, _, _, hc6, hg6⟩
      replace J2 := hid (J2.out.cur' hc6 hg6)
      clear hc6 hg6
      go_wp2_with fail
      refine (c_pick _ _ _ _ 2 _ J2.out.cur (by omega) (by omega) (by omega)).mono ?_
      rintro e w9 ⟨z4, rfl, _, _, hc6, hg6⟩
      replace J2 := hid (J2.out.cur' hc6 hg6)
      clear hc6 hg6
      have J3 := hid (J2.out.four z1 z2 z3 z4)
      go_wp2_with fail
      generalize w9.alloc (.cells #[.int .i64 z1, .int .i64 z2, .int .i64 z3, .int .i64 z4] 3) = W9 at *
      clear J2
      have J2 := hid J3.out
      clear J3
      refine (c_one _ _ _ _ 30 _ J2.out.cur (by omega) (by omega) (by omega)).mono ?_
      rintro e wz ⟨x, rfl, hc5, hg5⟩
      replace J2 := hid (J2.out.cur' hc5 hg5)
      clear hc5 hg5
      have DZ := hid (HTL.out _ _ _ _ J2.out)
      obtain ⟨v1, v2, v3⟩ := DZ.out.cells
      obtain ⟨r1, r2, r3, r4⟩ := DZ.out.ret
      have R1 := hid r1
      have R2 := hid r2
      have R3 := hid r3
      have hJB := J2.out.hB
      have hwl : w.heap.size < W1.heap.size := by omega
      obtain ⟨s1, s2⟩ := (J2.out.kr.other (p := w.heap.size) (by omega) (.slice ua F.length uc)).seg
      have G1 := hid s1
      have G2 := hid s2
      clear r1 r2 r3 r4 s1 s2
      cases x
      · go_wp2_with fail
        exact bodyPost_ret (v := .tuple #[.agg #[.slice ua F.length uc], .slice (some ⟨w9.heap.size, 0, none⟩) 4 4]) (by simp [results, Try.results33, go_sem, R3.out]) rfl ⟨_, F, _, _, _, rfl, R1.out, ⟨HD.out.1, HD.out.2.1, HD.out.2.2.1⟩, G1.out, by simp, R2.out⟩
      · go_wp2_with fail
        exact bodyPost_ret (v := .tuple #[.agg #[.slice ua F.length uc], .slice (some ⟨w9.heap.size, 1, none⟩) 3 3]) (by simp [results, Try.results33, go_sem, R3.out]) rfl ⟨_, F, _, _, _, rfl, R1.out, ⟨HD.out.1, HD.out.2.1, HD.out.2.2.1⟩, G2.out, by simp, R2.out⟩
  · have JB := J2.out.below ((Below.refl w2.heap.size w2).drew)
    have hJb := J2.out.hB
    go_wp2_with fail
    go_region_held3 (fun W => W.cell? ⟨bf, 0, none⟩ = some (.slice ua F.length uc))
      (first | exact (HTL.out _ _ _ _ J2.out).cells.1 | exact (HTL.out _ _ _ _ JB).cells.1 | exact (HTL.out _ _ _ _ (JB.put _ _)).cells.1 | go_keep)
      (first
        | (go_at_call 91; have _g := hp4; refine (c_pickAny (w.heap.size + 1) (w.heap.size + 1) l.length _ (F.length : Int) _ JB.cur (by omega) (by omega)).mono ?_; rintro e w4 ⟨y, rfl, y0, y1, hc4, hg4⟩; replace JB := JB.cur' hc4 hg4; have c9 := World.rowIs.cell JB.kr (i := p.toNat) (by omega); have f9 := World.rowIs.frozen JB.kr p.toNat; clear hc4 hg4)
        | (go_at_call 91; refine (c_pick (w.heap.size + 1) (w.heap.size + 1) l.length _ 4 _ JB.cur (by omega) (by omega) (by omega)).mono ?_; rintro e w3 ⟨p, rfl, p0, hp4, hc3, hg3⟩; replace JB := JB.cur' hc3 hg3; clear hc3 hg3))
    replace J2 := hid (JB.put p.toNat y)
    clear JB c9 f9
    generalize w4.setCell ⟨W1.heap.size, p.toNat, none⟩ (.int .i64 y) = w2' at *
    go_wp2_with fail
    refine (c_one _ _ _ _ 3 _ J2.out.cur (by omega) (by omega) (by omega)).mono ?_
    rintro e w5 ⟨x, rfl, hc5, hg5⟩
    replace J2 := hid (J2.out.cur' hc5 hg5)
    clear hc5 hg5
    cases x
    · go_wp2_with fail
      refine (c_one _ _ _ _ 30 _ J2.out.cur (by omega) (by omega) (by omega)).mono ?_
      rintro e wz ⟨x, rfl, hc5, hg5⟩
      replace J2 := hid (J2.out.cur' hc5 hg5)
      clear hc5 hg5
      have DZ := hid (HTL.out _ _ _ _ J2.out)
      obtain ⟨v1, v2, v3⟩ := DZ.out.cells
      obtain ⟨r1, r2, r3, r4⟩ := DZ.out.ret
      have R1 := hid r1
      have R2 := hid r2
      have R3 := hid r3
      have hJB := J2.out.hB
      have hwl : w.heap.size < W1.heap.size := by omega
      obtain ⟨s1, s2⟩ := (J2.out.kr.other (p := w.heap.size) (by omega) (.slice ua F.length uc)).seg
      have G1 := hid s1
      have G2 := hid s2
      clear r1 r2 r3 r4 s1 s2
      cases x
      · go_wp2_with fail
        exact bodyPost_ret (v := .tuple #[.agg #[.slice ua F.length uc], .slice (some ⟨W1.heap.size, 0, none⟩) 4 4]) (by simp [results, Try.results33, go_sem, R3.out]) rfl ⟨_, F, _, _, _, rfl, R1.out, ⟨HD.out.1, HD.out.2.1, HD.out.2.2.1⟩, G1.out, by simp, R2.out⟩
      · go_wp2_with fail
        exact bodyPost_ret (v := .tuple #[.agg #[.slice ua F.length uc], .slice (some ⟨W1.heap.size, 1, none⟩) 3 3]) (by simp [results, Try.results33, go_sem, R3.out]) rfl ⟨_, F, _, _, _, rfl, R1.out, ⟨HD.out.1, HD.out.2.1, HD.out.2.2.1⟩, G2.out, by simp, R2.out⟩
    · go_wp2_with fail
      refine (c_pick _ _ _ _ 2 _ J2.out.cur (by omega) (by omega) (by omega)).mono ?_
      rintro e w6 ⟨z1, rfl, _, _, hc6, hg6⟩
      replace J2 := hid (J2.out.cur' hc6 hg6)
      clear hc6 hg6
      go_wp2_with fail
      refine (c_pick _ _ _ _ 2 _ J2.out.cur (by omega) (by omega) (by omega)).mono ?_
      rintro e w7 ⟨z2, rfl, _, _, hc6, hg6⟩
      replace J2 := hid (J2.out.cur' hc6 hg6)
      clear hc6 hg6
      go_wp2_with fail
      refine (c_pick _ _ _ _ 2 _ J2.out.cur (by omega) (by omega) (by omega)).mono ?_
      rintro e w8 ⟨z3, rfl, _, _, hc6, hg6⟩
      replace J2 := hid (J2.out.cur' hc6 hg6)
      clear hc6 hg6
      go_wp2_with fail
      refine (c_pick _ _ _ _ 2 _ J2.out.cur (by omega) (by omega) (by omega)).mono ?_
      rintro e w9 ⟨z4, rfl, _, _, hc6, hg6⟩
      replace J2 := hid (J2.out.cur' hc6 hg6)
      clear hc6 hg6
      have J3 := hid (J2.out.four z1 z2 z3 z4)
      go_wp2_with fail
      generalize w9.alloc (.cells #[.int .i64 z1, .int .i64 z2, .int .i64 z3, .int .i64 z4] 3) = W9 at *
      clear J2
      have J2 := hid J3.out
      clear J3
      refine (c_one _ _ _ _ 30 _ J2.out.cur (by omega) (by omega) (by omega)).mono ?_
      rintro e wz ⟨x, rfl, hc5, hg5⟩
      replace J2 := hid (J2.out.cur' hc5 hg5)
      clear hc5 hg5
      have DZ := hid (HTL.out _ _ _ _ J2.out)
      obtain ⟨v1, v2, v3⟩ := DZ.out.cells
      obtain ⟨r1, r2, r3, r4⟩ := DZ.out.ret
      have R1 := hid r1
      have R2 := hid r2
      have R3 := hid r3
      have hJB := J2.out.hB
      have hwl : w.heap.size < W1.heap.size := by omega
      obtain ⟨s1, s2⟩ := (J2.out.kr.other (p := w.heap.size) (by omega) (.slice ua F.length uc)).seg
      have G1 := hid s1
      have G2 := hid s2
      clear r1 r2 r3 r4 s1 s2
      cases x
      · go_wp2_with fail
        exact bodyPost_ret (v := .tuple #[.agg #[.slice ua F.length uc], .slice (some ⟨w9.heap.size, 0, none⟩) 4 4]) (by simp [results, Try.results33, go_sem, R3.out]) rfl ⟨_, F, _, _, _, rfl, R1.out, ⟨HD.out.1, HD.out.2.1, HD.out.2.2.1⟩, G1.out, by simp, R2.out⟩
      · go_wp2_with fail
        exact bodyPost_ret (v := .tuple #[.agg #[.slice ua F.length uc], .slice (some ⟨w9.heap.size, 1, none⟩) 3 3]) (by simp [results, Try.results33, go_sem, R3.out]) rfl ⟨_, F, _, _, _, rfl, R1.out, ⟨HD.out.1, HD.out.2.1, HD.out.2.2.1⟩, G2.out, by simp, R2.out⟩

end Go.Proofs.Ytmapbkefndbnnaa

namespace Go.Proofs.Ytmapbkefndbnnaa
set_option linter.unusedVariables false

theorem joined_small (F : List Qd) (l : List Int) : (jqF F l).length ≤ 1048576 ∧ KidsLe (jqF F l) := by
  unfold jqF
  split
  · rename_i hok
    simp only [jqOK, Bool.and_eq_true, decide_eq_true_eq] at hok
    have hg := good_grows hok.1.1
    have hc := canJ_lev hok.2
    have hgr := joinF_grows hg hok.1.2 (fun j hj => (hc j hj).1) (hc 0 (by omega)).2.2
    unfold tellF
    split
    · exact ⟨by omega, hgr.kidsLe⟩
    · exact ⟨by simp, fun i hi => by simp at hi⟩
  · exact ⟨by simp, fun i hi => by simp at hi⟩
/-- What FnShared asks of quads that were joined. -/
theorem join_facts {F : List Qd} {l : List Int} (h : jqB F l = true) :
    thereB (jqF F l) (jqQ F l) = true ∧ (jqF (jqF F l) l = jqF F l ∧ jqQ (jqF F l) l = jqQ F l ∧ jqB (jqF F l) l = true) ∧ l.length = 4 ∧ (∀ i, i < 4 → thereB (jqF F l) (ia l i) = true ∧ 0 ≤ cntV (jqF F l) (ia l i) ∧ cntV (jqF F l) (ia l i) ≤ 1024) ∧ cntV (jqF F l) (jqQ F l) = cntV (jqF F l) (ia l 0) + cntV (jqF F l) (ia l 1) + cntV (jqF F l) (ia l 2) + cntV (jqF F l) (ia l 3) ∧ (jqF F l).length ≤ F.length + 1 := by
  simp only [jqB, Bool.and_eq_true] at h
  have hok := h.1
  have hb := h.2
  simp only [jqOK, Bool.and_eq_true, decide_eq_true_eq] at hok
  simp only [tellB, decide_eq_true_eq] at hb
  obtain ⟨⟨hg, h4⟩, hcj⟩ := hok
  have hc := canJ_lev hcj
  have hgr := joinF_grows (good_grows hg) h4 (fun j hj => (hc j hj).1) (hc 0 (by omega)).2.2
  have hv0 := lev_nonneg hg (q := (ia l 0).toNat) (by have := (hc 0 (by omega)).1; omega)
  have hfi := joinF_fine (good_fineF hg) h4 (fun j hj => (hc j hj).1) (fun j hj => (hc j hj).2.1) hv0.1 (hc 0 (by omega)).2.2
  have hgood := hfi.good hb
  have eF : jqF F l = (joinF F l).1 := by unfold jqF tellF; rw [h.1, if_pos rfl, if_pos hb]
  have eQ : jqQ F l = ((joinF F l).2 : Int) := by unfold jqQ tellQ; rw [h.1, if_pos rfl, if_pos hb]
  have hlen := joinF_len F l
  have hlt := joinF_lt F l
  have hold : ∀ i, i < F.length → qa (joinF F l).1 i = qa F i := fun i hi => joinF_old F l hi
  have hag := joinF_again (good_grows hg) hgr
  have hlev := joinF_lev (good_grows hg) (l := l)
  have hkd := joinF_kids F l
  have hth : thereB (joinF F l).1 ((joinF F l).2 : Int) = true := there_of hgood (by omega) (by omega)
  have hko : ∀ i, i < 4 → thereB (joinF F l).1 (ia l i) = true := fun i hi => there_of hgood (hc i hi).1.1 (by have := (hc i hi).1.2; omega)
  have hcj2 : canJ (joinF F l).1 l = true := by
    simp only [canJ, Bool.and_eq_true, decide_eq_true_eq]
    have h0 := hc 0 (by omega)
    refine ⟨allB_iff.2 fun i hi => ?_, by rw [hold _ (by omega)]; exact h0.2.2⟩
    have hi' := hc i hi
    simp only [kidB, Bool.and_eq_true, decide_eq_true_eq]
    refine ⟨?_, by rw [hold _ (by omega), hold _ (by omega)]; exact hi'.2.1⟩
    unfold inB
    rw [decide_eq_true hi'.1.1, decide_eq_true (show ia l i ≤ ((joinF F l).1.length : Int) - 1 by omega)]
    rfl
  have hok2 : jqOK (joinF F l).1 l = true := by unfold jqOK; rw [hgood, hcj2, decide_eq_true h4]; rfl
  have kq : ∀ i, i < 4 → kidq (joinF F l).1 (joinF F l).2 i = (ia l i).toNat := fun i hi => by unfold kidq; rw [hkd]
  have lk : ∀ i, i < 4 → levN (joinF F l).1 (ia l i).toNat = levN F (ia l 0).toNat := by
    intro i hi
    have hi' := hc i hi
    unfold levN
    rw [hold _ (by omega), hi'.2.1]
  have lq : levN (joinF F l).1 (joinF F l).2 = levN F (ia l 0).toNat + 1 := by
    unfold levN
    rw [hlev]
    omega
  have hcnt := count_kids (F := (joinF F l).1) (q := (joinF F l).2) lq (fun j hj => by rw [kq j hj]; exact lk j hj)
  rw [kq 0 (by omega), kq 1 (by omega), kq 2 (by omega), kq 3 (by omega)] at hcnt
  rw [eF, eQ]
  refine ⟨hth, ⟨?_, ?_, ?_⟩, h4, fun i hi => ⟨hko i hi, ?_, ?_⟩, ?_, by omega⟩
  · unfold jqF tellF; rw [hok2, if_pos rfl, hag, if_pos hb]
  · unfold jqQ tellQ; rw [hok2, if_pos rfl, hag, if_pos hb]
  · unfold jqB tellB; rw [hok2, hag, decide_eq_true hb]; rfl
  · unfold cntV; rw [hko i hi, if_pos rfl]; omega
  · unfold cntV; rw [hko i hi, if_pos rfl]
    have := cellsOfQ_len hgood (show (ia l i).toNat < (joinF F l).1.length by have := (hc i hi).1; omega)
    omega
  · unfold cntV
    rw [hth, hko 0 (by omega), hko 1 (by omega), hko 2 (by omega), hko 3 (by omega)]
    simp only [if_true, Int.toNat_natCast]
    omega
/-- How many squares there are up to a level, as the law counts them. -/
def sqT : Nat → Int
  | 0 => 0
  | n + 1 => sqT n + 4 ^ n
theorem sqT_sqs : ∀ n, sqT (n + 1) = (sqs n : Int)
  | 0 => rfl
  | n + 1 => by
    show sqT (n + 1) + 4 ^ (n + 1) = _
    rw [sqT_sqs n, sqs_up n]
    push_cast
    rfl
theorem sqT_le {n : Nat} (h : n ≤ 6) : 0 ≤ sqT n ∧ sqT n ≤ 2000 := by
  rcases (show n = 0 ∨ n = 1 ∨ n = 2 ∨ n = 3 ∨ n = 4 ∨ n = 5 ∨ n = 6 by omega) with rfl | rfl | rfl | rfl | rfl | rfl | rfl <;> decide
/-- What FnShared asks of the quads that a tree is made of. -/
theorem shared_facts {F : List Qd} {q : Int} (h : thereB F q = true) : 0 ≤ levV F q ∧ levV F q ≤ 5 ∧ ((shrV F q).length : Int) ≤ sqT ((levV F q).toNat + 1) ∧ q ∈ shrV F q ∧ (∀ x ∈ shrV F q, 0 ≤ x ∧ x < (F.length : Int) ∧ ∀ j, j < (qa F x.toNat).2.length → ia (qa F x.toNat).2 j ∈ shrV F q) := by
  obtain ⟨hg, h0, h1⟩ := there_bd h
  have hq : q.toNat < F.length := by omega
  have hl := lev_nonneg hg hq
  have eS : shrV F q = shrL F q.toNat := by unfold shrV; rw [h, if_pos rfl]
  have eL : levV F q = (qa F q.toNat).1 := by unfold levV; rw [h, if_pos rfl]
  rw [eS, eL]
  refine ⟨hl.1, hl.2, ?_, ?_, ?_⟩
  · rw [sqT_sqs]
    have := shrL_len hg hq
    unfold levN at this
    omega
  · have := shrL_self hg hq
    rw [show ((q.toNat : Nat) : Int) = q by omega] at this
    exact this
  · intro x hx
    obtain ⟨n, rfl, hr⟩ := ((shrL_spec hg hq).2 x).1 hx
    have hle := hr.le hg hq
    refine ⟨by omega, by omega, fun j hj => ?_⟩
    rw [Int.toNat_natCast] at hj ⊢
    exact (shrL_kid hg hq hx hj).2

end Go.Proofs.Ytmapbkefndbnnaa

namespace Go.Proofs.Ytmapbkefndbnnaa
set_option linter.unusedVariables false
theorem meet_fun {R : Prop} (h : R) {l : List Value} {T : (Nat → Value) → Array Value} (e : Act.mk l.toArray [] = Act.mk (T (fun i => l.getD i (.bool false))) []) : ∃ f : Nat → Value, Act.mk l.toArray [] = Act.mk (T f) [] ∧ R := ⟨_, e, h⟩
end Go.Proofs.Ytmapbkefndbnnaa
