/- Texts of this seat, one behind the other: DrX. -/
import Derived.Test.YtgppcocfnbalfaaDoorDrW
import Derived.Test.YtgppcocfnbalfaaDoorMeet
import Derived.Test.YtgppcocfnbalfaaDoorWdF
import Derived.Deep.RegionHeld3
namespace Go.Proofs.YtgppcocfnbalfaaDoor
open Go.RowKit Go.ChangeShapes Go.WideShapes Go.ChangeAt
set_option linter.unusedVariables false
set_option linter.unusedSimpArgs false
attribute [local go_sem ↓] Go.wp_at_zero Go.wp_at_succ

/-- What stands while the second world is drawn: the cursor (its box q), the results' boxes r and r + 1, the first world's box b. -/
structure DS (Wc W : World) (q n : Nat) (A : Int) (r b : Nat) (a1 : Option Addr) (L : List Cl) (c1 : Nat) (t : Int) : Prop where
  cu : CU Wc W q q n A (.slice a1 L.length c1) L
  r0 : WRow W r (.slice none 0 0) 0 25
  r1 : WRow W (r + 1) (.slice none 0 0) 0 25
  bw : WRow W b (.slice a1 L.length c1) t 25
  o1 : r + 1 < q
  o3 : Wc.heap.size ≤ b
  o4 : ∀ j, (Value.slice a1 L.length c1).ownBlock = some j → j < b
theorem DS.below {Wc W W' : World} {q n r b c1 : Nat} {A t : Int} {a1 : Option Addr} {L : List Cl} (h : DS Wc W q n A r b a1 L c1 t) (hb : Below W.heap.size W W') : DS Wc W' q n A r b a1 L c1 t :=
  ⟨h.cu.below hb, h.r0.below hb, h.r1.below hb, h.bw.below hb, h.o1, h.o3, h.o4⟩
theorem DS.alloc {Wc W : World} {q n r b c1 : Nat} {A t : Int} {a1 : Option Addr} {L : List Cl} (h : DS Wc W q n A r b a1 L c1 t) (o : Obj) : DS Wc (W.alloc o) q n A r b a1 L c1 t := h.below ((Below.refl W.heap.size W).alloc (Nat.le_refl _) o)
theorem DS.drew {Wc W : World} {q n r b c1 : Nat} {A t : Int} {a1 : Option Addr} {L : List Cl} (h : DS Wc W q n A r b a1 L c1 t) : DS Wc W.drew q n A r b a1 L c1 t := h.below ((Below.refl W.heap.size W).drew)
theorem DS.cur {Wc W W' : World} {q n r b c1 : Nat} {A A' t : Int} {a1 : Option Addr} {L : List Cl} (h : DS Wc W q n A r b a1 L c1 t) (hc : CurAt W' q q n A') (hg : W.grownBy W' (some q)) : DS Wc W' q n A' r b a1 L c1 t :=
  ⟨h.cu.cur' hc hg, h.r0.grown hg (by have := h.o1; omega), h.r1.grown hg (by have := h.o1; omega), h.bw.grown hg (by have := h.cu.bl; have := h.o3; omega), h.o1, h.o3, h.o4⟩
theorem DS.put {Wc W : World} {q n r b c1 bx o : Nat} {A t : Int} {a1 : Option Addr} {L : List Cl} (h : DS Wc W q n A r b a1 L c1 t) (hb : b < bx) (u : Value) : DS Wc (W.setCell ⟨bx, o, none⟩ u) q n A r b a1 L c1 t :=
  ⟨h.cu.set u (by have := h.o3; omega) (fun j hj => by have := h.o4 j hj; omega), h.r0.other (by have := h.o1; have := h.cu.bl; have := h.o3; omega) u, h.r1.other (by have := h.o1; have := h.cu.bl; have := h.o3; omega) u, h.bw.other (by omega) u, h.o1, h.o3, h.o4⟩
theorem DS.lt {Wc W : World} {q n r b c1 : Nat} {A t : Int} {a1 : Option Addr} {L : List Cl} (h : DS Wc W q n A r b a1 L c1 t) : b < W.heap.size := World.rowIs.lt h.bw
/-- The second world, in its box. -/
def MR (Wc W : World) (bx : Nat) (a6 : Option Addr) (M : List Cl) (c6 : Nat) (u : Int) : Prop :=
  OwnS W Wc.heap.size (.slice a6 M.length c6) M ∧ WRow W bx (.slice a6 M.length c6) u 25 ∧ M.length ≤ 120 ∧ Wc.heap.size ≤ bx

theorem MR.below {Wc W W' : World} {bx c6 : Nat} {a6 : Option Addr} {M : List Cl} {u : Int} (h : MR Wc W bx a6 M c6 u) (hb : Below W.heap.size W W') : MR Wc W' bx a6 M c6 u := ⟨h.1.below hb, h.2.1.below hb, h.2.2⟩
theorem MR.cur {Wc W W' : World} {bx c6 q : Nat} {a6 : Option Addr} {M : List Cl} {u : Int} (h : MR Wc W bx a6 M c6 u) (hg : W.grownBy W' (some q)) (hq : q < Wc.heap.size) : MR Wc W' bx a6 M c6 u :=
  ⟨own_keep h.1 hg (fun k hk e => by have := (h.1.lt k hk).1; simp only [Option.some.injEq] at e; omega), h.2.1.grown hg (by have := h.2.2.2; omega), h.2.2⟩

set_option maxHeartbeats 2000000 in
set_option maxRecDepth 100000 in
theorem c_DrawSameWorld (a : Option Addr) (l : List Int) (ca : Nat) (w : World) (ha : BSeg w a l) (hl : l.length ≤ 9223372036854775807) :
    Calls Tryd.prog 13 #[.slice a l.length ca] w fun e w' => ∃ (v u : Value) (L M : List Cl) (t s : Int), e = .returned (.tuple #[.agg #[v, .int .i64 t], .agg #[u, .int .i64 s]]) ∧ OwnS w' w.heap.size v L ∧ L.length ≤ 120 ∧ OwnS w' w.heap.size u M ∧ M.length ≤ 120 ∧ Below w.heap.size w w' := by
  have RA := WRow.new w (.slice none 0 0) 0 25
  have b0 := (Below.refl w.heap.size w).alloc (Nat.le_refl _) (.cells #[.slice none 0 0, .int .i64 0] 25)
  have b1 := b0.alloc (by simp) (.cells #[.slice none 0 0, .int .i64 0] 25)
  have R0 := hid (World.rowIs.alloc RA (.cells #[.slice none 0 0, .int .i64 0] 25))
  have RB := WRow.new (w.alloc (.cells #[.slice none 0 0, .int .i64 0] 25)) (.slice none 0 0) 0 25
  rw [show (w.alloc (.cells #[.slice none 0 0, .int .i64 0] 25)).heap.size = w.heap.size + 1 by simp] at RB
  have R1 := hid RB
  have HZ := hid (show ((w.alloc (.cells #[.slice none 0 0, .int .i64 0] 25)).alloc (.cells #[.slice none 0 0, .int .i64 0] 25)).heap.size = w.heap.size + 2 by simp)
  have HA := hid (BSeg.below ha b1)
  have B1 := hid b1
  clear ha RA RB b0 b1
  go_enter Tryd.func13, Tryd.ntmps13
  go_upto_region 1 with fail
  generalize (w.alloc (.cells #[.slice none 0 0, .int .i64 0] 25)).alloc (.cells #[.slice none 0 0, .int .i64 0] 25) = Wr at *
  have HC := hid (show CurAt (Wr.alloc (.cells #[.slice a l.length ca, .int .i64 0, .int .u64 0] 53)) Wr.heap.size Wr.heap.size l.length 0 from cur_new Wr a l ca HA.out hl)
  have HBC := hid (show ∀ W', (Wr.alloc (.cells #[.slice a l.length ca, .int .i64 0, .int .u64 0] 53)).grownBy W' (some Wr.heap.size) → Below Wr.heap.size Wr W' from fun W' h => below_cur h)
  have ZC := hid (show (Wr.alloc (.cells #[.slice a l.length ca, .int .i64 0, .int .u64 0] 53)).heap.size = Wr.heap.size + 1 by simp)
  replace R0 := hid (World.rowIs.alloc R0.out (.cells #[.slice a l.length ca, .int .i64 0, .int .u64 0] 53))
  replace R1 := hid (World.rowIs.alloc R1.out (.cells #[.slice a l.length ca, .int .i64 0, .int .u64 0] 53))
  clear HA
  go_upto_region 2 with fail
  generalize Wr.alloc (.cells #[.slice a l.length ca, .int .i64 0, .int .u64 0] 53) = Wc at *
  go_wp2_with fail
  refine (c_world Wr.heap.size Wr.heap.size l.length 0 _ HC.out (by omega)).mono ?_
  rintro e w1 ⟨v1, L, t, rfl, hO1, hl1, hs1, ht1, hc1, hg1⟩
  obtain ⟨a1, c1, rfl, _⟩ := hO1.form
  have hsz := hg1.size
  have D0 := hid (show DS Wc (w1.alloc (.cells #[.slice a1 L.length c1, .int .i64 t] 25)) Wr.heap.size l.length (0 + 1010) w.heap.size w1.heap.size a1 L c1 t from
    ⟨CU.alloc ⟨hO1, hc1, hg1, by have := ZC.out; omega⟩ _, World.rowIs.alloc (WRow.grown R0.out hg1 (by have := HZ.out; omega)) _, World.rowIs.alloc (WRow.grown R1.out hg1 (by have := HZ.out; omega)) _, WRow.new _ _ _ _, by have := HZ.out; omega, hsz, fun j hj => (hO1.lt j hj).2⟩)
  have Z5 := hid (show (w1.alloc (.cells #[.slice a1 L.length c1, .int .i64 t] 25)).heap.size = w1.heap.size + 1 by simp)
  have HL := hid hl1
  clear hO1 hl1 hs1 ht1 hc1 hg1 hsz R0 R1 HC
  go_upto_region 3 with fail
  generalize w1.alloc (.cells #[.slice a1 L.length c1, .int .i64 t] 25) = W5 at *
  have HMV := hid (fun (W : World) (p q : Int) (A : Int) (h : DS Wc W Wr.heap.size l.length A w.heap.size w1.heap.size a1 L c1 t) => c_sMoveWorld a1 L c1 t p q W h.cu.own.seg (by have := HL.out; omega))
  have x0 := D0.out.bw.c0
  have x1 := D0.out.bw.c1
  refine wp_cut (fun a' wx => ∃ (bx : Nat) (a6 : Option Addr) (M : List Cl) (c6 : Nat) (u : Int) (ok : Bool), ∃ sl : Nat → Value, a' = Act.mk #[sl 0, sl 1, .pointer (some ⟨w.heap.size, 0, none⟩), .pointer (some ⟨w.heap.size + 1, 0, none⟩), .pointer (some ⟨Wr.heap.size, 0, none⟩), .pointer (some ⟨w1.heap.size, 0, none⟩), .pointer (some ⟨bx, 0, none⟩), .bool ok, sl 8, sl 9, sl 10, sl 11, sl 12, sl 13, sl 14, sl 15, sl 16, sl 17, sl 18, sl 19, sl 20, sl 21, sl 22, sl 23, sl 24, sl 25, sl 26, sl 27, sl 28, sl 29, sl 30, sl 31, sl 32, sl 33] [] ∧ Hid (DS Wc wx Wr.heap.size l.length (0 + 1010 + 1 + 1) w.heap.size w1.heap.size a1 L c1 t) ∧ Hid (MR Wc wx bx a6 M c6 u)) ?rest ?first
  case first =>
    intro J K' hJ hK
    have D1 := hid D0.out.drew
    have E1 := hid (D0.out.alloc (.cells #[.slice none 0 0, .int .i64 0] 25)).drew
    have RE := (WRow.new W5 (.slice none 0 0) 0 25).below ((Below.refl (W5.alloc (.cells #[.slice none 0 0, .int .i64 0] 25)).heap.size (W5.alloc (.cells #[.slice none 0 0, .int .i64 0] 25))).drew)
    have RE' := hid RE
    have HZ5 := hid (show w1.heap.size < W5.heap.size by have := Z5.out; omega)
    have HQ := hid (show Wr.heap.size < w1.heap.size by have := D0.out.o3; have := D0.out.cu.bl; omega)
    clear RE
    go_wp2_with fail
    go_region_held3 (fun W => W.cell? ⟨w1.heap.size, 0, none⟩ = some (.slice a1 L.length c1) ∧ W.cell? ⟨w1.heap.size, 1, none⟩ = some (.int .i64 t))
      (first | with_reducible exact ⟨D5.out.bw.c0, D5.out.bw.c1⟩ | with_reducible exact ⟨D4.out.bw.c0, D4.out.bw.c1⟩ | with_reducible exact ⟨(D4.out.alloc _).bw.c0, (D4.out.alloc _).bw.c1⟩ | with_reducible exact ⟨D3.out.bw.c0, D3.out.bw.c1⟩ | with_reducible exact ⟨(D3.out.alloc _).bw.c0, (D3.out.alloc _).bw.c1⟩ | with_reducible exact ⟨D2.out.bw.c0, D2.out.bw.c1⟩ | with_reducible exact ⟨(D2.out.alloc _).bw.c0, (D2.out.alloc _).bw.c1⟩ | with_reducible exact ⟨(D1.out.alloc _).bw.c0, (D1.out.alloc _).bw.c1⟩ | with_reducible exact ⟨D1.out.bw.c0, D1.out.bw.c1⟩ | with_reducible exact ⟨E1.out.bw.c0, E1.out.bw.c1⟩ | with_reducible exact ⟨(D0.out.alloc _).bw.c0, (D0.out.alloc _).bw.c1⟩ | with_reducible exact ⟨D0.out.bw.c0, D0.out.bw.c1⟩ | go_keep)
      (first
        | (have _g := D3; clear _g; go_at_call 12; rw [show IntKind.i64.wrap (x - 4) = x - 4 from IntWalk.i64_in _ ⟨by omega, by omega⟩, show IntKind.i64.wrap (y - 4) = y - 4 from IntWalk.i64_in _ ⟨by omega, by omega⟩]; (first | (with_reducible show Calls _ _ _ (World.alloc _ _) _; refine (HMV.out _ _ _ _ (D3.out.alloc _)).mono ?_; rintro e w4 ⟨v4, rfl, hO4, b4⟩; have D4 := hid ((D3.out.alloc _).below b4); have RF4 := hid ((WRow.new _ _ _ _).below b4); have ZX := hid D3.out.lt) | (refine (HMV.out _ _ _ _ D3.out).mono ?_; rintro e w4 ⟨v4, rfl, hO4, b4⟩; have D4 := hid (D3.out.below b4); (try have RF4 := hid (RF3.out.below b4)))); have OL := hid (fun j hj => (hO4.lt j hj).1); obtain ⟨a4, c4, rfl, _⟩ := hO4.form; have O4 := hid (hO4.mono (show Wc.heap.size ≤ _ by have h1 := D3.out.lt; have h2 := D3.out.o3; first | omega | (simp; omega))); (try (have f0 := RF4.out.fr 0; have f1 := RF4.out.fr 1; have d0 := RF4.out.c0; have d1 := RF4.out.c1; have D5 := hid ((D4.out.put (o := 0) ZX.out (.slice a4 (mwL L t (x - 4) (y - 4)).length c4)).put (o := 1) ZX.out (.int .i64 (mwT L t (x - 4) (y - 4)))))); have n0 := (WRow.new w4 (.slice none 0 0) 0 25).fr 0; have n1 := (WRow.new w4 (.slice none 0 0) 0 25).fr 1; have m0 := (WRow.new w4 (.slice none 0 0) 0 25).c0; have m1 := (WRow.new w4 (.slice none 0 0) 0 25).c1)
        | (have _g := D2; clear _g; go_at_call 22; (first | (with_reducible show Calls _ _ _ (World.alloc _ _) _; refine (c_pick Wr.heap.size Wr.heap.size l.length _ 9 _ (D2.out.alloc _).cu.cur (by omega) (by omega) (by omega)).mono ?_; rintro e w3 ⟨y, rfl, y0, y1, hc, hg⟩; have D3 := hid ((D2.out.alloc _).cur hc hg); have RF3 := hid (WRow.grown (WRow.new _ _ _ _) hg (by have := D2.out.lt; have := HQ.out; omega)); have ZX := hid D2.out.lt) | (refine (c_pick Wr.heap.size Wr.heap.size l.length _ 9 _ D2.out.cu.cur (by omega) (by omega) (by omega)).mono ?_; rintro e w3 ⟨y, rfl, y0, y1, hc, hg⟩; have D3 := hid (D2.out.cur hc hg); (try have RF3 := hid (WRow.grown RF2.out hg (by have := HZ5.out; have := HQ.out; omega))))))
        | (go_at_call 22; (first | (refine (c_pick Wr.heap.size Wr.heap.size l.length _ 9 _ (by with_reducible exact D1.out.cu.cur) (by omega) (by omega) (by omega)).mono ?_; rintro e w2 ⟨x, rfl, p0, p1, hc, hg⟩; have D2 := hid (D1.out.cur hc hg)) | (refine (c_pick Wr.heap.size Wr.heap.size l.length _ 9 _ (by with_reducible exact E1.out.cu.cur) (by omega) (by omega) (by omega)).mono ?_; rintro e w2 ⟨x, rfl, p0, p1, hc, hg⟩; have D2 := hid (E1.out.cur hc hg); have RF2 := hid (WRow.grown RE'.out hg (by have := HZ5.out; have := HQ.out; omega)); have ZX := hid HZ5.out))))
    all_goals show K' _ _
    all_goals first
      | exact hK _ _ (Met.intro (hJ _ _ ⟨_, a4, mwL L t (x - 4) (y - 4), c4, mwT L t (x - 4) (y - 4), mwOk L t (x - 4) (y - 4), meet_fun ⟨hid D5.out, hid ⟨(O4.out.other (fun j hj => by have h1 := OL.out j hj; first | (have h2 := World.rowIs.lt RF3.out; omega) | (simp at h1; omega)) _).other (fun j hj => by have h1 := OL.out j hj; first | (have h2 := World.rowIs.lt RF3.out; omega) | (simp at h1; omega)) _, RF4.out.put _ _, mwL_le _ _ _ _, by have := ZX.out; have := D0.out.o3; omega⟩⟩ (by kernel_rfl)⟩))
      | exact hK _ _ (Met.intro (hJ _ _ ⟨_, a4, mwL L t (x - 4) (y - 4), c4, mwT L t (x - 4) (y - 4), mwOk L t (x - 4) (y - 4), meet_fun ⟨hid (D4.out.alloc _), hid ⟨O4.out.below ((Below.refl w4.heap.size w4).alloc (Nat.le_refl _) _), WRow.new _ _ _ _, mwL_le _ _ _ _, by have := D4.out.lt; have := D0.out.o3; omega⟩⟩ (by kernel_rfl)⟩))
  case rest =>
    rintro _ w5 ⟨bx, a6, M, c6, u, ok, sl, rfl, D5, M5⟩
    clear D0 x0 x1 HMV Z5
    cases ok
    case false =>
      clear M5
      have DD := hid D5.out.drew
      have y0 := D5.out.bw.c0
      have y1 := D5.out.bw.c1
      go_wp2_with fail
      go_region_held3 (fun W => W.cell? ⟨w1.heap.size, 0, none⟩ = some (.slice a1 L.length c1) ∧ W.cell? ⟨w1.heap.size, 1, none⟩ = some (.int .i64 t))
        (first | with_reducible exact ⟨G9.out.c0, G9.out.c1⟩ | with_reducible exact ⟨H9.out.c0, H9.out.c1⟩ | with_reducible exact ⟨D9.out.bw.c0, D9.out.bw.c1⟩ | with_reducible exact ⟨DD.out.bw.c0, DD.out.bw.c1⟩ | with_reducible exact ⟨D5.out.bw.c0, D5.out.bw.c1⟩ | go_keep)
        (first
          | (go_at_call 21; refine (c_world Wr.heap.size Wr.heap.size l.length _ _ DD.out.cu.cur (by omega)).mono ?_; rintro e w9 ⟨v9, N, s, rfl, hO9, hl9, hs9, ht9, hc9, hg9⟩; obtain ⟨a9, c9, rfl, _⟩ := hO9.form; have D9 := hid (DD.out.cur hc9 hg9); have O9 := hid (hO9.mono (show Wc.heap.size ≤ _ from DD.out.cu.gr.size)); have f0 := D9.out.r0.fr 0; have f1 := D9.out.r0.fr 1; have f2 := D9.out.r1.fr 0; have f3 := D9.out.r1.fr 1; have d0 := D9.out.r0.c0; have d1 := D9.out.r0.c1; have d2 := D9.out.r1.c0; have d3 := D9.out.r1.c1; have HO3 := hid (show w1.heap.size ≠ w.heap.size ∧ w1.heap.size ≠ w.heap.size + 1 by have := D9.out.o3; have := ZC.out; have := HZ.out; omega); have H9 := hid ((D9.out.bw.other (b' := w.heap.size) (o := 0) HO3.out.1 (.slice a1 L.length c1)).other (b' := w.heap.size) (o := 1) HO3.out.1 (.int .i64 t)); have G9 := hid ((H9.out.other (b' := w.heap.size + 1) (o := 0) HO3.out.2 (.slice a9 N.length c9)).other (b' := w.heap.size + 1) (o := 1) HO3.out.2 (.int .i64 s))))
      have P0 := hid (((D9.out.r0.put (.slice a1 L.length c1) t).other (b' := w.heap.size + 1) (o := 0) (by omega) (.slice a9 N.length c9)).other (b' := w.heap.size + 1) (o := 1) (by omega) (.int .i64 s))
      have P1 := hid (((D9.out.r1.other (b' := w.heap.size) (o := 0) (by omega) (.slice a1 L.length c1)).other (b' := w.heap.size) (o := 1) (by omega) (.int .i64 t)).put (.slice a9 N.length c9) s)
      have p0 := hid P0.out.c0
      have p1 := hid P0.out.c1
      have p2 := hid P1.out.c0
      have p3 := hid P1.out.c1
      have OA := hid (ownW (ownW D9.out.cu.own (b := w.heap.size) (by have := ZC.out; have := HZ.out; omega) (.slice a1 L.length c1) (.int .i64 t) (base' := Wc.heap.size) (Nat.le_refl _)) (b := w.heap.size + 1) (by have := ZC.out; have := HZ.out; omega) (.slice a9 N.length c9) (.int .i64 s) (base' := w.heap.size) (by have := ZC.out; have := HZ.out; omega))
      have OB := hid (ownW (ownW O9.out (b := w.heap.size) (by have := ZC.out; have := HZ.out; omega) (.slice a1 L.length c1) (.int .i64 t) (base' := Wc.heap.size) (Nat.le_refl _)) (b := w.heap.size + 1) (by have := ZC.out; have := HZ.out; omega) (.slice a9 N.length c9) (.int .i64 s) (base' := w.heap.size) (by have := ZC.out; have := HZ.out; omega))
      have BF := hid (belW (belW (B1.out.trans ((HBC.out _ D9.out.cu.gr).mono (by have := HZ.out; omega))) (b := w.heap.size) (Nat.le_refl _) (.slice a1 L.length c1) (.int .i64 t)) (b := w.heap.size + 1) (by omega) (.slice a9 N.length c9) (.int .i64 s))
      go_wp2
      exact bodyPost_ret (v := .tuple #[.agg #[.slice a1 L.length c1, .int .i64 t], .agg #[.slice a9 N.length c9, .int .i64 s]]) (by simp [results, Tryd.results13, go_sem, p0.out, p1.out, p2.out, p3.out]) rfl ⟨_, _, L, N, t, s, rfl, OA.out, HL.out, OB.out, hl9, BF.out⟩
    case true =>
      have HC1 := hid (c_one Wr.heap.size Wr.heap.size l.length _ 2 w5 D5.out.cu.cur (by omega) (by omega) (by omega))
      go_wp2_with fail
      refine HC1.out.mono ?_
      rintro e w6 ⟨x, rfl, hc6, hg6⟩
      have M6 := hid (M5.out.cur hg6 D5.out.cu.bl)
      have D6 := hid (D5.out.cur hc6 hg6)
      clear hc6 hg6 HC1 M5 D5
      cases x
      case false =>
        clear M6
        have DD := hid D6.out.drew
        have y0 := D6.out.bw.c0
        have y1 := D6.out.bw.c1
        go_wp2_with fail
        go_region_held3 (fun W => W.cell? ⟨w1.heap.size, 0, none⟩ = some (.slice a1 L.length c1) ∧ W.cell? ⟨w1.heap.size, 1, none⟩ = some (.int .i64 t))
          (first | with_reducible exact ⟨G9.out.c0, G9.out.c1⟩ | with_reducible exact ⟨H9.out.c0, H9.out.c1⟩ | with_reducible exact ⟨D9.out.bw.c0, D9.out.bw.c1⟩ | with_reducible exact ⟨DD.out.bw.c0, DD.out.bw.c1⟩ | with_reducible exact ⟨D6.out.bw.c0, D6.out.bw.c1⟩ | go_keep)
          (first
            | (go_at_call 21; refine (c_world Wr.heap.size Wr.heap.size l.length _ _ DD.out.cu.cur (by omega)).mono ?_; rintro e w9 ⟨v9, N, s, rfl, hO9, hl9, hs9, ht9, hc9, hg9⟩; obtain ⟨a9, c9, rfl, _⟩ := hO9.form; have D9 := hid (DD.out.cur hc9 hg9); have O9 := hid (hO9.mono (show Wc.heap.size ≤ _ from DD.out.cu.gr.size)); have f0 := D9.out.r0.fr 0; have f1 := D9.out.r0.fr 1; have f2 := D9.out.r1.fr 0; have f3 := D9.out.r1.fr 1; have d0 := D9.out.r0.c0; have d1 := D9.out.r0.c1; have d2 := D9.out.r1.c0; have d3 := D9.out.r1.c1; have HO3 := hid (show w1.heap.size ≠ w.heap.size ∧ w1.heap.size ≠ w.heap.size + 1 by have := D9.out.o3; have := ZC.out; have := HZ.out; omega); have H9 := hid ((D9.out.bw.other (b' := w.heap.size) (o := 0) HO3.out.1 (.slice a1 L.length c1)).other (b' := w.heap.size) (o := 1) HO3.out.1 (.int .i64 t)); have G9 := hid ((H9.out.other (b' := w.heap.size + 1) (o := 0) HO3.out.2 (.slice a9 N.length c9)).other (b' := w.heap.size + 1) (o := 1) HO3.out.2 (.int .i64 s))))
        have P0 := hid (((D9.out.r0.put (.slice a1 L.length c1) t).other (b' := w.heap.size + 1) (o := 0) (by omega) (.slice a9 N.length c9)).other (b' := w.heap.size + 1) (o := 1) (by omega) (.int .i64 s))
        have P1 := hid (((D9.out.r1.other (b' := w.heap.size) (o := 0) (by omega) (.slice a1 L.length c1)).other (b' := w.heap.size) (o := 1) (by omega) (.int .i64 t)).put (.slice a9 N.length c9) s)
        have p0 := hid P0.out.c0
        have p1 := hid P0.out.c1
        have p2 := hid P1.out.c0
        have p3 := hid P1.out.c1
        have OA := hid (ownW (ownW D9.out.cu.own (b := w.heap.size) (by have := ZC.out; have := HZ.out; omega) (.slice a1 L.length c1) (.int .i64 t) (base' := Wc.heap.size) (Nat.le_refl _)) (b := w.heap.size + 1) (by have := ZC.out; have := HZ.out; omega) (.slice a9 N.length c9) (.int .i64 s) (base' := w.heap.size) (by have := ZC.out; have := HZ.out; omega))
        have OB := hid (ownW (ownW O9.out (b := w.heap.size) (by have := ZC.out; have := HZ.out; omega) (.slice a1 L.length c1) (.int .i64 t) (base' := Wc.heap.size) (Nat.le_refl _)) (b := w.heap.size + 1) (by have := ZC.out; have := HZ.out; omega) (.slice a9 N.length c9) (.int .i64 s) (base' := w.heap.size) (by have := ZC.out; have := HZ.out; omega))
        have BF := hid (belW (belW (B1.out.trans ((HBC.out _ D9.out.cu.gr).mono (by have := HZ.out; omega))) (b := w.heap.size) (Nat.le_refl _) (.slice a1 L.length c1) (.int .i64 t)) (b := w.heap.size + 1) (by omega) (.slice a9 N.length c9) (.int .i64 s))
        go_wp2
        exact bodyPost_ret (v := .tuple #[.agg #[.slice a1 L.length c1, .int .i64 t], .agg #[.slice a9 N.length c9, .int .i64 s]]) (by simp [results, Tryd.results13, go_sem, p0.out, p1.out, p2.out, p3.out]) rfl ⟨_, _, L, N, t, s, rfl, OA.out, HL.out, OB.out, hl9, BF.out⟩
      case true =>
        have DD := hid D6.out.drew
        have MM := hid (M6.out.below ((Below.refl w6.heap.size w6).drew))
        have y0 := DD.out.bw.c0
        have y1 := DD.out.bw.c1
        have z0 := MM.out.2.1.c0
        have z1 := MM.out.2.1.c1
        have f0 := D6.out.r0.fr 0
        have f1 := D6.out.r0.fr 1
        have f2 := D6.out.r1.fr 0
        have f3 := D6.out.r1.fr 1
        have d0 := D6.out.r0.c0
        have d1 := D6.out.r0.c1
        have d2 := D6.out.r1.c0
        have d3 := D6.out.r1.c1
        have P0 := hid (((D6.out.r0.put (.slice a1 L.length c1) t).other (b' := w.heap.size + 1) (o := 0) (by omega) (.slice a6 M.length c6)).other (b' := w.heap.size + 1) (o := 1) (by omega) (.int .i64 u))
        have P1 := hid (((D6.out.r1.other (b' := w.heap.size) (o := 0) (by omega) (.slice a1 L.length c1)).other (b' := w.heap.size) (o := 1) (by omega) (.int .i64 t)).put (.slice a6 M.length c6) u)
        have p0 := hid P0.out.c0
        have p1 := hid P0.out.c1
        have p2 := hid P1.out.c0
        have p3 := hid P1.out.c1
        have OA := hid (ownW (ownW D6.out.cu.own (b := w.heap.size) (by have := ZC.out; have := HZ.out; omega) (.slice a1 L.length c1) (.int .i64 t) (base' := Wc.heap.size) (Nat.le_refl _)) (b := w.heap.size + 1) (by have := ZC.out; have := HZ.out; omega) (.slice a6 M.length c6) (.int .i64 u) (base' := w.heap.size) (by have := ZC.out; have := HZ.out; omega))
        have OB := hid (ownW (ownW M6.out.1 (b := w.heap.size) (by have := ZC.out; have := HZ.out; omega) (.slice a1 L.length c1) (.int .i64 t) (base' := Wc.heap.size) (Nat.le_refl _)) (b := w.heap.size + 1) (by have := ZC.out; have := HZ.out; omega) (.slice a6 M.length c6) (.int .i64 u) (base' := w.heap.size) (by have := ZC.out; have := HZ.out; omega))
        have BF := hid (belW (belW (B1.out.trans ((HBC.out _ D6.out.cu.gr).mono (by have := HZ.out; omega))) (b := w.heap.size) (Nat.le_refl _) (.slice a1 L.length c1) (.int .i64 t)) (b := w.heap.size + 1) (by omega) (.slice a6 M.length c6) (.int .i64 u))
        replace P0 := hid (P0.out.below ((Below.refl _ _).drew))
        replace P1 := hid (P1.out.below ((Below.refl _ _).drew))
        replace p0 := hid P0.out.c0
        replace p1 := hid P0.out.c1
        replace p2 := hid P1.out.c0
        replace p3 := hid P1.out.c1
        replace OA := hid (OA.out.below ((Below.refl _ _).drew))
        replace OB := hid (OB.out.below ((Below.refl _ _).drew))
        replace BF := hid BF.out.drew
        have y2 := D6.out.bw.c0
        have y3 := D6.out.bw.c1
        have z2 := M6.out.2.1.c0
        have z3 := M6.out.2.1.c1
        have n1 : bx ≠ w.heap.size := by have := M6.out.2.2.2; have := ZC.out; have := HZ.out; omega
        have n2 : bx ≠ w.heap.size + 1 := by have := M6.out.2.2.2; have := ZC.out; have := HZ.out; omega
        have n3 : w1.heap.size ≠ w.heap.size := by have := D6.out.o3; have := ZC.out; have := HZ.out; omega
        have n4 : w1.heap.size ≠ w.heap.size + 1 := by have := D6.out.o3; have := ZC.out; have := HZ.out; omega
        have Q6 := ((M6.out.2.1.other (b' := w.heap.size) (o := 0) n1 (.slice a1 L.length c1)).other (b' := w.heap.size) (o := 1) n1 (.int .i64 t))
        have Q7 := Q6.below ((Below.refl _ _).drew)
        have Q8 := ((D6.out.bw.other (b' := w.heap.size + 1) (o := 0) n4 (.slice a6 M.length c6)).other (b' := w.heap.size + 1) (o := 1) n4 (.int .i64 u))
        have Q9 := Q8.below ((Below.refl _ _).drew)
        have q0 := Q6.c0
        have q1 := Q6.c1
        have q2 := Q7.c0
        have q3 := Q7.c1
        have q4 := Q8.c0
        have q5 := Q8.c1
        have q6 := Q9.c0
        have q7 := Q9.c1
        clear Q6 Q7 Q8 Q9
        go_wp2_with fail
        go_region
        all_goals go_wp2
        all_goals first
          | exact bodyPost_ret (v := .tuple #[.agg #[.slice a1 L.length c1, .int .i64 t], .agg #[.slice a6 M.length c6, .int .i64 u]]) (by simp [results, Tryd.results13, go_sem, p0.out, p1.out, p2.out, p3.out]) rfl ⟨_, _, L, M, t, u, rfl, OA.out, HL.out, OB.out, MM.out.2.2.1, BF.out⟩

end Go.Proofs.YtgppcocfnbalfaaDoor
