/- FnExactSameWorld answers true at every argument: SameWorld answers as the specification does and writes into no argument. No condition. -/
import Derived.Test.YtnabgfbempkgnaaSmW
import Derived.Test.YtnabgfbempkgnaaOpenW
import Derived.Deep.RegionHeld3
namespace Go.Proofs.Ytnabgfbempkgnaa.lSameWorld
open Go.RowKit Go.ChangeShapes Go.WideShapes Go.ChangeAt
set_option linter.unusedVariables false
attribute [local go_sem ↓] Go.wp_at_zero Go.wp_at_succ

set_option maxHeartbeats 4000000 in
set_option maxRecDepth 100000 in
theorem walk_in (a : Option Addr) (l : List Cl) (ca : Nat) (s : Int) (b : Option Addr) (m : List Cl) (cb : Nat) (t : Int) (w : World) (ha : Seg w a l) (hb : Seg w b m) (hl : l.length ≤ 1048576) (hm : m.length ≤ 1048576) (hk : m.length ≤ 1048576 - l.length)
    (a0 : WBox ((w.alloc (.cells #[.slice a l.length ca, .int .i64 s] 36)).alloc (.cells #[.slice b m.length cb, .int .i64 t] 36)) w.heap.size (.slice a l.length ca) s) (m0 : WBox ((w.alloc (.cells #[.slice a l.length ca, .int .i64 s] 36)).alloc (.cells #[.slice b m.length cb, .int .i64 t] 36)) (w.heap.size + 1) (.slice b m.length cb) t) (b0 : Below w.heap.size w ((w.alloc (.cells #[.slice a l.length ca, .int .i64 s] 36)).alloc (.cells #[.slice b m.length cb, .int .i64 t] 36))) :
    Calls Try.prog 8 #[.agg #[.slice a l.length ca, .int .i64 s], .agg #[.slice b m.length cb, .int .i64 t]] w fun e w' => e = .returned (.bool true) ∧ Below w.heap.size w w' := by
  have hz : (0 : Int) ≤ 1048576 - (l.length : Int) := by omega
  have hz2 : (0 : Int) ≤ 1048576 - (l.length : Int) - (m.length : Int) := by omega
  have A0 := hid a0
  have M0 := hid m0
  have B0 := hid b0
  have HA := hid ha
  have HM := hid hb
  have HSS := hid (fun (W : World) (g h : Nat) (k1 : Seg W (some ⟨g, 0, none⟩) l) (k2 : Seg W (some ⟨h, 0, none⟩) m) => c_sSameWorld (some ⟨g, 0, none⟩) (some ⟨h, 0, none⟩) l m l.length m.length s t W k1 k2 hl hm)
  have HII := hid (fun (W : World) (g h : Nat) (k1 : Seg W (some ⟨g, 0, none⟩) l) (k2 : Seg W (some ⟨h, 0, none⟩) m) => c_iSameWorld (some ⟨g, 0, none⟩) (some ⟨h, 0, none⟩) l m l.length m.length s t W k1 k2 hl hm)
  generalize smB l m s t = R1 at *
  generalize smOk l m s t = R2 at *
  have d1 : (R1 != R1) = false := by simp
  have d2 : (R2 != R2) = false := by simp
  clear a0 m0 b0 ha hb
  go_enter Try.func8, Try.ntmps8
  have x0 := A0.out.1
  have x1 := A0.out.2.1
  have y0 := M0.out.1
  have y1 := M0.out.2.1
  go_wp2_with fail
  refine (c_szWorld a l.length ca s 1048576 _ (by omega) (by omega)).mono ?_
  rintro e w1 ⟨rfl, b1⟩
  replace A0 := hid (A0.out.below b1)
  replace M0 := hid (M0.out.below b1)
  replace B0 := hid (B0.out.trans (b1.mono B0.out.size))
  clear b1
  clear x0 x1 y0 y1
  have x0 := A0.out.1
  have x1 := A0.out.2.1
  have y0 := M0.out.1
  have y1 := M0.out.2.1
  go_wp2_with fail
  refine (c_szWorld b m.length cb t (1048576 - (l.length : Int)) _ (by omega) (by omega)).mono ?_
  rintro e w2 ⟨rfl, b1⟩
  replace A0 := hid (A0.out.below b1)
  replace M0 := hid (M0.out.below b1)
  replace B0 := hid (B0.out.trans (b1.mono B0.out.size))
  clear b1
  clear x0 x1 y0 y1
  have hd := (Below.refl w2.heap.size w2).drew
  have AD := hid (A0.out.below hd)
  have MD := hid (M0.out.below hd)
  have BD := hid (B0.out.trans (hd.mono B0.out.size))
  clear hd
  have x0 := A0.out.1
  have x1 := A0.out.2.1
  have y0 := M0.out.1
  have y1 := M0.out.2.1
  go_wp2_with fail
  go_region_held3 (fun W => W.cell? ⟨w.heap.size, 0, none⟩ = some (.slice a l.length ca) ∧ W.cell? ⟨w.heap.size, 1, none⟩ = some (.int .i64 s) ∧ W.cell? ⟨w.heap.size + 1, 0, none⟩ = some (.slice b m.length cb) ∧ W.cell? ⟨w.heap.size + 1, 1, none⟩ = some (.int .i64 t))
    (first | exact ⟨A0.out.1, A0.out.2.1, M0.out.1, M0.out.2.1⟩ | exact ⟨A3.out.1, A3.out.2.1, M3.out.1, M3.out.2.1⟩ | exact ⟨A4.out.1, A4.out.2.1, M4.out.1, M4.out.2.1⟩ | exact ⟨A5.out.1, A5.out.2.1, M5.out.1, M5.out.2.1⟩ | go_keep)
    (first
      | (go_at_call 30; refine (HSS.out _ _ _ K4.out J4.out).mono ?_; rintro e w5 ⟨rfl, b5⟩; have A5 := hid (A4.out.below b5); have M5 := hid (M4.out.below b5); have B5 := hid (B4.out.trans (b5.mono B4.out.size)))
      | (go_at_call 21; have _g := A3; refine (c_toWorld b m cb t _ (HM.out.below B3.out) hm).mono ?_; rintro e w4 ⟨rfl, r4, b4⟩; have A4 := hid (A3.out.below b4); have M4 := hid (M3.out.below b4); have B4 := hid (B3.out.trans (b4.mono B3.out.size)); have K4 := hid (K3.out.below b4); have J4 := hid r4.seg; clear r4)
      | (go_at_call 21; refine (c_toWorld a l ca s _ (HA.out.below BD.out) hl).mono ?_; rintro e w3 ⟨rfl, r3, b3⟩; have A3 := hid (AD.out.below b3); have M3 := hid (MD.out.below b3); have B3 := hid (BD.out.trans (b3.mono BD.out.size)); have K3 := hid r3.seg; clear r3))
  replace A0 := hid A5.out
  replace M0 := hid M5.out
  replace B0 := hid B5.out
  clear AD MD BD A3 M3 B3 K3 A4 M4 B4 K4 J4 A5 M5 B5 b3 b4 b5 HSS
  clear x0 x1 y0 y1
  have x0 := A0.out.1
  have x1 := A0.out.2.1
  have y0 := M0.out.1
  have y1 := M0.out.2.1
  go_wp2_with fail
  refine (c_toWorld a l ca s w5 (HA.out.below B0.out) hl).mono ?_
  rintro e w6 ⟨rfl, r, b1⟩
  have ba := (Below.refl w6.heap.size w6).alloc (Nat.le_refl _) (.cells #[.slice (some ⟨w5.heap.size + 3, 0, none⟩) l.length l.length, .int .i64 s] 26)
  have hlt := r.lt
  have PX := hid (PWd.new (t := s) (r.own hl) (by omega) 26)
  have RX := hid (r.seg.below ba)
  replace A0 := hid (A0.out.below b1)
  replace M0 := hid (M0.out.below b1)
  replace B0 := hid (B0.out.trans (b1.mono B0.out.size))
  replace A0 := hid (A0.out.below ba)
  replace M0 := hid (M0.out.below ba)
  replace B0 := hid (B0.out.trans (ba.mono B0.out.size))
  clear b1 ba r hlt
  clear x0 x1 y0 y1
  have x0 := A0.out.1
  have x1 := A0.out.2.1
  have y0 := M0.out.1
  have y1 := M0.out.2.1
  go_wp2_with fail
  generalize w6.alloc (.cells #[.slice (some ⟨w5.heap.size + 3, 0, none⟩) l.length l.length, .int .i64 s] 26) = W6 at *
  refine (c_toWorld b m cb t W6 (HM.out.below B0.out) hm).mono ?_
  rintro e w7 ⟨rfl, r, b1⟩
  have ba := (Below.refl w7.heap.size w7).alloc (Nat.le_refl _) (.cells #[.slice (some ⟨W6.heap.size + 3, 0, none⟩) m.length m.length, .int .i64 t] 26)
  have hlt := r.lt
  have PY := hid (PWd.new (t := t) (r.own hm) (by omega) 26)
  have RY := hid (r.seg.below ba)
  replace A0 := hid (A0.out.below b1)
  replace M0 := hid (M0.out.below b1)
  replace B0 := hid (B0.out.trans (b1.mono B0.out.size))
  replace PX := hid ((PWd.kpt _ _ _ _ _).below PX.out b1)
  replace RX := hid (RX.out.below b1)
  replace A0 := hid (A0.out.below ba)
  replace M0 := hid (M0.out.below ba)
  replace B0 := hid (B0.out.trans (ba.mono B0.out.size))
  replace PX := hid ((PWd.kpt _ _ _ _ _).below PX.out ba)
  replace RX := hid (RX.out.below ba)
  clear b1 ba r hlt
  clear x0 x1 y0 y1
  have x0 := PX.out.2.1.1
  have x1 := PX.out.2.1.2.1
  have y0 := PY.out.2.1.1
  have y1 := PY.out.2.1.2.1
  go_wp2_with fail
  generalize w7.alloc (.cells #[.slice (some ⟨W6.heap.size + 3, 0, none⟩) m.length m.length, .int .i64 t] 26) = W7 at *
  refine (HII.out _ _ _ RX.out RY.out).mono ?_
  rintro e w8 ⟨rfl, b1⟩
  replace A0 := hid (A0.out.below b1)
  replace M0 := hid (M0.out.below b1)
  replace B0 := hid (B0.out.trans (b1.mono B0.out.size))
  replace PX := hid ((PWd.kpt _ _ _ _ _).below PX.out b1)
  replace PY := hid ((PWd.kpt _ _ _ _ _).below PY.out b1)
  clear b1 RX RY
  clear x0 x1 y0 y1
  have hd := (Below.refl w8.heap.size w8).drew
  have AD := hid (A0.out.below hd)
  have MD := hid (M0.out.below hd)
  have BD := hid (B0.out.trans (hd.mono B0.out.size))
  have XD := hid ((PWd.kpt _ _ _ _ _).below PX.out hd)
  have YD := hid ((PWd.kpt _ _ _ _ _).below PY.out hd)
  clear hd
  have x0 := A0.out.1
  have x1 := A0.out.2.1
  have y0 := PX.out.2.1.1
  have y1 := PX.out.2.1.2.1
  go_wp2_with fail
  go_region_held3 (fun W => W.cell? ⟨w.heap.size, 0, none⟩ = some (.slice a l.length ca) ∧ W.cell? ⟨w.heap.size, 1, none⟩ = some (.int .i64 s) ∧ W.cell? ⟨w6.heap.size, 0, none⟩ = some (.slice (some ⟨w5.heap.size + 3, 0, none⟩) l.length l.length) ∧ W.cell? ⟨w6.heap.size, 1, none⟩ = some (.int .i64 s))
    (first | exact ⟨A0.out.1, A0.out.2.1, PX.out.2.1.1, PX.out.2.1.2.1⟩ | exact ⟨A7.out.1, A7.out.2.1, X7.out.2.1.1, X7.out.2.1.2.1⟩ | exact ⟨A8.out.1, A8.out.2.1, X8.out.2.1.1, X8.out.2.1.2.1⟩ | go_keep)
    (first
      | (go_at_call 14; refine (c_eqWorld' _ _ l s _ X7.out.1 (OwnR.of (r7.own hl)) hl).mono ?_; rintro e w10 ⟨rfl, b8⟩; have A8 := hid (A7.out.below b8); have M8 := hid (M7.out.below b8); have B8 := hid (B7.out.trans (b8.mono B7.out.size)); have X8 := hid ((PWd.kpt _ _ _ _ _).below X7.out b8); have Y8 := hid ((PWd.kpt _ _ _ _ _).below Y7.out b8))
      | (go_at_call 21; refine (c_toWorld a l ca s _ (HA.out.below BD.out) hl).mono ?_; rintro e w9 ⟨rfl, r7, b7⟩; have A7 := hid (AD.out.below b7); have M7 := hid (MD.out.below b7); have B7 := hid (BD.out.trans (b7.mono BD.out.size)); have X7 := hid ((PWd.kpt _ _ _ _ _).below XD.out b7); have Y7 := hid ((PWd.kpt _ _ _ _ _).below YD.out b7)))
  replace A0 := hid A8.out
  replace M0 := hid M8.out
  replace B0 := hid B8.out
  replace PX := hid X8.out
  replace PY := hid Y8.out
  clear AD MD BD XD YD A7 M7 B7 X7 Y7 A8 M8 B8 X8 Y8 r7 b7 b8
  clear x0 x1 y0 y1
  have hd := (Below.refl w10.heap.size w10).drew
  have AD := hid (A0.out.below hd)
  have MD := hid (M0.out.below hd)
  have BD := hid (B0.out.trans (hd.mono B0.out.size))
  have XD := hid ((PWd.kpt _ _ _ _ _).below PX.out hd)
  have YD := hid ((PWd.kpt _ _ _ _ _).below PY.out hd)
  clear hd
  have x0 := M0.out.1
  have x1 := M0.out.2.1
  have y0 := PY.out.2.1.1
  have y1 := PY.out.2.1.2.1
  go_wp2_with fail
  go_region_held3 (fun W => W.cell? ⟨w.heap.size + 1, 0, none⟩ = some (.slice b m.length cb) ∧ W.cell? ⟨w.heap.size + 1, 1, none⟩ = some (.int .i64 t) ∧ W.cell? ⟨w7.heap.size, 0, none⟩ = some (.slice (some ⟨W6.heap.size + 3, 0, none⟩) m.length m.length) ∧ W.cell? ⟨w7.heap.size, 1, none⟩ = some (.int .i64 t))
    (first | exact ⟨M0.out.1, M0.out.2.1, PY.out.2.1.1, PY.out.2.1.2.1⟩ | exact ⟨M7.out.1, M7.out.2.1, Y7.out.2.1.1, Y7.out.2.1.2.1⟩ | exact ⟨M8.out.1, M8.out.2.1, Y8.out.2.1.1, Y8.out.2.1.2.1⟩ | go_keep)
    (first
      | (go_at_call 14; refine (c_eqWorld' _ _ m t _ Y7.out.1 (OwnR.of (r7.own hm)) hm).mono ?_; rintro e w12 ⟨rfl, b8⟩; have A8 := hid (A7.out.below b8); have M8 := hid (M7.out.below b8); have B8 := hid (B7.out.trans (b8.mono B7.out.size)); have X8 := hid ((PWd.kpt _ _ _ _ _).below X7.out b8); have Y8 := hid ((PWd.kpt _ _ _ _ _).below Y7.out b8))
      | (go_at_call 21; refine (c_toWorld b m cb t _ (HM.out.below BD.out) hm).mono ?_; rintro e w11 ⟨rfl, r7, b7⟩; have A7 := hid (AD.out.below b7); have M7 := hid (MD.out.below b7); have B7 := hid (BD.out.trans (b7.mono BD.out.size)); have X7 := hid ((PWd.kpt _ _ _ _ _).below XD.out b7); have Y7 := hid ((PWd.kpt _ _ _ _ _).below YD.out b7)))
  replace A0 := hid A8.out
  replace M0 := hid M8.out
  replace B0 := hid B8.out
  replace PX := hid X8.out
  replace PY := hid Y8.out
  clear AD MD BD XD YD A7 M7 B7 X7 Y7 A8 M8 B8 X8 Y8 r7 b7 b8
  clear x0 x1 y0 y1
  go_wp2_with fail
  go_ret
  exact ⟨rfl, B0.out⟩

set_option maxHeartbeats 4000000 in
set_option maxRecDepth 100000 in
theorem walk (a : Option Addr) (l : List Cl) (ca : Nat) (s : Int) (b : Option Addr) (m : List Cl) (cb : Nat) (t : Int) (w : World) (ha : Seg w a l) (hm1 : l.length ≤ maxLen) (hb : Seg w b m) (hm2 : m.length ≤ maxLen) :
    Calls Try.prog 8 #[.agg #[.slice a l.length ca, .int .i64 s], .agg #[.slice b m.length cb, .int .i64 t]] w fun e w' => e = .returned (.bool true) ∧ Below w.heap.size w w' := by
  unfold maxLen at hm1 hm2
  have h1 := (Below.refl w.heap.size w).alloc (Nat.le_refl _) (.cells #[.slice a l.length ca, .int .i64 s] 36)
  have h2 := (Below.refl (w.alloc (.cells #[.slice a l.length ca, .int .i64 s] 36)).heap.size (w.alloc (.cells #[.slice a l.length ca, .int .i64 s] 36))).alloc (Nat.le_refl _) (.cells #[.slice b m.length cb, .int .i64 t] 36)
  have B0 := hid (h1.trans (h2.mono h1.size))
  have A0 := hid ((WBox.new w (.slice a l.length ca) s 36).below h2)
  have M0 := hid (WBox.new (w.alloc (.cells #[.slice a l.length ca, .int .i64 s] 36)) (.slice b m.length cb) t 36)
  rw [show (w.alloc (.cells #[.slice a l.length ca, .int .i64 s] 36)).heap.size = w.heap.size + 1 by simp] at M0
  clear h1 h2
  by_cases hl : l.length ≤ 1048576
  · by_cases hk : m.length ≤ 1048576 - l.length
    · have hz : (0 : Int) ≤ 1048576 - (l.length : Int) := by omega
      have hz2 : (0 : Int) ≤ 1048576 - (l.length : Int) - (m.length : Int) := by omega
      exact walk_in a l ca s b m cb t w ha hb hl (by omega) hk A0.out M0.out B0.out
    · have hz : (0 : Int) ≤ 1048576 - (l.length : Int) := by omega
      go_enter Try.func8, Try.ntmps8
      have x0 := A0.out.1
      have x1 := A0.out.2.1
      go_wp2_with fail
      refine (c_szWorld a l.length ca s 1048576 _ (by omega) (by omega)).mono ?_
      rintro e w1 ⟨rfl, b1⟩
      replace M0 := hid (M0.out.below b1)
      replace B0 := hid (B0.out.trans (b1.mono B0.out.size))
      have y0 := M0.out.1
      have y1 := M0.out.2.1
      go_wp2_with fail
      refine (c_szWorld_no b m.length cb t (1048576 - (l.length : Int)) _ (by omega) (by omega) (by omega) (by omega)).mono ?_
      rintro e w2 ⟨rfl, b2⟩
      go_wp2
      go_ret
      exact ⟨rfl, B0.out.trans (b2.mono B0.out.size)⟩
  · go_enter Try.func8, Try.ntmps8
    have x0 := A0.out.1
    have x1 := A0.out.2.1
    go_wp2_with fail
    refine (c_szWorld_no a l.length ca s 1048576 _ (by omega) (by omega) (by omega) (by omega)).mono ?_
    rintro e w1 ⟨rfl, b1⟩
    go_wp2
    go_ret
    exact ⟨rfl, B0.out.trans (b1.mono B0.out.size)⟩

set_option maxRecDepth 100000 in
theorem lifted (os : Os) (started : os.Started) (H : Type) (enc : TypeId × Value → H) :
    ReturnsInHanded {} Try.checked os 8 .any (Rows.fnExactSameWorldSpec.pre6 enc Try.prog Try.f8 Rows.fnExactSameWorldRow.domain false) (Rows.fnExactSameWorldSpec.post enc Try.prog Try.f8 false true false false) := by
  refine returnsInHanded_of_change (C := Try.checked) own started (by kernel_rfl) Try.func8
    (ChangeSpec.witness6 (enc := enc) (C := Try.checked) false ⟨#[], #[.agg #[.slice none 0 0, .int .i64 0], .agg #[.slice none 0 0, .int .i64 0]], []⟩ 8 (by kernel_rfl) (by kernel_rfl) (by kernel_rfl) (by kernel_rfl)) ?_
  intro W base args ds gs before hval0 hW hcnd _
  have hval : ∀ (j : Nat) t v, Try.f8.params[j]? = some t → args[j]? = some v → Value.okWide Try.prog W .any base t v := hval0
  have hW' := hW
  obtain ⟨p, q, hA0, hV, rfl, hfz, hnd⟩ := hW
  have hA : DataW.TrodAll enc Try.prog W 0 (fun _ => true) true Try.f8.params.toList args.toList ds p := hA0
  rw [Try.params8] at hA hval
  obtain ⟨v0, vs0, d0, ds0, p0, q0, hargs, rfl, rfl, h0, r0⟩ := trodAll_cons hA
  obtain ⟨v1, vs1, d1, ds1, p1, q1, rfl, rfl, rfl, h1, r1⟩ := trodAll_cons r0
  obtain ⟨rfl, rfl, rfl⟩ := trodAll_nil r1
  obtain rfl : args = #[v0, v1] := by cases args; simp_all
  obtain ⟨rfl, rfl⟩ := trodVars_none hV
  have k0 := h0
  have lt0 : ∀ x ∈ p0, x.block < W.heap.size := by obtain ⟨m, hm⟩ := k0; exact DataW.trod_lt m _ _ _ hm
  obtain ⟨a0, l0, cap0, n0, rfl, m0, s0⟩ := open_world (hval 0 36 v0 rfl rfl) h0
  have k1 := h1
  have lt1 : ∀ x ∈ p1, x.block < W.heap.size := by obtain ⟨m, hm⟩ := k1; exact DataW.trod_lt m _ _ _ hm
  obtain ⟨a1, l1, cap1, n1, rfl, m1, s1⟩ := open_world (hval 1 36 v1 rfl rfl) h1
  clear hA0 hval0
  refine (walk a0 l0 cap0 n0 a1 l1 cap1 n1 W s0 m0 s1 m1).mono fun e W' ⟨he, bel⟩ => ?_
  subst he
  exact ⟨_, rfl, _, _, _, [], _, [], hW', trodAll_mk1 (shut_bool Try.underlying4 _), (trodAll_cons_mk (Below.trod laidOut (by kernel_rfl) (of_decide_eq_true (by kernel_rfl)) k0 bel lt0) (trodAll_cons_mk (Below.trod laidOut (by kernel_rfl) (of_decide_eq_true (by kernel_rfl)) k1 bel lt1) trodAll_mk0)), rfl, bel.frame _, fun h => by cases h⟩

theorem over : Rows.fnExactSameWorldRow.holds Try.pinned (OpenSpec.ofChange Rows.fnExactSameWorldSpec) :=
  OpenClaim.holds_of_wide 8 Try.f8 rfl rfl rfl rfl rfl rfl rfl ⟨rfl, rfl, rfl, rfl, rfl⟩ rfl rfl rfl rfl rfl (by kernel_rfl) Try.func8 (by kernel_rfl)
    (of_decide_eq_true (by kernel_rfl)) (by unfold Func.isWrapper; first | (rw [if_pos (by decide +kernel)]; kernel_rfl) | (rw [if_neg (by decide +kernel)]; exact ⟨rfl, rfl⟩))
    (fun os started H enc _ => lifted os started H enc)

end Go.Proofs.Ytnabgfbempkgnaa.lSameWorld
namespace Go.Proofs.Ytnabgfbempkgnaa
/-- THE STATEMENT. -/
theorem sameWorld_holds : Rows.FnExactSameWorldSaid := lSameWorld.over
#print axioms sameWorld_holds
end Go.Proofs.Ytnabgfbempkgnaa
