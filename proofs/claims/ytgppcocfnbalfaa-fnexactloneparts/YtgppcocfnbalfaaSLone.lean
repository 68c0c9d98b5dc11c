/- LoneParts of the specification. -/
import Derived.Test.YtgppcocfnbalfaaSLnP
namespace Go.Proofs.Ytgppcocfnbalfaa
open Go.RowKit
set_option linter.unusedVariables false
set_option linter.unusedSimpArgs false
attribute [local go_sem ↓] Go.wp_at_zero Go.wp_at_succ

theorem OwnH.keep_apart {w w' : World} {base : Nat} {v : Value} {vs : List Value} {H : List (List Cl)} {u : Value} {D : List Cl} {base' : Nat} (h : OwnH w base v vs H) (hu : OwnS w base' u D) (hg : w.grownBy w' u.ownBlock)
    (hne : ∀ i, i < H.length → ∀ b, (va vs i).ownBlock = some b → u.ownBlock ≠ some b) : OwnH w' base v vs H := by
  refine ⟨h.len, World.ownsRow.kept h.row hg ?_, fun i hi => own_keep (h.each i hi) hg fun k hk e => hne i hi k hk e, h.apart⟩
  cases e : v.ownBlock with
  | none => exact .inl rfl
  | some k => exact .inr fun e2 => row_ne h.row hu k e e2.symm

/-- What the specification's loop over the cells holds in memory. -/
structure SM (w W : World) (dv : Value) (D : List Cl) (ov : Value) (vs : List Value) (H : List (List Cl)) : Prop where
  dn : OwnS W w.heap.size dv D
  out : OwnH W w.heap.size ov vs H
  ne : ∀ i, i < H.length → ∀ b, (va vs i).ownBlock = some b → dv.ownBlock ≠ some b
  bel : Below w.heap.size w W
theorem SM.below {w W W' : World} {dv : Value} {D : List Cl} {ov : Value} {vs : List Value} {H : List (List Cl)} (h : SM w W dv D ov vs H) (hb : Below W.heap.size W W') : SM w W' dv D ov vs H :=
  ⟨h.dn.below hb, h.out.below hb, h.ne, h.bel.trans (hb.mono h.bel.size)⟩

set_option maxHeartbeats 4000000 in
set_option maxRecDepth 100000 in
theorem c_sLoneParts (a : Option Addr) (l : List Cl) (ca : Nat) (w : World) (ha : Seg w a l) (hl : l.length ≤ 1048576) :
    Calls Try.prog 35 #[.slice a l.length ca] w fun e w' => ∃ v vs, e = .returned (.tuple #[v, .bool (good l)]) ∧ OwnH w' w.heap.size v vs (lpL l) ∧ Below w.heap.size w w' := by
  cases hg : good l
  · have HC := hid (c_sGood' a l ca false hg _ ha hl)
    have HV := hid (show lpL l = [] by simp [lpL, hg])
    go_enter Try.func35, Try.ntmps35
    go_wp2_with fail
    refine HC.out.mono ?_
    rintro e w1 ⟨rfl, b1⟩
    go_wp2
    go_ret2
    first | exact ⟨_, [], rfl, by rw [HV.out]; exact OwnH.nil _ _, b1⟩ | exact ⟨_, rfl, ⟨[], by rw [HV.out]; exact OwnH.nil _ _⟩, b1⟩
  · have HC := hid (c_sGood' a l ca true hg _ ha hl)
    have HV := hid (show lpL l = partsOf l l by simp [lpL, hg])
    have hl2 := good_le hg
    have HN := hid (ris_nodup (good_ris hg))
    have HRI := hid (good_ris hg)
    have HGI := hid (fun x (hx : x ∈ l) => good_mem1 hg hx)
    go_enter Try.func35, Try.ntmps35
    go_wp2_with fail
    refine HC.out.mono ?_
    rintro e w1 ⟨rfl, b1⟩
    have A1 := hid (ha.below b1)
    have HAB := hid (show ∀ A, a = some A → 0 < l.length → A.block < w.heap.size from fun A e hl0 => by
      obtain ⟨b, o, e2, hb, _⟩ := ha 0 hl0
      rw [e] at e2; cases e2; exact hb)
    have M1 := hid (show SM w w1 (.slice none 0 0) [] (.slice none 0 0) [] [] from ⟨OwnS.nil _ _, OwnH.nil _ _, fun i hi => absurd hi (Nat.not_lt_zero _), b1⟩)
    clear ha b1 HC hg
    go_wp2_with fail
    go_loopw [4, 5, 17] (fun dv ov kv wr => ∃ (k : Nat) (D : List Cl) (vs : List Value) (H : List (List Cl)), k ≤ l.length ∧ kv = .int .i64 (k : Int) ∧ Hid (SM w wr dv D ov vs H ∧ OS l k D H ∧ Seg wr a l)) (fun _ _ kv _ => l.length - (intOf kv).toNat)
    case atStart => exact ⟨0, [], [], [], Nat.zero_le _, rfl, M1.out, OS.start l, A1.out⟩
    case round =>
      obtain ⟨k, D, vs, H, hk, rfl, hx⟩ := hrel
      by_cases hkl : k < l.length
      · have k0 : (0 : Int) ≤ (k : Int) := by omega
        have k1 : (k : Int) < (l.length : Int) := by omega
        obtain ⟨b3, o3, rfl, hb3, q0, q1⟩ := hx.out.2.2 k hkl
        obtain ⟨ad, cd, rfl, sd⟩ := hx.out.1.dn.form
        change _ = some (Value.int .i64 (at_ l k).1) at q0
        change _ = some (Value.int .i64 (at_ l k).2) at q1
        have hD9 : D.length ≤ 120 := by
          have := hx.out.2.1.o7
          omega
        obtain ⟨c, hc⟩ : ∃ c, c = at_ l k := ⟨_, rfl⟩
        rw [← hc] at q0 q1
        have HC := hid hc
        have kc := (Below.refl wr.heap.size wr).alloc (Nat.le_refl _) (.cells #[.int .i64 c.1, .int .i64 c.2] 44)
        have C1 := hid (WRow.new wr (.int .i64 c.1) c.2 44)
        have M2 := hid (hx.out.1.below kc)
        have A2 := hid (hx.out.2.2.below kc)
        have CA := hid (c_l1Alive ad D cd c _ (sd.below kc) (by omega))
        have y0 := C1.out.c0
        have y1 := C1.out.c1
        have HOS := hid hx.out.2.1
        clear kc hc sd hx
        cases hal : decide (c ∈ D)
        · rw [hal] at CA
          have hcd : c ∉ D := by simpa using hal
          have HCD := hid hcd
          clear hal hcd
          go_wp2_with fail
          refine CA.out.mono ?_
          rintro e w2 ⟨rfl, b2⟩
          obtain ⟨r, hr⟩ := HOS.out.first hkl (by rw [← HC.out]; exact HCD.out)
          rw [← HC.out] at hr
          have HR := hid hr
          have HRL := hid (show r.length + 1 ≤ 120 by
            have := HOS.out.o7
            rw [hr] at this
            simp only [List.length_cons] at this; omega)
          have HDJ := hid (show ∀ y ∈ D, ∀ x ∈ c :: r, joined y x = false from fun y hy x hx => HOS.out.o4 y hy x (by rw [hr]; exact hx))
          have HCL := hid (show ∀ x ∈ c :: r, x ∈ l from fun x hx => by rw [← hr] at hx; exact (List.mem_filter.1 hx).1)
          have C2 := hid (C1.out.below b2)
          have z0 := C2.out.c0
          have z1 := C2.out.c1
          have M3 := hid (M2.out.below b2)
          have A3 := hid (A2.out.below b2)
          have kp := (Below.refl w2.heap.size w2).alloc (Nat.le_refl _) (.cells #[.int .i64 c.1, .int .i64 c.2] 44)
          have K4 := hid kp
          have P4 := hid (own_lit w2 [c] #[.int .i64 c.1, .int .i64 c.2] 1 rfl (by omega) rfl)
          clear hr b2 CA C1 C2 M2 A2 kp y0 y1
          go_wp2_with fail
          have hw2 := M3.out.bel.size
          generalize hw3 : w2.alloc (.cells #[.int .i64 c.1, .int .i64 c.2] 44) = w3 at *
          have hw32 : w2.heap.size + 1 = w3.heap.size := by rw [← hw3]; simp
          clear hw3
          go_loopw [8, 9] (fun pv iv ws => ∃ (i : Nat) (p t : List Cl), iv = .int .i64 (i : Int) ∧ p.length ≤ 120 ∧ Hid (GS l D c r i p t ∧ OwnS ws w2.heap.size pv p ∧ Below w2.heap.size w2 ws)) (fun _ iv _ => 121 - (intOf iv).toNat)
          case atStart => exact ⟨0, [c], r, rfl, by simp, GS.start HR.out HN.out, P4.out, K4.out⟩
          case round =>
            obtain ⟨i, p, t, rfl, hp9, hG⟩ := hrel
            obtain ⟨ap, cp, rfl, sp⟩ := hG.out.2.1.form
            by_cases hip : i < p.length
            · have i0 : (0 : Int) ≤ (i : Int) := by omega
              have i1 : (i : Int) < (p.length : Int) := by omega
              have hg4 := hG.out.1.g4
              go_wp2_with fail
              go_loopw [8, 34] (fun pv jv wt => ∃ (j : Nat), j ≤ l.length ∧ jv = .int .i64 (j : Int) ∧ Hid (OwnS wt w2.heap.size pv (p ++ brings (l.take j) p (at_ p i)) ∧ Below w2.heap.size w2 wt)) (fun _ jv _ => l.length - (intOf jv).toNat)
              case atStart => exact ⟨0, Nat.zero_le _, rfl, by simpa [brings] using hG.out.2.1, hG.out.2.2⟩
              case round =>
                obtain ⟨j, hjl, rfl, hJ⟩ := hrel
                by_cases hjj : j < l.length
                · have j0 : (0 : Int) ≤ (j : Int) := by omega
                  have j1 : (j : Int) < (l.length : Int) := by omega
                  obtain ⟨P2, hP2⟩ : ∃ P2, P2 = p ++ brings (l.take j) p (at_ p i) := ⟨_, rfl⟩
                  rw [← hP2] at hJ
                  have hPi : at_ P2 i = at_ p i := by rw [hP2]; simp [at_, List.getElem?_append_left hip]
                  have hPl : i < P2.length := by rw [hP2, List.length_append]; omega
                  have hPl2 : P2.length ≤ 240 := by
                    have h1 := List.length_filter_le (fun x => joined x (at_ p i) && decide (x ∉ p)) (l.take j)
                    have h2 := List.length_take_le j l
                    rw [hP2, List.length_append, brings]; omega
                  have hbt := brings_take (p := p) (c := at_ p i) hjj HN.out
                  have hbs := brings_succ (p := p) (c := at_ p i) hjj
                  rw [← hP2] at hbt
                  have i2 : (i : Int) < (P2.length : Int) := by omega
                  have hI1 : inR (at_ p i) = true := HGI.out _ (HCL.out _ (hG.out.1.g3 _ (by simp [at_, hip])))
                  have hI2 : inR (at_ l j) = true := HGI.out _ (by simp [at_, hjj])
                  obtain ⟨b4, o4, e4, hb4, q0, q1⟩ := A3.out j hjj
                  simp only [Option.some.injEq, Addr.mk.injEq, and_true] at e4
                  obtain ⟨rfl, rfl⟩ := e4
                  obtain ⟨a5, c5, rfl, s5⟩ := hJ.out.1.form
                  obtain ⟨b5, o5, rfl, hb5, z0, z1⟩ := s5 i hPl
                  change _ = some (Value.int .i64 (at_ P2 i).1) at z0
                  change _ = some (Value.int .i64 (at_ P2 i).2) at z1
                  change _ = some (Value.int .i64 (at_ l j).1) at q0
                  change _ = some (Value.int .i64 (at_ l j).2) at q1
                  replace q0 := (hJ.out.2.cell hb4).trans q0
                  replace q1 := (hJ.out.2.cell hb4).trans q1
                  rw [hPi] at z0 z1
                  obtain ⟨x, hx⟩ : ∃ x, x = at_ l j := ⟨_, rfl⟩
                  obtain ⟨y, hy⟩ : ∃ y, y = at_ p i := ⟨_, rfl⟩
                  rw [← hx] at q0 q1 hI2 hbt hbs
                  rw [← hy] at z0 z1 hI1 hbs hP2
                  have HP2 := hid hP2
                  have HBS := hid hbs
                  have HY := hid hy
                  have ky := (Below.refl wr.heap.size wr).alloc (Nat.le_refl _) (.cells #[.int .i64 x.1, .int .i64 x.2] 44)
                  have KD := hid (ky.trans ((Below.refl _ (wr.alloc (.cells #[.int .i64 x.1, .int .i64 x.2] 44))).drew.mono ky.size))
                  have KY := hid ky
                  have Y1 := WRow.new wr (.int .i64 x.1) x.2 44
                  have YD := hid (Y1.below ((Below.refl _ _).drew))
                  have x0 := Y1.c0
                  have x1 := Y1.c1
                  have CJ := hid (fun W => c_l7Close x y W hI2 hI1)
                  have CM := hid (fun (W : World) (h : Seg W (some ⟨b5, o5, none⟩) P2) => c_l1Alive (some ⟨b5, o5, none⟩) P2 c5 x W h (by omega))
                  have z2 := (KY.out.cell (p := ⟨b5, o5 + i * 2, none⟩) hb5).trans z0
                  have z3 := (KY.out.cell (p := ⟨b5, o5 + i * 2 + 1, none⟩) hb5).trans z1
                  have SP := hid s5
                  clear s5 ky hP2 hbs hy hx
                  cases hj : joined x y
                  · rw [hj] at CJ
                    go_wp2_with fail
                    generalize hW2 : wr.alloc (.cells #[.int .i64 x.1, .int .i64 x.2] 44) = wq at *
                    have hlq := World.rowIs.lt Y1
                    have hbq := Nat.lt_of_lt_of_le hb5 KY.out.size
                    have g0 := fun g : Gr wq => g.cell x0 hlq
                    have g1 := fun g : Gr wq => g.cell x1 hlq
                    have g2 := fun g : Gr wq => g.cell z2 hbq
                    have g3 := fun g : Gr wq => g.cell z3 hbq
                    have hne := Gr.ne wq
                    refine wp_region_gr (by kernel_rfl) (by kernel_rfl) ?_
                    repeat (go_big_quiet_step (first | (go_at_call 71; exact Calls.gr _ (CJ.out _))))
                    refine wpQuiet_nil ?_
                    rintro _ ⟨g, rfl⟩
                    clear g0 g1 g2 g3
                    have K8 := hid (KY.out.trans (g.below.mono KY.out.size))
                    have O8 := hid (hJ.out.1.below K8.out)
                    have B8 := hid (hJ.out.2.trans (K8.out.mono hJ.out.2.size))
                    have E8 := hid (show p ++ brings (l.take (j + 1)) p (at_ p i) = P2 by rw [← HY.out, HBS.out, hj, HP2.out]; simp)
                    go_wp2_with fail
                    go_roundw
                    case rel =>
                      refine ⟨j + 1, by omega, by go_num, ?_⟩
                      rw [E8.out]
                      exact ⟨O8.out, B8.out⟩
                    case measure => simp [intOf]; omega
                  · rw [hj] at CJ
                    cases hm : decide (x ∈ P2)
                    · rw [hm] at CM
                      go_wp2_with fail
                      generalize hW2 : wr.alloc (.cells #[.int .i64 x.1, .int .i64 x.2] 44) = wq at *
                      go_region_held3 (fun W => (W.cell? ⟨wr.heap.size, 0, none⟩ = some (.int .i64 x.1) ∧ W.cell? ⟨wr.heap.size, 1, none⟩ = some (.int .i64 x.2)) ∧ (W.cell? ⟨b5, o5 + i * 2, none⟩ = some (.int .i64 y.1) ∧ W.cell? ⟨b5, o5 + i * 2 + 1, none⟩ = some (.int .i64 y.2)))
                        (first | exact ⟨⟨x0, x1⟩, z2, z3⟩ | exact ⟨⟨((YD.out.below b8).below b9).c0, ((YD.out.below b8).below b9).c1⟩, (K9.out.cell hb5).trans z0, (K9.out.cell hb5).trans z1⟩ | exact ⟨⟨(YD.out.below b8).c0, (YD.out.below b8).c1⟩, ((KD.out.trans (b8.mono KD.out.size)).cell hb5).trans z0, ((KD.out.trans (b8.mono KD.out.size)).cell hb5).trans z1⟩ | exact ⟨⟨YD.out.c0, YD.out.c1⟩, (KD.out.cell hb5).trans z0, (KD.out.cell hb5).trans z1⟩ | go_keep)
                        (first | (go_at_call 70; refine (CM.out w8 (SP.out.below (KD.out.trans (b8.mono KD.out.size)))).mono ?_; rintro e w9 ⟨rfl, b9⟩; have K9 := hid (KD.out.trans ((b8.trans (b9.mono b8.size)).mono KD.out.size))) | (go_at_call 71; refine (CJ.out wq.drew).mono ?_; rintro e w8 ⟨rfl, b8⟩))
                      have O8 := hid (hJ.out.1.below K9.out)
                      have B8 := hid (hJ.out.2.trans (K9.out.mono hJ.out.2.size))
                      have Y9 := (YD.out.below b8).below b9
                      have E8 := hid (show p ++ brings (l.take (j + 1)) p (at_ p i) = P2 ++ [x] by
                        have h3 : x ∉ p := by rw [hm] at hbt; simpa using hbt.symm
                        rw [← HY.out, HBS.out, hj, HP2.out]; simp [h3])
                      have v0 := Y9.c0
                      have v1 := Y9.c1
                      have kz := (Below.refl w9.heap.size w9).alloc (Nat.le_refl _) (.cells #[.int .i64 x.1, .int .i64 x.2] 44)
                      have SN := hid (seg_block (heap_alloc_last w9 (.cells #[.int .i64 x.1, .int .i64 x.2] 44)))
                      have O9 := hid (O8.out.below kz)
                      have B9 := hid (B8.out.trans (kz.mono B8.out.size))
                      clear kz b8 b9 x0 x1 z0 z1 z2 z3 YD
                      go_wp2_with (first | (at_builtin; refine wpList_appAt rfl (.tmp 50) (.tmp 52) rfl w2.heap.size _ P2 [x] ⟨w9.heap.size, 0, none⟩ 1 rfl O9.out rfl SN.out (by simp; omega) B9.out.size ?_; intro v6 w6 hO6 hG6 hN6))
                      go_roundw
                      case rel =>
                        refine ⟨j + 1, by omega, by go_num, ?_⟩
                        rw [E8.out]
                        exact ⟨hO6, below_row B9.out hG6 (fun z e => (O9.out.lt z e).1)⟩
                      case measure => simp [intOf]; omega
                    · rw [hm] at CM
                      go_wp2_with fail
                      generalize hW2 : wr.alloc (.cells #[.int .i64 x.1, .int .i64 x.2] 44) = wq at *
                      go_region_held3 (fun W => (W.cell? ⟨wr.heap.size, 0, none⟩ = some (.int .i64 x.1) ∧ W.cell? ⟨wr.heap.size, 1, none⟩ = some (.int .i64 x.2)) ∧ (W.cell? ⟨b5, o5 + i * 2, none⟩ = some (.int .i64 y.1) ∧ W.cell? ⟨b5, o5 + i * 2 + 1, none⟩ = some (.int .i64 y.2)))
                        (first | exact ⟨⟨x0, x1⟩, z2, z3⟩ | exact ⟨⟨((YD.out.below b8).below b9).c0, ((YD.out.below b8).below b9).c1⟩, (K9.out.cell hb5).trans z0, (K9.out.cell hb5).trans z1⟩ | exact ⟨⟨(YD.out.below b8).c0, (YD.out.below b8).c1⟩, ((KD.out.trans (b8.mono KD.out.size)).cell hb5).trans z0, ((KD.out.trans (b8.mono KD.out.size)).cell hb5).trans z1⟩ | exact ⟨⟨YD.out.c0, YD.out.c1⟩, (KD.out.cell hb5).trans z0, (KD.out.cell hb5).trans z1⟩ | go_keep)
                        (first | (go_at_call 70; refine (CM.out w8 (SP.out.below (KD.out.trans (b8.mono KD.out.size)))).mono ?_; rintro e w9 ⟨rfl, b9⟩; have K9 := hid (KD.out.trans ((b8.trans (b9.mono b8.size)).mono KD.out.size))) | (go_at_call 71; refine (CJ.out wq.drew).mono ?_; rintro e w8 ⟨rfl, b8⟩))
                      have O8 := hid (hJ.out.1.below K9.out)
                      have B8 := hid (hJ.out.2.trans (K9.out.mono hJ.out.2.size))
                      have E8 := hid (show p ++ brings (l.take (j + 1)) p (at_ p i) = P2 by
                        have h3 : x ∈ p := by rw [hm] at hbt; simpa using hbt.symm
                        rw [← HY.out, HBS.out, hj, HP2.out]; simp [h3])
                      go_wp2_with fail
                      go_roundw
                      case rel =>
                        refine ⟨j + 1, by omega, by go_num, ?_⟩
                        rw [E8.out]
                        exact ⟨O8.out, B8.out⟩
                      case measure => simp [intOf]; omega
                · have hje : j = l.length := by omega
                  subst hje
                  rw [List.take_length] at hJ
                  have GN := hid (hG.out.1.step HR.out HDJ.out hip)
                  have hg5 := GN.out.g5
                  have hrl := HRL.out
                  go_wp2_with fail
                  go_roundw
                  case rel => exact ⟨i + 1, _, _, by go_num, by omega, GN.out, hJ.out.1, hJ.out.2⟩
                  case measure => simp [intOf]; omega
            · have hie : i = p.length := by have := hG.out.1.g4; omega
              subst hie
              have hpp : 0 < p.length := by
                have h1 := grown_pre (i := 0) (p := [c]) (r := r) (Nat.zero_le _)
                rw [← hG.out.1.g1, grown_end] at h1
                have := h1.length_le
                simp only [List.length_cons, List.length_nil] at this
                omega
              obtain ⟨gp, cap, e9, hgp, -⟩ := World.ownsRow.form hG.out.2.1 hpp
              simp only [Value.slice.injEq, true_and] at e9
              obtain ⟨rfl, rfl⟩ := e9
              have M5 := hid (M3.out.below hG.out.2.2)
              have A5 := hid (A3.out.below hG.out.2.2)
              have PO := hid hG.out.2.1
              have PS := hid sp
              have B5 := hid hG.out.2.2
              have hbz := M5.out.bel.size
              have hb9 := HAB.out ⟨b3, o3, none⟩ rfl (by omega)
              have HB9 := hid (show b3 < w.heap.size from hb9)
              have DL := hid (fun z (e : (Value.slice ad D.length cd).ownBlock = some z) => (M3.out.dn.lt z e).2)
              have HSO := hid (fun (W : World) (h : Seg W (some ⟨gp, 0, none⟩) p) => c_l1Sort (some ⟨gp, 0, none⟩) p cp W h (by omega))
              have ON := hid (HOS.out.next HN.out (by rw [← HC.out]; exact HR.out) (by rw [← HC.out]; exact hG.out.1))
              have HPL := hid (fun x (hx : x ∈ p) => HCL.out x (hG.out.1.g3 x hx))
              have hH9 : H.length ≤ 100000 := by have := HOS.out.o6; omega
              clear sp hG
              go_wp2_with (first | (at_builtin; refine wpList_appAt rfl (.tmp 55) (.tmp 56) rfl w.heap.size _ D p ⟨gp, 0, none⟩ cp rfl M5.out.dn rfl PS.out (by omega) hbz ?_; intro v6 w6 hO6 hG6 hN6; have PO6 := hid (own_keep PO.out hG6 (fun z hz e => by have h1 := DL.out z e; have h2 := (PO.out.lt z hz).1; omega)); have HH6 := hid (M5.out.out.keep_apart M5.out.dn hG6 M5.out.ne); have A6 := hid (seg_far A5.out hG6 (fun A e e2 => by cases e; have := (M5.out.dn.lt _ e2).1; omega)); have B6 := hid (below_row M5.out.bel hG6 (fun z e => (M5.out.dn.lt z e).1)); have O6 := hid hO6))
              refine (HSO.out w6 PO6.out.seg).mono ?_
              rintro e w7 ⟨v7, l', rfl, ho7, hr7, hm7, hl7, b7⟩
              have HF := hid (show l' = l.filter (fun x => decide (x ∈ p)) from ris_unique hr7 (pair_ris ((ris_pair HRI.out).filter _)) (fun x => by
                rw [hm7, List.mem_filter]
                simp only [decide_eq_true_eq]
                exact ⟨fun h => ⟨HPL.out x h, h⟩, fun h => h.2⟩))
              obtain ⟨a7, c7, rfl, -⟩ := ho7.form
              have kz := (Below.refl w7.heap.size w7).alloc (Nat.le_refl _) (.cells #[.slice a7 l'.length c7] 23)
              have HC7 := hid (cell_one' w7 (.slice a7 l'.length c7) 23)
              have HO7 := hid (ho7.below kz)
              have HH7 := hid ((HH6.out.below b7).below kz)
              have D7 := hid ((O6.out.below b7).below kz)
              have A7 := hid ((A6.out.below b7).below kz)
              have B7 := hid (B6.out.trans ((b7.trans (kz.mono b7.size)).mono B6.out.size))
              have HL0 := hid (fun i (hi : i < H.length) => (M5.out.out.each i hi).lt)
              have hws := hG6.size
              have hw6 := B6.out.size
              have NE := hid M5.out.ne
              have HLE := hid (fun i (hi : i < H.length) z (e : (va vs i).ownBlock = some z) => (HH6.out.each i hi).lt z e)
              have hlv := M5.out.out.len
              clear kz ho7 b7 hr7 hm7 hl7 M5 A5
              go_wp2_with (first | (at_builtin; refine wpList_appH rfl _ _ rfl w.heap.size _ vs H (.slice a7 l'.length c7) l' ⟨w7.heap.size, 0, none⟩ rfl HH7.out rfl HC7.out rfl (HO7.out.mono hw6) (fun i hi z hz e => by have h1 := (HLE.out i hi z hz).2; have h2 := (HO7.out.lt z e).1; omega) hH9 B7.out.size ?_; intro v8 w8 hO8 hG8))
              go_roundw
              case rel =>
                refine ⟨k + 1, D ++ p, vs ++ [.slice a7 l'.length c7], H ++ [l'], by omega, by go_num, ⟨own_rowkept HH7.out.row hG8 D7.out, hO8, fun i hi z hz e => ?_, below_row B7.out hG8 (fun z e => (HH7.out.lt z e).1)⟩, by rw [HF.out]; exact ON.out, seg_far A7.out hG8 (fun A e e2 => by cases e; have h1 : w.heap.size ≤ b3 := (HH7.out.lt _ e2).1; have h2 : b3 < w.heap.size := HB9.out; omega)⟩
                rw [List.length_append] at hi
                simp only [List.length_cons, List.length_nil] at hi
                rw [va_snoc i (by rw [hlv]; omega), hlv] at hz
                split at hz
                · have h1 := (O6.out.lt z e).2
                  have h2 := (HO7.out.lt z hz).1
                  omega
                · exact near_far hN6 (NE.out i (by omega) z hz) (HL0.out i (by omega) z hz).2 e
              case measure => simp [intOf]; omega
        · rw [hal] at CA
          have HCD := hid (show at_ l k ∈ D by rw [← HC.out]; simpa using hal)
          clear hal
          go_wp2_with fail
          refine CA.out.mono ?_
          rintro e w2 ⟨rfl, b2⟩
          go_wp2_with fail
          go_roundw
          case rel => exact ⟨k + 1, D, vs, H, by omega, by go_num, M2.out.below b2, HOS.out.skip HCD.out, A2.out.below b2⟩
          case measure => simp [intOf]; omega
      · have hke : k = l.length := by omega
        subst hke
        have HO := hid hx.out.1.out
        have HB := hid hx.out.1.bel
        have HD := hid hx.out.2.1.done
        go_wp2_with fail
        go_ret2
        rw [HV.out, ← HD.out]
        first | exact ⟨_, vs, rfl, HO.out, HB.out⟩ | exact ⟨_, rfl, ⟨vs, HO.out⟩, HB.out⟩
theorem lpL_each (l : List Cl) {i : Nat} (hi : i < (lpL l).length) : (ht (lpL l) i).length ≤ 120 := lpL_mem (ht_in hi)
end Go.Proofs.Ytgppcocfnbalfaa
