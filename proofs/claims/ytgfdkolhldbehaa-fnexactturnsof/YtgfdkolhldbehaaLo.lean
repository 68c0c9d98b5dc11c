/- Texts of this seat, one behind the other: FatP, SFat. -/
import Derived.Test.YtgfdkolhldbehaaLm
import Derived.Test.YtgfdkolhldbehaaLn
namespace Go.Proofs.Ytgfdkolhldbehaa
open Go.RowKit
set_option linter.unusedVariables false
set_option linter.unusedSimpArgs false

/-- The first step ahead of b behind which the cells, moved home, are those behind b. -/
def ftA (H : List (List Cl)) (b : Nat) : Option Nat := fstAt (fun a => decide (home (ht H a) = home (ht H b))) b
/-- The first b for which there is such. -/
def ftB (H : List (List Cl)) : Option Nat := fstAt (fun b => (ftA H b).isSome) H.length
/-- The four numbers of the answer. -/
def ftV (H : List (List Cl)) (j : Nat) : Int :=
  match ftB H with
  | none => 0
  | some b => match ftA H b with
    | none => 0
    | some a => if j = 0 then (a : Int) else if j = 1 then (b : Int) - (a : Int) else if j = 2 then (boxLo (ht H b)).1 - (boxLo (ht H a)).1 else (boxLo (ht H b)).2 - (boxLo (ht H a)).2
def ftK (H : List (List Cl)) : Bool := (ftB H).isSome
theorem ft_none {H : List (List Cl)} (h : ∀ b, b < H.length → ∀ a, a < b → ¬ home (ht H a) = home (ht H b)) : ftK H = false ∧ ∀ j, ftV H j = 0 := by
  have e : ftB H = none := fstAt_none (fun b hb => by
    have : ftA H b = none := fstAt_none (fun a ha => by simpa using h b hb a ha)
    rw [this]; rfl)
  simp [ftK, ftV, e]
theorem ft_some {H : List (List Cl)} {a b : Nat} (hb : b < H.length) (ha : a < b) (he : home (ht H a) = home (ht H b)) (h1 : ∀ b', b' < b → ∀ a', a' < b' → ¬ home (ht H a') = home (ht H b')) (h2 : ∀ a', a' < a → ¬ home (ht H a') = home (ht H b)) :
    ftK H = true ∧ ftV H 0 = (a : Int) ∧ ftV H 1 = (b : Int) - (a : Int) ∧ ftV H 2 = (boxLo (ht H b)).1 - (boxLo (ht H a)).1 ∧ ftV H 3 = (boxLo (ht H b)).2 - (boxLo (ht H a)).2 := by
  have ea : ftA H b = some a := fstAt_some ha (by simpa using he) (fun a' h => by simpa using h2 a' h)
  have e : ftB H = some b := fstAt_some hb (by simp [ea]) (fun b' h => by
    have : ftA H b' = none := fstAt_none (fun a' h' => by simpa using h1 b' h a' h')
    simp [this])
  simp [ftK, ftV, e, ea]

/-- Four numbers that lie in block b. -/
def FRow (w : World) (b : Nat) (f : Nat → Int) : Prop := w.rowIs b 27 4 (fun j => .int .i64 (f j))
theorem FRow.below {w w' : World} {b : Nat} {f : Nat → Int} (h : FRow w b f) (hb : Below w.heap.size w w') : FRow w' b f := World.rowIs.of_block h (hb.block _ (World.rowIs.lt h))
theorem FRow.cell {w : World} {b : Nat} {f : Nat → Int} (h : FRow w b f) (i : Nat) (hi : i < 4) : w.cell? ⟨b, i, none⟩ = some (.int .i64 (f i)) := World.rowIs.cell h (i := i) hi
theorem FRow.fr {w : World} {b : Nat} {f : Nat → Int} (h : FRow w b f) (i : Nat) : w.frozen? ⟨b, i, none⟩ = false := World.rowIs.frozen h i
theorem FRow.new (w : World) (x y z u : Int) : FRow (w.alloc (.cells #[.int .i64 x, .int .i64 y, .int .i64 z, .int .i64 u] 27)) w.heap.size (fun j => if j = 0 then x else if j = 1 then y else if j = 2 then z else u) := by
  refine ⟨_, heap_alloc_new w _, rfl, fun i hi => ?_⟩
  rcases (show i = 0 ∨ i = 1 ∨ i = 2 ∨ i = 3 by omega) with rfl | rfl | rfl | rfl <;> rfl
theorem FRow.lt {w : World} {b : Nat} {f : Nat → Int} (h : FRow w b f) : b < w.heap.size := World.rowIs.lt h
/-- All four are written. -/
theorem FRow.put {w : World} {b : Nat} {f : Nat → Int} (h : FRow w b f) (g : Nat → Int) :
    FRow ((((w.setCell ⟨b, 0, none⟩ (.int .i64 (g 0))).setCell ⟨b, 1, none⟩ (.int .i64 (g 1))).setCell ⟨b, 2, none⟩ (.int .i64 (g 2))).setCell ⟨b, 3, none⟩ (.int .i64 (g 3))) b g := by
  refine (World.rowIs.set (World.rowIs.set (World.rowIs.set (World.rowIs.set h 0 _) 1 _) 2 _) 3 _).congr fun i hi => ?_
  rcases (show i = 0 ∨ i = 1 ∨ i = 2 ∨ i = 3 by omega) with rfl | rfl | rfl | rfl <;> simp
theorem below_set4 {n b : Nat} {w0 w : World} (h : Below n w0 w) (hb : n ≤ b) (g : Nat → Int) :
    Below n w0 ((((w.setCell ⟨b, 0, none⟩ (.int .i64 (g 0))).setCell ⟨b, 1, none⟩ (.int .i64 (g 1))).setCell ⟨b, 2, none⟩ (.int .i64 (g 2))).setCell ⟨b, 3, none⟩ (.int .i64 (g 3))) :=
  (((h.setCell (p := ⟨b, 0, none⟩) hb _).setCell (p := ⟨b, 1, none⟩) hb _).setCell (p := ⟨b, 2, none⟩) hb _).setCell (p := ⟨b, 3, none⟩) hb _
theorem home_lo (l : List Cl) : -40 ≤ (boxLo l).1 ∧ (boxLo l).1 ≤ 40 ∧ -40 ≤ (boxLo l).2 ∧ (boxLo l).2 ≤ 40 := by
  have := boxLo_in l
  simp only [inR, Bool.and_eq_true, decide_eq_true_eq] at this
  omega
end Go.Proofs.Ytgfdkolhldbehaa

namespace Go.Proofs.Ytgfdkolhldbehaa
open Go.RowKit
set_option linter.unusedVariables false
set_option linter.unusedSimpArgs false
attribute [local go_sem ↓] Go.wp_at_zero Go.wp_at_succ

theorem c_l6Same' (a b : Option Addr) (l m : List Cl) (ca cb : Nat) (v : Bool) (h : decide (l = m) = v) (w : World) (ha : Seg w a l) (hb : Seg w b m) (hl : l.length ≤ 1048576) (hm : m.length ≤ 1048576) :
    Calls Try.prog 63 #[.slice a l.length ca, .slice b m.length cb] w fun e w' => e = .returned (.bool v) ∧ Below w.heap.size w w' := by
  rw [← h]; exact c_l6Same a b l m ca cb w ha hb hl hm

set_option maxHeartbeats 4000000 in
set_option maxRecDepth 100000 in
theorem c_sFateOf (a : Option Addr) (l : List Cl) (ca : Nat) (t : Int) (w : World) (ha : Seg w a l) (hca : a = none → ca = 0) (hl : l.length ≤ 1048576) :
    Calls Try.prog 15 #[.slice a l.length ca, .int .i64 t] w fun e w' => e = .returned (.tuple #[.agg #[.int .i64 (ftV (histG l t) 0), .int .i64 (ftV (histG l t) 1), .int .i64 (ftV (histG l t) 2), .int .i64 (ftV (histG l t) 3)], .bool (ftK (histG l t))]) ∧ Below w.heap.size w w' := by
  have P0 := hid (FRow.new w 0 0 0 0)
  have B0 := hid ((Below.refl w.heap.size w).alloc (Nat.le_refl _) (.cells #[.int .i64 0, .int .i64 0, .int .i64 0, .int .i64 0] 27))
  have A0 := hid (ha.below B0.out)
  have HC := hid (c_l7Good a l ca t _ A0.out hl)
  have hlt0 : w.heap.size < (w.alloc (.cells #[.int .i64 0, .int .i64 0, .int .i64 0, .int .i64 0] 27)).heap.size := by simp
  clear ha
  cases hg : (good l && inMo t)
  · rw [hg] at HC
    have HV := hid (ft_none (H := histG l t) (fun b hb => by simp [histG, hg] at hb))
    go_enter Try.func15, Try.ntmps15
    go_wp2_with fail
    refine HC.out.mono ?_
    rintro e w1 ⟨rfl, b1⟩
    have R1 := hid (P0.out.below b1)
    have B1 := hid (B0.out.trans (b1.mono B0.out.size))
    have x0 := R1.out.cell 0 (by omega)
    have x1 := R1.out.cell 1 (by omega)
    have x2 := R1.out.cell 2 (by omega)
    have x3 := R1.out.cell 3 (by omega)
    have f0 := R1.out.fr 0
    have f1 := R1.out.fr 1
    have f2 := R1.out.fr 2
    have f3 := R1.out.fr 3
    clear HC b1 P0 B0 A0
    go_wp2_with fail
    have RZ := hid (R1.out.put (fun _ => 0))
    have v0 := RZ.out.cell 0 (by omega)
    have v1 := RZ.out.cell 1 (by omega)
    have v2 := RZ.out.cell 2 (by omega)
    have v3 := RZ.out.cell 3 (by omega)
    refine bodyPost_ret (v := .tuple #[.agg #[.int .i64 0, .int .i64 0, .int .i64 0, .int .i64 0], .bool false]) (by simp [results, Try.results15, go_sem, v0, v1, v2, v3]) rfl ⟨by rw [HV.out.1, HV.out.2 0, HV.out.2 1, HV.out.2 2, HV.out.2 3], ?_⟩
    exact below_set4 B1.out (Nat.le_refl _) (fun _ => 0)
  · rw [hg] at HC
    rw [Bool.and_eq_true] at hg
    obtain ⟨T, rfl⟩ : ∃ T : Nat, t = (T : Int) := ⟨t.toNat, by have := inMo_bd hg.2; omega⟩
    have htb := inMo_bd hg.2
    have HH := hid (show histG l (T : Int) = hist T l by simp [histG, hg])
    have HGD := hid (fun i (hi : i < (hist T l).length) => hist_good hg.1 _ (ht_in hi))
    have hhl := hist_le T l
    have HGL := hid hg.1
    rw [HH.out]
    clear hg HH
    have HCL := hid (fun (w1 : World) (h : Seg w1 a l) => c_l7History a l ca T w1 h hca HGL.out (by omega))
    have HN := hid (fun (h : ∀ b, b < (hist T l).length → ∀ a, a < b → ¬ home (ht (hist T l) a) = home (ht (hist T l) b)) => ft_none h)
    have HS := hid (fun (a b : Nat) => ft_some (H := hist T l) (a := a) (b := b))
    generalize hist T l = H at *
    generalize ftK H = fk at *
    generalize ftV H = fv at *
    go_enter Try.func15, Try.ntmps15
    go_wp2_with fail
    refine HC.out.mono ?_
    rintro e w1 ⟨rfl, b1⟩
    have R1 := hid (P0.out.below b1)
    have A1 := hid (A0.out.below b1)
    have B1 := hid (B0.out.trans (b1.mono B0.out.size))
    clear b1 HC P0 B0 A0
    go_wp2_with fail
    refine (HCL.out w1 A1.out).mono ?_
    rintro e w2 ⟨v, vs, rfl, hO, b2⟩
    obtain ⟨a2, c2, rfl, s2, _⟩ := hO.form
    have O2 := hid hO
    have R2 := hid (R1.out.below b2)
    have B2 := hid (B1.out.trans (b2.mono B1.out.size))
    clear hO s2 b2 A1 B1 R1 HGL HCL
    go_wp2_with fail
    go_loopw [21] (fun iv wr => ∃ i : Nat, i ≤ H.length ∧ iv = .int .i64 (i : Int) ∧ Hid (∀ b, b < i → ∀ a, a < b → ¬ home (ht H a) = home (ht H b)) ∧ Hid (Below w2.heap.size w2 wr)) (fun iv _ => H.length - (intOf iv).toNat)
    case atStart => exact ⟨0, Nat.zero_le _, rfl, (fun b hb => absurd hb (Nat.not_lt_zero _)), Below.refl _ _⟩
    case round =>
      obtain ⟨i, hi, rfl, hI, hbel⟩ := hrel
      by_cases hlt : i < H.length
      · have i0 : (0 : Int) ≤ (i : Int) := by omega
        have i1 : (i : Int) < (H.length : Int) := by omega
        rename World => wo
        go_wp2_with fail
        go_loopw [8] (fun jv wr => ∃ j : Nat, j ≤ i ∧ jv = .int .i64 (j : Int) ∧ Hid (∀ a, a < j → ¬ home (ht H a) = home (ht H i)) ∧ Hid (Below w2.heap.size w2 wr)) (fun jv _ => i - (intOf jv).toNat)
        case atStart => exact ⟨0, Nat.zero_le _, rfl, (fun b hb => absurd hb (Nat.not_lt_zero _)), hbel.out⟩
        case round =>
          clear hbel
          obtain ⟨j, hj, rfl, hJ, hbel⟩ := hrel
          by_cases hjt : j < i
          · have j0 : (0 : Int) ≤ (j : Int) := by omega
            have j1 : (j : Int) < (i : Int) := by omega
            have j2 : (j : Int) < (H.length : Int) := by omega
            obtain ⟨g, a3, c3, e1, -, hg3, e3, p3⟩ := (O2.out.below hbel.out).at (j := j) (by omega)
            obtain ⟨g', a4, c4, e2, -, hg4, e4, p4⟩ := (O2.out.below hbel.out).at (j := i) hlt
            have s3 := (O2.out.below hbel.out).each j (by omega)
            rw [e3] at s3
            have s4 := (O2.out.below hbel.out).each i hlt
            rw [e4] at s4
            subst e1
            simp only [Option.some.injEq, Addr.mk.injEq, and_true] at e2
            subst e2
            have D := hid ((Below.refl wr.heap.size wr).drew)
            have S3 := hid (s3.seg.below D.out)
            have S4 := hid (s4.seg.below D.out)
            have hx3 := good_le (HGD.out j (by omega))
            have hx4 := good_le (HGD.out i hlt)
            have hl3 := home_le (ht H j)
            have hl4 := home_le (ht H i)
            have S3w := hid s3.seg
            have S4w := hid s4.seg
            clear s3 s4 e3 e4 hg4
            cases hv : decide (home (ht H j) = home (ht H i))
            · have HQ := hid hv
              go_wp2_with fail
              go_region_held3 (fun W => W.cell? ⟨g, j, none⟩ = some (.slice a3 (ht H j).length c3) ∧ W.cell? ⟨g, i, none⟩ = some (.slice a4 (ht H i).length c4))
                (first | exact ⟨p3, p4⟩ | exact ⟨(E5.out.cell hg3).trans p3, (E5.out.cell hg3).trans p4⟩ | exact ⟨(E4.out.cell hg3).trans p3, (E4.out.cell hg3).trans p4⟩ | exact ⟨(E3.out.cell hg3).trans p3, (E3.out.cell hg3).trans p4⟩ | exact ⟨(D.out.cell hg3).trans p3, (D.out.cell hg3).trans p4⟩ | go_keep)
                (first
                  | (go_at_call 63; refine (c_l6Same' a5 a6 (home (ht H j)) (home (ht H i)) c5 c6 false HQ.out w4 T3.out T4.out (by omega) (by omega)).mono ?_; rintro e w5 ⟨rfl, b5⟩; have E5 := hid (E4.out.trans (b5.mono E4.out.size)))
                  | (go_at_call 64; have _g := T3.out; refine (c_l6Home a4 (ht H i) c4 w3 (S4.out.below (Below.mono E3'.out (Nat.le_refl _))) (by omega)).mono ?_; rintro e w4 ⟨v4, rfl, o4, b4⟩; obtain ⟨a6, c6, rfl, s6⟩ := o4.form; have T4 := hid s6; replace T3 := hid (T3.out.below b4); have E4 := hid (E3.out.trans (b4.mono E3.out.size)); clear o4 s6 b4)
                  | (go_at_call 64; refine (c_l6Home a3 (ht H j) c3 wr.drew S3.out (by omega)).mono ?_; rintro e w3 ⟨v3, rfl, o3, b3⟩; obtain ⟨a5, c5, rfl, s5⟩ := o3.form; have T3 := hid s5; have E3' := hid b3; have E3 := hid (D.out.trans (b3.mono D.out.size)); clear o3 s5 b3))
              have E6 := hid (hbel.out.trans (E5.out.mono hbel.out.size))
              clear p3 p4 b5 E5 E4 E3 E3' T3 T4 S3 S4 S3w S4w D
              go_wp2_with fail
              go_roundw
              case rel =>
                refine ⟨j + 1, by omega, by go_num, (fun a ha => ?_ : ∀ a, _ → _), E6.out⟩
                by_cases ej : a = j
                · subst ej; simpa using HQ.out
                · exact hJ.out a (by omega)
              case measure => simp [intOf]; omega
            · have HQ := hid hv
              go_wp2_with fail
              go_region_held3 (fun W => W.cell? ⟨g, j, none⟩ = some (.slice a3 (ht H j).length c3) ∧ W.cell? ⟨g, i, none⟩ = some (.slice a4 (ht H i).length c4))
                (first | exact ⟨p3, p4⟩ | exact ⟨(E5.out.cell hg3).trans p3, (E5.out.cell hg3).trans p4⟩ | exact ⟨(E4.out.cell hg3).trans p3, (E4.out.cell hg3).trans p4⟩ | exact ⟨(E3.out.cell hg3).trans p3, (E3.out.cell hg3).trans p4⟩ | exact ⟨(D.out.cell hg3).trans p3, (D.out.cell hg3).trans p4⟩ | go_keep)
                (first
                  | (go_at_call 63; refine (c_l6Same' a5 a6 (home (ht H j)) (home (ht H i)) c5 c6 true HQ.out w4 T3.out T4.out (by omega) (by omega)).mono ?_; rintro e w5 ⟨rfl, b5⟩; have E5 := hid (E4.out.trans (b5.mono E4.out.size)))
                  | (go_at_call 64; have _g := T3.out; refine (c_l6Home a4 (ht H i) c4 w3 (S4.out.below (Below.mono E3'.out (Nat.le_refl _))) (by omega)).mono ?_; rintro e w4 ⟨v4, rfl, o4, b4⟩; obtain ⟨a6, c6, rfl, s6⟩ := o4.form; have T4 := hid s6; replace T3 := hid (T3.out.below b4); have E4 := hid (E3.out.trans (b4.mono E3.out.size)); clear o4 s6 b4)
                  | (go_at_call 64; refine (c_l6Home a3 (ht H j) c3 wr.drew S3.out (by omega)).mono ?_; rintro e w3 ⟨v3, rfl, o3, b3⟩; obtain ⟨a5, c5, rfl, s5⟩ := o3.form; have T3 := hid s5; have E3' := hid b3; have E3 := hid (D.out.trans (b3.mono D.out.size)); clear o3 s5 b3))
              have E6 := hid (hbel.out.trans (E5.out.mono hbel.out.size))
              have hw5 := (show g < w5.heap.size from Nat.lt_of_lt_of_le hg3 E5.out.size)
              have q3 := (E5.out.cell (p := ⟨g, j, none⟩) hg3).trans p3
              have q4 := (E5.out.cell (p := ⟨g, i, none⟩) hg3).trans p4
              have S35 := hid (S3w.out.below E5.out)
              have S45 := hid (S4w.out.below E5.out)
              clear p3 p4 b5 E5 E4 E3 E3' T3 T4 S3 S4 S3w S4w D
              have HF := hid (HS.out j i hlt hjt (by simpa using HQ.out) hI.out hJ.out)
              have k3 := home_lo (ht H j)
              have k4 := home_lo (ht H i)
              go_wp2_with fail
              refine (c_l7Corner a3 (ht H j) c3 w5 S35.out (by omega)).mono ?_
              rintro e w6 ⟨rfl, b6⟩
              have q4' := (b6.cell (p := ⟨g, i, none⟩) hw5).trans q4
              have hw6 := Nat.lt_of_lt_of_le hw5 b6.size
              have S46 := hid (S45.out.below b6)
              have E7 := hid (E6.out.trans (b6.mono E6.out.size))
              clear b6 q3 q4 S35 S45 E6
              generalize boxLo (ht H j) = X at *
              have q5 := (((Below.refl w6.heap.size w6).alloc (Nat.le_refl _) (.cells #[.int .i64 X.1, .int .i64 X.2] 36)).cell (p := ⟨g, i, none⟩) hw6).trans q4'
              have P6 := hid (WRow.new w6 (.int .i64 X.1) X.2 36)
              have E8 := hid (E7.out.alloc E7.out.size (.cells #[.int .i64 X.1, .int .i64 X.2] 36))
              have S48 := hid (S46.out.below ((Below.refl w6.heap.size w6).alloc (Nat.le_refl _) (.cells #[.int .i64 X.1, .int .i64 X.2] 36)))
              clear S46 E7 q4'
              go_wp2_with fail
              refine (c_l7Corner a4 (ht H i) c4 _ S48.out (by omega)).mono ?_
              rintro e w7 ⟨rfl, b7⟩
              have P7 := hid (P6.out.below b7)
              have E9 := hid (E8.out.trans (b7.mono E8.out.size))
              clear P6 E8 S48 b7 q5 HGD
              generalize boxLo (ht H i) = Y at *
              have P8 := hid (P7.out.below ((Below.refl w7.heap.size w7).alloc (Nat.le_refl _) (.cells #[.int .i64 Y.1, .int .i64 Y.2] 36)))
              have Q8 := hid (WRow.new w7 (.int .i64 Y.1) Y.2 36)
              have E10 := hid (E9.out.alloc E9.out.size (.cells #[.int .i64 Y.1, .int .i64 Y.2] 36))
              have RA := hid (R2.out.below E10.out)
              have BA := hid (B2.out.trans (E10.out.mono B2.out.size))
              have y0 := P8.out.c0
              have y1 := P8.out.c1
              have z0 := Q8.out.c0
              have z1 := Q8.out.c1
              have f0 := RA.out.fr 0
              have f1 := RA.out.fr 1
              have f2 := RA.out.fr 2
              have f3 := RA.out.fr 3
              have x0 := RA.out.cell 0 (by omega)
              have x1 := RA.out.cell 1 (by omega)
              have x2 := RA.out.cell 2 (by omega)
              have x3 := RA.out.cell 3 (by omega)
              go_wp2_with fail
              have RZ := hid (RA.out.put (fun k => if k = 0 then (j : Int) else if k = 1 then (i : Int) - (j : Int) else if k = 2 then Y.1 - X.1 else Y.2 - X.2))
              have v0 := RZ.out.cell 0 (by omega)
              have v1 := RZ.out.cell 1 (by omega)
              have v2 := RZ.out.cell 2 (by omega)
              have v3 := RZ.out.cell 3 (by omega)
              simp only [reduceIte, Nat.reduceEqDiff] at v0 v1 v2 v3
              refine bodyPost_ret (v := .tuple #[.agg #[.int .i64 (j : Int), .int .i64 ((i : Int) - (j : Int)), .int .i64 (Y.1 - X.1), .int .i64 (Y.2 - X.2)], .bool true]) (by simp [results, Try.results15, go_sem, v0, v1, v2, v3]) rfl ⟨by rw [HF.out.1, HF.out.2.1, HF.out.2.2.1, HF.out.2.2.2.1, HF.out.2.2.2.2], ?_⟩
              exact below_set4 BA.out (Nat.le_refl _) (fun k => if k = 0 then (j : Int) else if k = 1 then (i : Int) - (j : Int) else if k = 2 then Y.1 - X.1 else Y.2 - X.2)
          · have hji : j = i := by omega
            subst hji
            go_wp2_with fail
            go_roundw
            case rel =>
              refine ⟨j + 1, by omega, by go_num, (fun b hb => ?_ : ∀ b, _ → _), hbel.out⟩
              by_cases ej : b = j
              · subst ej; exact hJ.out
              · exact hI.out b (by omega)
            case measure => simp [intOf]; omega
      · have hie : i = H.length := by omega
        subst hie
        have HF := hid (HN.out hI.out)
        have BB := hid (B2.out.trans (hbel.out.mono B2.out.size))
        have R3 := hid (R2.out.below hbel.out)
        have x0 := R3.out.cell 0 (by omega)
        have x1 := R3.out.cell 1 (by omega)
        have x2 := R3.out.cell 2 (by omega)
        have x3 := R3.out.cell 3 (by omega)
        have f0 := R3.out.fr 0
        have f1 := R3.out.fr 1
        have f2 := R3.out.fr 2
        have f3 := R3.out.fr 3
        go_wp2_with fail
        have RZ := hid (R3.out.put (fun _ => 0))
        have v0 := RZ.out.cell 0 (by omega)
        have v1 := RZ.out.cell 1 (by omega)
        have v2 := RZ.out.cell 2 (by omega)
        have v3 := RZ.out.cell 3 (by omega)
        refine bodyPost_ret (v := .tuple #[.agg #[.int .i64 0, .int .i64 0, .int .i64 0, .int .i64 0], .bool false]) (by simp [results, Try.results15, go_sem, v0, v1, v2, v3]) rfl ⟨by rw [HF.out.1, HF.out.2 0, HF.out.2 1, HF.out.2 2, HF.out.2 3], ?_⟩
        exact below_set4 BB.out (Nat.le_refl _) (fun _ => 0)
end Go.Proofs.Ytgfdkolhldbehaa
