/- Texts of this seat, one behind the other: FatP, FatQ, SFat, Sgt, IFat. -/
import Derived.Test.YtgfdkolhldbehaaKi
import Derived.Test.YtgfdkolhldbehaaKj
import Derived.Test.YtgfdkolhldbehaaKh
import Derived.Test.YtgfdkolhldbehaaKg
import Derived.Maps.AppendAt
import Derived.Deep.MidRow
import Derived.Great.BuildSlice
namespace Go.Proofs.Ytgfdkolhldbehaa
open Go.RowKit
set_option linter.unusedVariables false
set_option linter.unusedSimpArgs false

/-- The first step ahead of b behind which the cells, moved home, are those behind b. -/
def ftA (H : List (List Cl)) (b : Nat) : Option Nat := fstAt (fun a => decide (home (ht H a) = home (ht H b))) b
/-- The first b for which there is such. -/
def ftB (H : List (List Cl)) : Option Nat := fstAt (fun b => (ftA H b).isSome) H.length
/-- The four numbers of the answer. -/
def ftV (H : List (List Cl)) (j : Nat) : Int :=
  match ftB H with
  | none => 0
  | some b => match ftA H b with
    | none => 0
    | some a => if j = 0 then (a : Int) else if j = 1 then (b : Int) - (a : Int) else if j = 2 then (boxLo (ht H b)).1 - (boxLo (ht H a)).1 else (boxLo (ht H b)).2 - (boxLo (ht H a)).2
def ftK (H : List (List Cl)) : Bool := (ftB H).isSome
theorem ft_none {H : List (List Cl)} (h : ∀ b, b < H.length → ∀ a, a < b → ¬ home (ht H a) = home (ht H b)) : ftK H = false ∧ ∀ j, ftV H j = 0 := by
  have e : ftB H = none := fstAt_none (fun b hb => by
    have : ftA H b = none := fstAt_none (fun a ha => by simpa using h b hb a ha)
    rw [this]; rfl)
  simp [ftK, ftV, e]
theorem ft_some {H : List (List Cl)} {a b : Nat} (hb : b < H.length) (ha : a < b) (he : home (ht H a) = home (ht H b)) (h1 : ∀ b', b' < b → ∀ a', a' < b' → ¬ home (ht H a') = home (ht H b')) (h2 : ∀ a', a' < a → ¬ home (ht H a') = home (ht H b)) :
    ftK H = true ∧ ftV H 0 = (a : Int) ∧ ftV H 1 = (b : Int) - (a : Int) ∧ ftV H 2 = (boxLo (ht H b)).1 - (boxLo (ht H a)).1 ∧ ftV H 3 = (boxLo (ht H b)).2 - (boxLo (ht H a)).2 := by
  have ea : ftA H b = some a := fstAt_some ha (by simpa using he) (fun a' h => by simpa using h2 a' h)
  have e : ftB H = some b := fstAt_some hb (by simp [ea]) (fun b' h => by
    have : ftA H b' = none := fstAt_none (fun a' h' => by simpa using h1 b' h a' h')
    simp [this])
  simp [ftK, ftV, e, ea]

/-- Four numbers that lie in block b. -/
def FRow (w : World) (b : Nat) (f : Nat → Int) : Prop := w.rowIs b 27 4 (fun j => .int .i64 (f j))
theorem FRow.below {w w' : World} {b : Nat} {f : Nat → Int} (h : FRow w b f) (hb : Below w.heap.size w w') : FRow w' b f := World.rowIs.of_block h (hb.block _ (World.rowIs.lt h))
theorem FRow.cell {w : World} {b : Nat} {f : Nat → Int} (h : FRow w b f) (i : Nat) (hi : i < 4) : w.cell? ⟨b, i, none⟩ = some (.int .i64 (f i)) := World.rowIs.cell h (i := i) hi
theorem FRow.fr {w : World} {b : Nat} {f : Nat → Int} (h : FRow w b f) (i : Nat) : w.frozen? ⟨b, i, none⟩ = false := World.rowIs.frozen h i
theorem FRow.new (w : World) (x y z u : Int) : FRow (w.alloc (.cells #[.int .i64 x, .int .i64 y, .int .i64 z, .int .i64 u] 27)) w.heap.size (fun j => if j = 0 then x else if j = 1 then y else if j = 2 then z else u) := by
  refine ⟨_, heap_alloc_new w _, rfl, fun i hi => ?_⟩
  rcases (show i = 0 ∨ i = 1 ∨ i = 2 ∨ i = 3 by omega) with rfl | rfl | rfl | rfl <;> rfl
theorem FRow.lt {w : World} {b : Nat} {f : Nat → Int} (h : FRow w b f) : b < w.heap.size := World.rowIs.lt h
/-- All four are written. -/
theorem FRow.put {w : World} {b : Nat} {f : Nat → Int} (h : FRow w b f) (g : Nat → Int) :
    FRow ((((w.setCell ⟨b, 0, none⟩ (.int .i64 (g 0))).setCell ⟨b, 1, none⟩ (.int .i64 (g 1))).setCell ⟨b, 2, none⟩ (.int .i64 (g 2))).setCell ⟨b, 3, none⟩ (.int .i64 (g 3))) b g := by
  refine (World.rowIs.set (World.rowIs.set (World.rowIs.set (World.rowIs.set h 0 _) 1 _) 2 _) 3 _).congr fun i hi => ?_
  rcases (show i = 0 ∨ i = 1 ∨ i = 2 ∨ i = 3 by omega) with rfl | rfl | rfl | rfl <;> simp
theorem below_set4 {n b : Nat} {w0 w : World} (h : Below n w0 w) (hb : n ≤ b) (g : Nat → Int) :
    Below n w0 ((((w.setCell ⟨b, 0, none⟩ (.int .i64 (g 0))).setCell ⟨b, 1, none⟩ (.int .i64 (g 1))).setCell ⟨b, 2, none⟩ (.int .i64 (g 2))).setCell ⟨b, 3, none⟩ (.int .i64 (g 3))) :=
  (((h.setCell (p := ⟨b, 0, none⟩) hb _).setCell (p := ⟨b, 1, none⟩) hb _).setCell (p := ⟨b, 2, none⟩) hb _).setCell (p := ⟨b, 3, none⟩) hb _
theorem home_lo (l : List Cl) : -40 ≤ (boxLo l).1 ∧ (boxLo l).1 ≤ 40 ∧ -40 ≤ (boxLo l).2 ∧ (boxLo l).2 ≤ 40 := by
  have := boxLo_in l
  simp only [inR, Bool.and_eq_true, decide_eq_true_eq] at this
  omega
end Go.Proofs.Ytgfdkolhldbehaa

namespace Go.Proofs.Ytgfdkolhldbehaa
open Go.RowKit
set_option linter.unusedVariables false
set_option linter.unusedSimpArgs false

/-- A box grows by one a step at most. -/
theorem times_box : ∀ (n : Nat) (A B : List Cl), good A = true → timesO n A = some B → boxOk B = true →
    boxOk A = true ∧ (boxLo A).1 - n ≤ (boxLo B).1 ∧ (boxLo A).2 - n ≤ (boxLo B).2 ∧ (boxHi B).1 ≤ (boxHi A).1 + n ∧ (boxHi B).2 ≤ (boxHi A).2 + n
  | 0, A, B, hg, h, hb => by
    simp only [timesO, Option.some.injEq] at h
    subst h
    exact ⟨hb, by omega, by omega, by omega, by omega⟩
  | n + 1, A, B, hg, h, hb => by
    simp only [timesO] at h
    cases e : nxtO A with
    | none => rw [e] at h; simp at h
    | some m =>
      rw [e] at h
      have hm := nxtO_good e
      obtain ⟨k1, k2, k3, k4, k5⟩ := times_box n m B hm h hb
      have hs := step_one hg
      have h1 : timesO 1 A = some m := by simp [timesO, e]
      rw [h1] at hs
      have hok : stepOk A = true := by
        cases hc : stepOk A
        · rw [hc] at hs; simp at hs
        · rfl
      rw [hok] at hs
      simp only [if_true, Option.some.injEq] at hs
      subst hs
      obtain ⟨j1, j2, j3, j4, j5⟩ := life_box hok k1
      refine ⟨j1, ?_, ?_, ?_, ?_⟩ <;> omega
theorem box_nil : boxOk [] = false := by simp [boxOk]
/-- Cells of one form: the one are the other, moved from corner to corner. -/
theorem home_same {A B : List Cl} (ha : good A = true) (hb : good B = true) (h : home A = home B) : B = mv A ((boxLo B).1 - (boxLo A).1) ((boxLo B).2 - (boxLo A).2) := by
  rw [home_good ha, home_good hb] at h
  have e : mv (mv A (-(boxLo A).1) (-(boxLo A).2)) (boxLo B).1 (boxLo B).2 = B := by
    rw [h, mv_two, show -(boxLo B).1 + (boxLo B).1 = 0 by omega, show -(boxLo B).2 + (boxLo B).2 = 0 by omega]
    simp [mv]
  rw [mv_two, show -(boxLo A).1 + (boxLo B).1 = (boxLo B).1 - (boxLo A).1 by omega, show -(boxLo A).2 + (boxLo B).2 = (boxLo B).2 - (boxLo A).2 by omega] at e
  exact e.symm
theorem box_no {A : List Cl} (hg : good A = true) (h : boxOk A = false) : A = [] := by
  simp only [boxOk, hg, Bool.true_and, decide_eq_false_iff_not, ne_eq, Classical.not_not] at h
  exact List.eq_nil_of_length_eq_zero h
/-- How far they have gone. -/
theorem far_le {A B : List Cl} {n : Nat} (ha : good A = true) (hb : good B = true) (ht : timesO n A = some B) (h : home A = home B) :
    (boxLo B).1 - (boxLo A).1 ≤ n ∧ -((boxLo B).1 - (boxLo A).1) ≤ n ∧ (boxLo B).2 - (boxLo A).2 ≤ n ∧ -((boxLo B).2 - (boxLo A).2) ≤ n := by
  have e := home_same ha hb h
  cases hB : boxOk B
  · have e1 := box_no hb hB
    subst e1
    have e2 : A = [] := by
      have := congrArg List.length e
      rw [mv_length] at this
      exact List.eq_nil_of_length_eq_zero this.symm
    subst e2
    refine ⟨?_, ?_, ?_, ?_⟩ <;> omega
  · obtain ⟨hA, k1, k2, k3, k4⟩ := times_box n A B ha ht hB
    obtain ⟨-, -, -, ⟨c, m1, e1⟩, ⟨d, m2, e2⟩⟩ := box_in hA
    obtain ⟨hin, -⟩ := box_in hB
    generalize hx : (boxLo B).1 - (boxLo A).1 = x at *
    generalize hy : (boxLo B).2 - (boxLo A).2 = y at *
    have p1 : sh x y c ∈ B := by rw [e]; exact mem_mv.2 m1
    have p2 : sh x y d ∈ B := by rw [e]; exact mem_mv.2 m2
    have q1 := hin _ p1
    have q2 := hin _ p2
    simp only [sh] at q1 q2
    refine ⟨?_, ?_, ?_, ?_⟩ <;> omega
/-- FateOf's numbers. -/
theorem fat_is {H : List (List Cl)} (h : ftK H = true) : ∃ a b, a < b ∧ b < H.length ∧ home (ht H a) = home (ht H b) ∧ ftV H 0 = (a : Int) ∧ ftV H 1 = (b : Int) - (a : Int) ∧ ftV H 2 = (boxLo (ht H b)).1 - (boxLo (ht H a)).1 ∧ ftV H 3 = (boxLo (ht H b)).2 - (boxLo (ht H a)).2 := by
  unfold ftK at h
  obtain ⟨b, eb⟩ := Option.isSome_iff_exists.1 h
  obtain ⟨h1, h2, -⟩ := fstAt_is eb
  obtain ⟨a, ea⟩ := Option.isSome_iff_exists.1 h2
  obtain ⟨h3, h4, -⟩ := fstAt_is ea
  simp only [decide_eq_true_eq] at h4
  refine ⟨a, b, h3, h1, h4, ?_, ?_, ?_, ?_⟩ <;> simp [ftV, eb, ea]
/-- What FnFates asks of a fate. -/
structure FatAll (l : List Cl) (a e x y : Int) : Prop where
  one : timesOk l a = true
  two : timesOk (timesL l a) e = true
  three : moveOk (timesL l a) x y = true
  same : moveL (timesL l a) x y = timesL (timesL l a) e
  e1 : 1 ≤ e
  e2 : e ≤ 20
  x1 : x ≤ e
  x2 : -x ≤ e
  y1 : y ≤ e
  y2 : -y ≤ e
  on : timesOk (timesL (timesL l a) e) e = true → moveOk (timesL (timesL l a) e) x y = true → timesL (timesL (timesL l a) e) e = moveL (timesL (timesL l a) e) x y
theorem fat_all {l : List Cl} {t : Int} (h : ftK (histG l t) = true) : FatAll l (ftV (histG l t) 0) (ftV (histG l t) 1) (ftV (histG l t) 2) (ftV (histG l t) 3) := by
  obtain ⟨a, b, hab, hb, hh, e0, e1, e2, e3⟩ := fat_is h
  have hg : good l = true ∧ inMo t = true := by
    cases hc : (good l && inMo t)
    · simp [histG, hc] at hb
    · simpa using hc
  have hG : histG l t = hist t.toNat l := by simp [histG, hg.1, hg.2]
  have hl := histG_len l t
  rw [e0, e1, e2, e3]
  rw [hG] at hb hh hl ⊢
  have ta := hist_times (n := t.toNat) (l := l) (k := a) (by omega)
  have tb := hist_times (n := t.toNat) (l := l) (k := b) hb
  generalize ht (hist t.toNat l) a = A at *
  generalize ht (hist t.toNat l) b = B at *
  have gA := timesO_good hg.1 ta
  have gB := timesO_good hg.1 tb
  obtain ⟨n, rfl⟩ : ∃ n, b = a + n := ⟨b - a, by omega⟩
  rw [times_add, ta] at tb
  replace tb : timesO n A = some B := tb
  rw [show ((a + n : Nat) : Int) - (a : Int) = (n : Int) by omega]
  obtain ⟨k1, k2⟩ := timesOk_mk (t := (a : Int)) hg.1 (by omega) (by omega) ta
  obtain ⟨k3, k4⟩ := timesOk_mk (t := (n : Int)) gA (by omega) (by omega) tb
  obtain ⟨f1, f2, f3, f4⟩ := far_le gA gB tb hh
  have hs := home_same gA gB hh
  generalize (boxLo B).1 - (boxLo A).1 = x at *
  generalize (boxLo B).2 - (boxLo A).2 = y at *
  obtain ⟨m1, m2⟩ := moveOk_mk (x := x) (y := y) gA (by simp [inM]; omega) (by simp [inM]; omega) (by rw [← hs]; exact gB)
  refine ⟨k1, by rw [k2]; exact k3, by rw [k2]; exact m1, by rw [k2, k4, m2]; exact hs.symm, by omega, by omega, f1, f2, f3, f4, ?_⟩
  rw [k2, k4]
  intro g1 g2
  obtain ⟨_, _, _, s, es, ess, gs⟩ := timesOk_parts g1
  obtain ⟨_, _, _, _, g3⟩ := moveOk_parts g2
  rw [ess, g3]
  rw [show ((n : Int)).toNat = n by omega] at es
  refine times_mv x y n A B s tb ?_
  rw [← hs]; exact es
/-- Cells moved home come back. -/
theorem home_back {l : List Cl} (h : homeOk l = true) : moveOk (homeL l) (homeC l).1 (homeC l).2 = true ∧ moveL (homeL l) (homeC l).1 (homeC l).2 = l := by
  have h' := h
  simp only [homeOk, Bool.and_eq_true] at h'
  have e1 : homeL l = home l := by simp [homeL, h]
  have e2 : homeC l = boxLo l := by simp [homeC, h]
  have hb := home_lo l
  have e3 : mv (home l) (boxLo l).1 (boxLo l).2 = l := by
    rw [home_good h'.1, mv_two, show -(boxLo l).1 + (boxLo l).1 = 0 by omega, show -(boxLo l).2 + (boxLo l).2 = 0 by omega]
    simp [mv]
  rw [e1, e2]
  obtain ⟨m1, m2⟩ := moveOk_mk (x := (boxLo l).1) (y := (boxLo l).2) h'.2 (by simp [inM]; omega) (by simp [inM]; omega) (by rw [e3]; exact h'.1)
  exact ⟨m1, by rw [m2, e3]⟩
end Go.Proofs.Ytgfdkolhldbehaa

namespace Go.Proofs.Ytgfdkolhldbehaa
open Go.RowKit
set_option linter.unusedVariables false
set_option linter.unusedSimpArgs false
attribute [local go_sem ↓] Go.wp_at_zero Go.wp_at_succ

theorem c_l6Same' (a b : Option Addr) (l m : List Cl) (ca cb : Nat) (v : Bool) (h : decide (l = m) = v) (w : World) (ha : Seg w a l) (hb : Seg w b m) (hl : l.length ≤ 1048576) (hm : m.length ≤ 1048576) :
    Calls Try.prog 63 #[.slice a l.length ca, .slice b m.length cb] w fun e w' => e = .returned (.bool v) ∧ Below w.heap.size w w' := by
  rw [← h]; exact c_l6Same a b l m ca cb w ha hb hl hm

set_option maxHeartbeats 4000000 in
set_option maxRecDepth 100000 in
theorem c_sFateOf (a : Option Addr) (l : List Cl) (ca : Nat) (t : Int) (w : World) (ha : Seg w a l) (hca : a = none → ca = 0) (hl : l.length ≤ 1048576) :
    Calls Try.prog 15 #[.slice a l.length ca, .int .i64 t] w fun e w' => e = .returned (.tuple #[.agg #[.int .i64 (ftV (histG l t) 0), .int .i64 (ftV (histG l t) 1), .int .i64 (ftV (histG l t) 2), .int .i64 (ftV (histG l t) 3)], .bool (ftK (histG l t))]) ∧ Below w.heap.size w w' := by
  have P0 := hid (FRow.new w 0 0 0 0)
  have B0 := hid ((Below.refl w.heap.size w).alloc (Nat.le_refl _) (.cells #[.int .i64 0, .int .i64 0, .int .i64 0, .int .i64 0] 27))
  have A0 := hid (ha.below B0.out)
  have HC := hid (c_l7Good a l ca t _ A0.out hl)
  have hlt0 : w.heap.size < (w.alloc (.cells #[.int .i64 0, .int .i64 0, .int .i64 0, .int .i64 0] 27)).heap.size := by simp
  clear ha
  cases hg : (good l && inMo t)
  · rw [hg] at HC
    have HV := hid (ft_none (H := histG l t) (fun b hb => by simp [histG, hg] at hb))
    go_enter Try.func15, Try.ntmps15
    go_wp2_with fail
    refine HC.out.mono ?_
    rintro e w1 ⟨rfl, b1⟩
    have R1 := hid (P0.out.below b1)
    have B1 := hid (B0.out.trans (b1.mono B0.out.size))
    have x0 := R1.out.cell 0 (by omega)
    have x1 := R1.out.cell 1 (by omega)
    have x2 := R1.out.cell 2 (by omega)
    have x3 := R1.out.cell 3 (by omega)
    have f0 := R1.out.fr 0
    have f1 := R1.out.fr 1
    have f2 := R1.out.fr 2
    have f3 := R1.out.fr 3
    clear HC b1 P0 B0 A0
    go_wp2_with fail
    have RZ := hid (R1.out.put (fun _ => 0))
    have v0 := RZ.out.cell 0 (by omega)
    have v1 := RZ.out.cell 1 (by omega)
    have v2 := RZ.out.cell 2 (by omega)
    have v3 := RZ.out.cell 3 (by omega)
    refine bodyPost_ret (v := .tuple #[.agg #[.int .i64 0, .int .i64 0, .int .i64 0, .int .i64 0], .bool false]) (by simp [results, Try.results15, go_sem, v0, v1, v2, v3]) rfl ⟨by rw [HV.out.1, HV.out.2 0, HV.out.2 1, HV.out.2 2, HV.out.2 3], ?_⟩
    exact below_set4 B1.out (Nat.le_refl _) (fun _ => 0)
  · rw [hg] at HC
    rw [Bool.and_eq_true] at hg
    obtain ⟨T, rfl⟩ : ∃ T : Nat, t = (T : Int) := ⟨t.toNat, by have := inMo_bd hg.2; omega⟩
    have htb := inMo_bd hg.2
    have HH := hid (show histG l (T : Int) = hist T l by simp [histG, hg])
    have HGD := hid (fun i (hi : i < (hist T l).length) => hist_good hg.1 _ (ht_in hi))
    have hhl := hist_le T l
    have HGL := hid hg.1
    rw [HH.out]
    clear hg HH
    have HCL := hid (fun (w1 : World) (h : Seg w1 a l) => c_l7History a l ca T w1 h hca HGL.out (by omega))
    have HN := hid (fun (h : ∀ b, b < (hist T l).length → ∀ a, a < b → ¬ home (ht (hist T l) a) = home (ht (hist T l) b)) => ft_none h)
    have HS := hid (fun (a b : Nat) => ft_some (H := hist T l) (a := a) (b := b))
    generalize hist T l = H at *
    generalize ftK H = fk at *
    generalize ftV H = fv at *
    go_enter Try.func15, Try.ntmps15
    go_wp2_with fail
    refine HC.out.mono ?_
    rintro e w1 ⟨rfl, b1⟩
    have R1 := hid (P0.out.below b1)
    have A1 := hid (A0.out.below b1)
    have B1 := hid (B0.out.trans (b1.mono B0.out.size))
    clear b1 HC P0 B0 A0
    go_wp2_with fail
    refine (HCL.out w1 A1.out).mono ?_
    rintro e w2 ⟨v, vs, rfl, hO, b2⟩
    obtain ⟨a2, c2, rfl, s2, _⟩ := hO.form
    have O2 := hid hO
    have R2 := hid (R1.out.below b2)
    have B2 := hid (B1.out.trans (b2.mono B1.out.size))
    clear hO s2 b2 A1 B1 R1 HGL HCL
    go_wp2_with fail
    go_loopw [21] (fun iv wr => ∃ i : Nat, i ≤ H.length ∧ iv = .int .i64 (i : Int) ∧ Hid (∀ b, b < i → ∀ a, a < b → ¬ home (ht H a) = home (ht H b)) ∧ Hid (Below w2.heap.size w2 wr)) (fun iv _ => H.length - (intOf iv).toNat)
    case atStart => exact ⟨0, Nat.zero_le _, rfl, (fun b hb => absurd hb (Nat.not_lt_zero _)), Below.refl _ _⟩
    case round =>
      obtain ⟨i, hi, rfl, hI, hbel⟩ := hrel
      by_cases hlt : i < H.length
      · have i0 : (0 : Int) ≤ (i : Int) := by omega
        have i1 : (i : Int) < (H.length : Int) := by omega
        rename World => wo
        go_wp2_with fail
        go_loopw [8] (fun jv wr => ∃ j : Nat, j ≤ i ∧ jv = .int .i64 (j : Int) ∧ Hid (∀ a, a < j → ¬ home (ht H a) = home (ht H i)) ∧ Hid (Below w2.heap.size w2 wr)) (fun jv _ => i - (intOf jv).toNat)
        case atStart => exact ⟨0, Nat.zero_le _, rfl, (fun b hb => absurd hb (Nat.not_lt_zero _)), hbel.out⟩
        case round =>
          clear hbel
          obtain ⟨j, hj, rfl, hJ, hbel⟩ := hrel
          by_cases hjt : j < i
          · have j0 : (0 : Int) ≤ (j : Int) := by omega
            have j1 : (j : Int) < (i : Int) := by omega
            have j2 : (j : Int) < (H.length : Int) := by omega
            obtain ⟨g, a3, c3, e1, -, hg3, e3, p3⟩ := (O2.out.below hbel.out).at (j := j) (by omega)
            obtain ⟨g', a4, c4, e2, -, hg4, e4, p4⟩ := (O2.out.below hbel.out).at (j := i) hlt
            have s3 := (O2.out.below hbel.out).each j (by omega)
            rw [e3] at s3
            have s4 := (O2.out.below hbel.out).each i hlt
            rw [e4] at s4
            subst e1
            simp only [Option.some.injEq, Addr.mk.injEq, and_true] at e2
            subst e2
            have D := hid ((Below.refl wr.heap.size wr).drew)
            have S3 := hid (s3.seg.below D.out)
            have S4 := hid (s4.seg.below D.out)
            have hx3 := good_le (HGD.out j (by omega))
            have hx4 := good_le (HGD.out i hlt)
            have hl3 := home_le (ht H j)
            have hl4 := home_le (ht H i)
            have S3w := hid s3.seg
            have S4w := hid s4.seg
            clear s3 s4 e3 e4 hg4
            cases hv : decide (home (ht H j) = home (ht H i))
            · have HQ := hid hv
              go_wp2_with fail
              go_region_held3 (fun W => W.cell? ⟨g, j, none⟩ = some (.slice a3 (ht H j).length c3) ∧ W.cell? ⟨g, i, none⟩ = some (.slice a4 (ht H i).length c4))
                (first | exact ⟨p3, p4⟩ | exact ⟨(E5.out.cell hg3).trans p3, (E5.out.cell hg3).trans p4⟩ | exact ⟨(E4.out.cell hg3).trans p3, (E4.out.cell hg3).trans p4⟩ | exact ⟨(E3.out.cell hg3).trans p3, (E3.out.cell hg3).trans p4⟩ | exact ⟨(D.out.cell hg3).trans p3, (D.out.cell hg3).trans p4⟩ | go_keep)
                (first
                  | (go_at_call 63; refine (c_l6Same' a5 a6 (home (ht H j)) (home (ht H i)) c5 c6 false HQ.out w4 T3.out T4.out (by omega) (by omega)).mono ?_; rintro e w5 ⟨rfl, b5⟩; have E5 := hid (E4.out.trans (b5.mono E4.out.size)))
                  | (go_at_call 64; have _g := T3.out; refine (c_l6Home a4 (ht H i) c4 w3 (S4.out.below (Below.mono E3'.out (Nat.le_refl _))) (by omega)).mono ?_; rintro e w4 ⟨v4, rfl, o4, b4⟩; obtain ⟨a6, c6, rfl, s6⟩ := o4.form; have T4 := hid s6; replace T3 := hid (T3.out.below b4); have E4 := hid (E3.out.trans (b4.mono E3.out.size)); clear o4 s6 b4)
                  | (go_at_call 64; refine (c_l6Home a3 (ht H j) c3 wr.drew S3.out (by omega)).mono ?_; rintro e w3 ⟨v3, rfl, o3, b3⟩; obtain ⟨a5, c5, rfl, s5⟩ := o3.form; have T3 := hid s5; have E3' := hid b3; have E3 := hid (D.out.trans (b3.mono D.out.size)); clear o3 s5 b3))
              have E6 := hid (hbel.out.trans (E5.out.mono hbel.out.size))
              clear p3 p4 b5 E5 E4 E3 E3' T3 T4 S3 S4 S3w S4w D
              go_wp2_with fail
              go_roundw
              case rel =>
                refine ⟨j + 1, by omega, by go_num, (fun a ha => ?_ : ∀ a, _ → _), E6.out⟩
                by_cases ej : a = j
                · subst ej; simpa using HQ.out
                · exact hJ.out a (by omega)
              case measure => simp [intOf]; omega
            · have HQ := hid hv
              go_wp2_with fail
              go_region_held3 (fun W => W.cell? ⟨g, j, none⟩ = some (.slice a3 (ht H j).length c3) ∧ W.cell? ⟨g, i, none⟩ = some (.slice a4 (ht H i).length c4))
                (first | exact ⟨p3, p4⟩ | exact ⟨(E5.out.cell hg3).trans p3, (E5.out.cell hg3).trans p4⟩ | exact ⟨(E4.out.cell hg3).trans p3, (E4.out.cell hg3).trans p4⟩ | exact ⟨(E3.out.cell hg3).trans p3, (E3.out.cell hg3).trans p4⟩ | exact ⟨(D.out.cell hg3).trans p3, (D.out.cell hg3).trans p4⟩ | go_keep)
                (first
                  | (go_at_call 63; refine (c_l6Same' a5 a6 (home (ht H j)) (home (ht H i)) c5 c6 true HQ.out w4 T3.out T4.out (by omega) (by omega)).mono ?_; rintro e w5 ⟨rfl, b5⟩; have E5 := hid (E4.out.trans (b5.mono E4.out.size)))
                  | (go_at_call 64; have _g := T3.out; refine (c_l6Home a4 (ht H i) c4 w3 (S4.out.below (Below.mono E3'.out (Nat.le_refl _))) (by omega)).mono ?_; rintro e w4 ⟨v4, rfl, o4, b4⟩; obtain ⟨a6, c6, rfl, s6⟩ := o4.form; have T4 := hid s6; replace T3 := hid (T3.out.below b4); have E4 := hid (E3.out.trans (b4.mono E3.out.size)); clear o4 s6 b4)
                  | (go_at_call 64; refine (c_l6Home a3 (ht H j) c3 wr.drew S3.out (by omega)).mono ?_; rintro e w3 ⟨v3, rfl, o3, b3⟩; obtain ⟨a5, c5, rfl, s5⟩ := o3.form; have T3 := hid s5; have E3' := hid b3; have E3 := hid (D.out.trans (b3.mono D.out.size)); clear o3 s5 b3))
              have E6 := hid (hbel.out.trans (E5.out.mono hbel.out.size))
              have hw5 := (show g < w5.heap.size from Nat.lt_of_lt_of_le hg3 E5.out.size)
              have q3 := (E5.out.cell (p := ⟨g, j, none⟩) hg3).trans p3
              have q4 := (E5.out.cell (p := ⟨g, i, none⟩) hg3).trans p4
              have S35 := hid (S3w.out.below E5.out)
              have S45 := hid (S4w.out.below E5.out)
              clear p3 p4 b5 E5 E4 E3 E3' T3 T4 S3 S4 S3w S4w D
              have HF := hid (HS.out j i hlt hjt (by simpa using HQ.out) hI.out hJ.out)
              have k3 := home_lo (ht H j)
              have k4 := home_lo (ht H i)
              go_wp2_with fail
              refine (c_l7Corner a3 (ht H j) c3 w5 S35.out (by omega)).mono ?_
              rintro e w6 ⟨rfl, b6⟩
              have q4' := (b6.cell (p := ⟨g, i, none⟩) hw5).trans q4
              have hw6 := Nat.lt_of_lt_of_le hw5 b6.size
              have S46 := hid (S45.out.below b6)
              have E7 := hid (E6.out.trans (b6.mono E6.out.size))
              clear b6 q3 q4 S35 S45 E6
              generalize boxLo (ht H j) = X at *
              have q5 := (((Below.refl w6.heap.size w6).alloc (Nat.le_refl _) (.cells #[.int .i64 X.1, .int .i64 X.2] 36)).cell (p := ⟨g, i, none⟩) hw6).trans q4'
              have P6 := hid (WRow.new w6 (.int .i64 X.1) X.2 36)
              have E8 := hid (E7.out.alloc E7.out.size (.cells #[.int .i64 X.1, .int .i64 X.2] 36))
              have S48 := hid (S46.out.below ((Below.refl w6.heap.size w6).alloc (Nat.le_refl _) (.cells #[.int .i64 X.1, .int .i64 X.2] 36)))
              clear S46 E7 q4'
              go_wp2_with fail
              refine (c_l7Corner a4 (ht H i) c4 _ S48.out (by omega)).mono ?_
              rintro e w7 ⟨rfl, b7⟩
              have P7 := hid (P6.out.below b7)
              have E9 := hid (E8.out.trans (b7.mono E8.out.size))
              clear P6 E8 S48 b7 q5 HGD
              generalize boxLo (ht H i) = Y at *
              have P8 := hid (P7.out.below ((Below.refl w7.heap.size w7).alloc (Nat.le_refl _) (.cells #[.int .i64 Y.1, .int .i64 Y.2] 36)))
              have Q8 := hid (WRow.new w7 (.int .i64 Y.1) Y.2 36)
              have E10 := hid (E9.out.alloc E9.out.size (.cells #[.int .i64 Y.1, .int .i64 Y.2] 36))
              have RA := hid (R2.out.below E10.out)
              have BA := hid (B2.out.trans (E10.out.mono B2.out.size))
              have y0 := P8.out.c0
              have y1 := P8.out.c1
              have z0 := Q8.out.c0
              have z1 := Q8.out.c1
              have f0 := RA.out.fr 0
              have f1 := RA.out.fr 1
              have f2 := RA.out.fr 2
              have f3 := RA.out.fr 3
              have x0 := RA.out.cell 0 (by omega)
              have x1 := RA.out.cell 1 (by omega)
              have x2 := RA.out.cell 2 (by omega)
              have x3 := RA.out.cell 3 (by omega)
              go_wp2_with fail
              have RZ := hid (RA.out.put (fun k => if k = 0 then (j : Int) else if k = 1 then (i : Int) - (j : Int) else if k = 2 then Y.1 - X.1 else Y.2 - X.2))
              have v0 := RZ.out.cell 0 (by omega)
              have v1 := RZ.out.cell 1 (by omega)
              have v2 := RZ.out.cell 2 (by omega)
              have v3 := RZ.out.cell 3 (by omega)
              simp only [reduceIte, Nat.reduceEqDiff] at v0 v1 v2 v3
              refine bodyPost_ret (v := .tuple #[.agg #[.int .i64 (j : Int), .int .i64 ((i : Int) - (j : Int)), .int .i64 (Y.1 - X.1), .int .i64 (Y.2 - X.2)], .bool true]) (by simp [results, Try.results15, go_sem, v0, v1, v2, v3]) rfl ⟨by rw [HF.out.1, HF.out.2.1, HF.out.2.2.1, HF.out.2.2.2.1, HF.out.2.2.2.2], ?_⟩
              exact below_set4 BA.out (Nat.le_refl _) (fun k => if k = 0 then (j : Int) else if k = 1 then (i : Int) - (j : Int) else if k = 2 then Y.1 - X.1 else Y.2 - X.2)
          · have hji : j = i := by omega
            subst hji
            go_wp2_with fail
            go_roundw
            case rel =>
              refine ⟨j + 1, by omega, by go_num, (fun b hb => ?_ : ∀ b, _ → _), hbel.out⟩
              by_cases ej : b = j
              · subst ej; exact hJ.out
              · exact hI.out b (by omega)
            case measure => simp [intOf]; omega
      · have hie : i = H.length := by omega
        subst hie
        have HF := hid (HN.out hI.out)
        have BB := hid (B2.out.trans (hbel.out.mono B2.out.size))
        have R3 := hid (R2.out.below hbel.out)
        have x0 := R3.out.cell 0 (by omega)
        have x1 := R3.out.cell 1 (by omega)
        have x2 := R3.out.cell 2 (by omega)
        have x3 := R3.out.cell 3 (by omega)
        have f0 := R3.out.fr 0
        have f1 := R3.out.fr 1
        have f2 := R3.out.fr 2
        have f3 := R3.out.fr 3
        go_wp2_with fail
        have RZ := hid (R3.out.put (fun _ => 0))
        have v0 := RZ.out.cell 0 (by omega)
        have v1 := RZ.out.cell 1 (by omega)
        have v2 := RZ.out.cell 2 (by omega)
        have v3 := RZ.out.cell 3 (by omega)
        refine bodyPost_ret (v := .tuple #[.agg #[.int .i64 0, .int .i64 0, .int .i64 0, .int .i64 0], .bool false]) (by simp [results, Try.results15, go_sem, v0, v1, v2, v3]) rfl ⟨by rw [HF.out.1, HF.out.2 0, HF.out.2 1, HF.out.2 2, HF.out.2 3], ?_⟩
        exact below_set4 BB.out (Nat.le_refl _) (fun _ => 0)
end Go.Proofs.Ytgfdkolhldbehaa

namespace Go.Proofs.Ytgfdkolhldbehaa
open Go.RowKit
set_option linter.unusedVariables false
set_option linter.unusedSimpArgs false

/-- A sight, as the values that it consists of. -/
def sgt (l : List Cl) : Array Value := pic (home l) ++ #[.int .i64 (boxLo l).1, .int .i64 (boxLo l).2]
theorem sgt_size {l : List Cl} (hl : l.length ≤ 120) : (sgt l).size = 243 := by
  have := home_le l
  rw [sgt, Array.size_append, pic_size (by omega)]; rfl

theorem zsight_size : Try.zeroCells75.size = 243 := by
  have : Try.zeroCells75.toList = List.replicate 243 (.int .i64 0) := by kernel_rfl
  have := congrArg List.length this
  rw [List.length_replicate, Array.length_toList] at this
  exact this
theorem info_sight : (Try.prog.info? 75).map (·.size) = some 243 := by kernel_rfl
theorem sgt_one (l : List Cl) : ∀ v ∈ (sgt l).toList, v.oneCell' = true := by
  intro v hv
  simp only [sgt, Array.toList_append, List.mem_append, pic, List.mem_cons, List.not_mem_nil, or_false] at hv
  rcases hv with h | rfl | rfl
  · exact picL_one _ v h
  · rfl
  · rfl

/-- Values laid one behind another into a row. -/
theorem foldl_place (off : Nat) : ∀ (vs : List Value) (n : Nat) (cs : Array Value), off + n + vs.length ≤ cs.size →
    ((vs.zipIdx n).foldl (fun (c : Array Value) (p : Value × Nat) => c.setIfInBounds (off + p.2) p.1) cs).toList = cs.toList.take (off + n) ++ vs ++ cs.toList.drop (off + n + vs.length)
  | [], n, cs, _ => by simp
  | v :: vs, n, cs, h => by
    simp only [List.length_cons] at h
    have hc : off + n < cs.toList.length := by rw [Array.length_toList]; omega
    have ih := foldl_place off vs (n + 1) (cs.setIfInBounds (off + n) v) (by rw [Array.size_setIfInBounds]; omega)
    rw [List.zipIdx_cons, List.foldl_cons]
    dsimp only
    rw [ih, Array.toList_setIfInBounds, List.length_cons]
    have e1 : (cs.toList.set (off + n) v).take (off + (n + 1)) = cs.toList.take (off + n) ++ [v] := by
      rw [show off + (n + 1) = off + n + 1 by omega, List.take_set, List.take_add_one, List.getElem?_eq_getElem hc]
      apply List.ext_getElem?
      intro i
      rw [List.getElem?_set]
      by_cases hi : off + n = i
      · subst hi
        have hk : min (off + n) cs.toList.length = off + n := Nat.min_eq_left (Nat.le_of_lt hc)
        rw [if_pos rfl, if_pos (by rw [List.length_append, List.length_take, hk]; simp), List.getElem?_append_right (by rw [List.length_take, hk]; exact Nat.le_refl _), List.length_take, hk, Nat.sub_self]; rfl
      · rw [if_neg hi]
        by_cases h2 : i < off + n
        · rw [List.getElem?_append_left (by simp; omega), List.getElem?_append_left (by simp; omega)]
        · rw [List.getElem?_eq_none (by simp; omega), List.getElem?_eq_none (by simp; omega)]
    have e2 : (cs.toList.set (off + n) v).drop (off + (n + 1) + vs.length) = cs.toList.drop (off + n + (vs.length + 1)) := by
      rw [List.drop_set_of_lt (by omega)]
      congr 1; omega
    rw [e1, e2]; simp
theorem two_places (cs X Y : Array Value) (m : Nat) (h : cs.size = X.size + Y.size) (hm : X.size = m) :
    Y.zipIdx.foldl (fun c p => c.setIfInBounds (m + p.2) p.1) (X.zipIdx.foldl (fun c p => c.setIfInBounds (0 + p.2) p.1) cs) = X ++ Y := by
  apply Array.ext'
  have hx := foldl_place 0 X.toList 0 cs (by simp; omega)
  have hs : (X.zipIdx.foldl (fun c p => c.setIfInBounds (0 + p.2) p.1) cs).toList = X.toList ++ cs.toList.drop X.size := by
    rw [← Array.foldl_toList, Array.toList_zipIdx]
    simpa using hx
  generalize X.zipIdx.foldl (fun c p => c.setIfInBounds (0 + p.2) p.1) cs = Z at hs ⊢
  have hz : Z.size = cs.size := by rw [← Array.length_toList, hs]; simp; omega
  have hy := foldl_place m Y.toList 0 Z (by simp; omega)
  rw [← Array.foldl_toList, Array.toList_zipIdx, hy, hs]
  subst hm
  simp
  omega
theorem fill_two (place : Nat → Option (Nat × Nat)) (cs X Y : Array Value) (m k : Nat) (h0 : place 0 = some (0, m)) (h1 : place 1 = some (m, k)) (hX : X.size = m) (hY : Y.size = k) (hc : cs.size = m + k) :
    Instr.fill place cs [(0, .agg X), (1, .agg Y)] = some (X ++ Y) := by
  have hv := two_places cs X Y m (by omega) hX
  have hf : (X.zipIdx.foldl (fun c p => c.setIfInBounds (0 + p.2) p.1) cs).size = m + k := by
    have hx := foldl_place 0 X.toList 0 cs (by simp; omega)
    rw [← Array.foldl_toList, Array.toList_zipIdx, ← Array.length_toList, hx]
    simp; omega
  have c1 : (Value.agg X).cells = X := rfl
  have c2 : (Value.agg Y).cells = Y := rfl
  rw [Instr.fill, h0]
  dsimp only
  rw [c1, if_neg (by simp; omega), Instr.fill, h1]
  dsimp only
  rw [c2, if_neg (by rw [hf]; simp; omega), Instr.fill, hv]
set_option maxRecDepth 100000 in
theorem run_sgt (w : World) (l : List Cl) (hl : l.length ≤ 120) :
    (Instr.build 75 #[(0, .agg (pic (home l))), (1, .agg #[.int .i64 (boxLo l).1, .int .i64 (boxLo l).2])]).run Try.prog w = .ok (.agg (sgt l)) w := by
  refine run_build w _ _ _ ?_
  have hle := home_le l
  have hps : (pic (home l)).size = 241 := pic_size (by omega)
  have hi : (Try.prog.info? 75).map (fun i => i.zero.map (·.cells)) = some (some Try.zeroCells75) := by kernel_rfl
  obtain ⟨it, z, h1, h2, h3⟩ : ∃ it z, Try.prog.info? 75 = some it ∧ it.zero = some z ∧ z.cells = Try.zeroCells75 := by
    cases h : Try.prog.info? 75 with
    | none => rw [h] at hi; cases hi
    | some it =>
      rw [h] at hi
      simp only [Option.map_some, Option.some.injEq] at hi
      cases h' : it.zero with
      | none => rw [h'] at hi; cases hi
      | some z => rw [h'] at hi; exact ⟨it, z, rfl, h', by simpa using hi⟩
  have hu : (match Try.prog.underlying 75 with | some (.struct fs) => fs.toList.mapM (fun f => (Try.prog.info? f.type).map fun i => (f.offset, i.size)) | _ => none) = some [(0, 241), (241, 2)] := by kernel_rfl
  rw [Try.underlying75] at hu
  dsimp only at hu
  have hz := zsight_size
  unfold Program.built
  rw [h1, Try.underlying75]
  dsimp only
  rw [h2, hu]
  dsimp only
  rw [h3]
  rw [sgt]
  generalize Try.zeroCells75 = zc at *
  exact fill_two _ zc (pic (home l)) _ 241 2 rfl rfl hps rfl hz

attribute [-go_sem] Instr.build
/-- A whole sight is laid into a row of its size. -/
theorem store_sgt (w : World) (g : Nat) (c : Array Value) (l : List Cl) (hl : l.length ≤ 120) (hg : w.heap[g]? = some (.cells c 75 (0, 0))) (hc : c.size = 243) :
    (storeCells ⟨g, 0, none⟩ (sgt l).toList 0).run Try.prog w = .ok () (w.setRow g (sgt l)) := by
  have := run_storeCells_at Try.prog g 0 75 (sgt l).toList 0 c w hg (by simp; rw [sgt_size hl, hc]; exact Nat.le_refl _) (sgt_one l)
  rw [this]
  congr 2
  have e : (sgt l).toList.length = 243 := by rw [Array.length_toList, sgt_size hl]
  rw [e, Nat.zero_add, Nat.zero_add, List.take_zero, List.nil_append, List.drop_of_length_le (by rw [Array.length_toList, hc]; exact Nat.le_refl _), List.append_nil, Array.toArray_toList]

set_option maxHeartbeats 4000000 in
set_option maxRecDepth 100000 in
theorem c_sightOf (a : Option Addr) (l : List Cl) (ca : Nat) (w : World) (ha : Seg w a l) (hg : good l = true) :
    Calls Try.prog 60 #[.slice a l.length ca] w fun e w' => e = .returned (.agg (sgt l)) ∧ Below w.heap.size w w' := by
  have hl := good_le hg
  have hle := home_le l
  have k0 := (Below.refl w.heap.size w).alloc (Nat.le_refl _) (.cells Try.zeroCells75 75)
  have hb0 := heap_alloc_last w (.cells Try.zeroCells75 75)
  have hsz0 : w.heap.size < (w.alloc (.cells Try.zeroCells75 75)).heap.size := by simp
  have HW := hid (c_homeward a l ca _ (ha.below k0) (by omega) hg)
  have HE : Hid (sgt l = pic (home l) ++ #[.int .i64 (boxLo l).1, .int .i64 (boxLo l).2]) := rfl
  have HP := hid (fun (a2 : Option Addr) (c2 : Nat) (W : World) (h : Seg W a2 (home l)) => c_pictureOf a2 (home l) c2 W h (by omega))
  have HS := hid (fun W c h1 h2 => store_sgt W w.heap.size c l hl h1 h2)
  have HZ := hid (sgt_size hl)
  have hbd := fun W => run_sgt W l hl
  have K0 := hid k0
  have B0 := hid hb0
  clear ha hg k0 hb0
  generalize sgt l = sl at *
  generalize pic (home l) = pl at *
  generalize boxLo l = lo at *
  go_enter Try.func60, Try.ntmps60
  go_wp2_with fail
  generalize w.alloc (.cells Try.zeroCells75 75) = W0 at *
  refine HW.out.mono ?_
  rintro e w1 ⟨v1, rfl, o1, b1⟩
  obtain ⟨a1, c1, rfl, s1⟩ := o1.form
  have B1 := hid ((b1.block _ hsz0).trans B0.out)
  have k1 := (Below.refl w1.heap.size w1).alloc (Nat.le_refl _) (.cells #[.int .i64 lo.1, .int .i64 lo.2] 36)
  have L1 := hid (WRow.new w1 (.int .i64 lo.1) lo.2 36)
  have S1 := hid (s1.below k1)
  have hsz1 : w.heap.size < w1.heap.size := Nat.lt_of_lt_of_le hsz0 b1.size
  have B2 := hid ((k1.block _ hsz1).trans B1.out)
  have K2 := hid (K0.out.trans ((b1.trans (k1.mono b1.size)).mono K0.out.size))
  have Z2 := hid (show w1.heap.size + 1 = (w1.alloc (.cells #[.int .i64 lo.1, .int .i64 lo.2] 36)).heap.size by simp)
  clear o1 s1 b1 k1 B1 K0 B0
  go_wp2_with fail
  generalize w1.alloc (.cells #[.int .i64 lo.1, .int .i64 lo.2] 36) = w2 at *
  have D := hid ((Below.refl w2.heap.size w2).drew)
  have LD := hid (L1.out.below D.out)
  have hne1 : ¬ w1.heap.size = w.heap.size := by omega
  have hsz2 : w.heap.size < w2.heap.size := by have := Z2.out; omega
  have y0 := L1.out.c0
  have y1 := L1.out.c1
  have SD := hid (S1.out.below D.out)
  go_region_held3 (fun W => W.cell? ⟨w1.heap.size, 0, none⟩ = some (.int .i64 lo.1) ∧ W.cell? ⟨w1.heap.size, 1, none⟩ = some (.int .i64 lo.2))
    (first | exact ⟨y0, y1⟩ | exact ⟨(LD.out.below b3).c0, (LD.out.below b3).c1⟩ | exact ⟨LD.out.c0, LD.out.c1⟩ | exact ⟨(cell_setRow_other _ _ _ _ hne1).trans (LD.out.below b3).c0, (cell_setRow_other _ _ _ _ hne1).trans (LD.out.below b3).c1⟩ | go_keep)
    (first | (go_at_call 112; refine (HP.out a1 c1 w2.drew SD.out).mono ?_; rintro e w3 ⟨rfl, b3⟩; have B3 := hid ((b3.block _ hsz2).trans ((D.out.block _ hsz2).trans B2.out)); have hst := HS.out w3 _ B3.out zsight_size; have K3 := hid (K2.out.trans ((D.out.trans (b3.mono D.out.size)).mono K2.out.size))))
  have HR : Hid ((w3.setRow w.heap.size sl).heap[w.heap.size]? = some (.cells sl 75 (0, 0))) := hid (setRow_heap _ _ _ _ _ _ B3.out)
  have HB := hid (below_setRow K3.out (Nat.le_refl _) sl)
  go_wp2_with fail
  refine bodyPost_ret (v := .agg sl) ?_ rfl ⟨rfl, HB.out⟩
  exact results_cell_row rfl _ _ w.heap.size 75 sl (0, 0) _ rfl HR.out Try.underlying75 rfl (by rw [HZ.out]; exact info_sight)
end Go.Proofs.Ytgfdkolhldbehaa

namespace Go.Proofs.Ytgfdkolhldbehaa
open Go.RowKit Go.Shelf
set_option linter.unusedVariables false
set_option linter.unusedSimpArgs false
attribute [local go_sem] Oper.semAt_some
attribute [-go_sem] Instr.buildSlice

/-- Sights that a slice of the maker's own holds. -/
def flatG (L : List (List Cl)) : List Value := L.flatMap fun l => (sgt l).toList
def OwnG (w : World) (base : Nat) (v : Value) (L : List (List Cl)) : Prop := w.ownsRow base 75 243 v L.length (flatG L)
theorem OwnG.nil (w : World) (base : Nat) : OwnG w base (.slice none 0 0) [] := World.ownsRow_nil w base 75 243
theorem OwnG.below {w w' : World} {base : Nat} {v : Value} {l : List (List Cl)} (h : OwnG w base v l) (hb : Below w.heap.size w w') : OwnG w' base v l :=
  World.ownsRow.kept h (grown_of_below hb none) (by cases v.ownBlock <;> simp)
theorem OwnG.other {w w' : World} {base : Nat} {v : Value} {l : List (List Cl)} {row : Option Nat} (h : OwnG w base v l) (hg : w.grownBy w' row) (hr : ∀ r, row = some r → ∃ o : Obj, w.heap[r]? = some o ∧ o.isCells = false) : OwnG w' base v l := by
  refine World.ownsRow.kept h hg ?_
  rcases h.2 with ⟨rfl, _⟩ | ⟨g, cap, cur, rfl, _, hgb, _⟩
  · exact .inl rfl
  · refine .inr fun e => ?_
    obtain ⟨o, ho, hc⟩ := hr g e.symm
    rw [hgb] at ho; cases ho; cases hc
theorem frow_other {W W' : World} {row : Option Nat} {B : Nat} {f : Nat → Int} (h : FRow W B f) (hg : W.grownBy W' row) (hr : ∀ r, row = some r → ∃ o : Obj, W.heap[r]? = some o ∧ o.isCells = false) : FRow W' B f :=
  World.rowIs.of_block h (hg.block _ h.lt (fun e => by
    obtain ⟨o, ho, hc⟩ := hr B e.symm
    obtain ⟨cs, h1, h2⟩ := h
    rw [h1] at ho; cases ho; cases hc))

theorem frow_new0 (w : World) : FRow (w.alloc (.cells #[.int .i64 0, .int .i64 0, .int .i64 0, .int .i64 0] 27)) w.heap.size (fun _ => 0) :=
  (FRow.new w 0 0 0 0).congr fun i hi => by
    rcases (show i = 0 ∨ i = 1 ∨ i = 2 ∨ i = 3 by omega) with rfl | rfl | rfl | rfl <;> rfl
theorem frow_set {W : World} {B b o : Nat} {f : Nat → Int} {v : Value} (h : FRow W B f) (hne : B ≠ b) : FRow (W.setCell ⟨b, o, none⟩ v) B f := World.rowIs.setOther h (a := ⟨b, o, none⟩) hne v
theorem boxed_at {W : World} {B b o : Nat} {t : TypeId} {v u : Value} (h : Boxed W B t v) (hne : B ≠ b) : Boxed (W.setCell ⟨b, o, none⟩ u) B t v := (Below.heap_setCell W ⟨b, o, none⟩ u B hne).trans h
theorem boxed_set4 {W : World} {B b : Nat} {t : TypeId} {v : Value} (h : Boxed W B t v) (hne : B ≠ b) (g : Nat → Int) :
    Boxed ((((W.setCell ⟨b, 0, none⟩ (.int .i64 (g 0))).setCell ⟨b, 1, none⟩ (.int .i64 (g 1))).setCell ⟨b, 2, none⟩ (.int .i64 (g 2))).setCell ⟨b, 3, none⟩ (.int .i64 (g 3))) B t v :=
  boxed_at (boxed_at (boxed_at (boxed_at h hne) hne) hne) hne

theorem flatG_len : ∀ (L : List (List Cl)), (∀ x ∈ L, x.length ≤ 120) → (flatG L).length = L.length * 243
  | [], _ => rfl
  | x :: L, h => by
    have ih := flatG_len L (fun y hy => h y (by simp [hy]))
    have hx : (sgt x).toList.length = 243 := by rw [Array.length_toList, sgt_size (h x (by simp))]
    show ((sgt x).toList ++ flatG L).length = _
    rw [List.length_append, hx, ih, List.length_cons]; omega
theorem flatG_at : ∀ (L : List (List Cl)), (∀ x ∈ L, x.length ≤ 120) → ∀ i, i < L.length → ∀ j, j < 243 → (flatG L)[i * 243 + j]? = (sgt (ht L i)).toList[j]?
  | [], _, i, hi, _, _ => absurd hi (Nat.not_lt_zero _)
  | x :: L, h, i, hi, j, hj => by
    have hx : (sgt x).toList.length = 243 := by rw [Array.length_toList, sgt_size (h x (by simp))]
    show ((sgt x).toList ++ flatG L)[i * 243 + j]? = _
    cases i with
    | zero =>
      rw [Nat.zero_mul, Nat.zero_add, List.getElem?_append_left (by omega)]; rfl
    | succ i =>
      rw [List.getElem?_append_right (by omega), hx, show (i + 1) * 243 + j - 243 = i * 243 + j by omega, flatG_at L (fun y hy => h y (by simp [hy])) i (by simpa using hi) j hj]
      rfl
theorem OwnG.form {w : World} {base : Nat} {v : Value} {L : List (List Cl)} (h : OwnG w base v L) (hL : ∀ x ∈ L, x.length ≤ 120) :
    ∃ aa c, v = .slice aa L.length c ∧ ∀ i, i < L.length → ∃ g, aa = some ⟨g, 0, none⟩ ∧ g < w.heap.size ∧ w.rangeAt g (i * 243) (sgt (ht L i)).toList := by
  rcases h.2 with ⟨rfl, h0⟩ | ⟨g, cap, cur, rfl, hb, hg, h1, h2, h3, h4⟩
  · exact ⟨none, 0, by rw [h0], fun i hi => by omega⟩
  · refine ⟨_, cap, rfl, fun i hi => ⟨g, rfl, (Array.getElem?_eq_some_iff.1 hg).1, fun j u hu => ?_⟩⟩
    have hs : (sgt (ht L i)).toList.length = 243 := by rw [Array.length_toList, sgt_size (hL _ (ht_in hi))]
    have hj : j < 243 := by have := (List.getElem?_eq_some_iff.1 hu).1; omega
    have hf := flatG_at L hL i hi j hj
    rw [hu, ← h4, List.getElem?_take_of_lt (by have : i * 243 + 243 ≤ L.length * 243 := by rw [← Nat.succ_mul]; exact Nat.mul_le_mul_right _ hi
                                               omega)] at hf
    show w.cell? _ = _
    rw [World.cell?, hg]
    simpa using hf
theorem OwnG.lt {w : World} {base : Nat} {v : Value} {L : List (List Cl)} (h : OwnG w base v L) : ∀ k, v.ownBlock = some k → base ≤ k ∧ k < w.heap.size := World.ownsRow.lt h

theorem sgt_list (m : List Cl) : (sgt m).toList = picL (home m) ++ [.int .i64 (boxLo m).1, .int .i64 (boxLo m).2] := by simp [sgt, pic]
/-- What lies in a row that is a sight. -/
theorem sgt_parts {W : World} {b : Nat} {m : List Cl} (hm : m.length ≤ 120) (hb : W.heap[b]? = some (.cells (sgt m) 75 (0, 0))) :
    (Instr.loadAt 75 (.pointer (some ⟨b, 0, none⟩))).run Try.prog W = .ok (.agg (sgt m)) W ∧
    (Instr.loadAt 73 (.pointer (some ⟨b, 0, none⟩))).run Try.prog W = .ok (.agg (pic (home m))) W ∧
    W.cell? ⟨b, 241, none⟩ = some (.int .i64 (boxLo m).1) ∧ W.cell? ⟨b, 242, none⟩ = some (.int .i64 (boxLo m).2) := by
  have hle := home_le m
  have hp : (picL (home m)).length = 241 := picL_length (by omega)
  have hc : ∀ j, W.cell? ⟨b, j, none⟩ = (picL (home m) ++ [.int .i64 (boxLo m).1, .int .i64 (boxLo m).2])[j]? := fun j => by
    rw [← sgt_list, World.cell?, hb]; simp
  refine ⟨?_, ?_, ?_, ?_⟩
  · have := run_loadAt_mid (P := Try.prog) W b 0 75 (sgt m).toList _ (fun j u hu => by rw [Nat.zero_add, hc, ← sgt_list]; exact hu) Try.underlying75 rfl (by rw [Array.length_toList, sgt_size hm]; exact info_sight)
    simpa using this
  · have := run_loadAt_mid (P := Try.prog) W b 0 73 (picL (home m)) _ (fun j u hu => by rw [Nat.zero_add, hc, List.getElem?_append_left (List.getElem?_eq_some_iff.1 hu).1]; exact hu) Try.underlying73 rfl (by rw [hp]; exact info_pic)
    exact this
  · rw [hc, List.getElem?_append_right (by omega), hp]; rfl
  · rw [hc, List.getElem?_append_right (by omega), hp]; rfl

theorem info_Sight : (Try.prog.info? 75).map (fun i => (i.zero, i.size, i.bytes)) = some (some (.agg Try.zeroCells75), 243, 1944) := by kernel_rfl
theorem fill_one (place : Nat → Option (Nat × Nat)) (cs X : Array Value) (m : Nat) (h0 : place 0 = some (0, m)) (hX : X.size = m) (hc : cs.size = m) : Instr.fill place cs [(0, .agg X)] = some X := by
  have c1 : (Value.agg X).cells = X := rfl
  rw [Instr.fill, h0]
  dsimp only
  rw [c1, if_neg (by simp; omega), Instr.fill]
  congr 1
  apply Array.ext'
  have hx := foldl_place 0 X.toList 0 cs (by simp; omega)
  rw [← Array.foldl_toList, Array.toList_zipIdx, hx]
  simp; omega
/-- A slice of one sight. -/
theorem run_one (W : World) (m : List Cl) (hm : m.length ≤ 120) : (Instr.buildSlice 67 1 #[(0, .agg (sgt m))]).run Try.prog W = .ok (.slice (some ⟨W.heap.size, 0, none⟩) 1 1) (W.alloc (.cells (sgt m) 75)) := by
  obtain ⟨ie, h1, h2, h3, h4⟩ := info_parts info_Sight
  have hs := sgt_size hm
  refine run_buildSlice W 67 75 1 _ (sgt m) ie _ Try.underlying67 h1 h2 (by rw [h3]; decide) (by rw [h3]; decide) ?_
  have c1 : (Value.agg (sgt m)).cells = sgt m := rfl
  rw [h3, fill_one _ _ _ 243 rfl hs (by simp)]

/-- A sight put behind those that a boxed variable holds: all that the round owes. -/
theorem appG {W w1 : World} {B base b c : Nat} {v v' : Value} {L : List (List Cl)} {m : List Cl} {tmp : Obj} (hx : Boxed W B 67 v) (hO : OwnG W base v L) (hBb : B < base) (hbb : b < base) (hcb : c < base) (hbB : b ≠ B) (hcB : c ≠ B) (hbz : b < W.heap.size) (hcz : c < W.heap.size)
    (hr : w1.ownsRow base 75 243 v' (L.length + 1) (flatG L ++ (sgt m).toList)) (hg : (W.alloc tmp).grownBy w1 v.ownBlock) :
    Boxed w1 B 67 v ∧ Boxed (w1.setCell ⟨B, 0, none⟩ v') B 67 v' ∧ OwnG (w1.setCell ⟨B, 0, none⟩ v') base v' (L ++ [m]) ∧ KeepsOthers W (w1.setCell ⟨B, 0, none⟩ v') ∧ hKp b c W (w1.setCell ⟨B, 0, none⟩ v') ∧
    (∀ n w, n ≤ B → n ≤ W.heap.size → Below n w W → Below n w (w1.setCell ⟨B, 0, none⟩ v')) ∧ (∀ k, k < base → k ≠ B → k < W.heap.size → (w1.setCell ⟨B, 0, none⟩ v').heap[k]? = W.heap[k]?) := by
  have hal : Below W.heap.size W (W.alloc tmp) := (Below.refl _ W).alloc (Nat.le_refl _) _
  have hlt := hO.lt
  have hrow : (W.alloc tmp).ownsRow base 75 243 v L.length (flatG L) := hO.below hal
  have z1 : Boxed w1 B 67 v := (hx.alloc tmp).kept hg (fun e => by have := hlt B e.symm; omega)
  have hs := grownBy_setCell' w1 B v'
  have hkk : ∀ k, k < base → k ≠ B → k < W.heap.size → (w1.setCell ⟨B, 0, none⟩ v').heap[k]? = W.heap[k]? := fun k h1 h2 h3 =>
    (Below.heap_setCell _ _ _ k h2).trans ((hg.block k (Nat.lt_of_lt_of_le h3 hal.size) (fun e => by have := hlt k e.symm; omega)).trans (hal.block k h3))
  refine ⟨z1, z1.set _, ?_, ?_, ?_, ?_, hkk⟩
  · have h2 : w1.ownsRow base 75 243 v' (L ++ [m]).length (flatG (L ++ [m])) := by
      rw [List.length_append, flatG, List.flatMap_append]; simpa [flatG] using hr
    exact World.ownsRow.kept h2 hs (.inr fun e => by have := (World.ownsRow.lt h2 B e).1; omega)
  · refine ((KeepsOthers.alloc W tmp).trans (KeepsOthers.of_grownBy hg fun j o ej hj => ?_)).trans (KeepsOthers.setCell _ _ _)
    rcases hrow.2 with ⟨rfl, _⟩ | ⟨g, cap, cur, rfl, _, hgb, _⟩
    · simp [Value.ownBlock] at ej
    · obtain rfl : g = j := by simpa [Value.ownBlock] using ej
      rw [hgb] at hj; cases hj; rfl
  · have hk1 : hKp b c W w1 := by
      refine ⟨Nat.le_trans hal.size hg.size, fun k cs f hk => ?_, ?_, ?_⟩
      · have hk2 : (W.alloc tmp).heap[k]? = some (Obj.cells cs 36 f) := (hal.block k (Array.getElem?_eq_some_iff.1 hk).1).trans hk
        refine (hg.block k (Array.getElem?_eq_some_iff.1 hk2).1 (fun e => ?_)).trans hk2
        rcases hrow.2 with ⟨rfl, _⟩ | ⟨g, cap, cur, rfl, _, hgb, _⟩
        · simp [Value.ownBlock] at e
        · obtain rfl : g = k := by simpa [Value.ownBlock] using e.symm
          rw [hgb] at hk2
          simp only [Option.some.injEq, Obj.cells.injEq] at hk2
          exact absurd hk2.2.1 (by decide)
      · exact (hg.block b (Nat.lt_of_lt_of_le hbz hal.size) (fun e => by have := hlt b e.symm; omega)).trans (hal.block b hbz)
      · exact (hg.block c (Nat.lt_of_lt_of_le hcz hal.size) (fun e => by have := hlt c e.symm; omega)).trans (hal.block c hcz)
    exact hk1.trans (hKp.set z1 (by decide) hbB hcB)
  · intro n w h1 h2 hB
    exact ((hB.trans (hal.mono h2)).grown hg (Nat.le_trans h2 hal.size) (fun k e => by have := hlt k e; omega)).setCell (p := ⟨B, 0, none⟩) h1 _

/-- A whole value is read. -/
theorem wpIn_load_at {F : Fence} {n : Nat} {P : Program} {o : Oper} {a : Act} {w : World} {K : Act → World → Prop} {Q : Exit → Act → World → Prop} {ty : TypeId} {x : Operand} (ho : o.op = .load ty x) {p v : Value} (hx : a.eval x = p)
    (h : (Instr.loadAt ty p).run P w = .ok v w) (hk : K (a.put o.dst v) w) : o.wpIn F n P a w K Q := by
  unfold Oper.wpIn
  refine ⟨by simp [Oper.about, ho], ?_⟩
  rw [Oper.semAt_plain F _ _ (by rw [ho]; intro c hc; cases hc)]
  simp [execOp, ho, hx, h, Result.andThen]
  exact hk

/-- A sight is laid into a variable that was made. -/
theorem st_sgt (W : World) (m : List Cl) (hm : m.length ≤ 120) :
    (storeCells ⟨W.heap.size, 0, none⟩ (sgt m).toList 0).run Try.prog (W.alloc (.cells Try.zeroCells75 75)) = .ok () (W.alloc (.cells (sgt m) 75)) :=
  run_storeCells_new (P := Try.prog) W 75 Try.zeroCells75 (sgt m) (by rw [sgt_size hm]; exact info_sight) (by rw [sgt_size hm, zsight_size]) (by rw [← Array.all_toList, List.all_eq_true]; exact fun v hv => sgt_one m v hv)

set_option maxHeartbeats 4000000 in
set_option maxRecDepth 100000 in
theorem c_iFateOf (a : Option Addr) (l : List Cl) (ca : Nat) (t : Int) (w : World) (ha : Seg w a l) (hca : a = none → ca = 0) (hl : l.length ≤ 1048576) :
    Calls Try.prog 14 #[.slice a l.length ca, .int .i64 t] w fun e w' => e = .returned (.tuple #[.agg #[.int .i64 (ftV (histG l t) 0), .int .i64 (ftV (histG l t) 1), .int .i64 (ftV (histG l t) 2), .int .i64 (ftV (histG l t) 3)], .bool (ftK (histG l t))]) ∧ Below w.heap.size w w' := by
  have HM := hid (fun W => c_isMost t W)
  have HS := hid (fun W => c_stepsOf a l.length ca t W)
  cases hm : inMo t
  · rw [hm] at HM
    have HV := hid (ft_none (H := histG l t) (fun b hb => by simp [histG, hm] at hb))
    have X2 := FRow.new w 0 0 0 0
    have X3 := Boxed.new (w.alloc (.cells #[.int .i64 0, .int .i64 0, .int .i64 0, .int .i64 0] 27)) 4 (.bool false)
    replace X2 := X2.below ((Below.refl _ _).alloc (Nat.le_refl _) (.cells #[.bool false] 4))
    have HB := ((Below.refl w.heap.size w).alloc (Nat.le_refl _) (.cells #[.int .i64 0, .int .i64 0, .int .i64 0, .int .i64 0] 27)).alloc (by simp) (.cells #[.bool false] 4)
    simp only [World.size_alloc] at X2 X3
    go_enter Try.func14, Try.ntmps14
    go_wp2_with fail
    refine (HM.out _).mono ?_
    rintro e w1 ⟨rfl, rfl⟩
    generalize (w.alloc (.cells #[.int .i64 0, .int .i64 0, .int .i64 0, .int .i64 0] 27)).alloc (.cells #[.bool false] 4) = W0 at *
    have x0 := X2.cell 0 (by omega)
    have x1 := X2.cell 1 (by omega)
    have x2 := X2.cell 2 (by omega)
    have x3 := X2.cell 3 (by omega)
    have f0 := X2.fr 0
    have f1 := X2.fr 1
    have f2 := X2.fr 2
    have f3 := X2.fr 3
    have hc3 := X3.cell
    have hf3 := X3.frozen
    go_wp2_with fail
    have RZ := frow_set (v := .bool false) (b := w.heap.size + 1) (o := 0) (X2.put (fun _ => 0)) (by omega)
    have v0 := RZ.cell 0 (by omega)
    have v1 := RZ.cell 1 (by omega)
    have v2 := RZ.cell 2 (by omega)
    have v3 := RZ.cell 3 (by omega)
    have X3' : Boxed ((((W0.setCell ⟨w.heap.size, 0, none⟩ (.int .i64 0)).setCell ⟨w.heap.size, 1, none⟩ (.int .i64 0)).setCell ⟨w.heap.size, 2, none⟩ (.int .i64 0)).setCell ⟨w.heap.size, 3, none⟩ (.int .i64 0)) (w.heap.size + 1) 4 (.bool false) := boxed_set4 X3 (by omega) (fun _ => 0)
    have v4 := (X3'.set (.bool false)).cell
    refine bodyPost_ret (v := .tuple #[.agg #[.int .i64 0, .int .i64 0, .int .i64 0, .int .i64 0], .bool false]) (by simp [results, Try.results14, go_sem, v0, v1, v2, v3, v4]) rfl ⟨by rw [HV.out.1, HV.out.2 0, HV.out.2 1, HV.out.2 2, HV.out.2 3], ?_⟩
    exact (below_set4 HB (Nat.le_refl _) (fun _ => 0)).setCell (p := ⟨w.heap.size + 1, 0, none⟩) (by simp) _
  · rw [hm] at HM
    have htb := inMo_bd hm
    obtain ⟨T, rfl⟩ : ∃ T : Nat, t = (T : Int) := ⟨t.toNat, by omega⟩
    have hT : T ≤ 20 := by omega
    refine (callsIn_wide (n := 5)).1 ?_
    refine callsIn_of_wp_marks Try.func14 rfl trivial ?_ rfl
    simp only [Try.ntmps14, List.size_toArray, List.length_cons, List.length_nil, Nat.reduceAdd, Nat.reduceSub, Array.replicate_succ, Array.replicate_zero, List.push_toArray, List.append_toArray, List.nil_append, List.cons_append]
    gi_wp2_with (first | (refine ⟨trivial, ?_⟩; gi_at_call 58; refine (callsIn_wide.2 (HM.out _)).mono ?_; rintro e w1 ⟨rfl, rfl⟩) | (refine ⟨trivial, ?_⟩; gi_at_call 59; refine (callsIn_wide.2 (HS.out _)).mono ?_; rintro e w1 ⟨rfl, rfl⟩))
    have X1 := frow_new0 w
    have X2 := Boxed.new (w.alloc (.cells #[.int .i64 0, .int .i64 0, .int .i64 0, .int .i64 0] 27)) 4 (.bool false)
    have X3 := Boxed.new ((w.alloc (.cells #[.int .i64 0, .int .i64 0, .int .i64 0, .int .i64 0] 27)).alloc (.cells #[.bool false] 4)) 67 (.slice none 0 0)
    have X4 := Boxed.new (((w.alloc (.cells #[.int .i64 0, .int .i64 0, .int .i64 0, .int .i64 0] 27)).alloc (.cells #[.bool false] 4)).alloc (.cells #[.slice none 0 0] 67)) 23 (.slice a l.length ca)
    have X5 := Boxed.new ((((w.alloc (.cells #[.int .i64 0, .int .i64 0, .int .i64 0, .int .i64 0] 27)).alloc (.cells #[.bool false] 4)).alloc (.cells #[.slice none 0 0] 67)).alloc (.cells #[.slice a l.length ca] 23)) 3 (.int .i64 (T : Int))
    replace X1 := (((X1.below ((Below.refl _ _).alloc (Nat.le_refl _) (.cells #[.bool false] 4))).below ((Below.refl _ _).alloc (Nat.le_refl _) (.cells #[.slice none 0 0] 67))).below ((Below.refl _ _).alloc (Nat.le_refl _) (.cells #[.slice a l.length ca] 23))).below ((Below.refl _ _).alloc (Nat.le_refl _) (.cells #[.int .i64 (T : Int)] 3))
    replace X2 := ((X2.alloc (.cells #[.slice none 0 0] 67)).alloc (.cells #[.slice a l.length ca] 23)).alloc (.cells #[.int .i64 (T : Int)] 3)
    replace X3 := (X3.alloc (.cells #[.slice a l.length ca] 23)).alloc (.cells #[.int .i64 (T : Int)] 3)
    replace X4 := X4.alloc (.cells #[.int .i64 (T : Int)] 3)
    have HB := ((((((Below.refl w.heap.size w).alloc (Nat.le_refl _) (.cells #[.int .i64 0, .int .i64 0, .int .i64 0, .int .i64 0] 27)).alloc (by simp) (.cells #[.bool false] 4)).alloc (by simp; omega) (.cells #[.slice none 0 0] 67)).alloc (by simp; omega) (.cells #[.slice a l.length ca] 23)).alloc (by simp; omega) (.cells #[.int .i64 (T : Int)] 3))
    simp only [World.size_alloc] at X2 X3 X4 X5
    have hsz : (((((w.alloc (.cells #[.int .i64 0, .int .i64 0, .int .i64 0, .int .i64 0] 27)).alloc (.cells #[.bool false] 4)).alloc (.cells #[.slice none 0 0] 67)).alloc (.cells #[.slice a l.length ca] 23)).alloc (.cells #[.int .i64 (T : Int)] 3)).heap.size = w.heap.size + 5 := by simp
    generalize ((((w.alloc (.cells #[.int .i64 0, .int .i64 0, .int .i64 0, .int .i64 0] 27)).alloc (.cells #[.bool false] 4)).alloc (.cells #[.slice none 0 0] 67)).alloc (.cells #[.slice a l.length ca] 23)).alloc (.cells #[.int .i64 (T : Int)] 3) = W0 at *
    have HA0 := hid (ha.below HB)
    have HN := hid (show (∀ b, b < (histG l (T : Int)).length → ∀ a, a < b → ¬ home (ht (histG l (T : Int)) a) = home (ht (histG l (T : Int)) b)) → _ from fun h => ft_none h)
    have HSM := hid (fun (a b : Nat) => ft_some (H := histG l (T : Int)) (a := a) (b := b))
    rw [← hFull_is hm] at HN HSM
    have HFI := hid (hFull_is (l := l) hm)
    have HFL := hid (show (hFull T l).length ≤ 21 by
      unfold hFull; split
      · have := hist_le T l; omega
      · simp)
    refine wpIn_rangeR rfl (by omega) (gf := 111) (lb := #[.pointer (some ⟨w.heap.size + 1 + 1 + 1, 0, none⟩), .pointer (some ⟨w.heap.size + 1 + 1 + 1 + 1, 0, none⟩)]) rfl trivial (enters_of Try.func111 (by kernel_rfl) rfl)
      (seq_steps 4 (w.heap.size + 1 + 1 + 1) (w.heap.size + 1 + 1 + 1 + 1) (by omega) a l ca T W0 hT HA0.out hca hl X4.cell (by omega) X5.cell (by omega))
      (fun h k => h.trans k) (hKp.other (by omega) (by omega)) (fun _ => rfl) (hIs.own _ _ _)
      (fun d W => (FRow W w.heap.size (fun _ => 0) ∧ Boxed W (w.heap.size + 1) 4 (.bool false) ∧ (∃ v, Boxed W (w.heap.size + 1 + 1) 67 v ∧ OwnG W W0.heap.size v (hLs d)) ∧ (∀ b, b < d.length → ∀ a, a < b → ¬ home (ht (hLs d) a) = home (ht (hLs d) b)) ∧ (∀ x ∈ hLs d, good x = true) ∧ w.heap.size + 5 ≤ W.heap.size) ∧ Below w.heap.size w W)
      (fun c d W => (c = .ret ∧ ftK (hFull T l) = true ∧ FRow W w.heap.size (ftV (hFull T l)) ∧ Boxed W (w.heap.size + 1) 4 (.bool true)) ∧ Below w.heap.size w W)
      (OwnFrom.and (fun s A B row hs hg hr => by obtain ⟨h1, h2, ⟨v, h3, h4⟩, h5, h6, h7⟩ := hs; exact ⟨frow_other h1 hg (fun r e => (hr r e).2), boxed_other h2 hg (fun r e => (hr r e).2), ⟨v, boxed_other h3 hg (fun r e => (hr r e).2), h4.other hg (fun r e => (hr r e).2)⟩, h5, h6, Nat.le_trans h7 hg.size⟩) (ownFrom_below (Nat.le_refl _) (by omega)))
      (fun c => OwnFrom.and (fun s A B row hs hg hr => by obtain ⟨e, k, h1, h2⟩ := hs; exact ⟨e, k, frow_other h1 hg (fun r e => (hr r e).2), boxed_other h2 hg (fun r e => (hr r e).2)⟩) (ownFrom_below (Nat.le_refl _) (by omega)))
      ⟨⟨X1, X2, ⟨_, X3, by simpa [hLs] using OwnG.nil W0 W0.heap.size⟩, (fun j hj => absurd hj (Nat.not_lt_zero _)), (fun x hx => by simp [hLs] at hx), by omega⟩, HB⟩
      (fun x => { tmps := #[.slice a l.length ca, .int .i64 (T : Int), undef, undef, .pointer (some ⟨w.heap.size, 0, none⟩), .pointer (some ⟨w.heap.size + 1, 0, none⟩), .pointer (some ⟨w.heap.size + 1 + 1, 0, none⟩), .int .i64 (x.1 : Int), x.2.1, undef, undef, undef, .int .i64 (T : Int), .bool true, .bool false, undef, .slice a l.length ca, .int .i64 (T : Int), .func (.func 111) #[] #[.pointer (some ⟨w.heap.size + 1 + 1 + 1, 0, none⟩), .pointer (some ⟨w.heap.size + 1 + 1 + 1 + 1, 0, none⟩)], .int .i64 (x.1 : Int), x.2.1, undef, undef, undef, undef, undef, undef, undef, undef, undef, undef, undef, undef, undef, undef, undef, undef, undef, undef, undef, undef, undef, undef, undef, undef, undef, undef, undef, undef, undef, undef, undef, undef, undef, undef, undef, undef, undef, undef, undef], defers := [] }) ?assign ?body ?done ?stop
    case assign =>
      intro L x W K hK
      simp only [hEnc]
      gi_wp2
      exact hK
    case body =>
      rintro L d ⟨k, v, m⟩ W ⟨⟨x1, x2, ⟨sv, x3, hO⟩, hN, hG, hz⟩, hB⟩ ⟨hk, hpre, hu, hgm, hap⟩
      simp only at hk hpre hu hgm
      subst hk
      obtain ⟨am, cm, rfl, sm⟩ := hu.form
      have SM := hid sm
      have CS := c_sightOf am m cm W SM.out hgm
      obtain ⟨sa, sc, rfl, hsv⟩ := hO.form (fun x hx => good_le (hG x hx))
      rw [hLs_length] at x3 hsv hO
      have hss := sgt_size (good_le hgm)
      have hlen := pre_le hpre
      rw [hLs_length, List.length_append] at hlen
      simp only [List.length_cons, List.length_nil] at hlen
      have hfl := HFL.out
      have hd21 : d.length ≤ 21 := by omega
      have HFd := hid (show ∀ j, j < d.length → ht (hFull T l) j = ht (hLs d) j from fun j hj => by
        rw [pre_ht hpre (by simp [hLs_length]; omega), hLs_snoc, pre_ht (List.prefix_append _ _) (by rw [hLs_length]; exact hj)])
      have HFm := hid (show ht (hFull T l) d.length = m by
        rw [pre_ht hpre (by simp [hLs_length]), hLs_snoc, ← hLs_length, ht_snoc _ (by omega), if_pos rfl])
      have HSD := hid (fun i (hi : i < d.length) => HSM.out i d.length (by omega) hi)
      have HNN := hid hN
      clear HSM hN hpre
      clear hap hu sm
      gi_wp2_with (refine ⟨trivial, ?_⟩; gi_at_call 60; refine (CallsIn.inRound L (callsIn_wide.2 CS)).mono ?_; rintro e w1 ⟨rfl, b1⟩; have hst := st_sgt w1 m (good_le hgm); have y3 := boxed_below (boxed_below x3 b1) ((Below.refl _ _).alloc (Nat.le_refl _) (.cells (sgt m) 75)); have hc3 := y3.cell)
      have k1 := (Below.refl w1.heap.size w1).alloc (Nat.le_refl _) (.cells (sgt m) 75)
      have hb1 := heap_alloc_last w1 (.cells (sgt m) 75)
      have hlt2 : w1.heap.size < (w1.alloc (.cells (sgt m) 75)).heap.size := by simp
      have K2 := hid (b1.trans (k1.mono b1.size))
      have hms := hid (good_le hgm)
      have HGM := hid hgm
      clear hst hc3 y3 k1 CS
      generalize w1.alloc (.cells (sgt m) 75) = w2 at *
      have HB1 := hid hb1
      have HSV := hid hsv
      have HO := hid hO
      clear hb1 hsv hO hgm
      gi_loopw [25] (fun iv wr => ∃ i : Nat, i ≤ d.length ∧ iv = .int .i64 (i : Int) ∧ Hid (∀ a, a < i → ¬ home (ht (hLs d) a) = home m) ∧ Hid (Below w2.heap.size w2 wr)) (fun iv _ => d.length - (intOf iv).toNat)
      case atStart => exact ⟨0, Nat.zero_le _, rfl, (fun b hb => absurd hb (Nat.not_lt_zero _)), Below.refl _ _⟩
      case round =>
        obtain ⟨i, hi, rfl, hJ, hbel⟩ := hrel
        by_cases hlt : i < d.length
        · have i0 : (0 : Int) ≤ (i : Int) := by omega
          have i1 : (i : Int) < (d.length : Int) := by omega
          obtain ⟨g, rfl, hg1, hg2⟩ := HSV.out i hlt
          have hxl := good_le (hG _ (ht_in (H := hLs d) (i := i) (by rw [hLs_length]; exact hlt)))
          have KR := hid (K2.out.trans (hbel.out.mono K2.out.size))
          have hxe : ∃ x, x = ht (hLs d) i := ⟨_, rfl⟩
          obtain ⟨x, hx⟩ := hxe
          rw [← hx] at hg2 hxl
          have HX := hid hx
          have hld1 : (Instr.loadAt 75 (.pointer (some ⟨g, i * 243, none⟩))).run Try.prog wr = .ok (.agg (sgt x)) wr := by
            have := run_loadAt_mid (P := Try.prog) wr g (i * 243) 75 (sgt x).toList _ (fun j u hu => (KR.out.cell hg1).trans (hg2 j u hu)) Try.underlying75 rfl (by rw [Array.length_toList, sgt_size hxl]; exact info_sight)
            simpa using this
          have hst2 := st_sgt wr x hxl
          have hsx := sgt_size hxl
          have hbx := heap_alloc_last wr (.cells (sgt x) 75)
          have kx := (Below.refl wr.heap.size wr).alloc (Nat.le_refl _) (.cells (sgt x) 75)
          have hlr : w1.heap.size < wr.heap.size := Nat.lt_of_lt_of_le hlt2 hbel.out.size
          have hb2 := (kx.block _ hlr).trans ((hbel.out.block _ hlt2).trans HB1.out)
          obtain ⟨-, p2, p3, p4⟩ := sgt_parts hxl hbx
          obtain ⟨-, q2, q3, q4⟩ := sgt_parts hms.out hb2
          have hhx := home_le x
          have hhm := home_le m
          have hmm := hms.out
          have hq : ∀ W, (Op.equalIn 10000 73 (.agg (pic (home x))) (.agg (pic (home m)))).run Try.prog W = .ok (decide (home x = home m)) W := fun W => eq_pic 9996 (home x) (home m) (by omega) (by omega) W
          have KX := hid (hbel.out.trans (kx.mono hbel.out.size))
          clear hg2 hbx hb2 hx
          cases he : decide (home x = home m)
          · rw [he] at hq
            have HE := hid he
            clear he
            gi_wp2_with (first | refine wpIn_load_at rfl rfl hld1 ?_ | refine wpIn_load_at rfl rfl p2 ?_ | refine wpIn_load_at rfl rfl q2 ?_)
            go_roundw
            case rel =>
              refine ⟨i + 1, by omega, by go_num, (fun a ha => ?_ : ∀ a, _ → _), KX.out⟩
              by_cases ej : a = i
              · subst ej; rw [← HX.out]; simpa using HE.out
              · exact hJ.out a (by omega)
            case measure => simp [intOf]; omega
          · rw [he] at hq
            have HE := hid he
            clear he
            have HFF := hid (HSD.out i hlt (by rw [HFd.out i hlt, HFm.out, ← HX.out]; simpa using HE.out) (fun b' hb a' ha => by rw [HFd.out b' hb, HFd.out a' (by omega)]; exact HNN.out b' hb a' ha) (fun a' ha => by rw [HFd.out a' (by omega), HFm.out]; exact hJ.out a' ha))
            rw [HFd.out i hlt, HFm.out, ← HX.out] at HFF
            have k3 := home_lo x
            have k4 := home_lo m
            have BA := hid (KR.out.trans (kx.mono KR.out.size))
            have RA := hid (x1.below BA.out)
            have XB := hid (boxed_below x2 BA.out)
            have BW := hid (hB.trans (BA.out.mono hB.size))
            have f0 := RA.out.fr 0
            have f1 := RA.out.fr 1
            have f2 := RA.out.fr 2
            have f3 := RA.out.fr 3
            have c0 := RA.out.cell 0 (by omega)
            have c1 := RA.out.cell 1 (by omega)
            have c2 := RA.out.cell 2 (by omega)
            have c3 := RA.out.cell 3 (by omega)
            have hcb := XB.out.cell
            have hfb := XB.out.frozen
            gi_wp2_with (first | refine wpIn_load_at rfl rfl hld1 ?_ | refine wpIn_load_at rfl rfl p2 ?_ | refine wpIn_load_at rfl rfl q2 ?_)
            have RZ := frow_set (v := .bool true) (b := w.heap.size + 1) (o := 0) (RA.out.put (fun k => if k = 0 then (i : Int) else if k = 1 then (d.length : Int) - (i : Int) else if k = 2 then (boxLo m).1 - (boxLo x).1 else (boxLo m).2 - (boxLo x).2)) (by omega)
            have XZ := (boxed_set4 XB.out (b := w.heap.size) (by omega) (fun k => if k = 0 then (i : Int) else if k = 1 then (d.length : Int) - (i : Int) else if k = 2 then (boxLo m).1 - (boxLo x).1 else (boxLo m).2 - (boxLo x).2)).set (.bool true)
            have BZ := (below_set4 BW.out (Nat.le_refl _) (fun k => if k = 0 then (i : Int) else if k = 1 then (d.length : Int) - (i : Int) else if k = 2 then (boxLo m).1 - (boxLo x).1 else (boxLo m).2 - (boxLo x).2)).setCell (p := ⟨w.heap.size + 1, 0, none⟩) (by simp) (.bool true)
            obtain ⟨e5, e0, e1, e2, e3⟩ := HFF.out
            have RY : FRow _ w.heap.size (ftV (hFull T l)) := RZ.congr fun k hk => by
              rcases (show k = 0 ∨ k = 1 ∨ k = 2 ∨ k = 3 by omega) with rfl | rfl | rfl | rfl
              · rw [e0]; rfl
              · rw [e1]; rfl
              · rw [e2]; rfl
              · rw [e3]; rfl
            have KZ := (keeps_below BA.out).trans ((((KeepsOthers.setCell (wr.alloc (.cells (sgt x) 75)) ⟨w.heap.size, 0, none⟩ (.int .i64 (i : Int))).trans (KeepsOthers.setCell _ ⟨w.heap.size, 1, none⟩ (.int .i64 ((d.length : Int) - (i : Int))))).trans (KeepsOthers.setCell _ ⟨w.heap.size, 2, none⟩ (.int .i64 ((boxLo m).1 - (boxLo x).1)))).trans (KeepsOthers.setCell _ ⟨w.heap.size, 3, none⟩ (.int .i64 ((boxLo m).2 - (boxLo x).2))) |>.trans (KeepsOthers.setCell _ ⟨w.heap.size + 1, 0, none⟩ (.bool true)))
            exact ⟨KZ, ⟨rfl, e5, RY, XZ⟩, BZ⟩
        · have hie : i = d.length := by omega
          subst hie
          have KR := hid (K2.out.trans (hbel.out.mono K2.out.size))
          have y3 := boxed_below x3 KR.out
          have hc3 := y3.cell
          have hmm := hms.out
          have hr1 := (sgt_parts hmm ((hbel.out.block _ hlt2).trans HB1.out)).1
          have hone := run_one wr m hmm
          have OR := hid (HO.out.below KR.out)
          have hnl : (sgt m).toList.length = 1 * 243 := by rw [Array.length_toList, hss]
          have hnc : ∀ j u, (sgt m).toList[j]? = some u → (wr.alloc (.cells (sgt m) 75)).cell? ((⟨wr.heap.size, 0, none⟩ : Addr).add j) = some u := fun j u hu => by
            rw [Addr.add_mid, World.cell?, Nat.zero_add, heap_alloc_last]; simpa using hu
          have hn1 := sgt_one m
          have kx := (Below.refl wr.heap.size wr).alloc (Nat.le_refl _) (.cells (sgt m) 75)
          have hows := OR.out.below kx
          obtain ⟨ix, hx0, hx1, hx2, hx3⟩ := info_parts info_Sight
          have hll := hLs_length d
          have hwr := hbel.out.size
          have hK2 := K2.out.size
          gi_wp2_with (first | refine wpIn_load_at rfl rfl hr1 ?_ | (gi_at_builtin; refine wpListIn_append_own _ rfl _ _ 67 rfl W0.heap.size 75 ix _ 243 1944 Try.underlying67 hx0 hx1 hx2 hx3 zsight_size (by decide) _ _ _ rfl hows ⟨wr.heap.size, 0, none⟩ 1 1 (sgt m).toList rfl hnl hnc hn1 (by rw [hll]; unfold maxLen; omega) (by rw [hll]; omega) (by simp; omega) ?_; intro v' w5 hown' hgrow _; have Q := hid (appG (b := w.heap.size + 1 + 1 + 1) (c := w.heap.size + 1 + 1 + 1 + 1) y3 OR.out (by omega) (by omega) (by omega) (by omega) (by omega) (by omega) (by omega) hown' hgrow); have q1 := Q.out.1; have hc2 := q1.cell; have hf2 := q1.frozen; obtain ⟨g', cap', rfl⟩ := ownsRow_succ hown'))
          obtain ⟨-, q2, q3, q4, q5, q6, q7⟩ := Q.out
          rw [hll] at q2 q3 q4 q5 q6 q7
          have HJ := hid hJ.out
          have hN' : ∀ b, b < (d ++ [(d.length, Value.slice am m.length cm, m)]).length → ∀ a, a < b → ¬ home (ht (hLs (d ++ [(d.length, Value.slice am m.length cm, m)])) a) = home (ht (hLs (d ++ [(d.length, Value.slice am m.length cm, m)])) b) := by
            intro b hb a hab
            simp only [List.length_append, List.length_cons, List.length_nil] at hb
            rw [hLs_snoc, ht_snoc a (by rw [hll]; omega), ht_snoc b (by rw [hll]; omega), hll, if_neg (by omega : ¬ a = d.length)]
            split
            · exact HJ.out a (by omega)
            · exact HNN.out b (by omega) a hab
          have hG' : ∀ x ∈ hLs (d ++ [(d.length, Value.slice am m.length cm, m)]), good x = true := by
            intro x hx
            rw [hLs_snoc, List.mem_append, List.mem_singleton] at hx
            rcases hx with h | rfl
            · exact hG x h
            · exact HGM.out
          have e1 := World.rowIs.of_block (x1.below KR.out) (q7 w.heap.size (by omega) (by omega) (by omega))
          have e2 := (q7 (w.heap.size + 1) (by omega) (by omega) (by omega)).trans (boxed_below x2 KR.out)
          have h9 := q4.size
          refine ⟨(keeps_below KR.out).trans q4, (hKp.below KR.out (by omega) (by omega)).trans q5, ⟨e1, e2, ⟨_, q2, ?_⟩, hN', hG', by omega⟩, q6 _ _ (by omega) (by omega) (hB.trans (KR.out.mono hB.size))⟩
          rw [hLs_snoc]
          exact q3
    case done =>
      rintro D ys W hD hS ⟨⟨x1, x2, ⟨sv, x3, hO⟩, hN, hG, hz⟩, hB⟩ hK
      have HV := hid (HN.out (by rw [← hS, hLs_length]; exact hN))
      rw [HFI.out] at HV
      have f0 := x1.fr 0
      have f1 := x1.fr 1
      have f2 := x1.fr 2
      have f3 := x1.fr 3
      have c0 := x1.cell 0 (by omega)
      have c1 := x1.cell 1 (by omega)
      have c2 := x1.cell 2 (by omega)
      have c3 := x1.cell 3 (by omega)
      have hcb := x2.cell
      have hfb := x2.frozen
      clear hN hG hO HN HSM
      gi_wp2
      have RZ := frow_set (v := .bool false) (b := w.heap.size + 1) (o := 0) (x1.put (fun _ => 0)) (by omega)
      have XZ := (boxed_set4 x2 (b := w.heap.size) (by omega) (fun _ => 0)).set (.bool false)
      have BZ := (below_set4 hB (Nat.le_refl _) (fun _ => 0)).setCell (p := ⟨w.heap.size + 1, 0, none⟩) (by simp) (.bool false)
      have KZ := (((((KeepsOthers.setCell W ⟨w.heap.size, 0, none⟩ (.int .i64 0)).trans (KeepsOthers.setCell _ ⟨w.heap.size, 1, none⟩ (.int .i64 0))).trans (KeepsOthers.setCell _ ⟨w.heap.size, 2, none⟩ (.int .i64 0))).trans (KeepsOthers.setCell _ ⟨w.heap.size, 3, none⟩ (.int .i64 0))).trans (KeepsOthers.setCell _ ⟨w.heap.size + 1, 0, none⟩ (.bool false))).same D _ hK rfl
      generalize ((((W.setCell ⟨w.heap.size, 0, none⟩ (.int .i64 0)).setCell ⟨w.heap.size, 1, none⟩ (.int .i64 0)).setCell ⟨w.heap.size, 2, none⟩ (.int .i64 0)).setCell ⟨w.heap.size, 3, none⟩ (.int .i64 0)).setCell ⟨w.heap.size + 1, 0, none⟩ (.bool false) = W5 at *
      refine ⟨by simp, .inl ⟨_, _, rfl, run_takeDeferred KZ, ?_⟩⟩
      have RD := frow_other RZ (grownBy_putObj' _ D (.deferred none)) (fun r e => by cases e; exact ⟨_, KZ, rfl⟩)
      have k0 := RD.cell 0 (by omega)
      have k1 := RD.cell 1 (by omega)
      have k2 := RD.cell 2 (by omega)
      have k3 := RD.cell 3 (by omega)
      have k4 := (boxed_other XZ (grownBy_putObj' _ D (.deferred none)) (fun r e => by cases e; exact ⟨_, KZ, rfl⟩)).cell
      refine ⟨.tuple #[.agg #[.int .i64 0, .int .i64 0, .int .i64 0, .int .i64 0], .bool false], ?_, by rw [HV.out.1, HV.out.2 0, HV.out.2 1, HV.out.2 2, HV.out.2 3], BZ.trans (belowK_b (w := w) (Nat.le_refl _) _ D _ _ (by omega) KZ rfl rfl)⟩
      simp [results, Try.results14, go_sem, k0, k1, k2, k3, k4]
    case stop =>
      rintro D c ys W hD hS ⟨⟨rfl, HF, x1, x2⟩, hB⟩ hK
      rw [HFI.out] at HF x1
      gi_wp2
      refine ⟨by simp, .inl ⟨_, _, rfl, run_takeDeferred hK, ?_⟩⟩
      have RD := frow_other x1 (grownBy_putObj' _ D (.deferred none)) (fun r e => by cases e; exact ⟨_, hK, rfl⟩)
      have k0 := RD.cell 0 (by omega)
      have k1 := RD.cell 1 (by omega)
      have k2 := RD.cell 2 (by omega)
      have k3 := RD.cell 3 (by omega)
      have k4 := (boxed_other x2 (grownBy_putObj' _ D (.deferred none)) (fun r e => by cases e; exact ⟨_, hK, rfl⟩)).cell
      refine ⟨.tuple #[.agg #[.int .i64 (ftV (histG l (T : Int)) 0), .int .i64 (ftV (histG l (T : Int)) 1), .int .i64 (ftV (histG l (T : Int)) 2), .int .i64 (ftV (histG l (T : Int)) 3)], .bool true], ?_, by rw [HF], hB.trans (belowK_b (w := w) (Nat.le_refl _) _ D _ _ (by omega) hK rfl rfl)⟩
      simp [results, Try.results14, go_sem, k0, k1, k2, k3, k4]
end Go.Proofs.Ytgfdkolhldbehaa
