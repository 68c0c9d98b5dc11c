/- Texts of this seat, one behind the other: WdF. -/
import Derived.Test.YtgppcocfnbalfaaDoorWd
namespace Go.Proofs.YtgppcocfnbalfaaDoor
open Go.RowKit
set_option linter.unusedVariables false
set_option linter.unusedSimpArgs false
attribute [local go_sem ↓] Go.wp_at_zero Go.wp_at_succ

theorem own_none {w : World} {base n cv : Nat} {av : Option Addr} {l : List Cl} (h : OwnS w base (.slice av n cv) l) : av = none → cv = 0 := by
  intro e
  subst e
  rcases h.2 with ⟨e, _⟩ | ⟨g, cap, cur, e, _⟩ <;> simp at e
  exact e.2
theorem nilW (w : World) (b : Nat) (base : Nat) (u v : Value) : OwnS ((w.setCell ⟨b, 0, none⟩ u).setCell ⟨b, 1, none⟩ v) base (.slice none 0 0) [] := OwnS.nil _ _
theorem ownW {w : World} {base b : Nat} {s : Value} {l : List Cl} (h : OwnS w base s l) (hb : b < base) (u v : Value) {base' : Nat} (h' : base' ≤ base) : OwnS ((w.setCell ⟨b, 0, none⟩ u).setCell ⟨b, 1, none⟩ v) base' s l :=
  ((h.other (fun k hk => by have := (h.lt k hk).1; omega) _).other (fun k hk => by have := (h.lt k hk).1; omega) _).mono h'
theorem belW {w W : World} {b : Nat} (h : Below w.heap.size w W) (hb : w.heap.size ≤ b) (u v : Value) : Below w.heap.size w ((W.setCell ⟨b, 0, none⟩ u).setCell ⟨b, 1, none⟩ v) :=
  (h.setCell (p := ⟨b, 0, none⟩) hb _).setCell (p := ⟨b, 1, none⟩) hb _

set_option maxHeartbeats 1000000 in
theorem c_sNewWorld (a : Option Addr) (l : List Cl) (ca : Nat) (w : World) (ha : Seg w a l) (hl : l.length ≤ 1048576) (hca : a = none → ca = 0) :
    Calls Tryd.prog 18 #[.slice a l.length ca] w fun e w' => ∃ v, e = .returned (.tuple #[.agg #[v, .int .i64 0], .bool (good l)]) ∧ OwnS w' w.heap.size v (tellV l) ∧ Below w.heap.size w w' := by
  have hb0 := (Below.refl w.heap.size w).alloc (Nat.le_refl _) (.cells #[.slice none 0 0, .int .i64 0] 25)
  have R0 := hid (WRow.new w (.slice none 0 0) 0 25)
  have S0 := hid (show (w.alloc (.cells #[.slice none 0 0, .int .i64 0] 25)).heap.size = w.heap.size + 1 by simp)
  have B0 := hid hb0
  have A0 := hid (ha.below hb0)
  clear ha hb0
  cases hg : good l
  · have HC := hid (fun W (h : Seg W a l) => c_sGood' a l ca false hg W h hl)
    have HV := hid (show tellV l = [] by simp [tellV, hg])
    go_enter Tryd.func18, Tryd.ntmps18
    go_wp2_with fail
    refine (HC.out _ A0.out).mono ?_
    rintro e w1 ⟨rfl, hb1⟩
    have RB := hid (R0.out.below hb1)
    have B1 := hid (B0.out.trans (hb1.mono B0.out.size))
    clear hb1 R0 A0 HC
    have f0 := RB.out.fr 0
    have f1 := RB.out.fr 1
    have d0 := RB.out.c0
    have d1 := RB.out.c1
    have PP := hid (RB.out.put (.slice none 0 0) (0))
    have p0 := hid PP.out.c0
    have p1 := hid PP.out.c1
    go_wp2
    exact bodyPost_ret (v := .tuple #[.agg #[.slice none 0 0, .int .i64 (0)], .bool false]) (by simp [results, Tryd.results18, go_sem, p0.out, p1.out]) rfl ⟨_, rfl, by rw [HV.out]; exact nilW _ _ _ _ _, belW B1.out (Nat.le_refl _) _ _⟩
  · have HC := hid (fun W (h : Seg W a l) => c_sGood' a l ca true hg W h hl)
    have HV := hid (show tellV l = l by simp [tellV, hg])
    go_enter Tryd.func18, Tryd.ntmps18
    go_wp2_with fail
    refine (HC.out _ A0.out).mono ?_
    rintro e w1 ⟨rfl, hb1⟩
    have RB := hid ((R0.out.below hb1).below ((Below.refl w1.heap.size w1).alloc (Nat.le_refl _) (.cells #[] 29)))
    have HS := hid ((A0.out.below hb1).below ((Below.refl w1.heap.size w1).alloc (Nat.le_refl _) (.cells #[] 29)))
    have HZ := hid (show w.heap.size + 1 ≤ w1.heap.size by have := S0.out; have := hb1.size; omega)
    have HO := hid ((slice_empty_build w1).mono HZ.out)
    have HB := hid ((B0.out.trans (hb1.mono B0.out.size)).alloc (by have := HZ.out; omega) (.cells #[] 29))
    clear HC A0 hb1 R0
    go_wp2_with (at_builtin; refine wpList_app rfl _ _ rfl (w.heap.size + 1) _ [] l a ca rfl HO.out rfl HS.out hca (by simp; omega) (by have := HZ.out; simp; omega) ?_; intro v' w2 hO0 hG; have hO := hO0; simp only [List.nil_append] at hO; obtain ⟨av, cv, rfl, _⟩ := hO.form; clear hO0; have RB2 := hid (WRow.of_block RB.out (hG.block _ (World.rowIs.lt RB.out) (fun e => by have := (HO.out.lt _ e.symm).1; omega))); have f0 := RB2.out.fr 0; have f1 := RB2.out.fr 1; have d0 := RB2.out.c0; have d1 := RB2.out.c1)
    have HO2 := hid hO
    have HB2 := hid (below_grown HB.out (HO.out.mono (by omega)) hG)
    clear RB HO HB hO hG HS
    have f0 := RB2.out.fr 0
    have f1 := RB2.out.fr 1
    have d0 := RB2.out.c0
    have d1 := RB2.out.c1
    have PP := hid (RB2.out.put (.slice av l.length cv) (0))
    have p0 := hid PP.out.c0
    have p1 := hid PP.out.c1
    go_wp2
    exact bodyPost_ret (v := .tuple #[.agg #[.slice av l.length cv, .int .i64 (0)], .bool true]) (by simp [results, Tryd.results18, go_sem, p0.out, p1.out]) rfl ⟨_, rfl, by rw [HV.out]; exact ownW (by exact HO2.out) (by omega) _ _ (by omega), belW HB2.out (Nat.le_refl _) _ _⟩

set_option maxHeartbeats 2000000 in
theorem c_l6Tell (a : Option Addr) (l : List Cl) (ca : Nat) (t : Int) (w : World) (ha : Seg w a l) (hl : l.length ≤ 1048576) (hca : a = none → ca = 0) :
    Calls Tryd.prog 32 #[.slice a l.length ca, .int .i64 t] w fun e w' => ∃ v, e = .returned (.tuple #[.agg #[v, .int .i64 (gwT l t)], .bool (gw l t)]) ∧ OwnS w' w.heap.size v (gwL l t) ∧ Below w.heap.size w w' := by
  have hb0 := (Below.refl w.heap.size w).alloc (Nat.le_refl _) (.cells #[.slice none 0 0, .int .i64 0] 25)
  have hb1 := (Below.refl (w.alloc (.cells #[.slice none 0 0, .int .i64 0] 25)).heap.size (w.alloc (.cells #[.slice none 0 0, .int .i64 0] 25))).alloc (Nat.le_refl _) (.cells #[] 29)
  have hb2 := hb0.trans (hb1.mono hb0.size)
  have RB := hid ((WRow.new w (.slice none 0 0) 0 25).below hb1)
  have HO := hid (slice_empty_build (w.alloc (.cells #[.slice none 0 0, .int .i64 0] 25)))
  rw [show (w.alloc (.cells #[.slice none 0 0, .int .i64 0] 25)).heap.size = w.heap.size + 1 by simp] at HO
  have HS := hid (ha.below hb2)
  have HB := hid hb2
  clear ha hb0 hb1 hb2
  cases hg : gw l t
  · have HC := hid (fun (W : World) (aa : Option Addr) (cc : Nat) (h : Seg W aa l) => c_sGoodWorld' aa l cc t false hg W h hl)
    have HV := hid (show gwL l t = [] ∧ gwT l t = 0 by simp [gwL, gwT, hg])
    go_enter Tryd.func32, Tryd.ntmps32
    go_wp2_with (at_builtin; refine wpList_app rfl _ _ rfl (w.heap.size + 1) _ [] l a ca rfl HO.out rfl HS.out hca (by simp; omega) (by simp) ?_; intro v' w2 hO0 hG; have hO := hO0; simp only [List.nil_append] at hO; obtain ⟨av, cv, rfl, _⟩ := hO.form; clear hO0)
    have RB2 := hid (WRow.of_block RB.out (hG.block _ (World.rowIs.lt RB.out) (fun e => by have := (HO.out.lt _ e.symm).1; omega)))
    have HB2 := hid (below_grown HB.out (HO.out.mono (by omega)) hG)
    have hba := (Below.refl w2.heap.size w2).alloc (Nat.le_refl _) (.cells #[.slice av l.length cv, .int .i64 t] 25)
    have HO3 := hid (hO.below hba)
    have RB3 := hid (RB2.out.below hba)
    have HB3 := hid (HB2.out.trans (hba.mono HB2.out.size))
    have RW := hid (WRow.new w2 (.slice av l.length cv) t 25)
    clear RB HO HB hO hG HS RB2 HB2 hba
    refine (HC.out _ av cv HO3.out.seg).mono ?_
    rintro e w4 ⟨rfl, hb4⟩
    have RB := hid (RB3.out.below hb4)
    have HO4 := hid (HO3.out.below hb4)
    have RW4 := hid (RW.out.below hb4)
    have HB4 := hid (HB3.out.trans (hb4.mono HB3.out.size))
    clear HO3 RB3 RW HB3 hb4 HC
    have x0 := RW4.out.c0
    have x1 := RW4.out.c1
    have f0 := RB.out.fr 0
    have f1 := RB.out.fr 1
    have d0 := RB.out.c0
    have d1 := RB.out.c1
    have PP := hid (RB.out.put (.slice none 0 0) (0))
    have p0 := hid PP.out.c0
    have p1 := hid PP.out.c1
    go_wp2
    exact bodyPost_ret (v := .tuple #[.agg #[.slice none 0 0, .int .i64 (0)], .bool false]) (by simp [results, Tryd.results32, go_sem, p0.out, p1.out]) rfl ⟨_, by rw [HV.out.2], by rw [HV.out.1]; exact nilW _ _ _ _ _, belW HB4.out (Nat.le_refl _) _ _⟩
  · have HC := hid (fun (W : World) (aa : Option Addr) (cc : Nat) (h : Seg W aa l) => c_sGoodWorld' aa l cc t true hg W h hl)
    have HV := hid (show gwL l t = l ∧ gwT l t = t by simp [gwL, gwT, hg])
    go_enter Tryd.func32, Tryd.ntmps32
    go_wp2_with (at_builtin; refine wpList_app rfl _ _ rfl (w.heap.size + 1) _ [] l a ca rfl HO.out rfl HS.out hca (by simp; omega) (by simp) ?_; intro v' w2 hO0 hG; have hO := hO0; simp only [List.nil_append] at hO; obtain ⟨av, cv, rfl, _⟩ := hO.form; clear hO0)
    have RB2 := hid (WRow.of_block RB.out (hG.block _ (World.rowIs.lt RB.out) (fun e => by have := (HO.out.lt _ e.symm).1; omega)))
    have HB2 := hid (below_grown HB.out (HO.out.mono (by omega)) hG)
    have hba := (Below.refl w2.heap.size w2).alloc (Nat.le_refl _) (.cells #[.slice av l.length cv, .int .i64 t] 25)
    have HO3 := hid (hO.below hba)
    have RB3 := hid (RB2.out.below hba)
    have HB3 := hid (HB2.out.trans (hba.mono HB2.out.size))
    have RW := hid (WRow.new w2 (.slice av l.length cv) t 25)
    clear RB HO HB hO hG HS RB2 HB2 hba
    refine (HC.out _ av cv HO3.out.seg).mono ?_
    rintro e w4 ⟨rfl, hb4⟩
    have RB := hid (RB3.out.below hb4)
    have HO4 := hid (HO3.out.below hb4)
    have RW4 := hid (RW.out.below hb4)
    have HB4 := hid (HB3.out.trans (hb4.mono HB3.out.size))
    clear HO3 RB3 RW HB3 hb4 HC
    have x0 := RW4.out.c0
    have x1 := RW4.out.c1
    have f0 := RB.out.fr 0
    have f1 := RB.out.fr 1
    have d0 := RB.out.c0
    have d1 := RB.out.c1
    have PP := hid (RB.out.put (.slice av l.length cv) (t))
    have p0 := hid PP.out.c0
    have p1 := hid PP.out.c1
    go_wp2
    exact bodyPost_ret (v := .tuple #[.agg #[.slice av l.length cv, .int .i64 (t)], .bool true]) (by simp [results, Tryd.results32, go_sem, p0.out, p1.out]) rfl ⟨_, by rw [HV.out.2], by rw [HV.out.1]; exact ownW HO4.out (by omega) _ _ (by omega), belW HB4.out (Nat.le_refl _) _ _⟩

set_option maxHeartbeats 2000000 in
theorem c_onlyGoodWorld (a : Option Addr) (l : List Cl) (ca : Nat) (t : Int) (base : Nat) (w : World) (ho : OwnS w base (.slice a l.length ca) l) (hl : l.length ≤ 1048576) (hbs : base ≤ w.heap.size) :
    Calls Tryd.prog 53 #[.agg #[.slice a l.length ca, .int .i64 t]] w fun e w' => ∃ v, e = .returned (.tuple #[.agg #[v, .int .i64 (gwT l t)], .bool (gw l t)]) ∧ OwnS w' base v (gwL l t) ∧ Below w.heap.size w w' := by
  have ha := ho.seg
  have HO0 := hid ho
  clear ho
  have h1 := (Below.refl w.heap.size w).alloc (Nat.le_refl _) (.cells #[.slice a l.length ca, .int .i64 t] 25)
  have h2 := (Below.refl (w.alloc (.cells #[.slice a l.length ca, .int .i64 t] 25)).heap.size (w.alloc (.cells #[.slice a l.length ca, .int .i64 t] 25))).alloc (Nat.le_refl _) (.cells #[.slice none 0 0, .int .i64 0] 25)
  have h3 := h1.trans (h2.mono h1.size)
  have RP := hid ((WRow.new w (.slice a l.length ca) t 25).below h2)
  have RB := hid (WRow.new (w.alloc (.cells #[.slice a l.length ca, .int .i64 t] 25)) (.slice none 0 0) 0 25)
  rw [show (w.alloc (.cells #[.slice a l.length ca, .int .i64 t] 25)).heap.size = w.heap.size + 1 by simp] at RB
  have HA := hid (ha.below h3)
  have HB := hid h3
  have HZ := hid (show ((w.alloc (.cells #[.slice a l.length ca, .int .i64 t] 25)).alloc (.cells #[.slice none 0 0, .int .i64 0] 25)).heap.size = w.heap.size + 2 by simp)
  clear ha h1 h2 h3
  have HO := hid (HO0.out.below HB.out)
  have HOL := hid (fun k hk => (HO0.out.lt k hk).2)
  clear HO0
  cases hg : gw l t
  · have HV := hid (show gwL l t = [] ∧ gwT l t = 0 ∧ false = false by simp [gwL, gwT, hg])
    have HC := hid (fun (W : World) (h : Seg W a l) => c_iGoodWorld' a l ca t false hg W h hl)
    go_enter Tryd.func53, Tryd.ntmps53
    go_wp2_with fail
    refine (HC.out _ HA.out).mono ?_
    rintro e w1 ⟨rfl, b1⟩
    replace RP := hid (RP.out.below b1)
    replace RB := hid (RB.out.below b1)
    replace HA := hid (HA.out.below b1)
    replace HB := hid (HB.out.trans (b1.mono HB.out.size))
    have f0 := RB.out.fr 0
    have f1 := RB.out.fr 1
    have d0 := RB.out.c0
    have d1 := RB.out.c1
    have PP := hid (RB.out.put (.slice none 0 0) (0))
    have p0 := hid PP.out.c0
    have p1 := hid PP.out.c1
    go_wp2
    exact bodyPost_ret (v := .tuple #[.agg #[.slice none 0 0, .int .i64 (0)], .bool false]) (by simp [results, Tryd.results53, go_sem, p0.out, p1.out]) rfl ⟨_, by rw [HV.out.2.1], by rw [HV.out.1]; exact nilW _ _ _ _ _, belW HB.out (by omega) _ _⟩
  · have HV := hid (show gwL l t = l ∧ gwT l t = t by simp [gwL, gwT, hg])
    have HC := hid (fun (W : World) (h : Seg W a l) => c_iGoodWorld' a l ca t true hg W h hl)
    go_enter Tryd.func53, Tryd.ntmps53
    go_wp2_with fail
    refine (HC.out _ HA.out).mono ?_
    rintro e w1 ⟨rfl, b1⟩
    replace RP := hid (RP.out.below b1)
    replace RB := hid (RB.out.below b1)
    replace HA := hid (HA.out.below b1)
    replace HB := hid (HB.out.trans (b1.mono HB.out.size))
    replace HO := hid (HO.out.below b1)
    have x0 := RP.out.c0
    have x1 := RP.out.c1
    have f0 := RB.out.fr 0
    have f1 := RB.out.fr 1
    have d0 := RB.out.c0
    have d1 := RB.out.c1
    have PP := hid (RB.out.put (.slice a l.length ca) (t))
    have p0 := hid PP.out.c0
    have p1 := hid PP.out.c1
    go_wp2
    exact bodyPost_ret (v := .tuple #[.agg #[.slice a l.length ca, .int .i64 (t)], .bool true]) (by simp [results, Tryd.results53, go_sem, p0.out, p1.out]) rfl ⟨_, by rw [HV.out.2], by rw [HV.out.1]; exact ((HO.out.other (fun k hk => by have := HOL.out k hk; omega) _).other (fun k hk => by have := HOL.out k hk; omega) _), belW HB.out (by omega) _ _⟩

theorem gw_age {l : List Cl} {t : Int} (h : gw l t = true) : 0 ≤ t ∧ t ≤ 1000 := by
  simp only [gw, Bool.and_eq_true] at h; exact inB_bd h.2
theorem times_bd {l : List Cl} {s : Int} (h : timesOk l s = true) : 0 ≤ s ∧ s ≤ 20 := by
  simp only [timesOk, Bool.and_eq_true] at h; exact inT_bd h.1.2
theorem times_none {l : List Cl} {s : Int} (h : timesOk l s = false) (hg : good l = true) : True := trivial

set_option maxHeartbeats 4000000 in
theorem c_iAdvance (a : Option Addr) (l : List Cl) (ca : Nat) (t s : Int) (w : World) (ha : Seg w a l) (hl : l.length ≤ 1048576) (hca : a = none → ca = 0) :
    Calls Tryd.prog 39 #[.agg #[.slice a l.length ca, .int .i64 t], .int .i64 s] w fun e w' => ∃ v, e = .returned (.tuple #[.agg #[v, .int .i64 (advT l t s)], .bool (advOk l t s)]) ∧ OwnS w' w.heap.size v (advL l t s) ∧ Below w.heap.size w w' := by
  have h1 := (Below.refl w.heap.size w).alloc (Nat.le_refl _) (.cells #[.slice a l.length ca, .int .i64 t] 25)
  have h2 := (Below.refl (w.alloc (.cells #[.slice a l.length ca, .int .i64 t] 25)).heap.size (w.alloc (.cells #[.slice a l.length ca, .int .i64 t] 25))).alloc (Nat.le_refl _) (.cells #[.slice none 0 0, .int .i64 0] 25)
  have h3 := h1.trans (h2.mono h1.size)
  have RP := hid ((WRow.new w (.slice a l.length ca) t 25).below h2)
  have RB := hid (WRow.new (w.alloc (.cells #[.slice a l.length ca, .int .i64 t] 25)) (.slice none 0 0) 0 25)
  rw [show (w.alloc (.cells #[.slice a l.length ca, .int .i64 t] 25)).heap.size = w.heap.size + 1 by simp] at RB
  have HA := hid (ha.below h3)
  have HB := hid h3
  have HZ := hid (show ((w.alloc (.cells #[.slice a l.length ca, .int .i64 t] 25)).alloc (.cells #[.slice none 0 0, .int .i64 0] 25)).heap.size = w.heap.size + 2 by simp)
  clear ha h1 h2 h3
  cases ht : timesOk l s
  · have HV := hid (show advL l t s = [] ∧ advT l t s = 0 ∧ advOk l t s = false by simp [advL, advT, advOk, ht])
    go_enter Tryd.func39, Tryd.ntmps39
    have x0 := RP.out.c0
    go_wp2_with fail
    refine (c_iStepTimes a l ca s _ HA.out hca hl).mono ?_
    rintro e w1 ⟨v1, rfl, o1, b1⟩
    replace RP := hid (RP.out.below b1)
    replace RB := hid (RB.out.below b1)
    replace HA := hid (HA.out.below b1)
    replace HB := hid (HB.out.trans (b1.mono HB.out.size))
    rw [ht]
    obtain ⟨a1, c1, rfl, _⟩ := o1.form
    have f0 := RB.out.fr 0
    have f1 := RB.out.fr 1
    have d0 := RB.out.c0
    have d1 := RB.out.c1
    have PP := hid (RB.out.put (.slice none 0 0) (0))
    have p0 := hid PP.out.c0
    have p1 := hid PP.out.c1
    go_wp2
    exact bodyPost_ret (v := .tuple #[.agg #[.slice none 0 0, .int .i64 (0)], .bool false]) (by simp [results, Tryd.results39, go_sem, p0.out, p1.out]) rfl ⟨_, by rw [HV.out.2.2, HV.out.2.1], by rw [HV.out.1]; exact nilW _ _ _ _ _, belW HB.out (by omega) _ _⟩
  · cases hg : gw l t
    · have HV := hid (show advL l t s = [] ∧ advT l t s = 0 ∧ advOk l t s = false by simp [advL, advT, advOk, hg, ht])
      have HC := hid (fun (W : World) (h : Seg W a l) => c_iGoodWorld' a l ca t false hg W h hl)
      go_enter Tryd.func39, Tryd.ntmps39
      have x0 := RP.out.c0
      go_wp2_with fail
      refine (c_iStepTimes a l ca s _ HA.out hca hl).mono ?_
      rintro e w1 ⟨v1, rfl, o1, b1⟩
      replace RP := hid (RP.out.below b1)
      replace RB := hid (RB.out.below b1)
      replace HA := hid (HA.out.below b1)
      replace HB := hid (HB.out.trans (b1.mono HB.out.size))
      rw [ht]
      obtain ⟨a1, c1, rfl, _⟩ := o1.form
      clear x0
      have x0 := RP.out.c0
      have x1 := RP.out.c1
      go_wp2_with fail
      refine (HC.out _ HA.out).mono ?_
      rintro e w2 ⟨rfl, b2⟩
      replace RP := hid (RP.out.below b2)
      replace RB := hid (RB.out.below b2)
      replace HA := hid (HA.out.below b2)
      replace HB := hid (HB.out.trans (b2.mono HB.out.size))
      have f0 := RB.out.fr 0
      have f1 := RB.out.fr 1
      have d0 := RB.out.c0
      have d1 := RB.out.c1
      have PP := hid (RB.out.put (.slice none 0 0) (0))
      have p0 := hid PP.out.c0
      have p1 := hid PP.out.c1
      go_wp2
      exact bodyPost_ret (v := .tuple #[.agg #[.slice none 0 0, .int .i64 (0)], .bool false]) (by simp [results, Tryd.results39, go_sem, p0.out, p1.out]) rfl ⟨_, by rw [HV.out.2.2, HV.out.2.1], by rw [HV.out.1]; exact nilW _ _ _ _ _, belW HB.out (by omega) _ _⟩
    · have htt := gw_age hg
      have hss := times_bd ht
      have HR := hid (show gw (timesL l s) (t + s) = advOk l t s by simp [advOk, hg, ht])
      have HRL := hid (show gwL (timesL l s) (t + s) = advL l t s by simp [gwL, advL, HR.out])
      have HRT := hid (show gwT (timesL l s) (t + s) = advT l t s by simp [gwT, advT, HR.out])
      have HC := hid (fun (W : World) (h : Seg W a l) => c_iGoodWorld' a l ca t true hg W h hl)
      go_enter Tryd.func39, Tryd.ntmps39
      have x0 := RP.out.c0
      go_wp2_with fail
      refine (c_iStepTimes a l ca s _ HA.out hca hl).mono ?_
      rintro e w1 ⟨v1, rfl, o1, b1⟩
      replace RP := hid (RP.out.below b1)
      replace RB := hid (RB.out.below b1)
      replace HA := hid (HA.out.below b1)
      replace HB := hid (HB.out.trans (b1.mono HB.out.size))
      rw [ht]
      obtain ⟨a1, c1, rfl, _⟩ := o1.form
      clear x0
      have O1 := hid o1
      have Z1 := hid b1.size
      clear o1 b1
      have x0 := RP.out.c0
      have x1 := RP.out.c1
      go_wp2_with fail
      refine (HC.out _ HA.out).mono ?_
      rintro e w2 ⟨rfl, b2⟩
      replace RP := hid (RP.out.below b2)
      replace RB := hid (RB.out.below b2)
      replace HA := hid (HA.out.below b2)
      replace HB := hid (HB.out.trans (b2.mono HB.out.size))
      replace O1 := hid (O1.out.below b2)
      have Z2 := hid b2.size
      clear x0 x1 b2
      have x1 := RP.out.c1
      have HL2 := hid (timesL_le l s)
      clear hg ht HC
      go_wp2_with fail
      refine (c_onlyGoodWorld a1 (timesL l s) c1 (t + s) _ _ O1.out (by have := HL2.out; omega) (by have := Z1.out; have := Z2.out; omega)).mono ?_
      rintro e w3 ⟨v3, rfl, o3, b3⟩
      rw [HRL.out] at o3
      rw [HRT.out, HR.out]
      obtain ⟨a3, c3, rfl, _⟩ := o3.form
      replace RB := hid (RB.out.below b3)
      replace HB := hid (HB.out.trans (b3.mono HB.out.size))
      have O3 := hid o3
      have Z3 := hid (show w.heap.size + 2 ≤ ((w.alloc (.cells #[.slice a l.length ca, .int .i64 t] 25)).alloc (.cells #[.slice none 0 0, .int .i64 0] 25)).heap.size by have := HZ.out; omega)
      clear o3 b3
      have f0 := RB.out.fr 0
      have f1 := RB.out.fr 1
      have d0 := RB.out.c0
      have d1 := RB.out.c1
      have PP := hid (RB.out.put (.slice a3 (advL l t s).length c3) (advT l t s))
      have p0 := hid PP.out.c0
      have p1 := hid PP.out.c1
      go_wp2
      exact bodyPost_ret (v := .tuple #[.agg #[.slice a3 (advL l t s).length c3, .int .i64 (advT l t s)], .bool (advOk l t s)]) (by simp [results, Tryd.results39, go_sem, p0.out, p1.out]) rfl ⟨_, rfl, ownW O3.out (by have := Z3.out; omega) _ _ (by have := Z3.out; omega), belW HB.out (by omega) _ _⟩

set_option maxHeartbeats 1000000 in
theorem c_iNewWorld (a : Option Addr) (l : List Cl) (ca : Nat) (w : World) (ha : Seg w a l) (hl : l.length ≤ 1048576) (hca : a = none → ca = 0) :
    Calls Tryd.prog 17 #[.slice a l.length ca] w fun e w' => ∃ v, e = .returned (.tuple #[.agg #[v, .int .i64 0], .bool (good l)]) ∧ OwnS w' w.heap.size v (tellV l) ∧ Below w.heap.size w w' := by
  have hb0 := (Below.refl w.heap.size w).alloc (Nat.le_refl _) (.cells #[.slice none 0 0, .int .i64 0] 25)
  have RB := hid (WRow.new w (.slice none 0 0) 0 25)
  have HZ := hid (show (w.alloc (.cells #[.slice none 0 0, .int .i64 0] 25)).heap.size = w.heap.size + 1 by simp)
  have HB := hid hb0
  have HC := hid (c_iAdvance a l ca 0 0 _ (ha.below hb0) hl hca)
  rw [(adv_zero l).1, (adv_zero l).2.1, (adv_zero l).2.2] at HC
  clear ha hb0
  go_enter Tryd.func17, Tryd.ntmps17
  go_wp2_with fail
  refine HC.out.mono ?_
  rintro e w1 ⟨v1, rfl, o1, b1⟩
  obtain ⟨a1, c1, rfl, _⟩ := o1.form
  replace RB := hid (RB.out.below b1)
  replace HB := hid (HB.out.trans (b1.mono HB.out.size))
  have O1 := hid o1
  clear o1 b1 HC
  have f0 := RB.out.fr 0
  have f1 := RB.out.fr 1
  have d0 := RB.out.c0
  have d1 := RB.out.c1
  have PP := hid (RB.out.put (.slice a1 (tellV l).length c1) (0))
  have p0 := hid PP.out.c0
  have p1 := hid PP.out.c1
  go_wp2
  exact bodyPost_ret (v := .tuple #[.agg #[.slice a1 (tellV l).length c1, .int .i64 (0)], .bool (good l)]) (by simp [results, Tryd.results17, go_sem, p0.out, p1.out]) rfl ⟨_, rfl, ownW O1.out (by have := HZ.out; omega) _ _ (by have := HZ.out; omega), belW HB.out (by omega) _ _⟩

set_option maxHeartbeats 4000000 in
theorem c_sMoveWorld (a : Option Addr) (l : List Cl) (ca : Nat) (t x y : Int) (w : World) (ha : Seg w a l) (hl : l.length ≤ 1048576) :
    Calls Tryd.prog 12 #[.agg #[.slice a l.length ca, .int .i64 t], .int .i64 x, .int .i64 y] w fun e w' => ∃ v, e = .returned (.tuple #[.agg #[v, .int .i64 (mwT l t x y)], .bool (mwOk l t x y)]) ∧ OwnS w' w.heap.size v (mwL l t x y) ∧ Below w.heap.size w w' := by
  have h1 := (Below.refl w.heap.size w).alloc (Nat.le_refl _) (.cells #[.slice a l.length ca, .int .i64 t] 25)
  have h2 := (Below.refl (w.alloc (.cells #[.slice a l.length ca, .int .i64 t] 25)).heap.size (w.alloc (.cells #[.slice a l.length ca, .int .i64 t] 25))).alloc (Nat.le_refl _) (.cells #[.slice none 0 0, .int .i64 0] 25)
  have h3 := h1.trans (h2.mono h1.size)
  have RP := hid ((WRow.new w (.slice a l.length ca) t 25).below h2)
  have RB := hid (WRow.new (w.alloc (.cells #[.slice a l.length ca, .int .i64 t] 25)) (.slice none 0 0) 0 25)
  rw [show (w.alloc (.cells #[.slice a l.length ca, .int .i64 t] 25)).heap.size = w.heap.size + 1 by simp] at RB
  have HA := hid (ha.below h3)
  have HB := hid h3
  have HZ := hid (show ((w.alloc (.cells #[.slice a l.length ca, .int .i64 t] 25)).alloc (.cells #[.slice none 0 0, .int .i64 0] 25)).heap.size = w.heap.size + 2 by simp)
  clear ha h1 h2 h3
  cases hg : gw l t
  · have HV := hid (show mwL l t x y = [] ∧ mwT l t x y = 0 ∧ mwOk l t x y = false by simp [mwL, mwT, mwOk, hg])
    have HC := hid (fun (W : World) (h : Seg W a l) => c_sGoodWorld' a l ca t false hg W h hl)
    go_enter Tryd.func12, Tryd.ntmps12
    go_wp2_with fail
    refine (HC.out _ HA.out).mono ?_
    rintro e w1 ⟨rfl, b1⟩
    replace RP := hid (RP.out.below b1)
    replace RB := hid (RB.out.below b1)
    replace HA := hid (HA.out.below b1)
    replace HB := hid (HB.out.trans (b1.mono HB.out.size))
    have f0 := RB.out.fr 0
    have f1 := RB.out.fr 1
    have d0 := RB.out.c0
    have d1 := RB.out.c1
    have PP := hid (RB.out.put (.slice none 0 0) (0))
    have p0 := hid PP.out.c0
    have p1 := hid PP.out.c1
    go_wp2
    exact bodyPost_ret (v := .tuple #[.agg #[.slice none 0 0, .int .i64 (0)], .bool false]) (by simp [results, Tryd.results12, go_sem, p0.out, p1.out]) rfl ⟨_, by rw [HV.out.2.2, HV.out.2.1], by rw [HV.out.1]; exact nilW _ _ _ _ _, belW HB.out (by omega) _ _⟩
  · have HC := hid (fun (W : World) (h : Seg W a l) => c_sGoodWorld' a l ca t true hg W h hl)
    cases ht : moveOk l x y
    · have HV := hid (show mwL l t x y = [] ∧ mwT l t x y = 0 ∧ mwOk l t x y = false by simp [mwL, mwT, mwOk, hg, ht])
      go_enter Tryd.func12, Tryd.ntmps12
      go_wp2_with fail
      refine (HC.out _ HA.out).mono ?_
      rintro e w1 ⟨rfl, b1⟩
      replace RP := hid (RP.out.below b1)
      replace RB := hid (RB.out.below b1)
      replace HA := hid (HA.out.below b1)
      replace HB := hid (HB.out.trans (b1.mono HB.out.size))
      have x0 := RP.out.c0
      go_wp2_with fail
      refine (c_sMoveCells a l ca x y _ HA.out hl).mono ?_
      rintro e w2 ⟨v2, rfl, o2, b2⟩
      replace RP := hid (RP.out.below b2)
      replace RB := hid (RB.out.below b2)
      replace HA := hid (HA.out.below b2)
      replace HB := hid (HB.out.trans (b2.mono HB.out.size))
      rw [ht]
      obtain ⟨a2, c2, rfl, _⟩ := o2.form
      have f0 := RB.out.fr 0
      have f1 := RB.out.fr 1
      have d0 := RB.out.c0
      have d1 := RB.out.c1
      have PP := hid (RB.out.put (.slice none 0 0) (0))
      have p0 := hid PP.out.c0
      have p1 := hid PP.out.c1
      go_wp2
      exact bodyPost_ret (v := .tuple #[.agg #[.slice none 0 0, .int .i64 (0)], .bool false]) (by simp [results, Tryd.results12, go_sem, p0.out, p1.out]) rfl ⟨_, by rw [HV.out.2.2, HV.out.2.1], by rw [HV.out.1]; exact nilW _ _ _ _ _, belW HB.out (by omega) _ _⟩
    · have HR := hid (show gw (moveL l x y) t = mwOk l t x y by simp only [mwOk, hg, ht, Bool.and_self]; simp only [gw, Bool.and_eq_true] at hg ⊢; exact ⟨moveL_good ht, hg.2⟩)
      have HRL := hid (show gwL (moveL l x y) t = mwL l t x y by simp [gwL, mwL, HR.out])
      have HRT := hid (show gwT (moveL l x y) t = mwT l t x y by simp [gwT, mwT, HR.out])
      go_enter Tryd.func12, Tryd.ntmps12
      go_wp2_with fail
      refine (HC.out _ HA.out).mono ?_
      rintro e w1 ⟨rfl, b1⟩
      replace RP := hid (RP.out.below b1)
      replace RB := hid (RB.out.below b1)
      replace HA := hid (HA.out.below b1)
      replace HB := hid (HB.out.trans (b1.mono HB.out.size))
      have x0 := RP.out.c0
      have Z1 := hid b1.size
      go_wp2_with fail
      refine (c_sMoveCells a l ca x y _ HA.out hl).mono ?_
      rintro e w2 ⟨v2, rfl, o2, b2⟩
      replace RP := hid (RP.out.below b2)
      replace RB := hid (RB.out.below b2)
      replace HA := hid (HA.out.below b2)
      replace HB := hid (HB.out.trans (b2.mono HB.out.size))
      rw [ht]
      obtain ⟨a2, c2, rfl, _⟩ := o2.form
      have O2 := hid o2
      have Z2 := hid b2.size
      have x1 := RP.out.c1
      have HL2 := hid (moveL_le l x y)
      clear o2 b1 b2 hg ht
      go_wp2_with fail
      refine (c_l6Tell a2 (moveL l x y) c2 t _ O2.out.seg (by have := HL2.out; omega) (own_none O2.out)).mono ?_
      rintro e w3 ⟨v3, rfl, o3, b3⟩
      rw [HRL.out] at o3
      rw [HRT.out, HR.out]
      obtain ⟨a3, c3, rfl, _⟩ := o3.form
      replace RB := hid (RB.out.below b3)
      replace HB := hid (HB.out.trans (b3.mono HB.out.size))
      have O3 := hid o3
      have Z3 := hid (show w.heap.size + 2 ≤ w2.heap.size by have := HZ.out; have := Z1.out; have := Z2.out; omega)
      clear o3 b3
      have f0 := RB.out.fr 0
      have f1 := RB.out.fr 1
      have d0 := RB.out.c0
      have d1 := RB.out.c1
      have PP := hid (RB.out.put (.slice a3 (mwL l t x y).length c3) (mwT l t x y))
      have p0 := hid PP.out.c0
      have p1 := hid PP.out.c1
      go_wp2
      exact bodyPost_ret (v := .tuple #[.agg #[.slice a3 (mwL l t x y).length c3, .int .i64 (mwT l t x y)], .bool (mwOk l t x y)]) (by simp [results, Tryd.results12, go_sem, p0.out, p1.out]) rfl ⟨_, rfl, ownW O3.out (by have := Z3.out; omega) _ _ (by have := Z3.out; omega), belW HB.out (by omega) _ _⟩

set_option maxHeartbeats 4000000 in
theorem c_iMoveWorld (a : Option Addr) (l : List Cl) (ca : Nat) (t x y : Int) (w : World) (ha : Seg w a l) (hl : l.length ≤ 1048576) :
    Calls Tryd.prog 11 #[.agg #[.slice a l.length ca, .int .i64 t], .int .i64 x, .int .i64 y] w fun e w' => ∃ v, e = .returned (.tuple #[.agg #[v, .int .i64 (mwT l t x y)], .bool (mwOk l t x y)]) ∧ OwnS w' w.heap.size v (mwL l t x y) ∧ Below w.heap.size w w' := by
  have h1 := (Below.refl w.heap.size w).alloc (Nat.le_refl _) (.cells #[.slice a l.length ca, .int .i64 t] 25)
  have h2 := (Below.refl (w.alloc (.cells #[.slice a l.length ca, .int .i64 t] 25)).heap.size (w.alloc (.cells #[.slice a l.length ca, .int .i64 t] 25))).alloc (Nat.le_refl _) (.cells #[.slice none 0 0, .int .i64 0] 25)
  have h3 := h1.trans (h2.mono h1.size)
  have RP := hid ((WRow.new w (.slice a l.length ca) t 25).below h2)
  have RB := hid (WRow.new (w.alloc (.cells #[.slice a l.length ca, .int .i64 t] 25)) (.slice none 0 0) 0 25)
  rw [show (w.alloc (.cells #[.slice a l.length ca, .int .i64 t] 25)).heap.size = w.heap.size + 1 by simp] at RB
  have HA := hid (ha.below h3)
  have HB := hid h3
  have HZ := hid (show ((w.alloc (.cells #[.slice a l.length ca, .int .i64 t] 25)).alloc (.cells #[.slice none 0 0, .int .i64 0] 25)).heap.size = w.heap.size + 2 by simp)
  clear ha h1 h2 h3
  cases ht : moveOk l x y
  · have HV := hid (show mwL l t x y = [] ∧ mwT l t x y = 0 ∧ mwOk l t x y = false by simp [mwL, mwT, mwOk, ht])
    go_enter Tryd.func11, Tryd.ntmps11
    have x0 := RP.out.c0
    go_wp2_with fail
    refine (c_iMoveCells a l ca x y _ HA.out hl).mono ?_
    rintro e w1 ⟨v1, rfl, o1, b1⟩
    replace RP := hid (RP.out.below b1)
    replace RB := hid (RB.out.below b1)
    replace HA := hid (HA.out.below b1)
    replace HB := hid (HB.out.trans (b1.mono HB.out.size))
    rw [ht]
    obtain ⟨a1, c1, rfl, _⟩ := o1.form
    have f0 := RB.out.fr 0
    have f1 := RB.out.fr 1
    have d0 := RB.out.c0
    have d1 := RB.out.c1
    have PP := hid (RB.out.put (.slice none 0 0) (0))
    have p0 := hid PP.out.c0
    have p1 := hid PP.out.c1
    go_wp2
    exact bodyPost_ret (v := .tuple #[.agg #[.slice none 0 0, .int .i64 (0)], .bool false]) (by simp [results, Tryd.results11, go_sem, p0.out, p1.out]) rfl ⟨_, by rw [HV.out.2.2, HV.out.2.1], by rw [HV.out.1]; exact nilW _ _ _ _ _, belW HB.out (by omega) _ _⟩
  · cases hg : gw l t
    · have HV := hid (show mwL l t x y = [] ∧ mwT l t x y = 0 ∧ mwOk l t x y = false by simp [mwL, mwT, mwOk, hg, ht])
      have HC := hid (fun (W : World) (h : Seg W a l) => c_iGoodWorld' a l ca t false hg W h hl)
      go_enter Tryd.func11, Tryd.ntmps11
      have x0 := RP.out.c0
      go_wp2_with fail
      refine (c_iMoveCells a l ca x y _ HA.out hl).mono ?_
      rintro e w1 ⟨v1, rfl, o1, b1⟩
      replace RP := hid (RP.out.below b1)
      replace RB := hid (RB.out.below b1)
      replace HA := hid (HA.out.below b1)
      replace HB := hid (HB.out.trans (b1.mono HB.out.size))
      rw [ht]
      obtain ⟨a1, c1, rfl, _⟩ := o1.form
      clear x0
      have x0 := RP.out.c0
      have x1 := RP.out.c1
      go_wp2_with fail
      refine (HC.out _ HA.out).mono ?_
      rintro e w2 ⟨rfl, b2⟩
      replace RP := hid (RP.out.below b2)
      replace RB := hid (RB.out.below b2)
      replace HA := hid (HA.out.below b2)
      replace HB := hid (HB.out.trans (b2.mono HB.out.size))
      have f0 := RB.out.fr 0
      have f1 := RB.out.fr 1
      have d0 := RB.out.c0
      have d1 := RB.out.c1
      have PP := hid (RB.out.put (.slice none 0 0) (0))
      have p0 := hid PP.out.c0
      have p1 := hid PP.out.c1
      go_wp2
      exact bodyPost_ret (v := .tuple #[.agg #[.slice none 0 0, .int .i64 (0)], .bool false]) (by simp [results, Tryd.results11, go_sem, p0.out, p1.out]) rfl ⟨_, by rw [HV.out.2.2, HV.out.2.1], by rw [HV.out.1]; exact nilW _ _ _ _ _, belW HB.out (by omega) _ _⟩
    · have HV := hid (show moveL l x y = mwL l t x y ∧ t = mwT l t x y ∧ true = mwOk l t x y by simp [mwL, mwT, mwOk, hg, ht])
      have HC := hid (fun (W : World) (h : Seg W a l) => c_iGoodWorld' a l ca t true hg W h hl)
      go_enter Tryd.func11, Tryd.ntmps11
      have x0 := RP.out.c0
      go_wp2_with fail
      refine (c_iMoveCells a l ca x y _ HA.out hl).mono ?_
      rintro e w1 ⟨v1, rfl, o1, b1⟩
      replace RP := hid (RP.out.below b1)
      replace RB := hid (RB.out.below b1)
      replace HA := hid (HA.out.below b1)
      replace HB := hid (HB.out.trans (b1.mono HB.out.size))
      rw [ht]
      obtain ⟨a1, c1, rfl, _⟩ := o1.form
      clear x0
      have O1 := hid o1
      have Z1 := hid b1.size
      clear o1 b1
      have x0 := RP.out.c0
      have x1 := RP.out.c1
      go_wp2_with fail
      refine (HC.out _ HA.out).mono ?_
      rintro e w2 ⟨rfl, b2⟩
      replace RP := hid (RP.out.below b2)
      replace RB := hid (RB.out.below b2)
      replace HA := hid (HA.out.below b2)
      replace HB := hid (HB.out.trans (b2.mono HB.out.size))
      replace O1 := hid (O1.out.below b2)
      clear x0 x1 b2
      have x1 := RP.out.c1
      clear hg ht HC
      have f0 := RB.out.fr 0
      have f1 := RB.out.fr 1
      have d0 := RB.out.c0
      have d1 := RB.out.c1
      have PP := hid (RB.out.put (.slice a1 (moveL l x y).length c1) (t))
      have p0 := hid PP.out.c0
      have p1 := hid PP.out.c1
      go_wp2
      exact bodyPost_ret (v := .tuple #[.agg #[.slice a1 (moveL l x y).length c1, .int .i64 (t)], .bool true]) (by simp [results, Tryd.results11, go_sem, p0.out, p1.out]) rfl ⟨_, by rw [← HV.out.2.1, ← HV.out.2.2], by rw [← HV.out.1]; exact ownW O1.out (by have := HZ.out; omega) _ _ (by have := HZ.out; omega), belW HB.out (by omega) _ _⟩

end Go.Proofs.YtgppcocfnbalfaaDoor
