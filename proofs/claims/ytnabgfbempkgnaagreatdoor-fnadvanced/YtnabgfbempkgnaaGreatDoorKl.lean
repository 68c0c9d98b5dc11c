/- Texts of this seat, one behind the other: NewF, Law4, WdP, Meet. -/
import Derived.Test.YtnabgfbempkgnaaGreatDoorKb
import Derived.Test.YtnabgfbempkgnaaGreatDoorKd
import Derived.Test.YtnabgfbempkgnaaGreatDoorKg
import Derived.Test.YtnabgfbempkgnaaGreatDoorKj
import Derived.Test.YtnabgfbempkgnaaGreatDoorKa
import Derived.Deep.Cut
namespace Go.Proofs.YtnabgfbempkgnaaGreatDoor
open Go.RowKit Go.Maps
set_option linter.unusedVariables false
set_option linter.unusedSimpArgs false
attribute [local go_sem ↓] Go.wp_at_zero Go.wp_at_succ

def qn (f : Nat → Int) (j : Nat) : Value := if j % 2 = 0 then .int .i64 (f (j / 2)) else .slice none 0 0
/-- Two quads without kids are all of block g. -/
def NwRow (w : World) (g : Nat) (f : Nat → Int) : Prop := w.rowIs g 95 4 (qn f)
def two' (f : Nat → Int) : List Qd := [(f 0, []), (f 1, [])]
theorem NwRow.lev {w : World} {g : Nat} {f : Nat → Int} (h : NwRow w g f) {i : Nat} (hi : i < 2) : w.cell? ⟨g, i * 2, none⟩ = some (.int .i64 (f i)) := by
  have := World.rowIs.cell h (i := i * 2) (by omega)
  have e1 : i * 2 % 2 = 0 := by omega
  have e2 : i * 2 / 2 = i := by omega
  simpa [qn, e1, e2] using this
theorem NwRow.kid {w : World} {g : Nat} {f : Nat → Int} (h : NwRow w g f) {i : Nat} (hi : i < 2) : w.cell? ⟨g, i * 2 + 1, none⟩ = some (.slice none 0 0) := by
  have := World.rowIs.cell h (i := i * 2 + 1) (by omega)
  have e1 : (i * 2 + 1) % 2 = 1 := by omega
  simpa [qn, e1] using this
theorem NwRow.seg {w : World} {g : Nat} {f : Nat → Int} (h : NwRow w g f) : QSeg w (some ⟨g, 0, none⟩) (two' f) := by
  intro i hi
  have hi' : i < 2 := by simpa [two'] using hi
  have e : qa (two' f) i = (f i, []) := by
    rcases (show i = 0 ∨ i = 1 by omega) with rfl | rfl <;> rfl
  rw [e]
  exact ⟨g, 0, none, 0, rfl, World.rowIs.lt h, by simpa using h.lev hi', by simpa using h.kid hi', fun j hj => by simp at hj, by simp⟩
theorem NwRow.below {w w' : World} {g : Nat} {f : Nat → Int} (h : NwRow w g f) (hb : Below w.heap.size w w') : NwRow w' g f := World.rowIs.of_block h (hb.block _ (World.rowIs.lt h))
theorem NwRow.put {w : World} {g : Nat} {f : Nat → Int} (h : NwRow w g f) (i : Nat) (hi : i < 2) (v : Int) : NwRow (w.setCell ⟨g, i * 2, none⟩ (.int .i64 v)) g (fun j => if j = i then v else f j) := by
  refine (World.rowIs.set h (i * 2) (.int .i64 v)).congr fun j hj => ?_
  rcases (show j = 0 ∨ j = 1 ∨ j = 2 ∨ j = 3 by omega) with rfl | rfl | rfl | rfl <;> rcases (show i = 0 ∨ i = 1 by omega) with rfl | rfl <;> simp [qn]
theorem NwRow.fun_eq {w : World} {g : Nat} {f f' : Nat → Int} (h : NwRow w g f) (e : ∀ i, i < 2 → f i = f' i) : NwRow w g f' := by
  refine World.rowIs.congr h fun j hj => ?_
  unfold qn
  rw [e (j / 2) (by omega)]

theorem grown_set {w W : World} {g i : Nat} (h : w.grownBy W (some g)) (v : Value) : w.grownBy (W.setCell ⟨g, i, none⟩ v) (some g) :=
  ⟨h.os, h.tape, h.output, by simpa using h.size, fun k hk hne => (Below.heap_setCell W ⟨g, i, none⟩ v k (fun e => hne (by rw [e]))).trans (h.block k hk hne)⟩
theorem grown_sameN (w : World) (r : Option Nat) : w.grownBy w r := ⟨rfl, rfl, rfl, Nat.le_refl _, fun _ _ _ => rfl⟩

theorem nrow_of {w : World} {g : Nat} (h : w.heap[g]? = some (.cells #[.int .i64 0, .slice none 0 0, .int .i64 0, .slice none 0 0] 95)) : NwRow w g (fun _ => 0) := by
  refine ⟨_, h, rfl, fun i hi => ?_⟩
  rcases (show i = 0 ∨ i = 1 ∨ i = 2 ∨ i = 3 by omega) with rfl | rfl | rfl | rfl <;> rfl
set_option maxHeartbeats 400000 in
theorem c_sNewForest (w : World) :
    Calls Tryz.prog 30 #[] w fun e w' => e = .returned (.agg #[.slice (some ⟨w.heap.size + 1, 0, none⟩) 2 2]) ∧ NwRow w' (w.heap.size + 1) (fun _ => 0) ∧ Below w.heap.size w w' := by
  go_enter Tryz.func30, Tryz.ntmps30
  go_wp2
  refine bodyPost_ret (v := .agg #[.slice (some ⟨w.heap.size + 1, 0, none⟩) 2 2]) (by simp [results, Tryz.results30, go_sem]) rfl ⟨rfl, ?_, ?_⟩
  · refine nrow_of ?_
    have := heap_alloc_new (w.alloc (.cells #[.slice (some ⟨w.heap.size + 1, 0, none⟩) 2 2] 56)) (.cells #[.int .i64 0, .slice none 0 0, .int .i64 0, .slice none 0 0] 95)
    rw [show (w.alloc (.cells #[.slice (some ⟨w.heap.size + 1, 0, none⟩) 2 2] 56)).heap.size = w.heap.size + 1 by simp] at this
    exact this
  · exact ((Below.refl _ _).alloc (Nat.le_refl _) _).alloc (by simp) _

theorem two_lev {w : World} {base p g cap mb : Nat} (h : Grv w base p g cap mb two) {i : Nat} (hi : i < 2) : ∀ j, j < 5 → w.cell? ⟨g, i * 5 + j, none⟩ = some (.int .i64 0) := by
  intro j hj
  have h1 := World.ownsRow.cellAt h.own (i * 5 + j) (by have : two.length = 2 := rfl; omega)
  have e := nflat_at (G := two) (i := i) (j := j) (by have : two.length = 2 := rfl; omega) hj
  rw [h1, e]
  rcases (show i = 0 ∨ i = 1 by omega) with rfl | rfl <;> rcases (show j = 0 ∨ j = 1 ∨ j = 2 ∨ j = 3 ∨ j = 4 by omega) with rfl | rfl | rfl | rfl | rfl <;> rfl
theorem nrow_made (w : World) : NwRow (w.alloc (.cells (madeCells #[.int .i64 0, .slice none 0 0] (2 * 2)) 95)) w.heap.size (fun _ => 0) := by
  refine ⟨_, heap_alloc_new _ _, size_madeCells _ _, fun i hi => ?_⟩
  rcases (show i = 0 ∨ i = 1 ∨ i = 2 ∨ i = 3 by omega) with rfl | rfl | rfl | rfl <;> simp [madeCells, qn]

set_option maxHeartbeats 1000000 in
set_option maxRecDepth 100000 in
theorem c_forest2 (w : World) {base p g cap mb : Nat} (h : Grv w base p g cap mb two) :
    Calls Tryz.prog 51 #[.pointer (some ⟨p, 0, none⟩)] w fun e w' => e = .returned (.agg #[.slice (some ⟨w.heap.size + 1, 0, none⟩) 2 2]) ∧ NwRow w' (w.heap.size + 1) (fun _ => 0) ∧ Below w.heap.size w w' := by
  have hmk : ∀ w : World, (Instr.makeSlice 54 (.int .i64 2) (.int .i64 2)).run Tryz.prog w = .ok (.slice (some ⟨w.heap.size, 0, none⟩) 2 2) (w.alloc (.cells (madeCells #[.int .i64 0, .slice none 0 0] (2 * 2)) 95)) := fun w => make_Quads 2 (by omega) w
  have c0 := h.c0
  rw [show two.length = 2 from rfl] at c0
  have HL := hid h.box.lt
  have hpl := h.box.lt
  have B1 := hid ((Below.refl w.heap.size w).alloc (Nat.le_refl _) (.cells #[.slice none 0 0] 56))
  have B2 := hid (B1.out.alloc (by simp) (.cells (madeCells #[.int .i64 0, .slice none 0 0] (2 * 2)) 95))
  have R2 := nrow_made (w.alloc (.cells #[.slice none 0 0] 56))
  rw [show (w.alloc (.cells #[.slice none 0 0] 56)).heap.size = w.heap.size + 1 by simp] at R2
  have RR2 := hid R2
  have X1 := Box1.new w (.slice none 0 0) 56
  have HG := hid h
  clear h R2
  go_enter Tryz.func51, Tryz.ntmps51
  go_wp2
  go_loopw [17] (fun i wr => ∃ k : Nat, k ≤ 2 ∧ i = .int .i64 k ∧ Hid (NwRow wr (w.heap.size + 1) (fun _ => 0)) ∧ Hid (wr.rowIs w.heap.size 56 1 (fun _ => .slice none 0 0)) ∧ Hid (Below w.heap.size w wr)) (fun i _ => 2 - (intOf i).toNat)
  case atStart => exact ⟨0, by omega, rfl, RR2.out, ((one_row (heap_alloc_new _ _) : World.rowIs _ _ _ _ _).alloc _ : World.rowIs _ _ _ _ _), B2.out⟩
  case round =>
    clear RR2 B1 B2 hmk c0 X1
    obtain ⟨k, hk, rfl, HR, HX, HB⟩ := hrel
    have HGw := hid (HG.out.below HB.out)
    by_cases hlt : k < 2
    · have k0 : (0 : Int) ≤ (k : Int) := by omega
      have k1 : (k : Int) < 2 := by omega
      have hk2 : ¬ (2 : Int) ≤ (k : Int) := by omega
      have hcell := two_lev HGw.out hlt
      have n0 := hcell 0 (by omega)
      rw [Nat.add_zero] at n0
      have n1 := hcell 1 (by omega)
      have n2 := hcell 2 (by omega)
      have n3 := hcell 3 (by omega)
      have n4 := hcell 4 (by omega)
      have hgl := HGw.out.lt.2
      have hrl := World.rowIs.lt HR.out
      have r0 := HR.out.lev hlt
      have f0 := World.rowIs.frozen HR.out (k * 2)
      have HR2 := hid (((HR.out.put k hlt 0).fun_eq (f' := fun _ => 0) (fun i hi => by simp)).below ((Below.refl _ _).alloc (Nat.le_refl _) (.cells #[.int .i64 0, .int .i64 0, .int .i64 0, .int .i64 0, .int .i64 0] 87)))
      have HX2 := hid ((HX.out.setOther (a := ⟨w.heap.size + 1, k * 2, none⟩) (by dsimp only; omega) (.int .i64 0)).alloc (.cells #[.int .i64 0, .int .i64 0, .int .i64 0, .int .i64 0, .int .i64 0] 87))
      have HBz := HB.out.setCell (p := ⟨w.heap.size + 1, k * 2, none⟩) (by dsimp only; omega) (.int .i64 0)
      have HB2 := hid (HBz.alloc HBz.size (.cells #[.int .i64 0, .int .i64 0, .int .i64 0, .int .i64 0, .int .i64 0] 87))
      clear HBz
      clear hcell HR HX HB HGw
      go_wp2
      go_roundw
      case rel => exact ⟨k + 1, by omega, by go_num, HR2.out, HX2.out, HB2.out⟩
      case measure => simp [intOf]; omega
    · obtain rfl : k = 2 := by omega
      have x0 := HX.out.cell (i := 0) (by omega)
      have f0 := HX.out.frozen 0
      have e0 := (HX.out.set 0 (.slice (some ⟨w.heap.size + 1, 0, none⟩) 2 2)).cell (i := 0) (by omega)
      simp only [if_true] at e0
      have E0 := hid e0
      have HRS := hid (World.rowIs.setOther HR.out (a := ⟨w.heap.size, 0, none⟩) (by dsimp only; omega) (.slice (some ⟨w.heap.size + 1, 0, none⟩) 2 2))
      have HBS := hid (HB.out.setCell (p := ⟨w.heap.size, 0, none⟩) (Nat.le_refl _) (.slice (some ⟨w.heap.size + 1, 0, none⟩) 2 2))
      clear e0 HR HX HB HGw
      go_wp2
      refine bodyPost_ret (v := .agg #[.slice (some ⟨w.heap.size + 1, 0, none⟩) 2 2]) (by simp [results, Tryz.results51, go_sem, E0.out]) rfl ⟨rfl, HRS.out, HBS.out⟩

set_option maxHeartbeats 1000000 in
theorem c_iNewForest (w : World) :
    Calls Tryz.prog 26 #[] w fun e w' => ∃ g, e = .returned (.agg #[.slice (some ⟨g, 0, none⟩) 2 2]) ∧ NwRow w' g (fun _ => 0) ∧ w.heap.size < g ∧ Below w.heap.size w w' := by
  have X1 := hid (show (w.alloc (.cells #[.slice none 0 0] 56)).rowIs w.heap.size 56 1 (fun _ => .slice none 0 0) from one_row (heap_alloc_new _ _))
  have B1 := hid ((Below.refl w.heap.size w).alloc (Nat.le_refl _) (.cells #[.slice none 0 0] 56))
  have HC := hid (c_newGrove (w.alloc (.cells #[.slice none 0 0] 56)))
  have hs1 : (w.alloc (.cells #[.slice none 0 0] 56)).heap.size = w.heap.size + 1 := by simp
  have HS1 := hid hs1
  rw [hs1] at HC
  clear hs1
  go_enter Tryz.func26, Tryz.ntmps26
  go_wp2_with fail
  refine HC.out.mono ?_
  rintro e w1 ⟨rfl, hG, hb⟩
  have hb' : Below (w.alloc (.cells #[.slice none 0 0] 56)).heap.size (w.alloc (.cells #[.slice none 0 0] 56)) w1 := by rw [HS1.out]; exact hb
  have X2 := hid (X1.out.of_block (hb'.block _ X1.out.lt))
  have B2 := hid (Below.then B1.out hb' (by simp))
  have HG := hid hG
  clear HC X1 B1 hG hb hb'
  have hw1 := X2.out.lt
  go_wp2_with fail
  refine (c_forest2 w1 HG.out).mono ?_
  rintro e w2 ⟨rfl, hR, hb⟩
  have X3 := hid (X2.out.of_block (hb.block _ X2.out.lt))
  have B3 := hid (B2.out.trans (hb.mono B2.out.size))
  have HR := hid hR
  clear X2 B2 HG hR hb
  have x0 := X3.out.cell (i := 0) (by omega)
  have f0 := X3.out.frozen 0
  have e0 := (X3.out.set 0 (.slice (some ⟨w1.heap.size + 1, 0, none⟩) 2 2)).cell (i := 0) (by omega)
  simp only [if_true] at e0
  have E0 := hid e0
  have HRS := hid (World.rowIs.setOther HR.out (a := ⟨w.heap.size, 0, none⟩) (by dsimp only; omega) (.slice (some ⟨w1.heap.size + 1, 0, none⟩) 2 2))
  have HBS := hid (B3.out.setCell (p := ⟨w.heap.size, 0, none⟩) (Nat.le_refl _) (.slice (some ⟨w1.heap.size + 1, 0, none⟩) 2 2))
  clear e0 X3 B3 HR
  go_wp2
  exact bodyPost_ret (v := .agg #[.slice (some ⟨w1.heap.size + 1, 0, none⟩) 2 2]) (by simp [results, Tryz.results26, go_sem, E0.out]) rfl ⟨w1.heap.size + 1, rfl, HRS.out, by omega, HBS.out⟩

end Go.Proofs.YtnabgfbempkgnaaGreatDoor

namespace Go.Proofs.YtnabgfbempkgnaaGreatDoor
open Go.RowKit
set_option linter.unusedVariables false
set_option linter.unusedSimpArgs false

/-- PA: the arguments' boxes; PW: what the specification told; PX: what was handed to the program; PG: what it told. -/
structure L4 (w W : World) (la ha lw hw lx hx lg hg : Nat) (PA PW PX PG : World → Prop) : Prop where
  pa : PA W
  pw : PW W
  px : PX W
  pg : PG W
  ka : Kpt PA la ha
  kw : Kpt PW lw hw
  kx : Kpt PX lx hx
  kg : Kpt PG lg hg
  bel : Below w.heap.size w W
  ord : w.heap.size ≤ la ∧ la ≤ ha ∧ ha ≤ lw ∧ lw ≤ hw ∧ hw ≤ lx ∧ lx ≤ hx ∧ hx ≤ lg ∧ lg ≤ hg
theorem L4.below {w W W' : World} {la ha lw hw lx hx lg hg : Nat} {PA PW PX PG : World → Prop} (h : L4 w W la ha lw hw lx hx lg hg PA PW PX PG) (hb : Below W.heap.size W W') : L4 w W' la ha lw hw lx hx lg hg PA PW PX PG :=
  ⟨h.ka.below h.pa hb, h.kw.below h.pw hb, h.kx.below h.px hb, h.kg.below h.pg hb, h.ka, h.kw, h.kx, h.kg, h.bel.trans (hb.mono h.bel.size), h.ord⟩
theorem L4.markX {w W W' : World} {la ha lw hw lx hx lg hg lo hi : Nat} {PA PW PX PX' PG : World → Prop} (h : L4 w W la ha lw hw lx hx lg hg PA PW PX PG) (hG : Grew W W' lo hi) (h1 : lx ≤ lo) (h2 : hi ≤ hx) (hp : PX' W') (hk : Kpt PX' lx hx) : L4 w W' la ha lw hw lx hx lg hg PA PW PX' PG := by
  have ho := h.ord
  exact ⟨h.ka _ _ _ _ h.pa hG (by omega), h.kw _ _ _ _ h.pw hG (by omega), hp, h.kg _ _ _ _ h.pg hG (by omega), h.ka, h.kw, hk, h.kg, hG.below h.bel (by omega), ho⟩
theorem L4.markG {w W W' : World} {la ha lw hw lx hx lg hg lo hi : Nat} {PA PW PX PG PG' : World → Prop} (h : L4 w W la ha lw hw lx hx lg hg PA PW PX PG) (hG : Grew W W' lo hi) (h1 : lg ≤ lo) (h2 : hi ≤ hg) (hp : PG' W') (hk : Kpt PG' lg hg) : L4 w W' la ha lw hw lx hx lg hg PA PW PX PG' := by
  have ho := h.ord
  exact ⟨h.ka _ _ _ _ h.pa hG (by omega), h.kw _ _ _ _ h.pw hG (by omega), h.kx _ _ _ _ h.px hG (by omega), hp, h.ka, h.kw, h.kx, hk, hG.below h.bel (by omega), ho⟩
theorem Kpt.true (lo hi : Nat) : Kpt (fun _ => True) lo hi := fun _ _ _ _ _ _ _ => trivial

/-- A box of a world: a slice and a number. -/
def WBox (w : World) (b : Nat) (s : Value) (t : Int) : Prop := w.cell? ⟨b, 0, none⟩ = some s ∧ w.cell? ⟨b, 1, none⟩ = some (.int .i64 t) ∧ b < w.heap.size
theorem WBox.new (w : World) (s : Value) (t : Int) (T : TypeId) : WBox (w.alloc (.cells #[s, .int .i64 t] T)) w.heap.size s t :=
  ⟨cell_new0 _ _ _ _, cell_new1 _ _ _ _, by simp⟩
theorem WBox.kpt (b : Nat) (s : Value) (t : Int) : Kpt (fun W => WBox W b s t) b (b + 1) := by
  rintro W W' lo' hi' ⟨h1, h2, h3⟩ hg hd
  have hb := hg.block b h3 (by omega)
  exact ⟨(World.cell?_of_block (a := ⟨b, 0, none⟩) hb).trans h1, (World.cell?_of_block (a := ⟨b, 1, none⟩) hb).trans h2, Nat.lt_of_lt_of_le h3 hg.size⟩
theorem WBox.below {w w' : World} {b : Nat} {s : Value} {t : Int} (h : WBox w b s t) (hb : Below w.heap.size w w') : WBox w' b s t := (WBox.kpt b s t).below h hb
/-- A world in a variable: its box is block b, behind all of its memory. -/
def PWd (w : World) (lo b : Nat) (s : Value) (l : List Cl) (t : Int) : Prop := OwnR w lo b s l ∧ WBox w b s t ∧ lo ≤ b
theorem PWd.kpt (lo b : Nat) (s : Value) (l : List Cl) (t : Int) : Kpt (fun W => PWd W lo b s l t) lo (b + 1) := by
  rintro W W' lo' hi' ⟨h1, h2, h3⟩ hg hd
  exact ⟨OwnR.kpt _ _ _ _ W W' lo' hi' h1 hg (by omega), WBox.kpt _ _ _ W W' lo' hi' h2 hg (by omega), h3⟩
theorem PWd.mark {W W' : World} {lo b : Nat} {s : Value} {l l' : List Cl} {t : Int} (h : PWd W lo b s l t) (hg : Grew W W' lo b) (h' : OwnR W' lo b s l') : PWd W' lo b s l' t :=
  ⟨h', WBox.kpt _ _ _ W W' lo b h.2.1 hg (.inr (Nat.le_refl _)), h.2.2⟩
theorem PWd.new {w : World} {lo : Nat} {s : Value} {l : List Cl} {t : Int} (h : OwnS w lo s l) (hl : lo ≤ w.heap.size) (T : TypeId) : PWd (w.alloc (.cells #[s, .int .i64 t] T)) lo w.heap.size s l t := by
  have hb := (Below.refl w.heap.size w).alloc (Nat.le_refl _) (.cells #[s, .int .i64 t] T)
  exact ⟨(OwnR.kpt _ _ _ _).below (OwnR.of h) hb, WBox.new _ _ _ _, hl⟩

end Go.Proofs.YtnabgfbempkgnaaGreatDoor

namespace Go.Proofs.YtnabgfbempkgnaaGreatDoor
open Go.RowKit
set_option linter.unusedVariables false
set_option linter.unusedSimpArgs false

/-- Is a world of these cells and this age good? -/
def gw (l : List Cl) (t : Int) : Bool := good l && inB 0 1000 t
def gwL (l : List Cl) (t : Int) : List Cl := if gw l t then l else []
def gwT (l : List Cl) (t : Int) : Int := if gw l t then t else 0
theorem gwL_le (l : List Cl) (t : Int) : (gwL l t).length ≤ 120 := by
  unfold gwL; split
  · rename_i h; simp only [gw, Bool.and_eq_true] at h; exact good_le h.1
  · simp

/-! ### Going on -/
noncomputable def advOk (l : List Cl) (t s : Int) : Bool := gw l t && timesOk l s && gw (timesL l s) (t + s)
noncomputable def advL (l : List Cl) (t s : Int) : List Cl := if advOk l t s then timesL l s else []
noncomputable def advT (l : List Cl) (t s : Int) : Int := if advOk l t s then t + s else 0
theorem advL_le (l : List Cl) (t s : Int) : (advL l t s).length ≤ 120 := by
  unfold advL; split
  · exact timesL_le l s
  · simp
theorem times_zero {l : List Cl} (h : good l = true) : timesOk l 0 = true ∧ timesL l 0 = l := by
  simp [timesOk, timesL, h, inT, timesO]
theorem adv_zero (l : List Cl) : advOk l 0 0 = good l ∧ advL l 0 0 = tellV l ∧ advT l 0 0 = 0 := by
  cases hg : good l
  · simp [advOk, advL, advT, gw, tellV, hg]
  · have h := times_zero hg
    have h2 : advOk l 0 0 = true := by simp [advOk, gw, h.1, h.2, hg, inB]
    simp [h2, advL, advT, h.2, tellV, hg]

/-! ### Moving -/
def mwOk (l : List Cl) (t x y : Int) : Bool := gw l t && moveOk l x y
def mwL (l : List Cl) (t x y : Int) : List Cl := if mwOk l t x y then moveL l x y else []
def mwT (l : List Cl) (t x y : Int) : Int := if mwOk l t x y then t else 0
theorem mwL_le (l : List Cl) (t x y : Int) : (mwL l t x y).length ≤ 120 := by
  unfold mwL; split
  · exact moveL_le l x y
  · simp
theorem moveL_good {l : List Cl} {x y : Int} (h : moveOk l x y = true) : good (moveL l x y) = true := by
  simp only [moveOk, Bool.and_eq_true] at h
  simp [moveL, tellV, h.1.1.1, h.1.1.2, h.1.2, h.2]

/-! ### The same but for where it is -/
def home (l : List Cl) : List Cl := if boxOk l then mv l (-(boxLo l).1) (-(boxLo l).2) else []
def firstL (l : List Cl) : List Cl := mv l (-(at_ l 0).1) (-(at_ l 0).2)
theorem mv_two (l : List Cl) (x y z u : Int) : mv (mv l x y) z u = mv l (x + z) (y + u) := by
  simp only [mv_sh, List.map_map]
  apply List.map_congr_left
  intro c _
  simp only [Function.comp, sh, Prod.mk.injEq]
  omega
theorem mv_none (l : List Cl) : mv l 0 0 = l := by
  rw [mv_sh]
  conv => rhs; rw [← List.map_id l]
  apply List.map_congr_left
  intro c _
  simp [sh]
theorem loC_sh (x y : Int) (a b : Cl) : loC (sh x y a) (sh x y b) = sh x y (loC a b) := by
  have h1 : (b.1 + x < a.1 + x) = (b.1 < a.1) := by apply propext; omega
  have h2 : (b.2 + y < a.2 + y) = (b.2 < a.2) := by apply propext; omega
  simp only [loC, sh, h1, h2, Prod.mk.injEq]
  constructor <;> split <;> rfl
theorem fold_sh (x y : Int) : ∀ (l : List Cl) (c : Cl), (l.map (sh x y)).foldl loC (sh x y c) = sh x y (l.foldl loC c)
  | [], _ => rfl
  | d :: r, c => by simp only [List.map_cons, List.foldl_cons, loC_sh, fold_sh x y r]
theorem lo_mv {l : List Cl} (h : l.length ≠ 0) (x y : Int) : loTo (mv l x y) (mv l x y).length = sh x y (loTo l l.length) := by
  unfold loTo
  rw [List.take_length, List.take_length, mv_at (by omega), mv_sh]
  exact fold_sh x y l _
/-- Two lists that are one when moved to their first cells are so, too, when moved to their least numbers. -/
theorem same_iff {a b : List Cl} (ha : good a = true) (hb : good b = true) : firstL a = firstL b ↔ home a = home b := by
  by_cases ea : a.length = 0
  · have := List.eq_nil_of_length_eq_zero ea
    subst this
    by_cases eb : b.length = 0
    · have := List.eq_nil_of_length_eq_zero eb
      subst this
      simp
    · have hk : boxOk b = true := by simp [boxOk, hb]; intro e; simp [e] at eb
      have hk0 : boxOk [] = false := by simp [boxOk]
      constructor
      · intro h
        have := congrArg List.length h
        simp only [firstL, mv_length, List.length_nil] at this
        omega
      · intro h
        have := congrArg List.length h
        rw [home, home, hk0, hk] at this
        simp only [Bool.false_eq_true, if_false, if_true, mv_length, List.length_nil] at this
        omega
  · have ka : boxOk a = true := by simp [boxOk, ha]; intro e; simp [e] at ea
    have key : ∀ {b : List Cl}, good b = true → ∀ x y : Int, b = mv a x y → firstL a = firstL b ∧ home a = home b := by
      intro b hb x y e
      have eb : b.length ≠ 0 := by rw [e, mv_length]; exact ea
      have kb : boxOk b = true := by simp [boxOk, hb]; intro e; simp [e] at eb
      have l1 := lo_mv ea x y
      rw [← e] at l1
      have f1 : at_ b 0 = sh x y (at_ a 0) := by rw [e, mv_at (by omega)]; rfl
      refine ⟨?_, ?_⟩
      · unfold firstL
        rw [f1, e, mv_two]
        congr 1 <;> simp [sh] <;> omega
      · unfold home
        rw [ka, kb]
        simp only [if_true, boxLo, ka, kb]
        rw [l1, e, mv_two]
        congr 1 <;> simp [sh] <;> omega
    constructor
    · intro h
      have hb2 : b = mv a ((at_ b 0).1 - (at_ a 0).1) ((at_ b 0).2 - (at_ a 0).2) := by
        have := congrArg (fun z => mv z (at_ b 0).1 (at_ b 0).2) h
        simp only [firstL, mv_two] at this
        rw [show -(at_ b 0).1 + (at_ b 0).1 = 0 by omega, show -(at_ b 0).2 + (at_ b 0).2 = 0 by omega, mv_none] at this
        exact this.symm.trans (by congr 1 <;> omega)
      exact (key hb _ _ hb2).2
    · intro h
      have kb : boxOk b = true := by
        cases hk : boxOk b
        · rw [home, home, ka, hk] at h
          have := congrArg List.length h
          simp [mv_length] at this
          simp [this] at ea
        · rfl
      have hb2 : b = mv a ((boxLo b).1 - (boxLo a).1) ((boxLo b).2 - (boxLo a).2) := by
        rw [home, home, ka, kb] at h
        have := congrArg (fun z => mv z (boxLo b).1 (boxLo b).2) h
        simp only [if_true, mv_two] at this
        rw [show -(boxLo b).1 + (boxLo b).1 = 0 by omega, show -(boxLo b).2 + (boxLo b).2 = 0 by omega, mv_none] at this
        exact this.symm.trans (by congr 1 <;> omega)
      exact (key hb _ _ hb2).1

/-! ### The square for a world -/
theorem fold_lo : ∀ (l : List Cl) (c : Cl), (inR c = true) → (∀ d ∈ l, inR d = true) → inR (l.foldl loC c) = true
  | [], c, h, _ => h
  | d :: r, c, h, hh => by
    refine fold_lo r _ ?_ (fun e he => hh e (List.mem_cons_of_mem _ he))
    have := hh d (by simp)
    simp only [inR, Bool.and_eq_true, decide_eq_true_eq] at *
    have e1 : (loC c d).1 = c.1 ∨ (loC c d).1 = d.1 := by unfold loC; dsimp only; split <;> simp
    have e2 : (loC c d).2 = c.2 ∨ (loC c d).2 = d.2 := by unfold loC; dsimp only; split <;> simp
    omega
theorem fold_hi : ∀ (l : List Cl) (c : Cl), (inR c = true) → (∀ d ∈ l, inR d = true) → inR (l.foldl hiC c) = true
  | [], c, h, _ => h
  | d :: r, c, h, hh => by
    refine fold_hi r _ ?_ (fun e he => hh e (List.mem_cons_of_mem _ he))
    have := hh d (by simp)
    simp only [inR, Bool.and_eq_true, decide_eq_true_eq] at *
    have e1 : (hiC c d).1 = c.1 ∨ (hiC c d).1 = d.1 := by unfold hiC; dsimp only; split <;> simp
    have e2 : (hiC c d).2 = c.2 ∨ (hiC c d).2 = d.2 := by unfold hiC; dsimp only; split <;> simp
    omega
theorem box_reach {l : List Cl} (h : boxOk l = true) : inR (boxLo l) = true ∧ inR (boxHi l) = true := by
  have hg : good l = true ∧ l.length ≠ 0 := by simpa [boxOk] using h
  have hin := good_in hg.1
  have hm : ∀ d ∈ l, inR d = true := fun d hd => by
    obtain ⟨i, hi, e⟩ := List.getElem_of_mem hd
    have := hin i hi
    simpa [at_, hi, e] using this
  simp only [boxLo, boxHi, h, if_true, loTo, hiTo, List.take_length]
  exact ⟨fold_lo l _ (hin 0 (by omega)) hm, fold_hi l _ (hin 0 (by omega)) hm⟩
theorem fold_lo_le : ∀ (l : List Cl) (c : Cl), (l.foldl loC c).1 ≤ c.1 ∧ (l.foldl loC c).2 ≤ c.2
  | [], c => ⟨Int.le_refl _, Int.le_refl _⟩
  | d :: r, c => by
    have h := fold_lo_le r (loC c d)
    have e1 : (loC c d).1 ≤ c.1 := by unfold loC; dsimp only; split <;> omega
    have e2 : (loC c d).2 ≤ c.2 := by unfold loC; dsimp only; split <;> omega
    simp only [List.foldl_cons]
    omega
theorem fold_hi_le : ∀ (l : List Cl) (c : Cl), c.1 ≤ (l.foldl hiC c).1 ∧ c.2 ≤ (l.foldl hiC c).2
  | [], c => ⟨Int.le_refl _, Int.le_refl _⟩
  | d :: r, c => by
    have h := fold_hi_le r (hiC c d)
    have e1 : c.1 ≤ (hiC c d).1 := by unfold hiC; dsimp only; split <;> omega
    have e2 : c.2 ≤ (hiC c d).2 := by unfold hiC; dsimp only; split <;> omega
    simp only [List.foldl_cons]
    omega
theorem box_le {l : List Cl} (h : boxOk l = true) : (boxLo l).1 ≤ (boxHi l).1 ∧ (boxLo l).2 ≤ (boxHi l).2 := by
  have h1 := fold_lo_le l (at_ l 0)
  have h2 := fold_hi_le l (at_ l 0)
  simp only [boxLo, boxHi, h, if_true, loTo, hiTo, List.take_length]
  omega
/-- How long the middle is to be. -/
def longC (l : List Cl) (s : Int) : Int := max ((boxHi l).1 - (boxLo l).1) ((boxHi l).2 - (boxLo l).2) + 1 + 2 * s
def sqLev (n : Int) : Int := if n ≤ 2 then 2 else if n ≤ 4 then 3 else if n ≤ 8 then 4 else if n ≤ 16 then 5 else 0
/-- A quarter of its side. -/
def sqQ (n : Int) : Int := if n ≤ 2 then 1 else if n ≤ 4 then 2 else if n ≤ 8 then 4 else 8
def sqIn (l : List Cl) (t s : Int) : Bool := boxOk l && gw l t && inB 1 8 s
def sqOk (l : List Cl) (t s : Int) : Bool := sqIn l t s && decide (longC l s ≤ 16)
def sqV (l : List Cl) (t s : Int) : Int := if sqOk l t s then sqLev (longC l s) else 0
def sqC (l : List Cl) (t s : Int) : Cl := if sqOk l t s then ((boxLo l).1 - s - sqQ (longC l s), (boxLo l).2 - s - sqQ (longC l s)) else (0, 0)

end Go.Proofs.YtnabgfbempkgnaaGreatDoor

namespace Go.Proofs.YtnabgfbempkgnaaGreatDoor
set_option linter.unusedVariables false
theorem meet_fun {R : Prop} (h : R) {l : List Value} {T : (Nat → Value) → Array Value} (e : Act.mk l.toArray [] = Act.mk (T (fun i => l.getD i (.bool false))) []) : ∃ f : Nat → Value, Act.mk l.toArray [] = Act.mk (T f) [] ∧ R := ⟨_, e, h⟩
end Go.Proofs.YtnabgfbempkgnaaGreatDoor
