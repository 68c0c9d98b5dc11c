/- What stands while an exact law is walked whose arguments besides the forest lie in boxes: the law's own regions draw their order, and an answer's box may lie ahead of its memory or behind it. -/
import Derived.Test.YtmapbkefndbnnaaBlank
namespace Go.Proofs.Ytmapbkefndbnnaa
open Go.RowKit
set_option linter.unusedVariables false
set_option linter.unusedSimpArgs false

/-- All orders of a region come to one thing. -/
structure KeyP (K : Prop) : Prop where
  out : K
theorem cut5 {C P : Option Addr → Option Addr → Nat → Nat → World → Prop} {G : Prop} (main : KeyP (∀ a b c d W, C a b c d W → P a b c d W) → G) (pf : ∀ a b c d W, C a b c d W → P a b c d W) : G := main ⟨pf⟩
theorem cut4 {C P : Option Addr → Nat → Nat → World → Prop} {G : Prop} (main : KeyP (∀ a c d W, C a c d W → P a c d W) → G) (pf : ∀ a c d W, C a c d W → P a c d W) : G := main ⟨pf⟩
theorem alloc_size (W : World) (o : Obj) : (W.alloc o).heap.size = W.heap.size + 1 := by simp
theorem bel_step {w W W' : World} (h : Below w.heap.size w W) (hb : Below W.heap.size W W') : Below w.heap.size w W' := h.trans (hb.mono h.size)
theorem Kpt.wide' {P : World → Prop} {lo hi lo' hi' : Nat} (h : Kpt P lo hi) (h1 : lo' ≤ lo) (h2 : hi ≤ hi') : Kpt P lo' hi' := fun W W' l' h' hp hg hd => h W W' l' h' hp hg (by omega)
theorem Kpt.and' {P Q : World → Prop} {lo hi : Nat} (h : Kpt P lo hi) (k : Kpt Q lo hi) : Kpt (fun W => P W ∧ Q W) lo hi := fun W W' l' h' hp hg hd => ⟨h W W' l' h' hp.1 hg hd, k W W' l' h' hp.2 hg hd⟩
/-- Cells' boxes, right behind the forest's. -/
def CBs (w W : World) (l : List Cl) : Prop := ∀ i c, l[i]? = some c → w.heap.size + 1 + i < W.heap.size ∧ W.heap[w.heap.size + 1 + i]? = some (.cells #[.int .i64 c.1, .int .i64 c.2] 74)
theorem CBs.nil (w W : World) : CBs w W [] := fun i c h => by simp at h
theorem CBs.below {w W W' : World} {l : List Cl} (h : CBs w W l) (hb : Below W.heap.size W W') : CBs w W' l := fun i c hi => ⟨Nat.lt_of_lt_of_le (h i c hi).1 hb.size, (hb.block _ (h i c hi).1).trans (h i c hi).2⟩
theorem CBs.add {w W : World} {l : List Cl} (h : CBs w W l) (hs : W.heap.size = w.heap.size + 1 + l.length) (c : Cl) : CBs w (W.alloc (.cells #[.int .i64 c.1, .int .i64 c.2] 74)) (l ++ [c]) := by
  intro i d hi
  have hb := (Below.refl W.heap.size W).alloc (Nat.le_refl _) (.cells #[.int .i64 c.1, .int .i64 c.2] 74)
  by_cases e : i < l.length
  · rw [List.getElem?_append_left e] at hi
    exact h.below hb i d hi
  · have e2 : i = l.length := by
      by_cases h2 : i = l.length
      · exact h2
      · rw [List.getElem?_eq_none (by simp; omega)] at hi; cases hi
    subst e2
    simp at hi
    subst hi
    rw [← hs]
    exact ⟨by simp, heap_alloc_new _ _⟩
theorem CBs.kpt (w : World) (l : List Cl) : Kpt (fun W => CBs w W l) (w.heap.size + 1) (w.heap.size + 1 + l.length) := fun W W' lo hi h hg hd i c hi => by
  have := (List.getElem?_eq_some_iff.1 hi).1
  exact ⟨Nat.lt_of_lt_of_le (h i c hi).1 hg.size, (hg.block _ (h i c hi).1 (by omega)).trans (h i c hi).2⟩
theorem CBs.cell {w W : World} {l : List Cl} (h : CBs w W l) (i : Nat) {c : Cl} (hi : l[i]? = some c) : W.cell? ⟨w.heap.size + 1 + i, 0, none⟩ = some (.int .i64 c.1) ∧ W.cell? ⟨w.heap.size + 1 + i, 1, none⟩ = some (.int .i64 c.2) := by
  unfold World.cell?
  dsimp only
  rw [(h i c hi).2]
  exact ⟨rfl, rfl⟩

/-- A forest that the specification told, in a variable whose box is block b; all from lo on and ahead of hi. -/
def PSb (w : World) (lo hi b : Nat) (v : Value) (F : List Qd) : Prop := (∃ m1 m2, SG w m1 m2 v F ∧ lo ≤ m1 ∧ m2 ≤ hi) ∧ w.cell? ⟨b, 0, none⟩ = some v ∧ lo ≤ b ∧ b < hi ∧ hi ≤ w.heap.size
theorem PSb.kpt (lo hi b : Nat) (v : Value) (F : List Qd) : Kpt (fun W => PSb W lo hi b v F) lo hi := by
  rintro W W' lo' hi' ⟨⟨m1, m2, h1, k1, k2⟩, h2, h3, h4, h5⟩ hg hd
  exact ⟨⟨m1, m2, SG.kpt m1 m2 v F W W' lo' hi' h1 hg (by omega), k1, k2⟩, (World.cell?_of_block (a := ⟨b, 0, none⟩) (hg.block b (by omega) (by omega))).trans h2, h3, h4, Nat.le_trans h5 hg.size⟩
theorem PSb.gf {w : World} {lo hi b : Nat} {v : Value} {F : List Qd} (h : PSb w lo hi b v F) : ∃ m, GF w m v F := by
  obtain ⟨⟨m1, m2, h1, _⟩, _⟩ := h
  exact ⟨m1, h1.gf⟩
theorem PSb.after {w : World} {lo m : Nat} {v : Value} {F : List Qd} (h : GF w m v F) (hl : lo ≤ m) (hm : m ≤ w.heap.size) (t : TypeId) : PSb (w.alloc (.cells #[v] t)) lo (w.alloc (.cells #[v] t)).heap.size w.heap.size v F := by
  have hb := (Below.refl w.heap.size w).alloc (Nat.le_refl _) (.cells #[v] t)
  refine ⟨⟨m, w.heap.size, (SG.kpt _ _ _ _).below (SG.of h) hb, hl, hb.size⟩, ?_, Nat.le_trans hl hm, by simp, Nat.le_refl _⟩
  unfold World.cell?; rw [heap_alloc_new]; rfl
theorem PSb.ahead {w : World} {lo m b : Nat} {v : Value} {F : List Qd} {f : Nat → Value} (h : GF w m v F) (hr : w.rowIs b 25 1 f) (hl : lo ≤ b) (hm : b < m) : PSb (w.setCell ⟨b, 0, none⟩ v) lo (w.setCell ⟨b, 0, none⟩ v).heap.size b v F := by
  have hs : (w.setCell ⟨b, 0, none⟩ v).heap.size = w.heap.size := by simp
  have hlt := hr.lt
  have e := (hr.set 0 v).cell (i := 0) (by omega)
  simp only [if_true] at e
  exact ⟨⟨m, _, SG.of (h.setRow (o := 0) hr (by decide) (by decide) v), by omega, Nat.le_refl _⟩, e, hl, by omega, Nat.le_refl _⟩
/-- A forest that the program told, in a variable whose box is block b; its memory is from m1 on and ahead of m2. -/
def PFb (w : World) (lo hi m1 m2 b : Nat) (v : Value) (F : List Qd) : Prop := FOwn w m1 m2 v F ∧ w.cell? ⟨b, 0, none⟩ = some v ∧ (lo ≤ m1 ∧ m2 ≤ hi ∧ (b < m1 ∨ m2 ≤ b) ∧ lo ≤ b ∧ b < hi ∧ hi ≤ w.heap.size)
theorem PFb.kpt (lo hi m1 m2 b : Nat) (v : Value) (F : List Qd) : Kpt (fun W => PFb W lo hi m1 m2 b v F) lo hi := by
  rintro W W' lo' hi' ⟨h1, h2, h3⟩ hg hd
  exact ⟨h1.kept hg (by omega), (World.cell?_of_block (a := ⟨b, 0, none⟩) (hg.block b (by omega) (by omega))).trans h2, by have := hg.size; omega⟩
theorem PFb.mark {W W' : World} {lo hi m1 m2 b : Nat} {v : Value} {F F' : List Qd} (h : PFb W lo hi m1 m2 b v F) (hg : Grew W W' m1 m2) (h' : FOwn W' m1 m2 v F') : PFb W' lo hi m1 m2 b v F' :=
  ⟨h', (World.cell?_of_block (a := ⟨b, 0, none⟩) (hg.block b (by have := h.2.2; omega) (by have := h.2.2; omega))).trans h.2.1, by have := h.2.2; have := hg.size; omega⟩
theorem PFb.after {w : World} {lo m : Nat} {v : Value} {F : List Qd} (h : FOwn w m w.heap.size v F) (hl : lo ≤ m) (hm : m ≤ w.heap.size) (t : TypeId) : PFb (w.alloc (.cells #[v] t)) lo (w.alloc (.cells #[v] t)).heap.size m w.heap.size w.heap.size v F := by
  have hb := (Below.refl w.heap.size w).alloc (Nat.le_refl _) (.cells #[v] t)
  refine ⟨h.below hb, ?_, by simp; omega⟩
  unfold World.cell?; rw [heap_alloc_new]; rfl
theorem PFb.ahead {w : World} {lo m b : Nat} {v : Value} {F : List Qd} {f : Nat → Value} (h : FOwn w m w.heap.size v F) (hr : w.rowIs b 25 1 f) (hl : lo ≤ b) (hm : b < m) : PFb (w.setCell ⟨b, 0, none⟩ v) lo (w.setCell ⟨b, 0, none⟩ v).heap.size m w.heap.size b v F := by
  have hs : (w.setCell ⟨b, 0, none⟩ v).heap.size = w.heap.size := by simp
  have hlt := hr.lt
  have e := (hr.set 0 v).cell (i := 0) (by omega)
  simp only [if_true] at e
  exact ⟨h.kept ((Grew.refl w b (b + 1)).set (Nat.le_refl _) (by omega) v) (by omega), e, by omega⟩
/-- toForest, its address a letter. -/
theorem c_toForestA (a : Option Addr) (F : List Qd) (ca : Nat) (w : World) (ha : QSeg w a F) (hl : F.length ≤ 1048576) (hk : KidsLe F) :
    Calls Try.prog 67 #[.agg #[.slice a F.length ca]] w fun e w' => ∃ ad, e = .returned (.agg #[.slice ad F.length F.length]) ∧ QSeg w' ad F ∧ NoneCap w' ad F ∧ Below w.heap.size w w' :=
  (c_toForest a F ca w ha hl hk).mono fun e w' ⟨h1, ⟨ks, r⟩, h3⟩ => ⟨_, h1, r.seg, r.noneCap, h3⟩
theorem box_new {W W' : World} (hb : Below (W.alloc (.cells #[.slice none 0 0] 25)).heap.size (W.alloc (.cells #[.slice none 0 0] 25)) W') : W'.rowIs W.heap.size 25 1 (fun _ => .slice none 0 0) :=
  one_row ((hb.block W.heap.size (by simp)).trans (heap_alloc_new W _))
theorem box_newD {W W' : World} (hb : Below (W.alloc (.cells #[.slice none 0 0] 25)).drew.heap.size (W.alloc (.cells #[.slice none 0 0] 25)).drew W') : W'.rowIs W.heap.size 25 1 (fun _ => .slice none 0 0) :=
  box_new (show Below (W.alloc (.cells #[.slice none 0 0] 25)).heap.size (W.alloc (.cells #[.slice none 0 0] 25)) W' from ⟨hb.os, hb.tape, hb.output, hb.size, hb.block⟩)

end Go.Proofs.Ytmapbkefndbnnaa
