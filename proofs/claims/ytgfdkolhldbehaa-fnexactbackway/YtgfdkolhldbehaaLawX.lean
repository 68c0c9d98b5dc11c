/- What stands while an exact law over a forest is walked, and what the law's own small functions do with it. -/
import Derived.Test.YtgfdkolhldbehaaFHeld
import Derived.Test.YtgfdkolhldbehaaApp
namespace Go.Proofs.Ytgfdkolhldbehaa
open Go.RowKit
set_option linter.unusedVariables false
set_option linter.unusedSimpArgs false
attribute [local go_sem ↓] Go.wp_at_zero Go.wp_at_succ

/-- A fact of the blocks from lo on and ahead of hi: what changes elsewhere leaves it alone. -/
def Kpt (P : World → Prop) (lo hi : Nat) : Prop := ∀ W W' lo' hi', P W → Grew W W' lo' hi' → hi ≤ lo' ∨ hi' ≤ lo → P W'
theorem Kpt.below {P : World → Prop} {lo hi : Nat} (h : Kpt P lo hi) {W W' : World} (hp : P W) (hb : Below W.heap.size W W') : P W' := h W W' 0 0 hp (Grew.of_below hb 0 0) (by omega)

/-- Cells in memory of the call's own. -/
def OwnR (w : World) (lo hi : Nat) (v : Value) (l : List Cl) : Prop := OwnS w lo v l ∧ (∀ k, v.ownBlock = some k → k < hi) ∧ hi ≤ w.heap.size
theorem OwnR.of {w : World} {lo : Nat} {v : Value} {l : List Cl} (h : OwnS w lo v l) : OwnR w lo w.heap.size v l := ⟨h, fun k hk => (h.lt k hk).2, Nat.le_refl _⟩
theorem OwnR.kpt (lo hi : Nat) (v : Value) (l : List Cl) : Kpt (fun W => OwnR W lo hi v l) lo hi := by
  rintro W W' lo' hi' ⟨h, hh, hs⟩ hg hd
  refine ⟨?_, hh, Nat.le_trans hs hg.size⟩
  rcases h.2 with hn | ⟨g, cap, cur, rfl, hb, hblk, r⟩
  · exact ⟨h.1, .inl hn⟩
  · have := hh g rfl
    exact ⟨h.1, .inr ⟨g, cap, cur, rfl, hb, (hg.block g (by omega) (by omega)).trans hblk, r⟩⟩
/-- Numbers in memory of the call's own. -/
def IOwn (w : World) (lo hi : Nat) (v : Value) (l : List Int) : Prop :=
  (v = .slice none 0 0 ∧ l = []) ∨ ∃ g cap, v = .slice (some ⟨g, 0, none⟩) l.length cap ∧ l.length ≤ cap ∧ lo ≤ g ∧ g < hi ∧ hi ≤ w.heap.size ∧ ∀ j, j < l.length → WC w g j (.int .i64 (ia l j))
theorem IOwn.kpt (lo hi : Nat) (v : Value) (l : List Int) : Kpt (fun W => IOwn W lo hi v l) lo hi := by
  rintro W W' lo' hi' h hg hd
  rcases h with h | ⟨g, cap, h1, h2, h3, h4, h5, h6⟩
  · exact .inl h
  · exact .inr ⟨g, cap, h1, h2, h3, h4, Nat.le_trans h5 hg.size, fun j hj => (h6 j hj).of_block (hg.block g (by omega) (by omega)) hg.size⟩
theorem IOwn.form {w : World} {lo hi : Nat} {v : Value} {l : List Int} (h : IOwn w lo hi v l) : ∃ a cap, v = .slice a l.length cap ∧ ISeg w a l := by
  rcases h with ⟨rfl, rfl⟩ | ⟨g, cap, rfl, h2, h3, h4, h5, h6⟩
  · exact ⟨none, 0, rfl, fun i hi => by simp at hi⟩
  · exact ⟨_, cap, rfl, fun i hi => ⟨g, 0, rfl, (h6 i hi).2.2, by rw [Nat.zero_add]; exact (h6 i hi).1⟩⟩
theorem IRow.own {w : World} {g : Nat} {l : List Int} (h : IRow w g l) : IOwn w g w.heap.size (.slice (some ⟨g, 0, none⟩) l.length l.length) l :=
  .inr ⟨g, l.length, rfl, Nat.le_refl _, Nat.le_refl _, World.rowIs.lt h, Nat.le_refl _, fun j hj => ⟨World.rowIs.cell h hj, World.rowIs.frozen h _, World.rowIs.lt h⟩⟩
theorem FOwn.kpt (lo hi : Nat) (v : Value) (F : List Qd) : Kpt (fun W => FOwn W lo hi v F) lo hi := fun _ _ _ _ h hg hd => h.kept hg hd
/-- A forest in a variable: its box is block b, behind all of its memory. -/
def PF (w : World) (lo b : Nat) (v : Value) (F : List Qd) : Prop := FOwn w lo b v F ∧ w.cell? ⟨b, 0, none⟩ = some v ∧ b < w.heap.size ∧ lo ≤ b
theorem PF.kpt (lo b : Nat) (v : Value) (F : List Qd) : Kpt (fun W => PF W lo b v F) lo (b + 1) := by
  rintro W W' lo' hi' ⟨h1, h2, h3, h4⟩ hg hd
  exact ⟨h1.kept hg (by omega), (World.cell?_of_block (a := ⟨b, 0, none⟩) (hg.block b h3 (by omega))).trans h2, Nat.lt_of_lt_of_le h3 hg.size, h4⟩
theorem PF.mark {W W' : World} {lo b : Nat} {v : Value} {F F' : List Qd} (h : PF W lo b v F) (hg : Grew W W' lo b) (h' : FOwn W' lo b v F') : PF W' lo b v F' :=
  ⟨h', (World.cell?_of_block (a := ⟨b, 0, none⟩) (hg.block b h.2.2.1 (.inr (Nat.le_refl _)))).trans h.2.1, Nat.lt_of_lt_of_le h.2.2.1 hg.size, h.2.2.2⟩
theorem PF.new {w : World} {lo : Nat} {v : Value} {F : List Qd} (h : FOwn w lo w.heap.size v F) (hl : lo ≤ w.heap.size) (t : TypeId) : PF (w.alloc (.cells #[v] t)) lo w.heap.size v F := by
  have hb := (Below.refl w.heap.size w).alloc (Nat.le_refl _) (.cells #[v] t)
  refine ⟨h.below hb, ?_, by simp, hl⟩
  unfold World.cell?; rw [heap_alloc_new]; rfl

/-- What stands while a law is walked: the argument's box; what the specification told (PW), what was handed to the program (PX), what it told (PG), each in blocks of its own. -/
structure LL (w W : World) (av : Value) (lw hw lx hx lg hg : Nat) (PW PX PG : World → Prop) : Prop where
  box : W.cell? ⟨w.heap.size, 0, none⟩ = some av
  pw : PW W
  px : PX W
  pg : PG W
  kw : Kpt PW lw hw
  kx : Kpt PX lx hx
  kg : Kpt PG lg hg
  bel : Below w.heap.size w W
  lt : w.heap.size < W.heap.size
  ord : w.heap.size < lw ∧ lw ≤ hw ∧ hw ≤ lx ∧ lx ≤ hx ∧ hx ≤ lg ∧ lg ≤ hg
theorem LL.below {w W W' : World} {av : Value} {lw hw lx hx lg hg : Nat} {PW PX PG : World → Prop} (h : LL w W av lw hw lx hx lg hg PW PX PG) (hb : Below W.heap.size W W') : LL w W' av lw hw lx hx lg hg PW PX PG :=
  ⟨(hb.cell (p := ⟨w.heap.size, 0, none⟩) h.lt).trans h.box, h.kw.below h.pw hb, h.kx.below h.px hb, h.kg.below h.pg hb, h.kw, h.kx, h.kg, h.bel.trans (hb.mono h.bel.size), Nat.lt_of_lt_of_le h.lt hb.size, h.ord⟩
theorem LL.markX {w W W' : World} {av : Value} {lw hw lx hx lg hg lo hi : Nat} {PW PX PX' PG : World → Prop} (h : LL w W av lw hw lx hx lg hg PW PX PG) (hG : Grew W W' lo hi) (h1 : lx ≤ lo) (h2 : hi ≤ hx) (hp : PX' W') (hk : Kpt PX' lx hx) : LL w W' av lw hw lx hx lg hg PW PX' PG := by
  have ho := h.ord
  exact ⟨(World.cell?_of_block (a := ⟨w.heap.size, 0, none⟩) (hG.block w.heap.size h.lt (by omega))).trans h.box, h.kw _ _ _ _ h.pw hG (by omega), hp, h.kg _ _ _ _ h.pg hG (by omega), h.kw, hk, h.kg, hG.below h.bel (by omega), Nat.lt_of_lt_of_le h.lt hG.size, ho⟩
theorem LL.markG {w W W' : World} {av : Value} {lw hw lx hx lg hg lo hi : Nat} {PW PX PG PG' : World → Prop} (h : LL w W av lw hw lx hx lg hg PW PX PG) (hG : Grew W W' lo hi) (h1 : lg ≤ lo) (h2 : hi ≤ hg) (hp : PG' W') (hk : Kpt PG' lg hg) : LL w W' av lw hw lx hx lg hg PW PX PG' := by
  have ho := h.ord
  exact ⟨(World.cell?_of_block (a := ⟨w.heap.size, 0, none⟩) (hG.block w.heap.size h.lt (by omega))).trans h.box, h.kw _ _ _ _ h.pw hG (by omega), h.kx _ _ _ _ h.px hG (by omega), hp, h.kw, h.kx, hk, hG.below h.bel (by omega), Nat.lt_of_lt_of_le h.lt hG.size, ho⟩

theorem c_eqCells' (v u : Value) (l : List Cl) (w : World) {lo hi lo' hi' : Nat} (h1 : OwnR w lo hi v l) (h2 : OwnR w lo' hi' u l) (hl : l.length ≤ 1048576) :
    Calls Try.prog 38 #[v, u] w fun e w' => e = .returned (.bool true) ∧ Below w.heap.size w w' := by
  obtain ⟨a, ca, rfl, ha⟩ := h1.1.form
  obtain ⟨b, cb, rfl, hb⟩ := h2.1.form
  have := c_eqCellS a b l l ca cb w ha hb hl hl
  simpa using this
theorem c_eqInts' (v u : Value) (l : List Int) (w : World) {lo hi lo' hi' : Nat} (h1 : IOwn w lo hi v l) (h2 : IOwn w lo' hi' u l) (hl : l.length ≤ 1048576) :
    Calls Try.prog 50 #[v, u] w fun e w' => e = .returned (.bool true) ∧ Below w.heap.size w w' := by
  obtain ⟨a, ca, rfl, ha⟩ := h1.form
  obtain ⟨b, cb, rfl, hb⟩ := h2.form
  have := c_eqIntS a b l l ca cb w ha hb hl hl
  simpa using this
theorem c_markCells' (v : Value) (l : List Cl) (w : World) {lo hi : Nat} (h : OwnR w lo hi v l) (hl : l.length ≤ 1048576) :
    Calls Try.prog 39 #[v, .int .i64 1] w fun e w' => e = .returned (.int .i64 (1 + 2 * (l.length : Int))) ∧ OwnR w' lo hi v (marks 1 l.length) ∧ Grew w w' lo hi := by
  obtain ⟨a, ca, rfl, _⟩ := h.1.form
  refine (c_mark a ca lo l 1 w h.1 hl (by omega) (by omega)).mono ?_
  rintro e w' ⟨rfl, hO, hg⟩
  refine ⟨rfl, ⟨hO, h.2.1, Nat.le_trans h.2.2 hg.size⟩, ⟨hg.os, hg.tape, hg.output, hg.size, fun k hk hn => hg.block k hk ?_⟩⟩
  intro e
  have h1 := (h.1.lt k e.symm).1
  have h2 := h.2.1 k e.symm
  omega
theorem c_heldCells' (v : Value) (n : Nat) (w : World) {lo hi : Nat} (h : OwnR w lo hi v (marks 1 n)) (hn : n ≤ 1048576) :
    Calls Try.prog 40 #[v, .int .i64 1] w fun e w' => e = .returned (.int .i64 (1 + 2 * (n : Int))) ∧ Below w.heap.size w w' := by
  obtain ⟨a, ca, rfl, hs⟩ := h.1.form
  rw [marks_length]
  exact (c_held a ca n 1 w hs hn (by omega) (by omega)).mono fun e w' ⟨h1, h2⟩ => ⟨h1, by rw [h2]; exact Below.refl _ _⟩
theorem c_markInts' (v : Value) (l : List Int) (k : Int) (w : World) {lo hi : Nat} (h : IOwn w lo hi v l) (hl : l.length ≤ 1048576) (k0 : 0 ≤ k) (k1 : k ≤ 16777216) :
    Calls Try.prog 51 #[v, .int .i64 k] w fun e w' => e = .returned (.int .i64 (k + (l.length : Int))) ∧ IOwn w' lo hi v (marksI k l.length) ∧ Grew w w' lo hi := by
  rcases h with ⟨rfl, rfl⟩ | ⟨g, cap, rfl, h2, h3, h4, h5, h6⟩
  · refine (c_markInts0 none 0 k w).mono ?_
    rintro e w' ⟨rfl, rfl⟩
    exact ⟨by simp, .inl ⟨rfl, rfl⟩, Grew.refl _ _ _⟩
  · refine (c_markInts g l.length cap (ia l) k w h6 (by omega) k0 k1).mono ?_
    rintro e w' ⟨rfl, hW, hG⟩
    refine ⟨rfl, .inr ⟨g, cap, by rw [marksI_length], by rw [marksI_length]; exact h2, h3, h4, Nat.le_trans h5 hG.size, fun j hj => ?_⟩, hG.wide h3 h4⟩
    rw [marksI_length] at hj
    rw [marksI_at k hj]
    exact hW j hj
theorem c_heldInts' (v : Value) (n : Nat) (w : World) {lo hi : Nat} (h : IOwn w lo hi v (marksI 1 n)) (hn : n ≤ 1048576) :
    Calls Try.prog 52 #[v, .int .i64 1] w fun e w' => e = .returned (.int .i64 (1 + (n : Int))) ∧ Below w.heap.size w w' := by
  obtain ⟨a, ca, rfl, hs⟩ := h.form
  rw [marksI_length]
  exact (c_heldInts a n ca 1 w hs (by omega) (by omega) (by omega)).mono fun e w' ⟨h1, h2⟩ => ⟨h1, by rw [h2]; exact Below.refl _ _⟩
theorem posF_tot {F : List Qd} : posF (nsF F) F.length = 1 + totQ F := by
  have : ∀ n, posF (nsF F) n = 1 + n + kidTo F n := by
    intro n
    induction n with
    | zero => rfl
    | succ n ih => simp only [posF, kidTo, ih, nsF]; omega
  rw [this]; unfold totQ; omega

end Go.Proofs.Ytgfdkolhldbehaa
