/- What stands while an exact law is walked, whatever its arguments: four facts, each of blocks of its own. -/
import Derived.Test.YtgfdkolhldbehaaLawX
namespace Go.Proofs.Ytgfdkolhldbehaa
open Go.RowKit
set_option linter.unusedVariables false
set_option linter.unusedSimpArgs false

/-- PA: the arguments' boxes; PW: what the specification told; PX: what was handed to the program; PG: what it told. -/
structure L4 (w W : World) (la ha lw hw lx hx lg hg : Nat) (PA PW PX PG : World → Prop) : Prop where
  pa : PA W
  pw : PW W
  px : PX W
  pg : PG W
  ka : Kpt PA la ha
  kw : Kpt PW lw hw
  kx : Kpt PX lx hx
  kg : Kpt PG lg hg
  bel : Below w.heap.size w W
  ord : w.heap.size ≤ la ∧ la ≤ ha ∧ ha ≤ lw ∧ lw ≤ hw ∧ hw ≤ lx ∧ lx ≤ hx ∧ hx ≤ lg ∧ lg ≤ hg
theorem L4.below {w W W' : World} {la ha lw hw lx hx lg hg : Nat} {PA PW PX PG : World → Prop} (h : L4 w W la ha lw hw lx hx lg hg PA PW PX PG) (hb : Below W.heap.size W W') : L4 w W' la ha lw hw lx hx lg hg PA PW PX PG :=
  ⟨h.ka.below h.pa hb, h.kw.below h.pw hb, h.kx.below h.px hb, h.kg.below h.pg hb, h.ka, h.kw, h.kx, h.kg, h.bel.trans (hb.mono h.bel.size), h.ord⟩
theorem L4.markX {w W W' : World} {la ha lw hw lx hx lg hg lo hi : Nat} {PA PW PX PX' PG : World → Prop} (h : L4 w W la ha lw hw lx hx lg hg PA PW PX PG) (hG : Grew W W' lo hi) (h1 : lx ≤ lo) (h2 : hi ≤ hx) (hp : PX' W') (hk : Kpt PX' lx hx) : L4 w W' la ha lw hw lx hx lg hg PA PW PX' PG := by
  have ho := h.ord
  exact ⟨h.ka _ _ _ _ h.pa hG (by omega), h.kw _ _ _ _ h.pw hG (by omega), hp, h.kg _ _ _ _ h.pg hG (by omega), h.ka, h.kw, hk, h.kg, hG.below h.bel (by omega), ho⟩
theorem L4.markG {w W W' : World} {la ha lw hw lx hx lg hg lo hi : Nat} {PA PW PX PG PG' : World → Prop} (h : L4 w W la ha lw hw lx hx lg hg PA PW PX PG) (hG : Grew W W' lo hi) (h1 : lg ≤ lo) (h2 : hi ≤ hg) (hp : PG' W') (hk : Kpt PG' lg hg) : L4 w W' la ha lw hw lx hx lg hg PA PW PX PG' := by
  have ho := h.ord
  exact ⟨h.ka _ _ _ _ h.pa hG (by omega), h.kw _ _ _ _ h.pw hG (by omega), h.kx _ _ _ _ h.px hG (by omega), hp, h.ka, h.kw, h.kx, hk, hG.below h.bel (by omega), ho⟩
theorem Kpt.true (lo hi : Nat) : Kpt (fun _ => True) lo hi := fun _ _ _ _ _ _ _ => trivial

/-- A box of a world: a slice and a number. -/
def WBox (w : World) (b : Nat) (s : Value) (t : Int) : Prop := w.cell? ⟨b, 0, none⟩ = some s ∧ w.cell? ⟨b, 1, none⟩ = some (.int .i64 t) ∧ b < w.heap.size
theorem WBox.new (w : World) (s : Value) (t : Int) (T : TypeId) : WBox (w.alloc (.cells #[s, .int .i64 t] T)) w.heap.size s t :=
  ⟨cell_new0 _ _ _ _, cell_new1 _ _ _ _, by simp⟩
theorem WBox.kpt (b : Nat) (s : Value) (t : Int) : Kpt (fun W => WBox W b s t) b (b + 1) := by
  rintro W W' lo' hi' ⟨h1, h2, h3⟩ hg hd
  have hb := hg.block b h3 (by omega)
  exact ⟨(World.cell?_of_block (a := ⟨b, 0, none⟩) hb).trans h1, (World.cell?_of_block (a := ⟨b, 1, none⟩) hb).trans h2, Nat.lt_of_lt_of_le h3 hg.size⟩
theorem WBox.below {w w' : World} {b : Nat} {s : Value} {t : Int} (h : WBox w b s t) (hb : Below w.heap.size w w') : WBox w' b s t := (WBox.kpt b s t).below h hb
/-- A world in a variable: its box is block b, behind all of its memory. -/
def PWd (w : World) (lo b : Nat) (s : Value) (l : List Cl) (t : Int) : Prop := OwnR w lo b s l ∧ WBox w b s t ∧ lo ≤ b
theorem PWd.kpt (lo b : Nat) (s : Value) (l : List Cl) (t : Int) : Kpt (fun W => PWd W lo b s l t) lo (b + 1) := by
  rintro W W' lo' hi' ⟨h1, h2, h3⟩ hg hd
  exact ⟨OwnR.kpt _ _ _ _ W W' lo' hi' h1 hg (by omega), WBox.kpt _ _ _ W W' lo' hi' h2 hg (by omega), h3⟩
theorem PWd.mark {W W' : World} {lo b : Nat} {s : Value} {l l' : List Cl} {t : Int} (h : PWd W lo b s l t) (hg : Grew W W' lo b) (h' : OwnR W' lo b s l') : PWd W' lo b s l' t :=
  ⟨h', WBox.kpt _ _ _ W W' lo b h.2.1 hg (.inr (Nat.le_refl _)), h.2.2⟩
theorem PWd.new {w : World} {lo : Nat} {s : Value} {l : List Cl} {t : Int} (h : OwnS w lo s l) (hl : lo ≤ w.heap.size) (T : TypeId) : PWd (w.alloc (.cells #[s, .int .i64 t] T)) lo w.heap.size s l t := by
  have hb := (Below.refl w.heap.size w).alloc (Nat.le_refl _) (.cells #[s, .int .i64 t] T)
  exact ⟨(OwnR.kpt _ _ _ _).below (OwnR.of h) hb, WBox.new _ _ _ _, hl⟩

end Go.Proofs.Ytgfdkolhldbehaa
