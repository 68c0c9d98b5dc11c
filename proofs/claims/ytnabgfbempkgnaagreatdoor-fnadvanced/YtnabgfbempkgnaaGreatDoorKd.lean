/- Texts of this seat, one behind the other: FMem, FHeld, LawX, Ints, SFor, JnP. -/
import Derived.Test.YtnabgfbempkgnaaGreatDoorKb
import Derived.Test.YtnabgfbempkgnaaGreatDoorKa
import Derived.Maps.AppendAt
import Derived.Laws.AppendOwnNone
import Derived.Deep.RegionLaw
import Derived.Deep.DeepCutAuto
import Derived.OneCell
import Derived.Test.YtnabgfbempkgnaaGreatDoorKc
namespace Go.Proofs.YtnabgfbempkgnaaGreatDoor
open Go.RowKit
set_option linter.unusedVariables false
set_option linter.unusedSimpArgs false
attribute [local go_sem ↓] Go.wp_at_zero Go.wp_at_succ

/-- A cell that holds v and may be written. -/
def WC (w : World) (b o : Nat) (v : Value) : Prop := w.cell? ⟨b, o, none⟩ = some v ∧ w.frozen? ⟨b, o, none⟩ = false ∧ b < w.heap.size
theorem WC.of_block {w w' : World} {b o : Nat} {v : Value} (h : WC w b o v) (hb : w'.heap[b]? = w.heap[b]?) (hs : w.heap.size ≤ w'.heap.size) : WC w' b o v :=
  ⟨(World.cell?_of_block (a := ⟨b, o, none⟩) hb).trans h.1, (World.frozen?_of_block (a := ⟨b, o, none⟩) hb).trans h.2.1, Nat.lt_of_lt_of_le h.2.2 hs⟩
theorem WC.set {w : World} {b o : Nat} {v : Value} (h : WC w b o v) (u : Value) : WC (w.setCell ⟨b, o, none⟩ u) b o u :=
  ⟨World.cell?_setCell_same w _ _ h.1, by rw [World.frozen?_setCell]; exact h.2.1, by simpa using h.2.2⟩
theorem WC.other {w : World} {b o : Nat} {v : Value} (h : WC w b o v) {b' o' : Nat} (hne : b ≠ b' ∨ o ≠ o') (u : Value) : WC (w.setCell ⟨b', o', none⟩ u) b o v := by
  refine ⟨?_, by rw [World.frozen?_setCell]; exact h.2.1, by simpa using h.2.2⟩
  rw [World.cell?_setCell_other w _ _ _ (by intro e; have h1 := congrArg Addr.off e; have h2 := congrArg Addr.block e; dsimp only at h1 h2; omega)]
  exact h.1

/-- From w to w' only blocks from lo on and ahead of hi have changed, and new ones have come. -/
structure Grew (w w' : World) (lo hi : Nat) : Prop where
  os : w'.os = w.os
  tape : w'.tape = w.tape
  output : w'.output = w.output
  size : w.heap.size ≤ w'.heap.size
  block : ∀ k, k < w.heap.size → k < lo ∨ hi ≤ k → w'.heap[k]? = w.heap[k]?
theorem Grew.refl (w : World) (lo hi : Nat) : Grew w w lo hi := ⟨rfl, rfl, rfl, Nat.le_refl _, fun _ _ _ => rfl⟩
theorem Grew.trans {a b c : World} {lo hi : Nat} (h : Grew a b lo hi) (k : Grew b c lo hi) : Grew a c lo hi :=
  ⟨k.os.trans h.os, k.tape.trans h.tape, k.output.trans h.output, Nat.le_trans h.size k.size, fun i hi hn => (k.block i (Nat.lt_of_lt_of_le hi h.size) hn).trans (h.block i hi hn)⟩
theorem Grew.of_below {w w' : World} (h : Below w.heap.size w w') (lo hi : Nat) : Grew w w' lo hi := ⟨h.os, h.tape, h.output, h.size, fun k hk _ => h.block k hk⟩
theorem Grew.of_grown {w w' : World} {g : Nat} (h : w.grownBy w' (some g)) {lo hi : Nat} (h1 : lo ≤ g) (h2 : g < hi) : Grew w w' lo hi :=
  ⟨h.os, h.tape, h.output, h.size, fun k hk hn => h.block k hk (by simp only [ne_eq, Option.some.injEq]; omega)⟩
theorem Grew.set {w w' : World} {lo hi : Nat} (h : Grew w w' lo hi) {b o : Nat} (h1 : lo ≤ b) (h2 : b < hi) (u : Value) : Grew w (w'.setCell ⟨b, o, none⟩ u) lo hi :=
  ⟨h.os, h.tape, h.output, by simpa using h.size, fun k hk hn => (Below.heap_setCell w' ⟨b, o, none⟩ u k (by dsimp only; omega)).trans (h.block k hk hn)⟩
theorem Grew.wide {w w' : World} {lo hi lo' hi' : Nat} (h : Grew w w' lo hi) (h1 : lo' ≤ lo) (h2 : hi ≤ hi') : Grew w w' lo' hi' :=
  ⟨h.os, h.tape, h.output, h.size, fun k hk hn => h.block k hk (by omega)⟩
/-- What lay below lo is as it was. -/
theorem Grew.below {W w w' : World} {lo hi : Nat} (h : Grew w w' lo hi) (hB : Below W.heap.size W w) (hl : W.heap.size ≤ lo) : Below W.heap.size W w' :=
  ⟨h.os.trans hB.os, h.tape.trans hB.tape, h.output.trans hB.output, Nat.le_trans hB.size h.size, fun k hk => (h.block k (Nat.lt_of_lt_of_le hk hB.size) (.inl (Nat.lt_of_lt_of_le hk hl))).trans (hB.block k hk)⟩

/-- N quads in block g, the kids of quad i in block ks i (where it has any): all of these blocks from lo on and ahead of hi, no two the same. -/
structure FMem (w : World) (lo hi N g : Nat) (ks ns : Nat → Nat) (lv : Nat → Int) (kd : Nat → Nat → Int) : Prop where
  low : lo ≤ g ∧ g < hi ∧ hi ≤ w.heap.size
  lev : ∀ i, i < N → WC w g (i * 2) (.int .i64 (lv i))
  sl : ∀ i, i < N → ∃ ak ck, w.cell? ⟨g, i * 2 + 1, none⟩ = some (.slice ak (ns i) ck) ∧ ns i ≤ ck ∧ (0 < ns i → ak = some ⟨ks i, 0, none⟩)
  kid : ∀ i, i < N → ∀ j, j < ns i → WC w (ks i) j (.int .i64 (kd i j))
  klow : ∀ i, i < N → 0 < ns i → lo ≤ ks i ∧ ks i < hi ∧ ks i ≠ g
  dis : ∀ i j, i < N → j < N → i ≠ j → 0 < ns i → 0 < ns j → ks i ≠ ks j
theorem FMem.congr {w : World} {lo hi N g : Nat} {ks ns : Nat → Nat} {lv lv' : Nat → Int} {kd kd' : Nat → Nat → Int} (h : FMem w lo hi N g ks ns lv kd) (h1 : ∀ i, i < N → lv i = lv' i) (h2 : ∀ i, i < N → ∀ j, j < ns i → kd i j = kd' i j) : FMem w lo hi N g ks ns lv' kd' :=
  ⟨h.low, fun i hi => by rw [← h1 i hi]; exact h.lev i hi, h.sl, fun i hi j hj => by rw [← h2 i hi j hj]; exact h.kid i hi j hj, h.klow, h.dis⟩
theorem FMem.kept {w w' : World} {lo hi N g lo' hi' : Nat} {ks ns : Nat → Nat} {lv : Nat → Int} {kd : Nat → Nat → Int} (h : FMem w lo hi N g ks ns lv kd) (hg : Grew w w' lo' hi') (hd : hi ≤ lo' ∨ hi' ≤ lo) : FMem w' lo hi N g ks ns lv kd := by
  have hb : ∀ k, lo ≤ k → k < hi → w'.heap[k]? = w.heap[k]? := fun k h1 h2 => hg.block k (Nat.lt_of_lt_of_le h2 h.low.2.2) (by omega)
  refine ⟨⟨h.low.1, h.low.2.1, Nat.le_trans h.low.2.2 hg.size⟩, fun i hi => (h.lev i hi).of_block (hb _ h.low.1 h.low.2.1) hg.size, fun i hi => ?_, fun i hi j hj => ?_, h.klow, h.dis⟩
  · obtain ⟨ak, ck, h1, h2⟩ := h.sl i hi
    exact ⟨ak, ck, (World.cell?_of_block (a := ⟨g, i * 2 + 1, none⟩) (hb _ h.low.1 h.low.2.1)).trans h1, h2⟩
  · have hk := h.klow i hi (by omega)
    exact (h.kid i hi j hj).of_block (hb _ hk.1 hk.2.1) hg.size
theorem FMem.below {w w' : World} {lo hi N g : Nat} {ks ns : Nat → Nat} {lv : Nat → Int} {kd : Nat → Nat → Int} (h : FMem w lo hi N g ks ns lv kd) (hb : Below w.heap.size w w') : FMem w' lo hi N g ks ns lv kd :=
  h.kept (Grew.of_below hb 0 0) (by omega)
theorem FMem.wide {w : World} {lo hi lo' hi' N g : Nat} {ks ns : Nat → Nat} {lv : Nat → Int} {kd : Nat → Nat → Int} (h : FMem w lo hi N g ks ns lv kd) (h1 : lo' ≤ lo) (h2 : hi ≤ hi') (h3 : hi' ≤ w.heap.size) : FMem w lo' hi' N g ks ns lv kd :=
  ⟨by have := h.low; omega, h.lev, h.sl, h.kid, fun i hi hn => by have := h.klow i hi hn; omega, h.dis⟩
/-- A level is written. -/
theorem FMem.setLev {w : World} {lo hi N g : Nat} {ks ns : Nat → Nat} {lv : Nat → Int} {kd : Nat → Nat → Int} (h : FMem w lo hi N g ks ns lv kd) {i : Nat} (hi' : i < N) (v : Int) :
    FMem (w.setCell ⟨g, i * 2, none⟩ (.int .i64 v)) lo hi N g ks ns (fun j => if j = i then v else lv j) kd := by
  refine ⟨by simpa using h.low, fun j hj => ?_, fun j hj => ?_, fun j hj c hc => ?_, h.klow, h.dis⟩
  · by_cases e : j = i
    · subst e; simp only [if_true]; exact (h.lev j hj).set _
    · simp only [if_neg e]; exact (h.lev j hj).other (.inr (by omega)) _
  · obtain ⟨ak, ck, h1, h2⟩ := h.sl j hj
    exact ⟨ak, ck, by rw [World.cell?_setCell_other w _ _ _ (by intro e; have h1 := congrArg Addr.off e; have h2 := congrArg Addr.block e; dsimp only at h1 h2; omega)]; exact h1, h2⟩
  · have := h.klow j hj (by omega)
    exact (h.kid j hj c hc).other (.inl this.2.2) _
/-- The kids of one quad are written. -/
theorem FMem.setKids {w w' : World} {lo hi N g : Nat} {ks ns : Nat → Nat} {lv : Nat → Int} {kd : Nat → Nat → Int} (h : FMem w lo hi N g ks ns lv kd) {i : Nat} (hi' : i < N) {f : Nat → Int} (hg : 0 < ns i → Grew w w' (ks i) (ks i + 1)) (h0 : ns i = 0 → w' = w) (hk : ∀ j, j < ns i → WC w' (ks i) j (.int .i64 (f j))) :
    FMem w' lo hi N g ks ns lv (fun j c => if j = i then f c else kd j c) := by
  rcases Nat.eq_zero_or_pos (ns i) with e0 | e0
  · have := h0 e0
    subst this
    refine h.congr (fun _ _ => rfl) fun j hj c hc => ?_
    rw [if_neg (by intro e; subst e; omega)]
  · have hG := hg e0
    have hb : ∀ k, k < w.heap.size → k ≠ ks i → w'.heap[k]? = w.heap[k]? := fun k h1 h2 => hG.block k h1 (by omega)
    have hgs : g < w.heap.size := by have := h.low; omega
    have hgi := (h.klow i hi' e0).2.2
    refine ⟨⟨h.low.1, h.low.2.1, Nat.le_trans h.low.2.2 hG.size⟩, fun j hj => (h.lev j hj).of_block (hb g hgs (Ne.symm hgi)) hG.size, fun j hj => ?_, fun j hj c hc => ?_, h.klow, h.dis⟩
    · obtain ⟨ak, ck, h1, h2⟩ := h.sl j hj
      exact ⟨ak, ck, (World.cell?_of_block (a := ⟨g, j * 2 + 1, none⟩) (hb g hgs (Ne.symm hgi))).trans h1, h2⟩
    · by_cases e : j = i
      · subst e; rw [if_pos rfl]; exact hk c hc
      · rw [if_neg e]
        have := h.klow j hj (by omega)
        exact (h.kid j hj c hc).of_block (hb _ (by have := h.low; omega) (h.dis j i hj hi' e (by omega) e0)) hG.size

def nsF (F : List Qd) (i : Nat) : Nat := (qa F i).2.length
def lvF (F : List Qd) (i : Nat) : Int := (qa F i).1
def kdF (F : List Qd) (i j : Nat) : Int := ia (qa F i).2 j
theorem FMem.seg {w : World} {lo hi g : Nat} {ks : Nat → Nat} {F : List Qd} (h : FMem w lo hi F.length g ks (nsF F) (lvF F) (kdF F)) : QSeg w (some ⟨g, 0, none⟩) F := by
  intro i hi
  obtain ⟨ak, ck, h1, h2, h3⟩ := h.sl i hi
  refine ⟨g, 0, ak, ck, rfl, by have := h.low; omega, by have := (h.lev i hi).1; rw [Nat.zero_add]; exact this, by rw [Nat.zero_add]; exact h1, fun j hj => ?_, h2⟩
  have hk := h.kid i hi j hj
  exact ⟨ks i, 0, h3 (by unfold nsF; omega), hk.2.2, by rw [Nat.zero_add]; exact hk.1⟩
/-- The slice v is a forest F of its own memory, all of it in blocks from lo on and ahead of hi. -/
def FOwn (w : World) (lo hi : Nat) (v : Value) (F : List Qd) : Prop :=
  (v = .slice none 0 0 ∧ F = []) ∨ ∃ g cap ks, v = .slice (some ⟨g, 0, none⟩) F.length cap ∧ F.length ≤ cap ∧ cap ≤ 9223372036854775807 ∧ FMem w lo hi F.length g ks (nsF F) (lvF F) (kdF F)
theorem FOwn.form {w : World} {lo hi : Nat} {v : Value} {F : List Qd} (h : FOwn w lo hi v F) : ∃ a cap, v = .slice a F.length cap ∧ F.length ≤ cap ∧ cap ≤ 9223372036854775807 ∧ QSeg w a F := by
  rcases h with ⟨rfl, rfl⟩ | ⟨g, cap, ks, rfl, h1, h2, h3⟩
  · exact ⟨none, 0, rfl, by simp, by omega, fun i hi => by simp at hi⟩
  · exact ⟨_, cap, rfl, h1, h2, h3.seg⟩
theorem FOwn.kept {w w' : World} {lo hi lo' hi' : Nat} {v : Value} {F : List Qd} (h : FOwn w lo hi v F) (hg : Grew w w' lo' hi') (hd : hi ≤ lo' ∨ hi' ≤ lo) : FOwn w' lo hi v F := by
  rcases h with h | ⟨g, cap, ks, h0, h1, h2, h3⟩
  · exact .inl h
  · exact .inr ⟨g, cap, ks, h0, h1, h2, h3.kept hg hd⟩
theorem FOwn.below {w w' : World} {lo hi : Nat} {v : Value} {F : List Qd} (h : FOwn w lo hi v F) (hb : Below w.heap.size w w') : FOwn w' lo hi v F := h.kept (Grew.of_below hb 0 0) (by omega)
theorem FOwn.wide {w : World} {lo hi lo' hi' : Nat} {v : Value} {F : List Qd} (h : FOwn w lo hi v F) (h1 : lo' ≤ lo) (h2 : hi ≤ hi') (h3 : hi' ≤ w.heap.size) : FOwn w lo' hi' v F := by
  rcases h with h | ⟨g, cap, ks, k0, k1, k2, k3⟩
  · exact .inl h
  · exact .inr ⟨g, cap, ks, k0, k1, k2, k3.wide h1 h2 h3⟩
/-- What toForest lays. -/
theorem QRow.mem {w : World} {base g : Nat} {ks : Nat → Nat} {F : List Qd} (h : QRow w base g ks F F.length) : FMem w base w.heap.size F.length g ks (nsF F) (lvF F) (kdF F) := by
  refine ⟨⟨h.low, h.row.lt, Nat.le_refl _⟩, fun i hi => ?_, fun i hi => ?_, fun i hi j hj => ?_, fun i hi hn => ?_, fun i j hi hj hne _ _ => ?_⟩
  · have c0 := h.row.cell (i := i * 2) (by omega)
    rw [quadTo_even, if_pos hi] at c0
    exact ⟨c0, h.row.frozen _, h.row.lt⟩
  · have c1 := h.row.cell (i := i * 2 + 1) (by omega)
    rw [quadTo_odd, if_pos hi] at c1
    exact ⟨_, _, c1, Nat.le_refl _, fun _ => rfl⟩
  · have := (h.kid i hi).1
    exact ⟨World.rowIs.cell this hj, World.rowIs.frozen this _, World.rowIs.lt this⟩
  · have := h.kid i hi
    have h2 := World.rowIs.lt this.1
    have h3 := h.low
    omega
  · rcases Nat.lt_or_gt_of_ne hne with h1 | h1
    · have := (h.kid j hj).2.2 i h1; omega
    · have := (h.kid i hi).2.2 j h1; omega
theorem QRow.own {w : World} {base g : Nat} {ks : Nat → Nat} {F : List Qd} (h : QRow w base g ks F F.length) (hl : F.length ≤ 1048576) : FOwn w base w.heap.size (.slice (some ⟨g, 0, none⟩) F.length F.length) F :=
  .inr ⟨g, F.length, ks, rfl, Nat.le_refl _, by omega, h.mem⟩

/-- The mark of quad i. -/
def posF (ns : Nat → Nat) : Nat → Nat
  | 0 => 1
  | i + 1 => posF ns i + 1 + ns i
theorem posF_mono (ns : Nat → Nat) {i j : Nat} (h : i ≤ j) : posF ns i ≤ posF ns j := by
  induction j with
  | zero => have : i = 0 := by omega
            subst this; exact Nat.le_refl _
  | succ j ih =>
    by_cases e : i = j + 1
    · rw [e]; exact Nat.le_refl _
    · have := ih (by omega)
      simp only [posF]; omega
theorem posF_le (ns : Nat → Nat) (i : Nat) : i ≤ posF ns i := by
  induction i with
  | zero => simp
  | succ i ih => simp only [posF]; omega
/-- A forest of marks. -/
def markF (F : List Qd) : List Qd := (List.range F.length).map fun i => ((posF (nsF F) i : Int), (List.range (nsF F i)).map fun j : Nat => (posF (nsF F) i : Int) + 1 + (j : Int))
theorem markF_length (F : List Qd) : (markF F).length = F.length := by simp [markF]
theorem markF_at (F : List Qd) {i : Nat} (h : i < F.length) : qa (markF F) i = ((posF (nsF F) i : Int), (List.range (nsF F i)).map fun j : Nat => (posF (nsF F) i : Int) + 1 + (j : Int)) := by
  simp [qa, markF, h]
theorem markF_ns (F : List Qd) {i : Nat} (h : i < F.length) : nsF (markF F) i = nsF F i := by
  unfold nsF; rw [markF_at F h]; simp [nsF]
theorem FMem.mono_ns {w : World} {lo hi N g : Nat} {ks ns ns' : Nat → Nat} {lv : Nat → Int} {kd : Nat → Nat → Int} (h : FMem w lo hi N g ks ns lv kd) (he : ∀ i, i < N → ns i = ns' i) : FMem w lo hi N g ks ns' lv kd :=
  ⟨h.low, h.lev, fun i hi => by rw [← he i hi]; exact h.sl i hi, fun i hi j hj => h.kid i hi j (by rw [he i hi]; exact hj), fun i hi hn => h.klow i hi (by rw [he i hi]; exact hn), fun i j hi hj hne h1 h2 => h.dis i j hi hj hne (by rw [he i hi]; exact h1) (by rw [he j hj]; exact h2)⟩
theorem FMem.marked {w : World} {lo hi g : Nat} {ks : Nat → Nat} {F : List Qd} (h : FMem w lo hi F.length g ks (nsF F) (fun i => (posF (nsF F) i : Int)) (fun i j => (posF (nsF F) i : Int) + 1 + (j : Int))) : FMem w lo hi (markF F).length g ks (nsF (markF F)) (lvF (markF F)) (kdF (markF F)) := by
  rw [markF_length]
  refine (h.congr (fun i hi => ?_) (fun i hi j hj => ?_)).mono_ns fun i hi => (markF_ns F hi).symm
  · unfold lvF; rw [markF_at F hi]
  · unfold kdF; rw [markF_at F hi]; simp [ia, hj]

end Go.Proofs.YtnabgfbempkgnaaGreatDoor

namespace Go.Proofs.YtnabgfbempkgnaaGreatDoor
open Go.RowKit
set_option linter.unusedVariables false
set_option linter.unusedSimpArgs false
attribute [local go_sem ↓] Go.wp_at_zero Go.wp_at_succ

/-- Marks of kids. -/
def marksI (k : Int) (n : Nat) : List Int := (List.range n).map fun j : Nat => k + (j : Int)
theorem marksI_length (k : Int) (n : Nat) : (marksI k n).length = n := by simp [marksI]
theorem marksI_at (k : Int) {n j : Nat} (h : j < n) : ia (marksI k n) j = k + (j : Int) := by simp [ia, marksI, h]

end Go.Proofs.YtnabgfbempkgnaaGreatDoor

namespace Go.Proofs.YtnabgfbempkgnaaGreatDoor
open Go.RowKit
set_option linter.unusedVariables false
set_option linter.unusedSimpArgs false
attribute [local go_sem ↓] Go.wp_at_zero Go.wp_at_succ

/-- A fact of the blocks from lo on and ahead of hi: what changes elsewhere leaves it alone. -/
def Kpt (P : World → Prop) (lo hi : Nat) : Prop := ∀ W W' lo' hi', P W → Grew W W' lo' hi' → hi ≤ lo' ∨ hi' ≤ lo → P W'
theorem Kpt.below {P : World → Prop} {lo hi : Nat} (h : Kpt P lo hi) {W W' : World} (hp : P W) (hb : Below W.heap.size W W') : P W' := h W W' 0 0 hp (Grew.of_below hb 0 0) (by omega)

/-- Cells in memory of the call's own. -/
def OwnR (w : World) (lo hi : Nat) (v : Value) (l : List Cl) : Prop := OwnS w lo v l ∧ (∀ k, v.ownBlock = some k → k < hi) ∧ hi ≤ w.heap.size
theorem OwnR.of {w : World} {lo : Nat} {v : Value} {l : List Cl} (h : OwnS w lo v l) : OwnR w lo w.heap.size v l := ⟨h, fun k hk => (h.lt k hk).2, Nat.le_refl _⟩
theorem OwnR.kpt (lo hi : Nat) (v : Value) (l : List Cl) : Kpt (fun W => OwnR W lo hi v l) lo hi := by
  rintro W W' lo' hi' ⟨h, hh, hs⟩ hg hd
  refine ⟨?_, hh, Nat.le_trans hs hg.size⟩
  rcases h.2 with hn | ⟨g, cap, cur, rfl, hb, hblk, r⟩
  · exact ⟨h.1, .inl hn⟩
  · have := hh g rfl
    exact ⟨h.1, .inr ⟨g, cap, cur, rfl, hb, (hg.block g (by omega) (by omega)).trans hblk, r⟩⟩
/-- Numbers in memory of the call's own. -/
def IOwn (w : World) (lo hi : Nat) (v : Value) (l : List Int) : Prop :=
  (v = .slice none 0 0 ∧ l = []) ∨ ∃ g cap, v = .slice (some ⟨g, 0, none⟩) l.length cap ∧ l.length ≤ cap ∧ lo ≤ g ∧ g < hi ∧ hi ≤ w.heap.size ∧ ∀ j, j < l.length → WC w g j (.int .i64 (ia l j))
theorem IOwn.kpt (lo hi : Nat) (v : Value) (l : List Int) : Kpt (fun W => IOwn W lo hi v l) lo hi := by
  rintro W W' lo' hi' h hg hd
  rcases h with h | ⟨g, cap, h1, h2, h3, h4, h5, h6⟩
  · exact .inl h
  · exact .inr ⟨g, cap, h1, h2, h3, h4, Nat.le_trans h5 hg.size, fun j hj => (h6 j hj).of_block (hg.block g (by omega) (by omega)) hg.size⟩
theorem IOwn.form {w : World} {lo hi : Nat} {v : Value} {l : List Int} (h : IOwn w lo hi v l) : ∃ a cap, v = .slice a l.length cap ∧ ISeg w a l := by
  rcases h with ⟨rfl, rfl⟩ | ⟨g, cap, rfl, h2, h3, h4, h5, h6⟩
  · exact ⟨none, 0, rfl, fun i hi => by simp at hi⟩
  · exact ⟨_, cap, rfl, fun i hi => ⟨g, 0, rfl, (h6 i hi).2.2, by rw [Nat.zero_add]; exact (h6 i hi).1⟩⟩
theorem IRow.own {w : World} {g : Nat} {l : List Int} (h : IRow w g l) : IOwn w g w.heap.size (.slice (some ⟨g, 0, none⟩) l.length l.length) l :=
  .inr ⟨g, l.length, rfl, Nat.le_refl _, Nat.le_refl _, World.rowIs.lt h, Nat.le_refl _, fun j hj => ⟨World.rowIs.cell h hj, World.rowIs.frozen h _, World.rowIs.lt h⟩⟩
theorem FOwn.kpt (lo hi : Nat) (v : Value) (F : List Qd) : Kpt (fun W => FOwn W lo hi v F) lo hi := fun _ _ _ _ h hg hd => h.kept hg hd
/-- A forest in a variable: its box is block b, behind all of its memory. -/
def PF (w : World) (lo b : Nat) (v : Value) (F : List Qd) : Prop := FOwn w lo b v F ∧ w.cell? ⟨b, 0, none⟩ = some v ∧ b < w.heap.size ∧ lo ≤ b
theorem PF.kpt (lo b : Nat) (v : Value) (F : List Qd) : Kpt (fun W => PF W lo b v F) lo (b + 1) := by
  rintro W W' lo' hi' ⟨h1, h2, h3, h4⟩ hg hd
  exact ⟨h1.kept hg (by omega), (World.cell?_of_block (a := ⟨b, 0, none⟩) (hg.block b h3 (by omega))).trans h2, Nat.lt_of_lt_of_le h3 hg.size, h4⟩
theorem PF.mark {W W' : World} {lo b : Nat} {v : Value} {F F' : List Qd} (h : PF W lo b v F) (hg : Grew W W' lo b) (h' : FOwn W' lo b v F') : PF W' lo b v F' :=
  ⟨h', (World.cell?_of_block (a := ⟨b, 0, none⟩) (hg.block b h.2.2.1 (.inr (Nat.le_refl _)))).trans h.2.1, Nat.lt_of_lt_of_le h.2.2.1 hg.size, h.2.2.2⟩
theorem PF.new {w : World} {lo : Nat} {v : Value} {F : List Qd} (h : FOwn w lo w.heap.size v F) (hl : lo ≤ w.heap.size) (t : TypeId) : PF (w.alloc (.cells #[v] t)) lo w.heap.size v F := by
  have hb := (Below.refl w.heap.size w).alloc (Nat.le_refl _) (.cells #[v] t)
  refine ⟨h.below hb, ?_, by simp, hl⟩
  unfold World.cell?; rw [heap_alloc_new]; rfl

/-- What stands while a law is walked: the argument's box; what the specification told (PW), what was handed to the program (PX), what it told (PG), each in blocks of its own. -/
structure LL (w W : World) (av : Value) (lw hw lx hx lg hg : Nat) (PW PX PG : World → Prop) : Prop where
  box : W.cell? ⟨w.heap.size, 0, none⟩ = some av
  pw : PW W
  px : PX W
  pg : PG W
  kw : Kpt PW lw hw
  kx : Kpt PX lx hx
  kg : Kpt PG lg hg
  bel : Below w.heap.size w W
  lt : w.heap.size < W.heap.size
  ord : w.heap.size < lw ∧ lw ≤ hw ∧ hw ≤ lx ∧ lx ≤ hx ∧ hx ≤ lg ∧ lg ≤ hg
theorem LL.below {w W W' : World} {av : Value} {lw hw lx hx lg hg : Nat} {PW PX PG : World → Prop} (h : LL w W av lw hw lx hx lg hg PW PX PG) (hb : Below W.heap.size W W') : LL w W' av lw hw lx hx lg hg PW PX PG :=
  ⟨(hb.cell (p := ⟨w.heap.size, 0, none⟩) h.lt).trans h.box, h.kw.below h.pw hb, h.kx.below h.px hb, h.kg.below h.pg hb, h.kw, h.kx, h.kg, h.bel.trans (hb.mono h.bel.size), Nat.lt_of_lt_of_le h.lt hb.size, h.ord⟩
theorem LL.markX {w W W' : World} {av : Value} {lw hw lx hx lg hg lo hi : Nat} {PW PX PX' PG : World → Prop} (h : LL w W av lw hw lx hx lg hg PW PX PG) (hG : Grew W W' lo hi) (h1 : lx ≤ lo) (h2 : hi ≤ hx) (hp : PX' W') (hk : Kpt PX' lx hx) : LL w W' av lw hw lx hx lg hg PW PX' PG := by
  have ho := h.ord
  exact ⟨(World.cell?_of_block (a := ⟨w.heap.size, 0, none⟩) (hG.block w.heap.size h.lt (by omega))).trans h.box, h.kw _ _ _ _ h.pw hG (by omega), hp, h.kg _ _ _ _ h.pg hG (by omega), h.kw, hk, h.kg, hG.below h.bel (by omega), Nat.lt_of_lt_of_le h.lt hG.size, ho⟩
theorem LL.markG {w W W' : World} {av : Value} {lw hw lx hx lg hg lo hi : Nat} {PW PX PG PG' : World → Prop} (h : LL w W av lw hw lx hx lg hg PW PX PG) (hG : Grew W W' lo hi) (h1 : lg ≤ lo) (h2 : hi ≤ hg) (hp : PG' W') (hk : Kpt PG' lg hg) : LL w W' av lw hw lx hx lg hg PW PX PG' := by
  have ho := h.ord
  exact ⟨(World.cell?_of_block (a := ⟨w.heap.size, 0, none⟩) (hG.block w.heap.size h.lt (by omega))).trans h.box, h.kw _ _ _ _ h.pw hG (by omega), h.kx _ _ _ _ h.px hG (by omega), hp, h.kw, h.kx, hk, hG.below h.bel (by omega), Nat.lt_of_lt_of_le h.lt hG.size, ho⟩

theorem posF_tot {F : List Qd} : posF (nsF F) F.length = 1 + totQ F := by
  have : ∀ n, posF (nsF F) n = 1 + n + kidTo F n := by
    intro n
    induction n with
    | zero => rfl
    | succ n ih => simp only [posF, kidTo, ih, nsF]; omega
  rw [this]; unfold totQ; omega

end Go.Proofs.YtnabgfbempkgnaaGreatDoor

namespace Go.Proofs.YtnabgfbempkgnaaGreatDoor
open Go.RowKit
set_option linter.unusedVariables false

def iv (l : List Int) : List Value := l.map fun x => .int .i64 x
theorem iv_length (l : List Int) : (iv l).length = l.length * 1 := by simp [iv]
theorem iv_append (l m : List Int) : iv (l ++ m) = iv l ++ iv m := by simp [iv]
theorem iv_at {l : List Int} {i : Nat} (h : i < l.length) : (iv l)[i]? = some (.int .i64 (ia l i)) := by simp [iv, ia, h]
theorem iv_one (l : List Int) : ∀ u ∈ iv l, u.oneCell' = true := by
  intro u hu
  simp only [iv, List.mem_map] at hu
  obtain ⟨c, _, rfl⟩ := hu; rfl
/-- The slice v owns the numbers l, among the blocks from base on. -/
def OwnI (w : World) (base : Nat) (v : Value) (l : List Int) : Prop := w.ownsRow base 3 1 v l.length (iv l)
theorem OwnI.nil (w : World) (base : Nat) : OwnI w base (.slice none 0 0) [] := World.ownsRow_nil w base 3 1
theorem OwnI.form {w : World} {base : Nat} {v : Value} {l : List Int} (h : OwnI w base v l) : (v = .slice none 0 0 ∧ l = []) ∨ ∃ g cap, v = .slice (some ⟨g, 0, none⟩) l.length cap ∧ l.length ≤ cap ∧ cap ≤ maxLen ∧ ISeg w (some ⟨g, 0, none⟩) l := by
  have h0 := h
  rcases h.2 with ⟨rfl, hn⟩ | ⟨g, cap, cur, rfl, hb, hg, hcap, hm, hs, ht⟩
  · exact .inl ⟨rfl, List.eq_nil_of_length_eq_zero hn⟩
  · refine .inr ⟨g, cap, rfl, hcap, hm, fun i hi => ⟨g, 0, rfl, (Array.getElem?_eq_some_iff.1 hg).1, ?_⟩⟩
    have := World.ownsRow.cellAt h0 i (by omega)
    rw [iv_at hi] at this
    rw [Nat.zero_add]
    exact this
theorem OwnI.seg {w : World} {base : Nat} {v : Value} {l : List Int} (h : OwnI w base v l) : ∃ a cap, v = .slice a l.length cap ∧ ISeg w a l := by
  rcases h.form with ⟨rfl, rfl⟩ | ⟨g, cap, rfl, _, _, hs⟩
  · exact ⟨none, 0, rfl, fun i hi => by simp at hi⟩
  · exact ⟨_, _, rfl, hs⟩
theorem OwnI.below {w w' : World} {base : Nat} {v : Value} {l : List Int} (h : OwnI w base v l) (hb : Below w.heap.size w w') : OwnI w' base v l :=
  World.ownsRow.kept h (grown_of_below hb none) (by cases v.ownBlock <;> simp)
theorem OwnI.lt {w : World} {base : Nat} {v : Value} {l : List Int} (h : OwnI w base v l) : ∀ k, v.ownBlock = some k → base ≤ k ∧ k < w.heap.size := World.ownsRow.lt h
theorem OwnI.mono {w : World} {base base' : Nat} {v : Value} {l : List Int} (h : OwnI w base v l) (hb : base' ≤ base) : OwnI w base' v l := World.ownsRow.mono h hb
theorem OwnI.keep {W W' : World} {base : Nat} {v : Value} {l : List Int} {row : Option Nat} (h : OwnI W base v l) (hg : W.grownBy W' row) (hne : ∀ k, v.ownBlock = some k → row ≠ some k) : OwnI W' base v l := by
  refine World.ownsRow.kept h hg ?_
  cases e : v.ownBlock with
  | none => exact .inl rfl
  | some k => exact .inr fun e2 => hne k e e2.symm
theorem iseg_news {w : World} {ad : Addr} {m : List Int} (h : ISeg w (some ad) m) : ∀ j u, (iv m)[j]? = some u → w.cell? (ad.add j) = some u := by
  intro j u hu
  have hj : j < m.length := by have := (List.getElem?_eq_some_iff.1 hu).1; simpa [iv] using this
  obtain ⟨b, o, e, hb, h0⟩ := h j hj
  simp only [Option.some.injEq] at e
  subst e
  have hadd : (⟨b, o, none⟩ : Addr).add j = ⟨b, o + j, none⟩ := by unfold Addr.add; split <;> simp_all
  rw [hadd, h0]
  rw [iv_at hj] at hu
  exact hu
theorem wpList_appI {w : World} {ops : Array Oper} {rest : List Oper} {o : Oper} {a : Act} {Q : Exit → Act → World → Prop} (hgd : o.guard = none) (s x : Operand)
    (ho : o.op = .call { callee := .builtin .append, args := #[s, x], argTypes := #[32, 32] })
    (base : Nat) (v : Value) (l m : List Int) (ad : Option Addr) (n k : Nat) (hs : a.eval s = v) (hown : OwnI w base v l) (hx : a.eval x = .slice ad n k) (hn : m.length = n) (hseg : ISeg w ad m) (hk : ad = none → k = 0) (hlen : l.length + m.length ≤ 4194304) (hbase : base ≤ w.heap.size)
    (h : ∀ v' w', OwnI w' base v' (l ++ m) → w.grownBy w' v.ownBlock → (v'.ownBlock = v.ownBlock ∨ v'.ownBlock = some w.heap.size) → wpList Tryz.prog ops Q rest (a.put o.dst v') w') : wpList Tryz.prog ops Q (o :: rest) a w := by
  subst hn
  obtain ⟨i, hi, hz, hsz, hb⟩ := info_parts info_int
  cases ad with
  | none =>
    have hm : m = [] := by
      cases m with
      | nil => rfl
      | cons c r => obtain ⟨b, o, e, _⟩ := hseg 0 (by simp); cases e
    subst hm
    have hx' : a.eval x = .slice none 0 0 := by rw [hx, hk rfl]; rfl
    refine wpList_append_own_none hgd s x 32 ho base 3 i 1 Tryz.underlying32 hi v l.length (iv l) hs hown hx' ?_
    exact h v w (by simpa using hown) (grown_refl _ _) (.inl rfl)
  | some ad =>
    refine wpList_append_own_at w hgd s x 32 ho base 3 i _ 1 8 Tryz.underlying32 hi hz hsz hb rfl (by omega) v l.length (iv l) hs hown ad m.length k (iv m) hx (iv_length m) (iseg_news hseg) (iv_one m)
      (by unfold maxLen; omega) (by omega) hbase ?_
    intro v' w' h1 h2 _ h4
    refine h v' w' ?_ h2 h4
    unfold OwnI
    rw [iv_append, List.length_append]
    exact h1
/-- Appending nothing, whatever the address. -/
theorem wpList_appI0 {w : World} {ops : Array Oper} {rest : List Oper} {o : Oper} {a : Act} {Q : Exit → Act → World → Prop} (hgd : o.guard = none) (s x : Operand)
    (ho : o.op = .call { callee := .builtin .append, args := #[s, x], argTypes := #[32, 32] })
    (base : Nat) (v : Value) (l : List Int) (hs : a.eval s = v) (hown : OwnI w base v l) (hx : ∃ ad n k, a.eval x = .slice ad n k ∧ n = 0 ∧ (ad = none → k = 0)) (hlen : l.length ≤ 4194304) (hbase : base ≤ w.heap.size)
    (h : ∀ v' w', OwnI w' base v' l → w.grownBy w' v.ownBlock → (v'.ownBlock = v.ownBlock ∨ v'.ownBlock = some w.heap.size) → wpList Tryz.prog ops Q rest (a.put o.dst v') w') : wpList Tryz.prog ops Q (o :: rest) a w := by
  obtain ⟨ad, n, k, h1, h2, h3⟩ := hx
  subst h2
  exact wpList_appI hgd s x ho base v l [] ad 0 k hs hown h1 rfl (fun i hi => absurd hi (Nat.not_lt_zero _)) h3 (by simpa using hlen) hbase (by simpa using h)
theorem below_grownI {w W W' : World} {v : Value} {l : List Int} (hB : Below w.heap.size w W) (hown : OwnI W w.heap.size v l) (hg : W.grownBy W' v.ownBlock) : Below w.heap.size w W' :=
  hB.grown hg hB.size fun k hk => (hown.lt k hk).1
theorem iseg_block {w : World} {B : Nat} {x : Int} {fr : Nat × Nat} (hb : w.heap[B]? = some (.cells #[.int .i64 x] 3 fr)) : ISeg w (some ⟨B, 0, none⟩) [x] := by
  intro i hi
  have h0 : i = 0 := by simpa using hi
  subst h0
  refine ⟨B, 0, rfl, (Array.getElem?_eq_some_iff.1 hb).1, ?_⟩
  unfold World.cell?; rw [hb]; rfl
theorem slice_empty_int (w : World) : OwnI (w.alloc (.cells #[] 3)) w.heap.size (.slice (some ⟨w.heap.size, 0, none⟩) 0 0) [] :=
  ⟨rfl, .inr ⟨w.heap.size, 0, #[], rfl, Nat.le_refl _, heap_alloc_new w _, Nat.le_refl _, by simp [maxLen], rfl, rfl⟩⟩
theorem ISeg.take {w : World} {a : Option Addr} {l : List Int} (h : ISeg w a l) (k : Nat) : ISeg w a (l.take k) := by
  intro i hi
  rw [List.length_take] at hi
  obtain ⟨b, o, e, hb, h1⟩ := h i (by omega)
  refine ⟨b, o, e, hb, ?_⟩
  rw [h1]; unfold ia
  rw [List.getD_eq_getElem?_getD, List.getD_eq_getElem?_getD, List.getElem?_take_of_lt (by omega)]
theorem ISeg.drop {w : World} {g o : Nat} {l : List Int} (h : ISeg w (some ⟨g, o, none⟩) l) (k : Nat) : ISeg w (some ⟨g, o + k, none⟩) (l.drop k) := by
  intro i hi
  rw [List.length_drop] at hi
  obtain ⟨b, o', e, hb, h1⟩ := h (k + i) (by omega)
  simp only [Option.some.injEq, Addr.mk.injEq, and_true] at e
  obtain ⟨rfl, rfl⟩ := e
  refine ⟨g, o + k, rfl, hb, ?_⟩
  rw [show o + k + i = o + (k + i) by omega, h1]; unfold ia
  rw [List.getD_eq_getElem?_getD, List.getD_eq_getElem?_getD, List.getElem?_drop]

/-- Numbers that rise. -/
abbrev Asc (l : List Int) : Prop := l.Pairwise (· < ·)
theorem asc_lt {l : List Int} (h : Asc l) {i j : Nat} (hij : i < j) (hj : j < l.length) : ia l i < ia l j := by
  have := List.pairwise_iff_getElem.1 h i j (by omega) hj hij
  simpa [ia, hj, show i < l.length by omega] using this
theorem mem_ia {l : List Int} {x : Int} : x ∈ l ↔ ∃ i, i < l.length ∧ ia l i = x := by
  rw [List.mem_iff_getElem]
  constructor
  · rintro ⟨i, hi, e⟩; exact ⟨i, hi, by simp [ia, hi, e]⟩
  · rintro ⟨i, hi, e⟩; exact ⟨i, hi, by simpa [ia, hi] using e⟩
/-- l' is l with n, each once, rising. -/
def WithI (l : List Int) (n : Int) (l' : List Int) : Prop := Asc l' ∧ (∀ d, d ∈ l' ↔ d = n ∨ d ∈ l) ∧ l'.length ≤ l.length + 1
theorem withI_same {l : List Int} {n : Int} (hr : Asc l) (hm : n ∈ l) : WithI l n l :=
  ⟨hr, fun d => ⟨fun h => .inr h, fun h => h.elim (fun e => by rw [e]; exact hm) id⟩, by omega⟩
theorem withI_new {l : List Int} {n : Int} {k : Nat} (hr : Asc l) (hk : k ≤ l.length) (h1 : ∀ i, i < k → ia l i < n) (h2 : k < l.length → n < ia l k) : WithI l n (l.take k ++ [n] ++ l.drop k) := by
  have hd : ∀ x ∈ l.drop k, n < x := by
    intro x hx
    obtain ⟨i, hi, e⟩ := mem_ia.1 hx
    rw [List.length_drop] at hi
    have e2 : ia (l.drop k) i = ia l (k + i) := by unfold ia; rw [List.getD_eq_getElem?_getD, List.getD_eq_getElem?_getD, List.getElem?_drop]
    rw [e2] at e
    have := h2 (by omega)
    rcases Nat.eq_zero_or_pos i with h0 | h0
    · subst h0; rw [Nat.add_zero] at e; omega
    · have := asc_lt hr (i := k) (j := k + i) (by omega) (by omega); omega
  have ht : ∀ x ∈ l.take k, x < n := by
    intro x hx
    obtain ⟨i, hi, e⟩ := mem_ia.1 hx
    rw [List.length_take] at hi
    have e2 : ia (l.take k) i = ia l i := by unfold ia; rw [List.getD_eq_getElem?_getD, List.getD_eq_getElem?_getD, List.getElem?_take_of_lt (by omega)]
    rw [e2] at e
    have := h1 i (by omega); omega
  refine ⟨?_, fun d => ?_, by simp; omega⟩
  · show List.Pairwise _ _
    rw [List.pairwise_append, List.pairwise_append]
    refine ⟨⟨hr.sublist (List.take_sublist _ _), List.pairwise_singleton _ _, fun x hx y hy => ?_⟩, hr.sublist (List.drop_sublist _ _), fun x hx y hy => ?_⟩
    · simp at hy; subst hy; exact ht x hx
    · rw [List.mem_append] at hx
      have hyd := hd y hy
      rcases hx with hx | hx
      · have := ht x hx; omega
      · simp at hx; subst hx; exact hyd
  · simp only [List.mem_append, List.mem_singleton]
    constructor
    · rintro ((h | h) | h)
      · exact .inr (List.mem_of_mem_take h)
      · exact .inl h
      · exact .inr (List.mem_of_mem_drop h)
    · rintro (h | h)
      · exact .inl (.inr h)
      · have := List.take_append_drop k l
        rw [← this, List.mem_append] at h
        rcases h with h | h
        · exact .inl (.inl h)
        · exact .inr h
theorem asc_nodup {l : List Int} (h : Asc l) : l.Nodup := by
  rw [List.nodup_iff_pairwise_ne]
  exact h.imp fun h => by omega
theorem asc_unique {l m : List Int} (hl : Asc l) (hm : Asc m) (h : ∀ c, c ∈ l ↔ c ∈ m) : l = m := by
  have hp : l.Perm m := (List.perm_ext_iff_of_nodup (asc_nodup hl) (asc_nodup hm)).2 h
  exact hp.eq_of_pairwise (fun a b _ _ h1 h2 => by omega) hl hm
/-- Rising numbers from nought on are as many as the last allows. -/
theorem asc_len {l : List Int} (h : Asc l) {N : Nat} (hb : ∀ x ∈ l, 0 ≤ x ∧ x < (N : Int)) : l.length ≤ N := by
  have : ∀ i, i < l.length → (i : Int) ≤ ia l i := by
    intro i
    induction i with
    | zero => intro hi; have := hb (ia l 0) (mem_ia.2 ⟨0, hi, rfl⟩); omega
    | succ i ih => intro hi; have := ih (by omega); have := asc_lt h (i := i) (j := i + 1) (by omega) hi; omega
  rcases Nat.eq_zero_or_pos l.length with h0 | h0
  · omega
  · have h1 := this (l.length - 1) (by omega)
    have h2 := hb (ia l (l.length - 1)) (mem_ia.2 ⟨l.length - 1, by omega, rfl⟩)
    omega

end Go.Proofs.YtnabgfbempkgnaaGreatDoor

namespace Go.Proofs.YtnabgfbempkgnaaGreatDoor
open Go.RowKit
set_option linter.unusedVariables false
set_option linter.unusedSimpArgs false
attribute [local go_sem ↓] Go.wp_at_zero Go.wp_at_succ

/-- The kids l lie where ad leads to, in a block of numbers from base on that is not gg. -/
def KidAt (w : World) (base : Nat) (ad : Option Addr) (l : List Int) (gg : Option Nat := none) : Prop :=
  ∀ j, j < l.length → ∃ b o cur fr, ad = some ⟨b, o, none⟩ ∧ (base ≤ b ∧ some b ≠ gg) ∧ w.heap[b]? = some (.cells cur 3 fr) ∧ w.cell? ⟨b, o + j, none⟩ = some (.int .i64 (ia l j))
theorem KidAt.kept {w w' : World} {base : Nat} {ad : Option Addr} {l : List Int} {gg : Option Nat} (h : KidAt w base ad l gg) (hk : ∀ (b : Nat) (cur : Array Value) (fr : Nat × Nat), w.heap[b]? = some (Obj.cells cur 3 fr) → w'.heap[b]? = w.heap[b]?) : KidAt w' base ad l gg := by
  intro j hj
  obtain ⟨b, o, cur, fr, h1, h2, h3, h4⟩ := h j hj
  have hb := hk b cur fr h3
  exact ⟨b, o, cur, fr, h1, h2, hb.trans h3, (World.cell?_of_block (a := ⟨b, o + j, none⟩) hb).trans h4⟩
theorem lt_of_blk {w : World} {b : Nat} {o : Obj} (h : w.heap[b]? = some o) : b < w.heap.size := (Array.getElem?_eq_some_iff.1 h).1
theorem KidAt.below {w w' : World} {base : Nat} {ad : Option Addr} {l : List Int} {gg : Option Nat} (h : KidAt w base ad l gg) (hb : Below w.heap.size w w') : KidAt w' base ad l gg :=
  h.kept fun b cur fr hh => hb.block b (lt_of_blk hh)
theorem KidAt.seg {w : World} {base : Nat} {ad : Option Addr} {l : List Int} {gg : Option Nat} (h : KidAt w base ad l gg) : ISeg w ad l := by
  intro j hj
  obtain ⟨b, o, cur, fr, h1, h2, h3, h4⟩ := h j hj
  exact ⟨b, o, h1, lt_of_blk h3, h4⟩
theorem OwnI.kidAt {w : World} {base : Nat} {v : Value} {l : List Int} (h : OwnI w base v l) : ∃ a cap, v = .slice a l.length cap ∧ l.length ≤ cap ∧ (a = none → cap = 0) ∧ KidAt w base a l := by
  have h0 := h
  rcases h.2 with ⟨rfl, hn⟩ | ⟨g, cap, cur, rfl, hb, hg, hcap, hm, hs, ht⟩
  · have : l = [] := List.eq_nil_of_length_eq_zero hn
    subst this
    exact ⟨none, 0, rfl, by simp, fun _ => rfl, fun i hi => by simp at hi⟩
  · refine ⟨some ⟨g, 0, none⟩, cap, rfl, hcap, (by intro h; cases h), fun i hi => ⟨g, 0, cur, (0, 0), rfl, ⟨hb, by simp⟩, hg, ?_⟩⟩
    have := World.ownsRow.cellAt h0 i (by omega)
    rw [iv_at hi] at this
    rw [Nat.zero_add]
    exact this

/-- A quad's cells. -/
def qf (q : Qd) (ad : Option Addr × Nat) : List Value := [.int .i64 q.1, .slice ad.1 q.2.length ad.2]
def qfl (F : List Qd) (ad : Nat → Option Addr × Nat) : Nat → List Value
  | 0 => []
  | k + 1 => qfl F ad k ++ qf (qa F k) (ad k)
theorem qfl_length (F : List Qd) (ad : Nat → Option Addr × Nat) : ∀ k, (qfl F ad k).length = k * 2
  | 0 => rfl
  | k + 1 => by simp only [qfl, List.length_append, qfl_length F ad k]; simp [qf]; omega
theorem qfl_at (F : List Qd) (ad : Nat → Option Addr × Nat) : ∀ {k i : Nat}, i < k → (qfl F ad k)[i * 2]? = some (.int .i64 (qa F i).1) ∧ (qfl F ad k)[i * 2 + 1]? = some (.slice (ad i).1 (qa F i).2.length (ad i).2)
  | 0, i, h => by omega
  | k + 1, i, h => by
    simp only [qfl]
    have hl := qfl_length F ad k
    by_cases e : i = k
    · subst e
      rw [List.getElem?_append_right (by omega), List.getElem?_append_right (by omega), hl, show i * 2 - i * 2 = 0 by omega, show i * 2 + 1 - i * 2 = 1 by omega]
      exact ⟨rfl, rfl⟩
    · rw [List.getElem?_append_left (by omega), List.getElem?_append_left (by omega)]
      exact qfl_at F ad (by omega)
theorem qfl_congr {F G : List Qd} {ad bd : Nat → Option Addr × Nat} : ∀ {k : Nat}, (∀ i, i < k → qa F i = qa G i ∧ ad i = bd i) → qfl F ad k = qfl G bd k
  | 0, _ => rfl
  | k + 1, h => by
    simp only [qfl]
    rw [qfl_congr (k := k) fun i hi => h i (by omega), (h k (by omega)).1, (h k (by omega)).2]
theorem qf_one (q : Qd) (ad : Option Addr × Nat) : ∀ u ∈ qf q ad, u.oneCell' = true := by
  intro u hu
  simp only [qf, List.mem_cons, List.not_mem_nil, or_false] at hu
  rcases hu with rfl | rfl <;> rfl
theorem qa_app_old {F : List Qd} {q : Qd} {i : Nat} (h : i < F.length) : qa (F ++ [q]) i = qa F i := by simp [qa, List.getElem?_append_left h]
theorem qa_app_new (F : List Qd) (q : Qd) : qa (F ++ [q]) F.length = q := by simp [qa]

/-- The slice v holds the quads F in a row of its own, from base on. -/
def GF (w : World) (base : Nat) (v : Value) (F : List Qd) (gg : Option Nat := none) : Prop :=
  ∃ ad : Nat → Option Addr × Nat, w.ownsRow base 95 2 v F.length (qfl F ad F.length) ∧ ∀ i, i < F.length → KidAt w base (ad i).1 (qa F i).2 gg ∧ (qa F i).2.length ≤ (ad i).2 ∧ ((ad i).1 = none → (ad i).2 = 0)
theorem GF.nil (w : World) (base : Nat) {gg : Option Nat} : GF w base (.slice none 0 0) [] gg := ⟨fun _ => (none, 0), World.ownsRow_nil w base 95 2, fun i hi => by simp at hi⟩
theorem GF.below {gg : Option Nat} {w w' : World} {base : Nat} {v : Value} {F : List Qd} (h : GF w base v F gg) (hb : Below w.heap.size w w') : GF w' base v F gg := by
  obtain ⟨ad, h1, h2⟩ := h
  exact ⟨ad, World.ownsRow.kept h1 (grown_of_below hb none) (by cases v.ownBlock <;> simp), fun i hi => ⟨(h2 i hi).1.below hb, (h2 i hi).2⟩⟩
theorem GF.lt {gg : Option Nat} {w : World} {base : Nat} {v : Value} {F : List Qd} (h : GF w base v F gg) : ∀ k, v.ownBlock = some k → base ≤ k ∧ k < w.heap.size := by
  obtain ⟨ad, h1, _⟩ := h
  exact World.ownsRow.lt h1
theorem GF.type {gg : Option Nat} {w : World} {base : Nat} {v : Value} {F : List Qd} (h : GF w base v F gg) {k : Nat} (hk : v.ownBlock = some k) : ∃ cur, w.heap[k]? = some (.cells cur 95 (0, 0)) := by
  obtain ⟨ad, h1, _⟩ := h
  rcases h1.2 with ⟨rfl, _⟩ | ⟨g, cap, cur, rfl, _, hg, _⟩
  · simp [Value.ownBlock] at hk
  · simp [Value.ownBlock] at hk
    subst hk
    exact ⟨cur, hg⟩
theorem GF.mono {gg : Option Nat} {w : World} {base base' : Nat} {v : Value} {F : List Qd} (h : GF w base v F gg) (hb : base' ≤ base) : GF w base' v F gg := by
  obtain ⟨ad, h1, h2⟩ := h
  refine ⟨ad, World.ownsRow.mono h1 hb, fun i hi => ⟨fun j hj => ?_, (h2 i hi).2⟩⟩
  obtain ⟨b, o, cur, fr, e1, e2, e3, e4⟩ := (h2 i hi).1 j hj
  exact ⟨b, o, cur, fr, e1, ⟨Nat.le_trans hb e2.1, e2.2⟩, e3, e4⟩
theorem ne_quad_int : ¬ (3 : Nat) = 95 := by decide
/-- A cell of a block that is neither of quads nor of numbers is written. -/
theorem GF.set {gg : Option Nat} {w : World} {base : Nat} {v : Value} {F : List Qd} (h : GF w base v F gg) {p o : Nat} {cur : Array Value} {t : TypeId} {fr : Nat × Nat} (hp : w.heap[p]? = some (.cells cur t fr)) (h1 : t ≠ 3) (h2 : t ≠ 95) (u : Value) : GF (w.setCell ⟨p, o, none⟩ u) base v F gg := by
  obtain ⟨ad, k1, k2⟩ := h
  refine ⟨ad, ownsRow_setCell_other k1 ?_ u, fun i hi => ⟨(k2 i hi).1.kept fun b c f hb => Below.heap_setCell w ⟨p, o, none⟩ u b ?_, (k2 i hi).2⟩⟩
  · intro e
    rcases k1.2 with ⟨rfl, _⟩ | ⟨g, cap, cur', rfl, _, hg, _⟩
    · simp [Value.ownBlock] at e
    · simp [Value.ownBlock] at e
      subst e
      rw [hp] at hg
      simp at hg
      exact h2 hg.2.1
  · intro e
    dsimp only at e
    subst e
    rw [hp] at hb
    simp at hb
    exact h1 hb.2.1
/-- A quad is put behind all. -/
theorem GF.step {gg : Option Nat} {w w' : World} {base : Nat} {v v' : Value} {F : List Qd} {q : Qd} {a : Option Addr} {c : Nat} {ad : Nat → Option Addr × Nat} (h2 : ∀ i, i < F.length → KidAt w base (ad i).1 (qa F i).2 gg ∧ (qa F i).2.length ≤ (ad i).2 ∧ ((ad i).1 = none → (ad i).2 = 0))
    (hv : w.ownsRow base 95 2 v F.length (qfl F ad F.length)) (ho : w'.ownsRow base 95 2 v' (F.length + 1) (qfl F ad F.length ++ qf q (a, c))) (hg : w.grownBy w' v.ownBlock) (hk : KidAt w base a q.2 gg) (hc : q.2.length ≤ c) (hn : a = none → c = 0) : GF w' base v' (F ++ [q]) gg := by
  have keep : ∀ (b : Nat) (cur : Array Value) (fr : Nat × Nat), w.heap[b]? = some (Obj.cells cur 3 fr) → w'.heap[b]? = w.heap[b]? := by
    intro b cur fr hb
    refine hg.block b (lt_of_blk hb) ?_
    intro e
    rcases hv.2 with ⟨rfl, _⟩ | ⟨g, cap, cur', rfl, _, hg', _⟩
    · simp [Value.ownBlock] at e
    · simp [Value.ownBlock] at e
      subst e
      rw [hb] at hg'
      simp at hg'
  refine ⟨fun i => if i = F.length then (a, c) else ad i, ?_, fun i hi => ?_⟩
  · have e : qfl (F ++ [q]) (fun i => if i = F.length then (a, c) else ad i) (F ++ [q]).length = qfl F ad F.length ++ qf q (a, c) := by
      rw [List.length_append, List.length_singleton]
      simp only [qfl]
      rw [qfl_congr (G := F) (bd := ad) fun i hi => ⟨qa_app_old hi, by rw [if_neg (by omega)]⟩, qa_app_new]
      simp
    rw [e, List.length_append, List.length_singleton]
    exact ho
  · rw [List.length_append, List.length_singleton] at hi
    by_cases e : i = F.length
    · subst e
      dsimp only
      rw [if_pos rfl, qa_app_new]
      exact ⟨hk.kept keep, hc, hn⟩
    · dsimp only
      rw [if_neg e, qa_app_old (by omega)]
      exact ⟨(h2 i (by omega)).1.kept keep, (h2 i (by omega)).2⟩
theorem GF.form {gg : Option Nat} {w : World} {base : Nat} {v : Value} {F : List Qd} (h : GF w base v F gg) : ∃ a cap, v = .slice a F.length cap ∧ F.length ≤ cap ∧ cap ≤ 9223372036854775807 ∧ QSeg w a F := by
  obtain ⟨ad, h1, h2⟩ := h
  have h0 := h1
  rcases h1.2 with ⟨rfl, hn⟩ | ⟨g, cap, cur, rfl, hb, hg, hcap, hm, hs, ht⟩
  · have : F = [] := List.eq_nil_of_length_eq_zero hn
    subst this
    exact ⟨none, 0, rfl, by simp, by omega, fun i hi => by simp at hi⟩
  · refine ⟨some ⟨g, 0, none⟩, cap, rfl, hcap, by unfold maxLen at hm; omega, fun i hi => ?_⟩
    have c0 := World.ownsRow.cellAt h0 (i * 2) (by omega)
    have c1 := World.ownsRow.cellAt h0 (i * 2 + 1) (by omega)
    rw [(qfl_at F ad hi).1] at c0
    rw [(qfl_at F ad hi).2] at c1
    exact ⟨g, 0, (ad i).1, (ad i).2, rfl, lt_of_blk hg, by rw [Nat.zero_add]; exact c0, by rw [Nat.zero_add]; exact c1, (h2 i hi).1.seg, (h2 i hi).2.1⟩

/-- Where a quad's kids lie nowhere there is no room for them. -/
def NoneCap (w : World) (a : Option Addr) (F : List Qd) : Prop := ∀ i, i < F.length → ∀ ak n ck, (∃ b o, a = some ⟨b, o, none⟩ ∧ w.cell? ⟨b, o + i * 2 + 1, none⟩ = some (.slice ak n ck)) → ak = none → ck = 0
theorem GF.noneCap {gg : Option Nat} {w : World} {base : Nat} {a : Option Addr} {n cap : Nat} {F : List Qd} (h : GF w base (.slice a n cap) F gg) : NoneCap w a F := by
  obtain ⟨ad, h1, h2⟩ := h
  have h0 := h1
  rcases h1.2 with ⟨e, hn⟩ | ⟨g, cap', cur, e, hb, hg, hcap, hm, hs, ht⟩
  · rintro i hi
    omega
  · simp only [Value.slice.injEq] at e
    obtain ⟨rfl, rfl, rfl⟩ := e
    rintro i hi ak n ck ⟨b, o, e1, e2⟩ e3
    simp only [Option.some.injEq, Addr.mk.injEq, and_true] at e1
    obtain ⟨rfl, rfl⟩ := e1
    have c1 := World.ownsRow.cellAt h0 (i * 2 + 1) (by omega)
    rw [(qfl_at F ad hi).2] at c1
    rw [Nat.zero_add, c1] at e2
    simp at e2
    obtain ⟨rfl, _, rfl⟩ := e2
    exact (h2 i hi).2.2 e3
theorem QRow.noneCap {w : World} {base g : Nat} {ks : Nat → Nat} {F : List Qd} (h : QRow w base g ks F F.length) : NoneCap w (some ⟨g, 0, none⟩) F := by
  rintro i hi ak n ck ⟨b, o, e1, e2⟩ e3
  simp only [Option.some.injEq, Addr.mk.injEq, and_true] at e1
  obtain ⟨rfl, rfl⟩ := e1
  have c1 := h.row.cell (i := i * 2 + 1) (by omega)
  rw [quadTo_odd, if_pos hi] at c1
  rw [Nat.zero_add, c1] at e2
  simp at e2
  rw [← e2.1] at e3
  cases e3
theorem NoneCap.below {w w' : World} {a : Option Addr} {F : List Qd} (h : NoneCap w a F) (ha : QSeg w a F) (hb : Below w.heap.size w w') : NoneCap w' a F := by
  rintro i hi ak n ck ⟨b, o, rfl, e2⟩ e3
  obtain ⟨b', o', ak', ck', e, hlt, _⟩ := ha i hi
  simp only [Option.some.injEq, Addr.mk.injEq, and_true] at e
  obtain ⟨rfl, rfl⟩ := e
  rw [hb.cell (p := ⟨b, _, none⟩) hlt] at e2
  exact h i hi ak n ck ⟨b, o, rfl, e2⟩ e3

/-- Appending a quad, at a step of a region that draws its order. -/
theorem step_appQ {gg : Option Nat} {w : World} {ops : Array Oper} {o : Oper} {a : Act} {K : Act → World → Prop} {Q : Exit → Act → World → Prop} {E : Prop} (hgd : o.guard = none) (s x : Operand)
    (ho : o.op = .call { callee := .builtin .append, args := #[s, x], argTypes := #[54, 54] })
    (base : Nat) (v : Value) (F : List Qd) (q : Qd) (ad : Option Addr) (c B : Nat) (hs : a.eval s = v) (hown : GF w base v F gg) (hx : a.eval x = .slice (some ⟨B, 0, none⟩) 1 1)
    (hblk : w.heap[B]? = some (.cells (qf q (ad, c)).toArray 95)) (hk : KidAt w base ad q.2 gg) (hc : q.2.length ≤ c) (hn : ad = none → c = 0) (hlen : F.length ≤ 1048576) (hbase : base ≤ w.heap.size)
    (h : ∀ v' w', GF w' base v' (F ++ [q]) gg → w.grownBy w' v.ownBlock → (v'.ownBlock = v.ownBlock ∨ v'.ownBlock = some w.heap.size) → K (a.put o.dst v') w') : if Region.wanted o (yielded ops a.tmps) = true then Oper.wp Tryz.prog o a w K Q else E := by
  have hw : Region.wanted o (yielded ops a.tmps) = true := by simp [Region.wanted, hgd]
  rw [if_pos hw]
  obtain ⟨i, hi, hz, hsz, hb⟩ := info_parts info_Quad
  obtain ⟨bd, k1, k2⟩ := hown
  obtain ⟨v', w', hr, h1, h2, _, h4⟩ := run_append_own_at (P := Tryz.prog) w base 54 o.type 95 i _ 2 32 Tryz.underlying54 hi hz hsz hb rfl (by omega) v F.length (qfl F bd F.length) k1 ⟨B, 0, none⟩ 1 1 (qf q (ad, c)) rfl (by
      intro j u hu
      have hadd : (⟨B, 0, none⟩ : Addr).add j = ⟨B, j, none⟩ := by unfold Addr.add; split <;> simp_all
      rw [hadd]
      unfold World.cell?
      rw [hblk]
      simpa using hu) (qf_one q _) (by unfold maxLen; omega) (by omega) hbase
  unfold Oper.wp execOp
  simp only [ho, resolve, invoke, builtin, Sem.run_bind, Sem.run_pure, Result.andThen_ok, List.map_toArray, List.map_cons, List.map_nil, hs, hx, hr]
  exact h v' w' (GF.step k2 k1 h1 h2 hk hc hn) h2 h4

/-- No kid lies in a block that is not there yet. -/
theorem GF.fresh {gg : Option Nat} {w : World} {base : Nat} {v : Value} {F : List Qd} (h : GF w base v F gg) {x : Nat} (hx : w.heap.size ≤ x) : GF w base v F (some x) := by
  obtain ⟨ad, h1, h2⟩ := h
  refine ⟨ad, h1, fun i hi => ⟨fun j hj => ?_, (h2 i hi).2⟩⟩
  obtain ⟨b, o, cur, fr, e1, e2, e3, e4⟩ := (h2 i hi).1 j hj
  exact ⟨b, o, cur, fr, e1, ⟨e2.1, by intro e; have := lt_of_blk e3; cases e; omega⟩, e3, e4⟩
theorem GF.any {gg : Option Nat} {w : World} {base : Nat} {v : Value} {F : List Qd} (h : GF w base v F gg) : GF w base v F := by
  obtain ⟨ad, h1, h2⟩ := h
  refine ⟨ad, h1, fun i hi => ⟨fun j hj => ?_, (h2 i hi).2⟩⟩
  obtain ⟨b, o, cur, fr, e1, e2, e3, e4⟩ := (h2 i hi).1 j hj
  exact ⟨b, o, cur, fr, e1, ⟨e2.1, by simp⟩, e3, e4⟩
/-- A block of numbers that no kid lies in grows. -/
theorem GF.beside {w w' : World} {base x : Nat} {v : Value} {F : List Qd} (h : GF w base v F (some x)) (hx : v.ownBlock ≠ some x) (hg : w.grownBy w' (some x)) : GF w' base v F (some x) := by
  obtain ⟨ad, h1, h2⟩ := h
  refine ⟨ad, World.ownsRow.kept h1 hg (by cases hv : v.ownBlock <;> simp_all), fun i hi => ⟨fun j hj => ?_, (h2 i hi).2⟩⟩
  obtain ⟨b, o, cur, fr, e1, e2, e3, e4⟩ := (h2 i hi).1 j hj
  have hb := hg.block b (lt_of_blk e3) e2.2
  exact ⟨b, o, cur, fr, e1, e2, hb.trans e3, (World.cell?_of_block (a := ⟨b, o + j, none⟩) hb).trans e4⟩

end Go.Proofs.YtnabgfbempkgnaaGreatDoor

namespace Go.Proofs.YtnabgfbempkgnaaGreatDoor
set_option linter.unusedVariables false

/-- How many kids the first k quads have. -/
def kidsUp (F : List Qd) : Nat → Nat
  | 0 => 0
  | k + 1 => kidsUp F k + (qa F k).2.length
/-- The place of the quad with these kids, from k on (behind the first two). -/
def findF (F : List Qd) (l : List Int) : Nat → Option Nat
  | 0 => none
  | k + 1 => match findF F l k with
    | some i => some i
    | none => if 2 ≤ k ∧ (qa F k).2 = l then some k else none
theorem findF_some {F : List Qd} {l : List Int} : ∀ {k i : Nat}, findF F l k = some i → 2 ≤ i ∧ i < k ∧ (qa F i).2 = l
  | 0, i, h => by simp [findF] at h
  | k + 1, i, h => by
    simp only [findF] at h
    cases hf : findF F l k with
    | some j =>
      rw [hf] at h
      simp at h
      subst h
      have := findF_some hf
      exact ⟨this.1, by omega, this.2.2⟩
    | none =>
      rw [hf] at h
      simp only at h
      split at h
      · rename_i hc
        simp at h
        subst h
        exact ⟨hc.1, by omega, hc.2⟩
      · cases h
theorem findF_none {F : List Qd} {l : List Int} : ∀ {k : Nat}, findF F l k = none → ∀ n, 2 ≤ n → n < k → (qa F n).2 ≠ l
  | 0, h, n, h2, hk => by omega
  | k + 1, h, n, h2, hk => by
    simp only [findF] at h
    cases hf : findF F l k with
    | some j => rw [hf] at h; cases h
    | none =>
      rw [hf] at h
      simp only at h
      split at h
      · cases h
      · rename_i hc
        by_cases e : n = k
        · subst e; intro e2; exact hc ⟨h2, e2⟩
        · exact findF_none hf n h2 (by omega)
/-- The forest behind a joining, and the quad's number. -/
def joinF (F : List Qd) (l : List Int) : List Qd × Nat :=
  match findF F l F.length with
  | some i => (F, i)
  | none => (F ++ [((qa F (ia l 0).toNat).1 + 1, l)], F.length)

/-- A forest that grows: as a good one, but for its length. -/
structure Grows (F : List Qd) : Prop where
  two : 2 ≤ F.length
  low : ∀ i, i < 2 → qa F i = (0, [])
  len : ∀ i, 2 ≤ i → i < F.length → (qa F i).2.length = 4
  lev : ∀ i, i < F.length → 0 ≤ (qa F i).1 ∧ (qa F i).1 ≤ 5
  kid : ∀ i, 2 ≤ i → i < F.length → ∀ j, j < 4 → 0 ≤ ia (qa F i).2 j ∧ ia (qa F i).2 j < (F.length : Int)
  up : ∀ i, 2 ≤ i → i < F.length → (qa F i).1 = (qa F (ia (qa F i).2 0).toNat).1 + 1
  uniq : ∀ i j, 2 ≤ i → i < j → j < F.length → (qa F i).2 ≠ (qa F j).2
theorem good_new {F : List Qd} (h : goodF F = true) {q : Nat} (hq : q < F.length) (h2 : 2 ≤ q) : ∀ j, j < q → (qa F j).2 ≠ (qa F q).2 := by
  have := good_fine h hq
  simp only [fineQ, if_neg (show ¬ q < 2 by omega), Bool.and_eq_true] at this
  intro j hj
  have := allB_iff.1 this.2 j hj
  simpa using this
theorem good_grows {F : List Qd} (h : goodF F = true) : Grows F := by
  have h4 := good_len2 h
  refine ⟨h4.1, fun i hi => ?_, fun i h2 hi => (good_quad h hi h2).1, fun i hi => lev_nonneg h hi, fun i h2 hi j hj => ?_, fun i h2 hi => ?_, fun i j h2 hij hj => good_new h hj (by omega) i hij⟩
  · have := good_zero h (q := i) (by omega) hi
    exact Prod.ext this.1 (List.eq_nil_of_length_eq_zero this.2)
  · have := (good_quad h hi h2).2.2.2.1 j hj
    omega
  · have := (good_quad h hi h2).2.2.2.2 0 (by omega)
    unfold kidq at this
    omega
theorem Grows.add {F : List Qd} (h : Grows F) {q : Qd} (h1 : q.2.length = 4) (h2 : 0 ≤ q.1 ∧ q.1 ≤ 5) (h3 : ∀ j, j < 4 → 0 ≤ ia q.2 j ∧ ia q.2 j < (F.length : Int)) (h4 : q.1 = (qa F (ia q.2 0).toNat).1 + 1) (h5 : ∀ i, 2 ≤ i → i < F.length → (qa F i).2 ≠ q.2) : Grows (F ++ [q]) := by
  have old : ∀ i, i < F.length → qa (F ++ [q]) i = qa F i := fun i hi => by simp [qa, List.getElem?_append_left hi]
  have new : qa (F ++ [q]) F.length = q := by simp [qa]
  have hl : (F ++ [q]).length = F.length + 1 := by simp
  refine ⟨by have := h.two; omega, fun i hi => by rw [old i (by have := h.two; omega)]; exact h.low i hi, fun i h2' hi => ?_, fun i hi => ?_, fun i h2' hi j hj => ?_, fun i h2' hi => ?_, fun i j h2' hij hj => ?_⟩
  · by_cases e : i = F.length
    · subst e; rw [new]; exact h1
    · rw [old i (by omega)]; exact h.len i h2' (by omega)
  · by_cases e : i = F.length
    · subst e; rw [new]; exact h2
    · rw [old i (by omega)]; exact h.lev i (by omega)
  · by_cases e : i = F.length
    · subst e; rw [new]; have := h3 j hj; omega
    · rw [old i (by omega)]; have := h.kid i h2' (by omega) j hj; omega
  · by_cases e : i = F.length
    · subst e; rw [new, old _ (by have := h3 0 (by omega); omega)]; exact h4
    · rw [old i (by omega), old _ (by have := h.kid i h2' (by omega) 0 (by omega); omega)]; exact h.up i h2' (by omega)
  · rw [old i (by omega)]
    by_cases e : j = F.length
    · subst e; rw [new]; exact h5 i h2' (by omega)
    · rw [old j (by omega)]; exact h.uniq i j h2' hij (by omega)
theorem joinF_len (F : List Qd) (l : List Int) : F.length ≤ (joinF F l).1.length ∧ (joinF F l).1.length ≤ F.length + 1 := by
  unfold joinF
  split <;> simp
theorem joinF_lt (F : List Qd) (l : List Int) : (joinF F l).2 < (joinF F l).1.length := by
  unfold joinF
  split
  · rename_i h; have := findF_some h; simp; omega
  · simp
theorem joinF_old (F : List Qd) (l : List Int) {i : Nat} (hi : i < F.length) : qa (joinF F l).1 i = qa F i := by
  unfold joinF
  split
  · rfl
  · simp [qa, List.getElem?_append_left hi]
theorem joinF_grows {F : List Qd} (h : Grows F) {l : List Int} (hl : l.length = 4) (hk : ∀ j, j < 4 → 0 ≤ ia l j ∧ ia l j < (F.length : Int)) (hv : (qa F (ia l 0).toNat).1 < 5) : Grows (joinF F l).1 := by
  unfold joinF
  split
  · exact h
  · rename_i hn
    have h0 := hk 0 (by omega)
    have := h.lev (ia l 0).toNat (by omega)
    exact h.add hl (by dsimp only; omega) hk rfl (fun i h2 hi => findF_none hn i h2 hi)
theorem joinF_lev {F : List Qd} (h : Grows F) {l : List Int} : (qa (joinF F l).1 (joinF F l).2).1 = (qa F (ia l 0).toNat).1 + 1 := by
  unfold joinF
  split
  · rename_i i hi
    obtain ⟨h1, h2, h3⟩ := findF_some hi
    have := h.up i h1 h2
    rw [h3] at this
    exact this
  · simp [qa]

/-- The forest behind the making of a tree of level n of the cells l, from a corner on, and the tree's number. -/
def treeL (L : List Cl) : Nat → Int → Int → List Qd → List Qd × Nat
  | 0, x, y, F => (F, if (x, y) ∈ L then 1 else 0)
  | n + 1, x, y, F =>
    let r0 := treeL L n x y F
    let r1 := treeL L n (x + 2 ^ n) y r0.1
    let r2 := treeL L n x (y + 2 ^ n) r1.1
    let r3 := treeL L n (x + 2 ^ n) (y + 2 ^ n) r2.1
    joinF r3.1 [(r0.2 : Int), (r1.2 : Int), (r2.2 : Int), (r3.2 : Int)]
/-- What a tree's making leaves. -/
structure Tr (F : List Qd) (n : Nat) (r : List Qd × Nat) : Prop where
  grows : Grows r.1
  lt : r.2 < r.1.length
  lev : (qa r.1 r.2).1 = (n : Int)
  more : F.length ≤ r.1.length
  old : ∀ i, i < F.length → qa r.1 i = qa F i
  most : r.1.length + 1 ≤ F.length + 4 ^ n
theorem tr_join {F F0 F1 F2 F3 : List Qd} {n k0 k1 k2 k3 : Nat} (hn : n < 5) (t0 : Tr F n (F0, k0)) (t1 : Tr F0 n (F1, k1)) (t2 : Tr F1 n (F2, k2)) (t3 : Tr F2 n (F3, k3)) :
    Tr F (n + 1) (joinF F3 [(k0 : Int), (k1 : Int), (k2 : Int), (k3 : Int)]) ∧ (∀ j, j < 4 → 0 ≤ ia [(k0 : Int), (k1 : Int), (k2 : Int), (k3 : Int)] j ∧ ia [(k0 : Int), (k1 : Int), (k2 : Int), (k3 : Int)] j < (F3.length : Int)) ∧ (qa F3 (ia [(k0 : Int), (k1 : Int), (k2 : Int), (k3 : Int)] 0).toNat).1 = (n : Int) := by
  have a0 := t0.lt; have a1 := t1.lt; have a2 := t2.lt; have a3 := t3.lt
  have m1 := t1.more; have m2 := t2.more; have m3 := t3.more
  have b0 := t0.most; have b1 := t1.most; have b2 := t2.most; have b3 := t3.most
  have m0 := t0.more
  dsimp only at a0 a1 a2 a3 m0 m1 m2 m3 b0 b1 b2 b3
  have hk : ∀ j, j < 4 → 0 ≤ ia [(k0 : Int), (k1 : Int), (k2 : Int), (k3 : Int)] j ∧ ia [(k0 : Int), (k1 : Int), (k2 : Int), (k3 : Int)] j < (F3.length : Int) := by
    intro j hj
    rcases (show j = 0 ∨ j = 1 ∨ j = 2 ∨ j = 3 by omega) with rfl | rfl | rfl | rfl <;> simp [ia] <;> omega
  have hl : (qa F3 k0).1 = (n : Int) := by
    have e3 := t3.old k0 (by omega)
    have e2 := t2.old k0 (by omega)
    have e1 := t1.old k0 (by omega)
    have e0 := t0.lev
    dsimp only at e0 e1 e2 e3
    rw [e3, e2, e1, e0]
  have h0 : (ia [(k0 : Int), (k1 : Int), (k2 : Int), (k3 : Int)] 0).toNat = k0 := by simp [ia]
  have hlv : (qa F3 (ia [(k0 : Int), (k1 : Int), (k2 : Int), (k3 : Int)] 0).toNat).1 = (n : Int) := by rw [h0]; exact hl
  have hjl := joinF_len F3 [(k0 : Int), (k1 : Int), (k2 : Int), (k3 : Int)]
  refine ⟨⟨joinF_grows t3.grows rfl hk (by rw [hlv]; omega), joinF_lt _ _, ?_, by omega, fun i hi => ?_, ?_⟩, hk, hlv⟩
  · rw [joinF_lev t3.grows, hlv]; omega
  · rw [joinF_old _ _ (by omega)]
    have e3 := t3.old i (by omega)
    have e2 := t2.old i (by omega)
    have e1 := t1.old i (by omega)
    have e0 := t0.old i hi
    dsimp only at e0 e1 e2 e3
    rw [e3, e2, e1, e0]
  · rw [Nat.pow_succ]; omega
theorem treeL_tr (L : List Cl) : ∀ (n : Nat) (x y : Int) (F : List Qd), n ≤ 5 → Grows F → Tr F n (treeL L n x y F)
  | 0, x, y, F, hn, h => by
    have h2 := h.two
    by_cases e : (x, y) ∈ L
    · refine ⟨h, ?_, ?_, Nat.le_refl _, fun _ _ => rfl, by simp [treeL]⟩
      · simp only [treeL, if_pos e]; omega
      · simp only [treeL, if_pos e]; rw [h.low 1 (by omega)]; rfl
    · refine ⟨h, ?_, ?_, Nat.le_refl _, fun _ _ => rfl, by simp [treeL]⟩
      · simp only [treeL, if_neg e]; omega
      · simp only [treeL, if_neg e]; rw [h.low 0 (by omega)]; rfl
  | n + 1, x, y, F, hn, h => by
    have t0 := treeL_tr L n x y F (by omega) h
    have t1 := treeL_tr L n (x + 2 ^ n) y _ (by omega) t0.grows
    have t2 := treeL_tr L n x (y + 2 ^ n) _ (by omega) t1.grows
    have t3 := treeL_tr L n (x + 2 ^ n) (y + 2 ^ n) _ (by omega) t2.grows
    exact (tr_join (by omega) t0 t1 t2 t3).1
theorem Grows.kidsLe {F : List Qd} (h : Grows F) : KidsLe F := by
  intro i hi
  by_cases h2 : i < 2
  · rw [h.low i h2]; simp
  · have := h.len i (by omega) hi; omega
theorem Grows.tot {F : List Qd} (h : Grows F) : ∀ k, k ≤ F.length → kidsUp F k ≤ 4 * k
  | 0, _ => by simp [kidsUp]
  | k + 1, hk => by
    have ih := Grows.tot h k (by omega)
    simp only [kidsUp]
    by_cases h2 : k < 2
    · rw [h.low k h2]; simp; omega
    · have := h.len k (by omega) (by omega); omega

end Go.Proofs.YtnabgfbempkgnaaGreatDoor
