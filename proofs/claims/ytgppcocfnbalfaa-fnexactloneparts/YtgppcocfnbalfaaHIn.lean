/- A list of lists that lies below a place of the heap's, as it lies. -/
import Derived.Test.YtgppcocfnbalfaaHMk
namespace Go.Proofs.Ytgppcocfnbalfaa
open Go.RowKit
set_option linter.unusedVariables false

/-- The lists H lie below block n where the slice's address a leads to. -/
def HIn (n : Nat) (w : World) (a : Option Addr) (H : List (List Cl)) : Prop :=
  (∀ i, i < H.length → ∃ b o, a = some ⟨b, o, none⟩ ∧ b < n ∧ ∃ a' c', w.cell? ⟨b, o + i, none⟩ = some (.slice a' (ht H i).length c') ∧ (∀ j, j < (ht H i).length → ∃ b' o', a' = some ⟨b', o', none⟩ ∧ b' < n)) ∧ HSeg w a H
theorem HIn.of {w : World} {a : Option Addr} {H : List (List Cl)} (h : HSeg w a H) : HIn w.heap.size w a H :=
  ⟨fun i hi => by
    obtain ⟨b, o, e, hb, a', c', h1, h2, h3⟩ := h i hi
    exact ⟨b, o, e, hb, a', c', h1, fun j hj => by obtain ⟨b', o', e', hb', _⟩ := h2 j hj; exact ⟨b', o', e', hb'⟩⟩, h⟩
/-- Whatever keeps the blocks below n keeps it. -/
theorem HIn.blocks {n : Nat} {w w' : World} {a : Option Addr} {H : List (List Cl)} (h : HIn n w a H) (hn : w.heap.size ≤ w'.heap.size) (hk : ∀ k, k < n → w'.heap[k]? = w.heap[k]?) : HIn n w' a H := by
  refine ⟨fun i hi => ?_, fun i hi => ?_⟩
  · obtain ⟨b, o, e, hb, a', c', h1, h2⟩ := h.1 i hi
    exact ⟨b, o, e, hb, a', c', (World.cell?_of_block (a := ⟨b, o + i, none⟩) (hk b hb)).trans h1, h2⟩
  · obtain ⟨b, o, e, hb, a', c', h1, h2⟩ := h.1 i hi
    obtain ⟨b2, o2, e2, hb2, a2, c2, g1, g2, g3⟩ := h.2 i hi
    rw [e] at e2
    simp only [Option.some.injEq, Addr.mk.injEq, and_true] at e2
    obtain ⟨rfl, rfl⟩ := e2
    rw [h1] at g1
    simp only [Option.some.injEq, Value.slice.injEq, true_and] at g1
    obtain ⟨rfl, rfl⟩ := g1
    refine ⟨b, o, e, Nat.lt_of_lt_of_le hb2 hn, a', c', (World.cell?_of_block (a := ⟨b, o + i, none⟩) (hk b hb)).trans h1, fun j hj => ?_, g3⟩
    obtain ⟨b3, o3, e3, hb3, p1, p2⟩ := g2 j hj
    obtain ⟨b4, o4, e4, hb4⟩ := h2 j hj
    rw [e3] at e4
    simp only [Option.some.injEq, Addr.mk.injEq, and_true] at e4
    obtain ⟨rfl, rfl⟩ := e4
    exact ⟨b3, o3, e3, Nat.lt_of_lt_of_le hb3 hn, (World.cell?_of_block (a := ⟨b3, o3 + j * 2, none⟩) (hk b3 hb4)).trans p1, (World.cell?_of_block (a := ⟨b3, o3 + j * 2 + 1, none⟩) (hk b3 hb4)).trans p2⟩
theorem HIn.below {n : Nat} {w w' : World} {a : Option Addr} {H : List (List Cl)} (h : HIn n w a H) (hb : Below w.heap.size w w') : HIn n w' a H := by
  refine ⟨fun i hi => ?_, h.2.below hb⟩
  obtain ⟨b, o, e, hb1, a', c', h1, h2⟩ := h.1 i hi
  obtain ⟨b2, o2, e2, hb2, _⟩ := h.2 i hi
  rw [e] at e2
  simp only [Option.some.injEq, Addr.mk.injEq, and_true] at e2
  obtain ⟨rfl, rfl⟩ := e2
  exact ⟨b, o, e, hb1, a', c', (hb.cell (p := ⟨b, o + i, none⟩) hb2).trans h1, h2⟩
/-- A row at or beyond n is written. -/
theorem HIn.kept {n : Nat} {w w' : World} {a : Option Addr} {H : List (List Cl)} {row : Option Nat} (h : HIn n w a H) (hg : w.grownBy w' row) (hr : ∀ k, row = some k → n ≤ k) (hn : n ≤ w.heap.size) : HIn n w' a H :=
  h.blocks hg.size (fun k hk => hg.block k (by omega) (fun e => by have := hr k e.symm; omega))
theorem HIn.under {n m : Nat} {w w' : World} {a : Option Addr} {H : List (List Cl)} (h : HIn n w a H) (hb : Below m w w') (hm : n ≤ m) : HIn n w' a H :=
  h.blocks hb.size (fun k hk => hb.block k (by omega))
end Go.Proofs.Ytgppcocfnbalfaa
