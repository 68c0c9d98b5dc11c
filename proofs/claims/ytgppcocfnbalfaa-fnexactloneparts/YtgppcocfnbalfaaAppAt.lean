/- Appending cells to a row that a call itself has made, and where the row then lies. -/
import Derived.Test.YtgppcocfnbalfaaApp
import Derived.Maps.AppendAt
namespace Go.Proofs.Ytgppcocfnbalfaa
open Go.RowKit
set_option linter.unusedVariables false

/-- The slice v' lies where v lay, or in a block that was not there in w. -/
def Near' (w : World) (v v' : Value) : Prop := v'.ownBlock = v.ownBlock ∨ ∃ k, v'.ownBlock = some k ∧ w.heap.size ≤ k

theorem wpList_appAt {w : World} {ops : Array Oper} {rest : List Oper} {o : Oper} {a : Act} {Q : Exit → Act → World → Prop} (hgd : o.guard = none) (s x : Operand)
    (ho : o.op = .call { callee := .builtin .append, args := #[s, x], argTypes := #[23, 23] })
    (base : Nat) (v : Value) (l m : List Cl) (ad : Addr) (k : Nat) (hs : a.eval s = v) (hown : OwnS w base v l) (hx : a.eval x = .slice (some ad) m.length k) (hseg : Seg w (some ad) m) (hlen : l.length + m.length ≤ 4194304) (hbase : base ≤ w.heap.size)
    (h : ∀ v' w', OwnS w' base v' (l ++ m) → w.grownBy w' v.ownBlock → Near' w v v' → wpList Try.prog ops Q rest (a.put o.dst v') w') : wpList Try.prog ops Q (o :: rest) a w := by
  obtain ⟨i, hi, hz, hsz, hb⟩ := info_parts info_Cell
  refine wpList_append_own_at w hgd s x 23 ho base 44 i _ 2 16 Try.underlying23 hi hz hsz hb rfl (by omega) v l.length (flat l) hs hown ad m.length k (flat m) hx (flat_length m) (seg_news hseg) (flat_one m)
    (by unfold maxLen; omega) (by omega) hbase ?_
  intro v' w' h1 h2 _ h4
  refine h v' w' ?_ h2 ?_
  · unfold OwnS
    rw [flat_append, List.length_append]
    exact h1
  · rcases h4 with h4 | h4
    · exact .inl h4
    · exact .inr ⟨_, h4, Nat.le_refl _⟩

/-- While cells are put behind all: the slice vi holds l; the box at the heap's end of w, whose cells are bx, is as it was; of what was in w only v's block has changed. -/
structure Stg (w W : World) (base : Nat) (v vi : Value) (bx : List Value) (l : List Cl) : Prop where
  own : OwnS W base vi l
  box : ∀ j u, bx[j]? = some u → W.cell? ⟨w.heap.size, j, none⟩ = some u
  lt : w.heap.size < W.heap.size
  gr : w.grownBy W v.ownBlock
  fr : vi.ownBlock = v.ownBlock ∨ ∃ k, vi.ownBlock = some k ∧ w.heap.size < k
theorem Stg.new {w : World} {base : Nat} {v : Value} {l : List Cl} (h : OwnS w base v l) (bx : List Value) (t : TypeId) : Stg w (w.alloc (.cells bx.toArray t)) base v v bx l := by
  have hb := (Below.refl w.heap.size w).alloc (Nat.le_refl _) (.cells bx.toArray t)
  refine ⟨h.below hb, fun j u hj => ?_, by simp, grown_of_below hb _, .inl rfl⟩
  unfold World.cell?
  rw [heap_alloc_new]
  simpa using hj
theorem Stg.step {w W W' : World} {base : Nat} {v vi vj : Value} {bx : List Value} {l l0 l' : List Cl} (h : Stg w W base v vi bx l) (hv : OwnS w base v l0) (ho : OwnS W' base vj l') (hg : W.grownBy W' vi.ownBlock) (hn : Near' W vi vj) : Stg w W' base v vj bx l' := by
  have hne : some w.heap.size ≠ vi.ownBlock := by
    rcases h.fr with e | ⟨k, e, hk⟩
    · rw [e]
      intro e2
      have := (hv.lt _ e2.symm).2
      omega
    · rw [e]
      intro e2
      simp at e2
      omega
  refine ⟨ho, fun j u hj => ?_, Nat.lt_of_lt_of_le h.lt hg.size, ⟨hg.os.trans h.gr.os, hg.tape.trans h.gr.tape, hg.output.trans h.gr.output, Nat.le_trans h.gr.size hg.size, fun k hk hkn => ?_⟩, ?_⟩
  · exact (World.cell?_of_block (a := ⟨w.heap.size, j, none⟩) (hg.block _ h.lt hne)).trans (h.box j u hj)
  · refine (hg.block k (Nat.lt_of_lt_of_le hk h.gr.size) ?_).trans (h.gr.block k hk hkn)
    rcases h.fr with e | ⟨k', e, hk'⟩
    · rw [e]; exact hkn
    · rw [e]; intro e2; simp at e2; omega
  · rcases hn with e | ⟨k, e, hk⟩
    · rw [e]; exact h.fr
    · exact .inr ⟨k, e, Nat.lt_of_lt_of_le h.lt hk⟩
theorem Stg.below {w W W' : World} {base : Nat} {v vi : Value} {bx : List Value} {l : List Cl} (h : Stg w W base v vi bx l) (hb : Below W.heap.size W W') : Stg w W' base v vi bx l :=
  ⟨h.own.below hb, fun j u hj => (hb.cell (p := ⟨w.heap.size, j, none⟩) h.lt).trans (h.box j u hj), Nat.lt_of_lt_of_le h.lt hb.size,
    ⟨hb.os.trans h.gr.os, hb.tape.trans h.gr.tape, hb.output.trans h.gr.output, Nat.le_trans h.gr.size hb.size, fun k hk hkn => (hb.block k (Nat.lt_of_lt_of_le hk h.gr.size)).trans (h.gr.block k hk hkn)⟩, h.fr⟩
theorem Stg.drew {w W : World} {base : Nat} {v vi : Value} {bx : List Value} {l : List Cl} (h : Stg w W base v vi bx l) : Stg w W.drew base v vi bx l := h.below ((Below.refl _ _).drew)
/-- What lay below base is as it was. -/
theorem Stg.old {W0 w W : World} {base : Nat} {v vi : Value} {bx : List Value} {l l0 : List Cl} (h : Stg w W base v vi bx l) (hv : OwnS w base v l0) (hB : Below W0.heap.size W0 w) (hb : W0.heap.size ≤ base) : Below W0.heap.size W0 W :=
  hB.grown h.gr hB.size fun k hk => Nat.le_trans hb (hv.lt k hk).1
theorem Stg.near {w W : World} {base : Nat} {v vi : Value} {bx : List Value} {l : List Cl} (h : Stg w W base v vi bx l) : Near' w v vi := by
  rcases h.fr with e | ⟨k, e, hk⟩
  · exact .inl e
  · exact .inr ⟨k, e, Nat.le_of_lt hk⟩

end Go.Proofs.Ytgppcocfnbalfaa
