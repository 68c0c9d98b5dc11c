/- Texts put behind texts that are owned. -/
import Derived.Test.YthmjcjcamcdpkaaDoorTxt
namespace Go.Proofs.YthmjcjcamcdpkaaDoor
open Go.RowKit
set_option linter.unusedVariables false

theorem segT_block {w : World} {B : Nat} {s : Tx} {fr : Nat × Nat} (hb : w.heap[B]? = some (.cells #[.string s] 9 fr)) : TSeg w (some ⟨B, 0, none⟩) [s] := by
  intro i hi
  have h0 : i = 0 := by simpa using hi
  subst h0
  refine ⟨B, 0, rfl, (Array.getElem?_eq_some_iff.1 hb).1, ?_⟩
  unfold World.cell?; rw [hb]; rfl
theorem below_grownT {w W W' : World} {v : Value} {l : List Tx} (hB : Below w.heap.size w W) (hown : OwnT W w.heap.size v l) (hg : W.grownBy W' v.ownBlock) : Below w.heap.size w W' :=
  hB.grown hg hB.size fun k hk => (hown.lt k hk).1
/-- One text put behind texts that are owned. -/
theorem wpList_appT {w : World} {ops : Array Oper} {rest : List Oper} {o : Oper} {a : Act} {Q : Exit → Act → World → Prop} (hgd : o.guard = none) (s x : Operand)
    (ho : o.op = .call { callee := .builtin .append, args := #[s, x], argTypes := #[26, 26] })
    (base : Nat) (v : Value) (L : List Tx) (t : Tx) (ad : Addr) (hs : a.eval s = v) (hown : OwnT w base v L) (hx : a.eval x = .slice (some ad) 1 1) (hseg : TSeg w (some ad) [t]) (hlen : L.length ≤ 4194303) (hbase : base ≤ w.heap.size)
    (h : ∀ v' w', OwnT w' base v' (L ++ [t]) → w.grownBy w' v.ownBlock → wpList Tryd.prog ops Q rest (a.put o.dst v') w') : wpList Tryd.prog ops Q (o :: rest) a w := by
  obtain ⟨i, hi, hz, hsz, hb⟩ := info_parts info_string
  refine wpList_append_own w hgd s x 26 ho base 9 i _ 1 16 Tryd.underlying26 hi hz hsz hb rfl (by omega) v L.length (L.map Value.string) hs hown ad 1 1 [.string t] hx rfl ?_ (by simp [Value.oneCell'])
    (by unfold maxLen; omega) (by omega) hbase ?_
  · intro j u hu
    have hj : j = 0 := by
      have := (List.getElem?_eq_some_iff.1 hu).1
      simpa using this
    subst hj
    obtain ⟨b, o, e, _, h1⟩ := hseg 0 (by simp)
    simp only [Option.some.injEq] at e
    subst e
    have hadd : (⟨b, o, none⟩ : Addr).add 0 = ⟨b, o + 0, none⟩ := by unfold Addr.add; split <;> simp_all
    rw [hadd, h1]
    simp at hu
    rw [← hu]
    rfl
  · intro v' w' h1 h2 _
    refine h v' w' ?_ h2
    unfold OwnT
    rw [List.map_append, List.length_append]
    exact h1

end Go.Proofs.YthmjcjcamcdpkaaDoor
