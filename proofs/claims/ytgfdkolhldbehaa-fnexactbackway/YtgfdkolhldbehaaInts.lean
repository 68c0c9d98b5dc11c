/- Rows of numbers that a call itself has made: owned, appended to. -/
import Derived.Test.YtgfdkolhldbehaaQuadT
import Derived.Test.YtgfdkolhldbehaaOwn
import Derived.Maps.AppendAt
import Derived.Laws.AppendOwnNone
namespace Go.Proofs.Ytgfdkolhldbehaa
open Go.RowKit
set_option linter.unusedVariables false

def iv (l : List Int) : List Value := l.map fun x => .int .i64 x
theorem iv_length (l : List Int) : (iv l).length = l.length * 1 := by simp [iv]
theorem iv_append (l m : List Int) : iv (l ++ m) = iv l ++ iv m := by simp [iv]
theorem iv_at {l : List Int} {i : Nat} (h : i < l.length) : (iv l)[i]? = some (.int .i64 (ia l i)) := by simp [iv, ia, h]
theorem iv_one (l : List Int) : ∀ u ∈ iv l, u.oneCell' = true := by
  intro u hu
  simp only [iv, List.mem_map] at hu
  obtain ⟨c, _, rfl⟩ := hu; rfl
/-- The slice v owns the numbers l, among the blocks from base on. -/
def OwnI (w : World) (base : Nat) (v : Value) (l : List Int) : Prop := w.ownsRow base 3 1 v l.length (iv l)
theorem OwnI.nil (w : World) (base : Nat) : OwnI w base (.slice none 0 0) [] := World.ownsRow_nil w base 3 1
theorem OwnI.form {w : World} {base : Nat} {v : Value} {l : List Int} (h : OwnI w base v l) : (v = .slice none 0 0 ∧ l = []) ∨ ∃ g cap, v = .slice (some ⟨g, 0, none⟩) l.length cap ∧ l.length ≤ cap ∧ cap ≤ maxLen ∧ ISeg w (some ⟨g, 0, none⟩) l := by
  have h0 := h
  rcases h.2 with ⟨rfl, hn⟩ | ⟨g, cap, cur, rfl, hb, hg, hcap, hm, hs, ht⟩
  · exact .inl ⟨rfl, List.eq_nil_of_length_eq_zero hn⟩
  · refine .inr ⟨g, cap, rfl, hcap, hm, fun i hi => ⟨g, 0, rfl, (Array.getElem?_eq_some_iff.1 hg).1, ?_⟩⟩
    have := World.ownsRow.cellAt h0 i (by omega)
    rw [iv_at hi] at this
    rw [Nat.zero_add]
    exact this
theorem OwnI.seg {w : World} {base : Nat} {v : Value} {l : List Int} (h : OwnI w base v l) : ∃ a cap, v = .slice a l.length cap ∧ ISeg w a l := by
  rcases h.form with ⟨rfl, rfl⟩ | ⟨g, cap, rfl, _, _, hs⟩
  · exact ⟨none, 0, rfl, fun i hi => by simp at hi⟩
  · exact ⟨_, _, rfl, hs⟩
theorem OwnI.below {w w' : World} {base : Nat} {v : Value} {l : List Int} (h : OwnI w base v l) (hb : Below w.heap.size w w') : OwnI w' base v l :=
  World.ownsRow.kept h (grown_of_below hb none) (by cases v.ownBlock <;> simp)
theorem OwnI.lt {w : World} {base : Nat} {v : Value} {l : List Int} (h : OwnI w base v l) : ∀ k, v.ownBlock = some k → base ≤ k ∧ k < w.heap.size := World.ownsRow.lt h
theorem OwnI.mono {w : World} {base base' : Nat} {v : Value} {l : List Int} (h : OwnI w base v l) (hb : base' ≤ base) : OwnI w base' v l := World.ownsRow.mono h hb
theorem OwnI.keep {W W' : World} {base : Nat} {v : Value} {l : List Int} {row : Option Nat} (h : OwnI W base v l) (hg : W.grownBy W' row) (hne : ∀ k, v.ownBlock = some k → row ≠ some k) : OwnI W' base v l := by
  refine World.ownsRow.kept h hg ?_
  cases e : v.ownBlock with
  | none => exact .inl rfl
  | some k => exact .inr fun e2 => hne k e e2.symm
theorem iseg_news {w : World} {ad : Addr} {m : List Int} (h : ISeg w (some ad) m) : ∀ j u, (iv m)[j]? = some u → w.cell? (ad.add j) = some u := by
  intro j u hu
  have hj : j < m.length := by have := (List.getElem?_eq_some_iff.1 hu).1; simpa [iv] using this
  obtain ⟨b, o, e, hb, h0⟩ := h j hj
  simp only [Option.some.injEq] at e
  subst e
  have hadd : (⟨b, o, none⟩ : Addr).add j = ⟨b, o + j, none⟩ := by unfold Addr.add; split <;> simp_all
  rw [hadd, h0]
  rw [iv_at hj] at hu
  exact hu
theorem wpList_appI {w : World} {ops : Array Oper} {rest : List Oper} {o : Oper} {a : Act} {Q : Exit → Act → World → Prop} (hgd : o.guard = none) (s x : Operand)
    (ho : o.op = .call { callee := .builtin .append, args := #[s, x], argTypes := #[61, 61] })
    (base : Nat) (v : Value) (l m : List Int) (ad : Option Addr) (n k : Nat) (hs : a.eval s = v) (hown : OwnI w base v l) (hx : a.eval x = .slice ad n k) (hn : m.length = n) (hseg : ISeg w ad m) (hk : ad = none → k = 0) (hlen : l.length + m.length ≤ 4194304) (hbase : base ≤ w.heap.size)
    (h : ∀ v' w', OwnI w' base v' (l ++ m) → w.grownBy w' v.ownBlock → (v'.ownBlock = v.ownBlock ∨ v'.ownBlock = some w.heap.size) → wpList Try.prog ops Q rest (a.put o.dst v') w') : wpList Try.prog ops Q (o :: rest) a w := by
  subst hn
  obtain ⟨i, hi, hz, hsz, hb⟩ := info_parts info_int
  cases ad with
  | none =>
    have hm : m = [] := by
      cases m with
      | nil => rfl
      | cons c r => obtain ⟨b, o, e, _⟩ := hseg 0 (by simp); cases e
    subst hm
    have hx' : a.eval x = .slice none 0 0 := by rw [hx, hk rfl]; rfl
    refine wpList_append_own_none hgd s x 61 ho base 3 i 1 Try.underlying61 hi v l.length (iv l) hs hown hx' ?_
    exact h v w (by simpa using hown) (grown_refl _ _) (.inl rfl)
  | some ad =>
    refine wpList_append_own_at w hgd s x 61 ho base 3 i _ 1 8 Try.underlying61 hi hz hsz hb rfl (by omega) v l.length (iv l) hs hown ad m.length k (iv m) hx (iv_length m) (iseg_news hseg) (iv_one m)
      (by unfold maxLen; omega) (by omega) hbase ?_
    intro v' w' h1 h2 _ h4
    refine h v' w' ?_ h2 h4
    unfold OwnI
    rw [iv_append, List.length_append]
    exact h1
/-- Appending nothing, whatever the address. -/
theorem wpList_appI0 {w : World} {ops : Array Oper} {rest : List Oper} {o : Oper} {a : Act} {Q : Exit → Act → World → Prop} (hgd : o.guard = none) (s x : Operand)
    (ho : o.op = .call { callee := .builtin .append, args := #[s, x], argTypes := #[61, 61] })
    (base : Nat) (v : Value) (l : List Int) (hs : a.eval s = v) (hown : OwnI w base v l) (hx : ∃ ad n k, a.eval x = .slice ad n k ∧ n = 0 ∧ (ad = none → k = 0)) (hlen : l.length ≤ 4194304) (hbase : base ≤ w.heap.size)
    (h : ∀ v' w', OwnI w' base v' l → w.grownBy w' v.ownBlock → (v'.ownBlock = v.ownBlock ∨ v'.ownBlock = some w.heap.size) → wpList Try.prog ops Q rest (a.put o.dst v') w') : wpList Try.prog ops Q (o :: rest) a w := by
  obtain ⟨ad, n, k, h1, h2, h3⟩ := hx
  subst h2
  exact wpList_appI hgd s x ho base v l [] ad 0 k hs hown h1 rfl (fun i hi => absurd hi (Nat.not_lt_zero _)) h3 (by simpa using hlen) hbase (by simpa using h)
theorem below_grownI {w W W' : World} {v : Value} {l : List Int} (hB : Below w.heap.size w W) (hown : OwnI W w.heap.size v l) (hg : W.grownBy W' v.ownBlock) : Below w.heap.size w W' :=
  hB.grown hg hB.size fun k hk => (hown.lt k hk).1
theorem iseg_block {w : World} {B : Nat} {x : Int} {fr : Nat × Nat} (hb : w.heap[B]? = some (.cells #[.int .i64 x] 3 fr)) : ISeg w (some ⟨B, 0, none⟩) [x] := by
  intro i hi
  have h0 : i = 0 := by simpa using hi
  subst h0
  refine ⟨B, 0, rfl, (Array.getElem?_eq_some_iff.1 hb).1, ?_⟩
  unfold World.cell?; rw [hb]; rfl
theorem slice_empty_int (w : World) : OwnI (w.alloc (.cells #[] 3)) w.heap.size (.slice (some ⟨w.heap.size, 0, none⟩) 0 0) [] :=
  ⟨rfl, .inr ⟨w.heap.size, 0, #[], rfl, Nat.le_refl _, heap_alloc_new w _, Nat.le_refl _, by simp [maxLen], rfl, rfl⟩⟩
theorem ISeg.take {w : World} {a : Option Addr} {l : List Int} (h : ISeg w a l) (k : Nat) : ISeg w a (l.take k) := by
  intro i hi
  rw [List.length_take] at hi
  obtain ⟨b, o, e, hb, h1⟩ := h i (by omega)
  refine ⟨b, o, e, hb, ?_⟩
  rw [h1]; unfold ia
  rw [List.getD_eq_getElem?_getD, List.getD_eq_getElem?_getD, List.getElem?_take_of_lt (by omega)]
theorem ISeg.drop {w : World} {g o : Nat} {l : List Int} (h : ISeg w (some ⟨g, o, none⟩) l) (k : Nat) : ISeg w (some ⟨g, o + k, none⟩) (l.drop k) := by
  intro i hi
  rw [List.length_drop] at hi
  obtain ⟨b, o', e, hb, h1⟩ := h (k + i) (by omega)
  simp only [Option.some.injEq, Addr.mk.injEq, and_true] at e
  obtain ⟨rfl, rfl⟩ := e
  refine ⟨g, o + k, rfl, hb, ?_⟩
  rw [show o + k + i = o + (k + i) by omega, h1]; unfold ia
  rw [List.getD_eq_getElem?_getD, List.getD_eq_getElem?_getD, List.getElem?_drop]

/-- Numbers that rise. -/
abbrev Asc (l : List Int) : Prop := l.Pairwise (· < ·)
theorem asc_lt {l : List Int} (h : Asc l) {i j : Nat} (hij : i < j) (hj : j < l.length) : ia l i < ia l j := by
  have := List.pairwise_iff_getElem.1 h i j (by omega) hj hij
  simpa [ia, hj, show i < l.length by omega] using this
theorem mem_ia {l : List Int} {x : Int} : x ∈ l ↔ ∃ i, i < l.length ∧ ia l i = x := by
  rw [List.mem_iff_getElem]
  constructor
  · rintro ⟨i, hi, e⟩; exact ⟨i, hi, by simp [ia, hi, e]⟩
  · rintro ⟨i, hi, e⟩; exact ⟨i, hi, by simpa [ia, hi] using e⟩
/-- l' is l with n, each once, rising. -/
def WithI (l : List Int) (n : Int) (l' : List Int) : Prop := Asc l' ∧ (∀ d, d ∈ l' ↔ d = n ∨ d ∈ l) ∧ l'.length ≤ l.length + 1
theorem withI_same {l : List Int} {n : Int} (hr : Asc l) (hm : n ∈ l) : WithI l n l :=
  ⟨hr, fun d => ⟨fun h => .inr h, fun h => h.elim (fun e => by rw [e]; exact hm) id⟩, by omega⟩
theorem withI_new {l : List Int} {n : Int} {k : Nat} (hr : Asc l) (hk : k ≤ l.length) (h1 : ∀ i, i < k → ia l i < n) (h2 : k < l.length → n < ia l k) : WithI l n (l.take k ++ [n] ++ l.drop k) := by
  have hd : ∀ x ∈ l.drop k, n < x := by
    intro x hx
    obtain ⟨i, hi, e⟩ := mem_ia.1 hx
    rw [List.length_drop] at hi
    have e2 : ia (l.drop k) i = ia l (k + i) := by unfold ia; rw [List.getD_eq_getElem?_getD, List.getD_eq_getElem?_getD, List.getElem?_drop]
    rw [e2] at e
    have := h2 (by omega)
    rcases Nat.eq_zero_or_pos i with h0 | h0
    · subst h0; rw [Nat.add_zero] at e; omega
    · have := asc_lt hr (i := k) (j := k + i) (by omega) (by omega); omega
  have ht : ∀ x ∈ l.take k, x < n := by
    intro x hx
    obtain ⟨i, hi, e⟩ := mem_ia.1 hx
    rw [List.length_take] at hi
    have e2 : ia (l.take k) i = ia l i := by unfold ia; rw [List.getD_eq_getElem?_getD, List.getD_eq_getElem?_getD, List.getElem?_take_of_lt (by omega)]
    rw [e2] at e
    have := h1 i (by omega); omega
  refine ⟨?_, fun d => ?_, by simp; omega⟩
  · show List.Pairwise _ _
    rw [List.pairwise_append, List.pairwise_append]
    refine ⟨⟨hr.sublist (List.take_sublist _ _), List.pairwise_singleton _ _, fun x hx y hy => ?_⟩, hr.sublist (List.drop_sublist _ _), fun x hx y hy => ?_⟩
    · simp at hy; subst hy; exact ht x hx
    · rw [List.mem_append] at hx
      have hyd := hd y hy
      rcases hx with hx | hx
      · have := ht x hx; omega
      · simp at hx; subst hx; exact hyd
  · simp only [List.mem_append, List.mem_singleton]
    constructor
    · rintro ((h | h) | h)
      · exact .inr (List.mem_of_mem_take h)
      · exact .inl h
      · exact .inr (List.mem_of_mem_drop h)
    · rintro (h | h)
      · exact .inl (.inr h)
      · have := List.take_append_drop k l
        rw [← this, List.mem_append] at h
        rcases h with h | h
        · exact .inl (.inl h)
        · exact .inr h
theorem asc_nodup {l : List Int} (h : Asc l) : l.Nodup := by
  rw [List.nodup_iff_pairwise_ne]
  exact h.imp fun h => by omega
theorem asc_unique {l m : List Int} (hl : Asc l) (hm : Asc m) (h : ∀ c, c ∈ l ↔ c ∈ m) : l = m := by
  have hp : l.Perm m := (List.perm_ext_iff_of_nodup (asc_nodup hl) (asc_nodup hm)).2 h
  exact hp.eq_of_pairwise (fun a b _ _ h1 h2 => by omega) hl hm
/-- Rising numbers from nought on are as many as the last allows. -/
theorem asc_len {l : List Int} (h : Asc l) {N : Nat} (hb : ∀ x ∈ l, 0 ≤ x ∧ x < (N : Int)) : l.length ≤ N := by
  have : ∀ i, i < l.length → (i : Int) ≤ ia l i := by
    intro i
    induction i with
    | zero => intro hi; have := hb (ia l 0) (mem_ia.2 ⟨0, hi, rfl⟩); omega
    | succ i ih => intro hi; have := ih (by omega); have := asc_lt h (i := i) (j := i + 1) (by omega) hi; omega
  rcases Nat.eq_zero_or_pos l.length with h0 | h0
  · omega
  · have h1 := this (l.length - 1) (by omega)
    have h2 := hb (ia l (l.length - 1)) (mem_ia.2 ⟨l.length - 1, by omega, rfl⟩)
    omega

end Go.Proofs.Ytgfdkolhldbehaa
