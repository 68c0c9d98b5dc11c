/- Appending cells to a row that a call itself has made. -/
import Derived.Test.YtgfdkolhldbehaaOwn
import Derived.Test.YtgfdkolhldbehaaHas
import Derived.Laws.AppendOwnNone
namespace Go.Proofs.Ytgfdkolhldbehaa
open Go.RowKit
set_option linter.unusedVariables false

theorem take_snoc' {m : List Cl} {j : Nat} (h : j < m.length) : m.take (j + 1) = m.take j ++ [at_ m j] := by
  rw [List.take_succ_eq_append_getElem h]; simp [at_, h]

theorem seg_news {w : World} {ad : Addr} {m : List Cl} (h : Seg w (some ad) m) : ∀ j u, (flat m)[j]? = some u → w.cell? (ad.add j) = some u := by
  intro j u hu
  have hj : j < m.length * 2 := by rw [← flat_length]; exact (List.getElem?_eq_some_iff.1 hu).1
  have hi : j / 2 < m.length := by omega
  obtain ⟨b, o, e, hb, h0, h1⟩ := h (j / 2) hi
  simp only [Option.some.injEq] at e
  subst e
  have hadd : (⟨b, o, none⟩ : Addr).add j = ⟨b, o + j, none⟩ := by unfold Addr.add; split <;> simp_all
  rw [hadd]
  rcases (show j = j / 2 * 2 ∨ j = j / 2 * 2 + 1 by omega) with e | e
  · rw [e, flat_even hi] at hu
    rw [e, h0, ← hu]; rfl
  · rw [e, flat_odd hi] at hu
    rw [e, show o + (j / 2 * 2 + 1) = o + j / 2 * 2 + 1 by omega, h1, ← hu]; rfl

theorem wpList_app {w : World} {ops : Array Oper} {rest : List Oper} {o : Oper} {a : Act} {Q : Exit → Act → World → Prop} (hgd : o.guard = none) (s x : Operand)
    (ho : o.op = .call { callee := .builtin .append, args := #[s, x], argTypes := #[23, 23] })
    (base : Nat) (v : Value) (l m : List Cl) (ad : Option Addr) (k : Nat) (hs : a.eval s = v) (hown : OwnS w base v l) (hx : a.eval x = .slice ad m.length k) (hseg : Seg w ad m) (hk : ad = none → k = 0) (hlen : l.length + m.length ≤ 4194304) (hbase : base ≤ w.heap.size)
    (h : ∀ v' w', OwnS w' base v' (l ++ m) → w.grownBy w' v.ownBlock → wpList Try.prog ops Q rest (a.put o.dst v') w') : wpList Try.prog ops Q (o :: rest) a w := by
  obtain ⟨i, hi, hz, hsz, hb⟩ := info_parts info_Cell
  cases ad with
  | none =>
    have hm : m = [] := by
      cases m with
      | nil => rfl
      | cons c r => obtain ⟨b, o, e, _⟩ := hseg 0 (by simp); cases e
    subst hm
    have hx' : a.eval x = .slice none 0 0 := by rw [hx, hk rfl]; rfl
    refine wpList_append_own_none hgd s x 23 ho base 36 i 2 Try.underlying23 hi v l.length (flat l) hs hown hx' ?_
    exact h v w (by simpa using hown) (grown_refl _ _)
  | some ad =>
    refine wpList_append_own w hgd s x 23 ho base 36 i _ 2 16 Try.underlying23 hi hz hsz hb rfl (by omega) v l.length (flat l) hs hown ad m.length k (flat m) hx (flat_length m) (seg_news hseg) (flat_one m)
      (by unfold maxLen; omega) (by omega) hbase ?_
    intro v' w' h1 h2 _
    refine h v' w' ?_ h2
    unfold OwnS
    rw [flat_append, List.length_append]
    exact h1

/-- What was built in the call's own memory is below as it was. -/
theorem below_grown {w W W' : World} {v : Value} {l : List Cl} (hB : Below w.heap.size w W) (hown : OwnS W w.heap.size v l) (hg : W.grownBy W' v.ownBlock) : Below w.heap.size w W' :=
  hB.grown hg hB.size fun k hk => (hown.lt k hk).1

theorem seg_block {w : World} {B : Nat} {c : Cl} {fr : Nat × Nat} (hb : w.heap[B]? = some (.cells #[.int .i64 c.1, .int .i64 c.2] 36 fr)) : Seg w (some ⟨B, 0, none⟩) [c] := by
  intro i hi
  have h0 : i = 0 := by simpa using hi
  subst h0
  refine ⟨B, 0, rfl, (Array.getElem?_eq_some_iff.1 hb).1, ?_, ?_⟩
  · unfold World.cell?; rw [hb]; rfl
  · unfold World.cell?; rw [hb]; rfl

theorem slice_empty_build (w : World) : OwnS (w.alloc (.cells #[] 36)) w.heap.size (.slice (some ⟨w.heap.size, 0, none⟩) 0 0) [] :=
  ⟨rfl, .inr ⟨w.heap.size, 0, #[], rfl, Nat.le_refl _, heap_alloc_new w _, Nat.le_refl _, by simp [maxLen], rfl, rfl⟩⟩

theorem good_le {l : List Cl} (h : good l = true) : l.length ≤ 120 := by simp [good] at h; exact h.1.1
/-- Cells that are told, if they are good. -/
def tellV (l : List Cl) : List Cl := if good l then l else []

set_option maxHeartbeats 400000 in
theorem c_l1Tell (a : Option Addr) (l : List Cl) (ca : Nat) (w : World) (ha : Seg w a l) (hl : l.length ≤ 1048576) (hca : a = none → ca = 0) :
    Calls Try.prog 86 #[.slice a l.length ca] w fun e w' => ∃ v, e = .returned (.tuple #[v, .bool (good l)]) ∧ OwnS w' w.heap.size v (tellV l) ∧ Below w.heap.size w w' := by
  cases hg : good l
  · have HC := hid (c_sGood' a l ca false hg _ ha hl)
    have HV : Hid (tellV l = []) := by simp [Hid, tellV, hg]
    clear ha
    go_enter Try.func86, Try.ntmps86
    go_wp2_with fail
    refine HC.out.mono ?_
    rintro e w1 ⟨rfl, hb1⟩
    go_wp2
    go_ret2
    exact ⟨_, rfl, by rw [HV.out]; exact OwnS.nil _ _, hb1⟩
  · have HC := hid (c_sGood' a l ca true hg _ ha hl)
    have HV : Hid (tellV l = l) := by simp [Hid, tellV, hg]
    go_enter Try.func86, Try.ntmps86
    go_wp2_with fail
    refine HC.out.mono ?_
    rintro e w1 ⟨rfl, hb1⟩
    have HS := hid ((ha.below hb1).below ((Below.refl w1.heap.size w1).alloc (Nat.le_refl _) (.cells #[] 36)))
    have HO := hid ((slice_empty_build w1).mono hb1.size)
    have HB := hid (hb1.alloc hb1.size (.cells #[] 36))
    clear HC ha
    go_wp2_with (at_builtin; refine wpList_app rfl _ _ rfl w.heap.size _ [] l a ca rfl HO.out rfl HS.out hca (by simp; omega) HB.out.size ?_; intro v' w2 hO hG)
    go_ret2
    exact ⟨_, rfl, by rw [HV.out]; simpa using hO, below_grown HB.out HO.out hG⟩

theorem OwnS.seg {w : World} {base n ca : Nat} {a : Option Addr} {l : List Cl} (h : OwnS w base (.slice a n ca) l) : Seg w a l := by
  obtain ⟨a', ca', e, hs⟩ := h.form
  simp only [Value.slice.injEq] at e
  rw [e.1]; exact hs
theorem OwnS.cap0 {w : World} {base n ca : Nat} {a : Option Addr} {l : List Cl} (h : OwnS w base (.slice a n ca) l) : a = none → ca = 0 := by
  intro e
  subst e
  rcases h.2 with ⟨e, _⟩ | ⟨g, cap, cur, e, _⟩ <;> simp at e
  exact e.2
theorem own_keep {W W' : World} {base : Nat} {v : Value} {l : List Cl} {row : Option Nat} (h : OwnS W base v l) (hg : W.grownBy W' row) (hne : ∀ k, v.ownBlock = some k → row ≠ some k) : OwnS W' base v l := by
  refine World.ownsRow.kept h hg ?_
  cases e : v.ownBlock with
  | none => exact .inl rfl
  | some k => exact .inr fun e2 => hne k e e2.symm
theorem below_row {w W W' : World} {row : Option Nat} (hB : Below w.heap.size w W) (hg : W.grownBy W' row) (h : ∀ k, row = some k → w.heap.size ≤ k) : Below w.heap.size w W' :=
  hB.grown hg hB.size h

theorem wpList_app' {w : World} {ops : Array Oper} {rest : List Oper} {o : Oper} {a : Act} {Q : Exit → Act → World → Prop} (hgd : o.guard = none) (s x : Operand)
    (ho : o.op = .call { callee := .builtin .append, args := #[s, x], argTypes := #[23, 23] })
    (base : Nat) (v : Value) (l m : List Cl) (ad : Option Addr) (n k : Nat) (hs : a.eval s = v) (hown : OwnS w base v l) (hx : a.eval x = .slice ad n k) (hn : m.length = n) (hseg : Seg w ad m) (hk : ad = none → k = 0) (hlen : l.length + m.length ≤ 4194304) (hbase : base ≤ w.heap.size)
    (h : ∀ v' w', OwnS w' base v' (l ++ m) → w.grownBy w' v.ownBlock → wpList Try.prog ops Q rest (a.put o.dst v') w') : wpList Try.prog ops Q (o :: rest) a w := by
  subst hn
  exact wpList_app hgd s x ho base v l m ad k hs hown hx hseg hk hlen hbase h

end Go.Proofs.Ytgfdkolhldbehaa
