/- The specification's forest while it grows: quads in a row that is owned, kids in blocks of numbers; the copy that l3Own makes. -/
import Derived.Test.YtnabgfbempkgnaaInts
import Derived.Test.YtnabgfbempkgnaaQuadG
import Derived.Deep.RegionLaw
import Derived.Deep.DeepCutAuto
import Derived.OneCell
namespace Go.Proofs.Ytnabgfbempkgnaa
open Go.RowKit
set_option linter.unusedVariables false
set_option linter.unusedSimpArgs false
attribute [local go_sem ↓] Go.wp_at_zero Go.wp_at_succ

/-- The kids l lie where ad leads to, in a block of numbers from base on that is not gg. -/
def KidAt (w : World) (base : Nat) (ad : Option Addr) (l : List Int) (gg : Option Nat := none) : Prop :=
  ∀ j, j < l.length → ∃ b o cur fr, ad = some ⟨b, o, none⟩ ∧ (base ≤ b ∧ some b ≠ gg) ∧ w.heap[b]? = some (.cells cur 3 fr) ∧ w.cell? ⟨b, o + j, none⟩ = some (.int .i64 (ia l j))
theorem KidAt.kept {w w' : World} {base : Nat} {ad : Option Addr} {l : List Int} {gg : Option Nat} (h : KidAt w base ad l gg) (hk : ∀ (b : Nat) (cur : Array Value) (fr : Nat × Nat), w.heap[b]? = some (Obj.cells cur 3 fr) → w'.heap[b]? = w.heap[b]?) : KidAt w' base ad l gg := by
  intro j hj
  obtain ⟨b, o, cur, fr, h1, h2, h3, h4⟩ := h j hj
  have hb := hk b cur fr h3
  exact ⟨b, o, cur, fr, h1, h2, hb.trans h3, (World.cell?_of_block (a := ⟨b, o + j, none⟩) hb).trans h4⟩
theorem lt_of_blk {w : World} {b : Nat} {o : Obj} (h : w.heap[b]? = some o) : b < w.heap.size := (Array.getElem?_eq_some_iff.1 h).1
theorem KidAt.below {w w' : World} {base : Nat} {ad : Option Addr} {l : List Int} {gg : Option Nat} (h : KidAt w base ad l gg) (hb : Below w.heap.size w w') : KidAt w' base ad l gg :=
  h.kept fun b cur fr hh => hb.block b (lt_of_blk hh)
theorem KidAt.seg {w : World} {base : Nat} {ad : Option Addr} {l : List Int} {gg : Option Nat} (h : KidAt w base ad l gg) : ISeg w ad l := by
  intro j hj
  obtain ⟨b, o, cur, fr, h1, h2, h3, h4⟩ := h j hj
  exact ⟨b, o, h1, lt_of_blk h3, h4⟩
theorem OwnI.kidAt {w : World} {base : Nat} {v : Value} {l : List Int} (h : OwnI w base v l) : ∃ a cap, v = .slice a l.length cap ∧ l.length ≤ cap ∧ (a = none → cap = 0) ∧ KidAt w base a l := by
  have h0 := h
  rcases h.2 with ⟨rfl, hn⟩ | ⟨g, cap, cur, rfl, hb, hg, hcap, hm, hs, ht⟩
  · have : l = [] := List.eq_nil_of_length_eq_zero hn
    subst this
    exact ⟨none, 0, rfl, by simp, fun _ => rfl, fun i hi => by simp at hi⟩
  · refine ⟨some ⟨g, 0, none⟩, cap, rfl, hcap, (by intro h; cases h), fun i hi => ⟨g, 0, cur, (0, 0), rfl, ⟨hb, by simp⟩, hg, ?_⟩⟩
    have := World.ownsRow.cellAt h0 i (by omega)
    rw [iv_at hi] at this
    rw [Nat.zero_add]
    exact this

/-- A quad's cells. -/
def qf (q : Qd) (ad : Option Addr × Nat) : List Value := [.int .i64 q.1, .slice ad.1 q.2.length ad.2]
def qfl (F : List Qd) (ad : Nat → Option Addr × Nat) : Nat → List Value
  | 0 => []
  | k + 1 => qfl F ad k ++ qf (qa F k) (ad k)
theorem qfl_length (F : List Qd) (ad : Nat → Option Addr × Nat) : ∀ k, (qfl F ad k).length = k * 2
  | 0 => rfl
  | k + 1 => by simp only [qfl, List.length_append, qfl_length F ad k]; simp [qf]; omega
theorem qfl_at (F : List Qd) (ad : Nat → Option Addr × Nat) : ∀ {k i : Nat}, i < k → (qfl F ad k)[i * 2]? = some (.int .i64 (qa F i).1) ∧ (qfl F ad k)[i * 2 + 1]? = some (.slice (ad i).1 (qa F i).2.length (ad i).2)
  | 0, i, h => by omega
  | k + 1, i, h => by
    simp only [qfl]
    have hl := qfl_length F ad k
    by_cases e : i = k
    · subst e
      rw [List.getElem?_append_right (by omega), List.getElem?_append_right (by omega), hl, show i * 2 - i * 2 = 0 by omega, show i * 2 + 1 - i * 2 = 1 by omega]
      exact ⟨rfl, rfl⟩
    · rw [List.getElem?_append_left (by omega), List.getElem?_append_left (by omega)]
      exact qfl_at F ad (by omega)
theorem qfl_congr {F G : List Qd} {ad bd : Nat → Option Addr × Nat} : ∀ {k : Nat}, (∀ i, i < k → qa F i = qa G i ∧ ad i = bd i) → qfl F ad k = qfl G bd k
  | 0, _ => rfl
  | k + 1, h => by
    simp only [qfl]
    rw [qfl_congr (k := k) fun i hi => h i (by omega), (h k (by omega)).1, (h k (by omega)).2]
theorem qf_one (q : Qd) (ad : Option Addr × Nat) : ∀ u ∈ qf q ad, u.oneCell' = true := by
  intro u hu
  simp only [qf, List.mem_cons, List.not_mem_nil, or_false] at hu
  rcases hu with rfl | rfl <;> rfl
theorem qa_app_old {F : List Qd} {q : Qd} {i : Nat} (h : i < F.length) : qa (F ++ [q]) i = qa F i := by simp [qa, List.getElem?_append_left h]
theorem qa_app_new (F : List Qd) (q : Qd) : qa (F ++ [q]) F.length = q := by simp [qa]

/-- The slice v holds the quads F in a row of its own, from base on. -/
def GF (w : World) (base : Nat) (v : Value) (F : List Qd) (gg : Option Nat := none) : Prop :=
  ∃ ad : Nat → Option Addr × Nat, w.ownsRow base 85 2 v F.length (qfl F ad F.length) ∧ ∀ i, i < F.length → KidAt w base (ad i).1 (qa F i).2 gg ∧ (qa F i).2.length ≤ (ad i).2 ∧ ((ad i).1 = none → (ad i).2 = 0)
theorem GF.nil (w : World) (base : Nat) {gg : Option Nat} : GF w base (.slice none 0 0) [] gg := ⟨fun _ => (none, 0), World.ownsRow_nil w base 85 2, fun i hi => by simp at hi⟩
theorem GF.below {gg : Option Nat} {w w' : World} {base : Nat} {v : Value} {F : List Qd} (h : GF w base v F gg) (hb : Below w.heap.size w w') : GF w' base v F gg := by
  obtain ⟨ad, h1, h2⟩ := h
  exact ⟨ad, World.ownsRow.kept h1 (grown_of_below hb none) (by cases v.ownBlock <;> simp), fun i hi => ⟨(h2 i hi).1.below hb, (h2 i hi).2⟩⟩
theorem GF.lt {gg : Option Nat} {w : World} {base : Nat} {v : Value} {F : List Qd} (h : GF w base v F gg) : ∀ k, v.ownBlock = some k → base ≤ k ∧ k < w.heap.size := by
  obtain ⟨ad, h1, _⟩ := h
  exact World.ownsRow.lt h1
theorem GF.type {gg : Option Nat} {w : World} {base : Nat} {v : Value} {F : List Qd} (h : GF w base v F gg) {k : Nat} (hk : v.ownBlock = some k) : ∃ cur, w.heap[k]? = some (.cells cur 85 (0, 0)) := by
  obtain ⟨ad, h1, _⟩ := h
  rcases h1.2 with ⟨rfl, _⟩ | ⟨g, cap, cur, rfl, _, hg, _⟩
  · simp [Value.ownBlock] at hk
  · simp [Value.ownBlock] at hk
    subst hk
    exact ⟨cur, hg⟩
theorem GF.mono {gg : Option Nat} {w : World} {base base' : Nat} {v : Value} {F : List Qd} (h : GF w base v F gg) (hb : base' ≤ base) : GF w base' v F gg := by
  obtain ⟨ad, h1, h2⟩ := h
  refine ⟨ad, World.ownsRow.mono h1 hb, fun i hi => ⟨fun j hj => ?_, (h2 i hi).2⟩⟩
  obtain ⟨b, o, cur, fr, e1, e2, e3, e4⟩ := (h2 i hi).1 j hj
  exact ⟨b, o, cur, fr, e1, ⟨Nat.le_trans hb e2.1, e2.2⟩, e3, e4⟩
theorem ne_quad_int : ¬ (3 : Nat) = 85 := by decide
/-- A cell of a block that is neither of quads nor of numbers is written. -/
theorem GF.set {gg : Option Nat} {w : World} {base : Nat} {v : Value} {F : List Qd} (h : GF w base v F gg) {p o : Nat} {cur : Array Value} {t : TypeId} {fr : Nat × Nat} (hp : w.heap[p]? = some (.cells cur t fr)) (h1 : t ≠ 3) (h2 : t ≠ 85) (u : Value) : GF (w.setCell ⟨p, o, none⟩ u) base v F gg := by
  obtain ⟨ad, k1, k2⟩ := h
  refine ⟨ad, ownsRow_setCell_other k1 ?_ u, fun i hi => ⟨(k2 i hi).1.kept fun b c f hb => Below.heap_setCell w ⟨p, o, none⟩ u b ?_, (k2 i hi).2⟩⟩
  · intro e
    rcases k1.2 with ⟨rfl, _⟩ | ⟨g, cap, cur', rfl, _, hg, _⟩
    · simp [Value.ownBlock] at e
    · simp [Value.ownBlock] at e
      subst e
      rw [hp] at hg
      simp at hg
      exact h2 hg.2.1
  · intro e
    dsimp only at e
    subst e
    rw [hp] at hb
    simp at hb
    exact h1 hb.2.1
/-- A quad is put behind all. -/
theorem GF.step {gg : Option Nat} {w w' : World} {base : Nat} {v v' : Value} {F : List Qd} {q : Qd} {a : Option Addr} {c : Nat} {ad : Nat → Option Addr × Nat} (h2 : ∀ i, i < F.length → KidAt w base (ad i).1 (qa F i).2 gg ∧ (qa F i).2.length ≤ (ad i).2 ∧ ((ad i).1 = none → (ad i).2 = 0))
    (hv : w.ownsRow base 85 2 v F.length (qfl F ad F.length)) (ho : w'.ownsRow base 85 2 v' (F.length + 1) (qfl F ad F.length ++ qf q (a, c))) (hg : w.grownBy w' v.ownBlock) (hk : KidAt w base a q.2 gg) (hc : q.2.length ≤ c) (hn : a = none → c = 0) : GF w' base v' (F ++ [q]) gg := by
  have keep : ∀ (b : Nat) (cur : Array Value) (fr : Nat × Nat), w.heap[b]? = some (Obj.cells cur 3 fr) → w'.heap[b]? = w.heap[b]? := by
    intro b cur fr hb
    refine hg.block b (lt_of_blk hb) ?_
    intro e
    rcases hv.2 with ⟨rfl, _⟩ | ⟨g, cap, cur', rfl, _, hg', _⟩
    · simp [Value.ownBlock] at e
    · simp [Value.ownBlock] at e
      subst e
      rw [hb] at hg'
      simp at hg'
  refine ⟨fun i => if i = F.length then (a, c) else ad i, ?_, fun i hi => ?_⟩
  · have e : qfl (F ++ [q]) (fun i => if i = F.length then (a, c) else ad i) (F ++ [q]).length = qfl F ad F.length ++ qf q (a, c) := by
      rw [List.length_append, List.length_singleton]
      simp only [qfl]
      rw [qfl_congr (G := F) (bd := ad) fun i hi => ⟨qa_app_old hi, by rw [if_neg (by omega)]⟩, qa_app_new]
      simp
    rw [e, List.length_append, List.length_singleton]
    exact ho
  · rw [List.length_append, List.length_singleton] at hi
    by_cases e : i = F.length
    · subst e
      dsimp only
      rw [if_pos rfl, qa_app_new]
      exact ⟨hk.kept keep, hc, hn⟩
    · dsimp only
      rw [if_neg e, qa_app_old (by omega)]
      exact ⟨(h2 i (by omega)).1.kept keep, (h2 i (by omega)).2⟩
theorem GF.form {gg : Option Nat} {w : World} {base : Nat} {v : Value} {F : List Qd} (h : GF w base v F gg) : ∃ a cap, v = .slice a F.length cap ∧ F.length ≤ cap ∧ cap ≤ 9223372036854775807 ∧ QSeg w a F := by
  obtain ⟨ad, h1, h2⟩ := h
  have h0 := h1
  rcases h1.2 with ⟨rfl, hn⟩ | ⟨g, cap, cur, rfl, hb, hg, hcap, hm, hs, ht⟩
  · have : F = [] := List.eq_nil_of_length_eq_zero hn
    subst this
    exact ⟨none, 0, rfl, by simp, by omega, fun i hi => by simp at hi⟩
  · refine ⟨some ⟨g, 0, none⟩, cap, rfl, hcap, by unfold maxLen at hm; omega, fun i hi => ?_⟩
    have c0 := World.ownsRow.cellAt h0 (i * 2) (by omega)
    have c1 := World.ownsRow.cellAt h0 (i * 2 + 1) (by omega)
    rw [(qfl_at F ad hi).1] at c0
    rw [(qfl_at F ad hi).2] at c1
    exact ⟨g, 0, (ad i).1, (ad i).2, rfl, lt_of_blk hg, by rw [Nat.zero_add]; exact c0, by rw [Nat.zero_add]; exact c1, (h2 i hi).1.seg, (h2 i hi).2.1⟩

/-- Where a quad's kids lie nowhere there is no room for them. -/
def NoneCap (w : World) (a : Option Addr) (F : List Qd) : Prop := ∀ i, i < F.length → ∀ ak n ck, (∃ b o, a = some ⟨b, o, none⟩ ∧ w.cell? ⟨b, o + i * 2 + 1, none⟩ = some (.slice ak n ck)) → ak = none → ck = 0
theorem GF.noneCap {gg : Option Nat} {w : World} {base : Nat} {a : Option Addr} {n cap : Nat} {F : List Qd} (h : GF w base (.slice a n cap) F gg) : NoneCap w a F := by
  obtain ⟨ad, h1, h2⟩ := h
  have h0 := h1
  rcases h1.2 with ⟨e, hn⟩ | ⟨g, cap', cur, e, hb, hg, hcap, hm, hs, ht⟩
  · rintro i hi
    omega
  · simp only [Value.slice.injEq] at e
    obtain ⟨rfl, rfl, rfl⟩ := e
    rintro i hi ak n ck ⟨b, o, e1, e2⟩ e3
    simp only [Option.some.injEq, Addr.mk.injEq, and_true] at e1
    obtain ⟨rfl, rfl⟩ := e1
    have c1 := World.ownsRow.cellAt h0 (i * 2 + 1) (by omega)
    rw [(qfl_at F ad hi).2] at c1
    rw [Nat.zero_add, c1] at e2
    simp at e2
    obtain ⟨rfl, _, rfl⟩ := e2
    exact (h2 i hi).2.2 e3
theorem QRow.noneCap {w : World} {base g : Nat} {ks : Nat → Nat} {F : List Qd} (h : QRow w base g ks F F.length) : NoneCap w (some ⟨g, 0, none⟩) F := by
  rintro i hi ak n ck ⟨b, o, e1, e2⟩ e3
  simp only [Option.some.injEq, Addr.mk.injEq, and_true] at e1
  obtain ⟨rfl, rfl⟩ := e1
  have c1 := h.row.cell (i := i * 2 + 1) (by omega)
  rw [quadTo_odd, if_pos hi] at c1
  rw [Nat.zero_add, c1] at e2
  simp at e2
  rw [← e2.1] at e3
  cases e3
theorem NoneCap.below {w w' : World} {a : Option Addr} {F : List Qd} (h : NoneCap w a F) (ha : QSeg w a F) (hb : Below w.heap.size w w') : NoneCap w' a F := by
  rintro i hi ak n ck ⟨b, o, rfl, e2⟩ e3
  obtain ⟨b', o', ak', ck', e, hlt, _⟩ := ha i hi
  simp only [Option.some.injEq, Addr.mk.injEq, and_true] at e
  obtain ⟨rfl, rfl⟩ := e
  rw [hb.cell (p := ⟨b, _, none⟩) hlt] at e2
  exact h i hi ak n ck ⟨b, o, rfl, e2⟩ e3

/-- Appending a quad, at a step of a region that draws its order. -/
theorem step_appQ {gg : Option Nat} {w : World} {ops : Array Oper} {o : Oper} {a : Act} {K : Act → World → Prop} {Q : Exit → Act → World → Prop} {E : Prop} (hgd : o.guard = none) (s x : Operand)
    (ho : o.op = .call { callee := .builtin .append, args := #[s, x], argTypes := #[67, 67] })
    (base : Nat) (v : Value) (F : List Qd) (q : Qd) (ad : Option Addr) (c B : Nat) (hs : a.eval s = v) (hown : GF w base v F gg) (hx : a.eval x = .slice (some ⟨B, 0, none⟩) 1 1)
    (hblk : w.heap[B]? = some (.cells (qf q (ad, c)).toArray 85)) (hk : KidAt w base ad q.2 gg) (hc : q.2.length ≤ c) (hn : ad = none → c = 0) (hlen : F.length ≤ 1048576) (hbase : base ≤ w.heap.size)
    (h : ∀ v' w', GF w' base v' (F ++ [q]) gg → w.grownBy w' v.ownBlock → (v'.ownBlock = v.ownBlock ∨ v'.ownBlock = some w.heap.size) → K (a.put o.dst v') w') : if Region.wanted o (yielded ops a.tmps) = true then Oper.wp Try.prog o a w K Q else E := by
  have hw : Region.wanted o (yielded ops a.tmps) = true := by simp [Region.wanted, hgd]
  rw [if_pos hw]
  obtain ⟨i, hi, hz, hsz, hb⟩ := info_parts info_Quad
  obtain ⟨bd, k1, k2⟩ := hown
  obtain ⟨v', w', hr, h1, h2, _, h4⟩ := run_append_own_at (P := Try.prog) w base 67 o.type 85 i _ 2 32 Try.underlying67 hi hz hsz hb rfl (by omega) v F.length (qfl F bd F.length) k1 ⟨B, 0, none⟩ 1 1 (qf q (ad, c)) rfl (by
      intro j u hu
      have hadd : (⟨B, 0, none⟩ : Addr).add j = ⟨B, j, none⟩ := by unfold Addr.add; split <;> simp_all
      rw [hadd]
      unfold World.cell?
      rw [hblk]
      simpa using hu) (qf_one q _) (by unfold maxLen; omega) (by omega) hbase
  unfold Oper.wp execOp
  simp only [ho, resolve, invoke, builtin, Sem.run_bind, Sem.run_pure, Result.andThen_ok, List.map_toArray, List.map_cons, List.map_nil, hs, hx, hr]
  exact h v' w' (GF.step k2 k1 h1 h2 hk hc hn) h2 h4

/-- No kid lies in a block that is not there yet. -/
theorem GF.fresh {gg : Option Nat} {w : World} {base : Nat} {v : Value} {F : List Qd} (h : GF w base v F gg) {x : Nat} (hx : w.heap.size ≤ x) : GF w base v F (some x) := by
  obtain ⟨ad, h1, h2⟩ := h
  refine ⟨ad, h1, fun i hi => ⟨fun j hj => ?_, (h2 i hi).2⟩⟩
  obtain ⟨b, o, cur, fr, e1, e2, e3, e4⟩ := (h2 i hi).1 j hj
  exact ⟨b, o, cur, fr, e1, ⟨e2.1, by intro e; have := lt_of_blk e3; cases e; omega⟩, e3, e4⟩
theorem GF.any {gg : Option Nat} {w : World} {base : Nat} {v : Value} {F : List Qd} (h : GF w base v F gg) : GF w base v F := by
  obtain ⟨ad, h1, h2⟩ := h
  refine ⟨ad, h1, fun i hi => ⟨fun j hj => ?_, (h2 i hi).2⟩⟩
  obtain ⟨b, o, cur, fr, e1, e2, e3, e4⟩ := (h2 i hi).1 j hj
  exact ⟨b, o, cur, fr, e1, ⟨e2.1, by simp⟩, e3, e4⟩
/-- A block of numbers that no kid lies in grows. -/
theorem GF.beside {w w' : World} {base x : Nat} {v : Value} {F : List Qd} (h : GF w base v F (some x)) (hx : v.ownBlock ≠ some x) (hg : w.grownBy w' (some x)) : GF w' base v F (some x) := by
  obtain ⟨ad, h1, h2⟩ := h
  refine ⟨ad, World.ownsRow.kept h1 hg (by cases hv : v.ownBlock <;> simp_all), fun i hi => ⟨fun j hj => ?_, (h2 i hi).2⟩⟩
  obtain ⟨b, o, cur, fr, e1, e2, e3, e4⟩ := (h2 i hi).1 j hj
  have hb := hg.block b (lt_of_blk e3) e2.2
  exact ⟨b, o, cur, fr, e1, e2, hb.trans e3, (World.cell?_of_block (a := ⟨b, o + j, none⟩) hb).trans e4⟩

end Go.Proofs.Ytnabgfbempkgnaa
