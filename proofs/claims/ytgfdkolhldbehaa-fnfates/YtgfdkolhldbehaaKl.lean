/- Texts of this seat, one behind the other: LonP, Jnd, AppAt, IFst, ILone, LonQ, SLnP, SLone. -/
import Derived.Test.YtgfdkolhldbehaaKa
import Derived.Test.YtgfdkolhldbehaaKf
import Derived.Maps.AppendAt
import Derived.Test.YtgfdkolhldbehaaKd
import Derived.Test.YtgfdkolhldbehaaKe
import Derived.Test.YtgfdkolhldbehaaKi
import Derived.Test.YtgfdkolhldbehaaKg
import Derived.Test.YtgfdkolhldbehaaKh
namespace Go.Proofs.Ytgfdkolhldbehaa
open Go.RowKit
set_option linter.unusedVariables false
set_option linter.unusedSimpArgs false

/-- Each of the two differences is 2 at most. -/
def joined (a b : Cl) : Bool := decide (-2 ≤ a.1 - b.1) && decide (a.1 - b.1 ≤ 2) && (decide (-2 ≤ a.2 - b.2) && decide (a.2 - b.2 ≤ 2))
theorem joined_comm (a b : Cl) : joined a b = joined b a := by
  rw [Bool.eq_iff_iff]; simp only [joined, Bool.and_eq_true, decide_eq_true_eq]; omega

/-- The part from its place i on, and the rest. -/
def grow : Nat → Nat → List Cl → List Cl → List Cl × List Cl
  | 0, _, p, r => (p, r)
  | n + 1, i, p, r => if i < p.length then grow n (i + 1) (p ++ r.filter (joined (at_ p i))) (r.filter fun x => !joined (at_ p i) x) else (p, r)
def grown (i : Nat) (p r : List Cl) : List Cl × List Cl := grow (p.length + r.length - i) i p r

theorem filter_two (f : Cl → Bool) : ∀ r : List Cl, (r.filter f).length + (r.filter fun x => !f x).length = r.length
  | [] => rfl
  | x :: r => by
    have ih := filter_two f r
    cases h : f x <;> simp [List.filter_cons, h] <;> omega
theorem grown_step {i : Nat} {p r : List Cl} (h : i < p.length) :
    grown i p r = grown (i + 1) (p ++ r.filter (joined (at_ p i))) (r.filter fun x => !joined (at_ p i) x) := by
  have h2 := filter_two (joined (at_ p i)) r
  unfold grown
  rw [show p.length + r.length - i = (p.length + r.length - i - 1) + 1 by omega, grow, if_pos h]
  congr 1
  rw [List.length_append]; omega
theorem grown_end (p r : List Cl) : grown p.length p r = (p, r) := by
  unfold grown
  cases h : p.length + r.length - p.length with
  | zero => rfl
  | succ n => rw [grow, if_neg (Nat.lt_irrefl _)]
/-- Induction along the growing. -/
theorem grown_ind (P : Nat → List Cl → List Cl → Prop) (hs : ∀ i p r, i < p.length → P i p r → P (i + 1) (p ++ r.filter (joined (at_ p i))) (r.filter fun x => !joined (at_ p i) x)) :
    ∀ (n i : Nat) (p r : List Cl), p.length + r.length - i = n → i ≤ p.length → P i p r → P (grown i p r).1.length (grown i p r).1 (grown i p r).2
  | 0, i, p, r, hn, hi, h => by
    have e : i = p.length := by omega
    subst e; rw [grown_end]; exact h
  | n + 1, i, p, r, hn, hi, h => by
    by_cases e : i = p.length
    · subst e; rw [grown_end]; exact h
    · have hlt : i < p.length := by omega
      have h2 := filter_two (joined (at_ p i)) r
      rw [grown_step hlt]
      exact grown_ind P hs n _ _ _ (by rw [List.length_append]; omega) (by rw [List.length_append]; omega) (hs i p r hlt h)
theorem grown_to (P : Nat → List Cl → List Cl → Prop) (hs : ∀ i p r, i < p.length → P i p r → P (i + 1) (p ++ r.filter (joined (at_ p i))) (r.filter fun x => !joined (at_ p i) x))
    {i : Nat} {p r : List Cl} (hi : i ≤ p.length) (h : P i p r) : P (grown i p r).1.length (grown i p r).1 (grown i p r).2 := grown_ind P hs _ i p r rfl hi h

theorem grown_len {i : Nat} {p r : List Cl} (hi : i ≤ p.length) : (grown i p r).1.length + (grown i p r).2.length = p.length + r.length := by
  refine grown_to (fun _ q s => q.length + s.length = p.length + r.length) (fun j q s _ h => ?_) hi rfl
  have h2 := filter_two (joined (at_ q j)) s
  rw [List.length_append]; omega
/-- The part grows behind. -/
theorem grown_pre {i : Nat} {p r : List Cl} (hi : i ≤ p.length) : p <+: (grown i p r).1 := by
  refine grown_to (fun _ q s => p <+: q) (fun j q s _ h => h.trans (List.prefix_append _ _)) hi (List.prefix_refl _)
/-- What is left is joined to no cell of the part. -/
theorem grown_apart {p r : List Cl} : ∀ y ∈ (grown 0 p r).1, ∀ x ∈ (grown 0 p r).2, joined y x = false := by
  have h := grown_to (fun i q s => ∀ j, j < i → ∀ x ∈ s, joined (at_ q j) x = false) (fun i q s hi h j hj x hx => by
    rw [List.mem_filter] at hx
    have e : at_ (q ++ s.filter (joined (at_ q i))) j = at_ q j := by
      have : j < q.length := by omega
      simp [at_, List.getElem?_append_left this]
    rw [e]
    by_cases hji : j = i
    · subst hji; simpa using hx.2
    · exact h j (by omega) x hx.1) (i := 0) (p := p) (r := r) (Nat.zero_le _) (fun j hj => absurd hj (Nat.not_lt_zero _))
  intro y hy x hx
  obtain ⟨j, hj, e⟩ := List.getElem_of_mem hy
  have := h j hj x hx
  simpa [at_, hj, e] using this
/-- What is left are those of the rest that the part has not, in their order. -/
theorem grown_rest {p r : List Cl} (hn : (p ++ r).Nodup) : (grown 0 p r).2 = r.filter (fun x => decide (x ∉ (grown 0 p r).1)) ∧ ((grown 0 p r).1 ++ (grown 0 p r).2).Nodup ∧ ∀ x, x ∈ (grown 0 p r).1 ++ (grown 0 p r).2 ↔ x ∈ p ++ r := by
  refine grown_to (fun _ q s => s = r.filter (fun x => decide (x ∉ q)) ∧ (q ++ s).Nodup ∧ ∀ x, x ∈ q ++ s ↔ x ∈ p ++ r) (fun i q s hi ⟨h1, h2, h3⟩ => ?_) (Nat.zero_le _) ⟨?_, hn, fun x => Iff.rfl⟩
  · have hperm : (q ++ s.filter (joined (at_ q i)) ++ s.filter (fun x => !joined (at_ q i) x)).Perm (q ++ s) := by
      rw [List.append_assoc]
      exact List.Perm.append_left q (List.filter_append_perm _ _)
    refine ⟨?_, hperm.nodup_iff.2 h2, fun x => (hperm.mem_iff).trans (h3 x)⟩
    rw [h1, List.filter_filter]
    apply List.filter_congr
    intro x hx
    by_cases hq : x ∈ q
    · simp [hq]
    · cases hj : joined (at_ q i) x
      · simp [hq, hj]
      · simp [hq, hj, hx]
  · rw [List.filter_eq_self.2]
    intro x hx
    simp only [decide_eq_true_eq]
    intro hp
    exact (List.nodup_append.1 hn).2.2 x hp x hx rfl

/-- The parts of what is left, each in the order of l. -/
def partsGo (l : List Cl) : Nat → List Cl → List (List Cl)
  | n + 1, c :: r => l.filter (fun x => decide (x ∈ (grown 0 [c] r).1)) :: partsGo l n (grown 0 [c] r).2
  | _, _ => []
def partsOf (l r : List Cl) : List (List Cl) := partsGo l r.length r
theorem grown_left (c : Cl) (r : List Cl) : (grown 0 [c] r).2.length ≤ r.length := by
  have h := grown_len (i := 0) (p := [c]) (r := r) (Nat.zero_le _)
  have h2 := (grown_pre (i := 0) (p := [c]) (r := r) (Nat.zero_le _)).length_le
  simp only [List.length_cons, List.length_nil] at h h2
  omega
theorem partsGo_more (l : List Cl) : ∀ (n : Nat) (r : List Cl), r.length ≤ n → partsGo l n r = partsGo l r.length r
  | n, [], _ => by cases n <;> rfl
  | 0, c :: r, h => by simp at h
  | n + 1, c :: r, h => by
    have h1 := grown_left c r
    simp only [List.length_cons] at h ⊢
    rw [partsGo, partsGo, partsGo_more l n _ (by omega), ← partsGo_more l r.length _ h1]
theorem parts_nil (l : List Cl) : partsOf l [] = [] := rfl
theorem parts_cons (l : List Cl) (c : Cl) (r : List Cl) : partsOf l (c :: r) = l.filter (fun x => decide (x ∈ (grown 0 [c] r).1)) :: partsOf l (grown 0 [c] r).2 := by
  have h1 := grown_left c r
  rw [partsOf, List.length_cons, partsGo, partsGo_more l r.length _ h1, partsOf]
theorem parts_len (l : List Cl) : ∀ (n : Nat) (r : List Cl), (partsGo l n r).length ≤ n
  | 0, r => by cases r <;> simp [partsGo]
  | n + 1, [] => by simp [partsGo]
  | n + 1, c :: r => by
    rw [partsGo, List.length_cons]
    have := parts_len l n (grown 0 [c] r).2
    omega
theorem parts_each (l : List Cl) : ∀ (n : Nat) (r : List Cl), ∀ x ∈ partsGo l n r, x.length ≤ l.length
  | 0, r, x, h => by cases r <;> simp [partsGo] at h
  | n + 1, [], x, h => by simp [partsGo] at h
  | n + 1, c :: r, x, h => by
    rw [partsGo, List.mem_cons] at h
    rcases h with rfl | h
    · exact List.length_filter_le _ _
    · exact parts_each l n _ x h
/-- What LoneParts answers. -/
def lpL (l : List Cl) : List (List Cl) := if good l then partsOf l l else []
theorem lpL_len (l : List Cl) : (lpL l).length ≤ 120 := by
  unfold lpL; split
  · rename_i h
    have h1 := parts_len l l.length l
    have h2 := good_le h
    unfold partsOf; omega
  · simp
theorem lpL_mem {l : List Cl} {x : List Cl} (h : x ∈ lpL l) : x.length ≤ 120 := by
  unfold lpL at h; split at h
  · rename_i hg
    have h1 := parts_each l _ _ x h
    have h2 := good_le hg
    omega
  · simp at h

/-! The specification's growing: over all of l, passing over what the part has. -/
/-- What a cell brings in. -/
def brings (l p : List Cl) (c : Cl) : List Cl := l.filter fun x => joined x c && decide (x ∉ p)
theorem brings_take {l p : List Cl} {c : Cl} {k : Nat} (hk : k < l.length) (hn : l.Nodup) :
    decide (at_ l k ∈ p ++ brings (l.take k) p c) = decide (at_ l k ∈ p) := by
  have e : at_ l k = l[k] := by simp [at_, hk]
  have hx : at_ l k ∉ l.take k := by
    rw [e]
    intro h
    obtain ⟨j, hj, ej⟩ := List.getElem_of_mem h
    rw [List.length_take] at hj
    rw [List.getElem_take] at ej
    rw [List.nodup_iff_pairwise_ne, List.pairwise_iff_getElem] at hn
    exact hn j k (by omega) hk (by omega) ej
  have : at_ l k ∉ brings (l.take k) p c := fun h => hx (List.mem_filter.1 h).1
  simp [this]
theorem brings_succ {l p : List Cl} {c : Cl} {k : Nat} (hk : k < l.length) :
    brings (l.take (k + 1)) p c = brings (l.take k) p c ++ (if joined (at_ l k) c && decide (at_ l k ∉ p) then [at_ l k] else []) := by
  have e : at_ l k = l[k] := by simp [at_, hk]
  rw [brings, List.take_succ_eq_append_getElem hk, List.filter_append, ← e]
  congr 1
  cases h : (joined (at_ l k) c && decide (at_ l k ∉ p)) <;> (simp [List.filter_cons]; simpa using h)
/-- It brings in what the rest has, where the cells that are done lie apart. -/
theorem brings_rest {l d p s : List Cl} {c : Cl} (hc : c ∈ p) (hs : s = l.filter fun x => decide (x ∉ d) && decide (x ∉ p)) (hd : ∀ y ∈ d, ∀ x ∈ p, joined y x = false) :
    brings l p c = s.filter (joined c) := by
  rw [hs, List.filter_filter, brings]
  apply List.filter_congr
  intro x hx
  rw [joined_comm x c]
  by_cases hj : joined c x = true
  · have : x ∉ d := fun h => by
      have := hd x h c hc
      rw [joined_comm, hj] at this; cases this
    simp [hj, this]
  · simp [hj]
end Go.Proofs.Ytgfdkolhldbehaa

namespace Go.Proofs.Ytgfdkolhldbehaa
open Go.RowKit
set_option linter.unusedVariables false
set_option linter.unusedSimpArgs false

theorem run_max4 (w : World) (t1 t2 t3 t4 t : TypeId) (a b c d M : Int) (hM : (if d > (if c > (if b > a then b else a) then c else (if b > a then b else a)) then d else (if c > (if b > a then b else a) then c else (if b > a then b else a))) = M) :
    (Builtin.max_ #[t1, t2, t3, t4] t #[.int .i64 a, .int .i64 b, .int .i64 c, .int .i64 d]).run Try.prog w = .ok (.int .i64 M) w := by
  subst hM
  simp [Builtin.max_, Builtin.max2]
theorem joined_max {x y u z M : Int} (hM : (if z - y > (if y - z > (if u - x > x - u then u - x else x - u) then y - z else (if u - x > x - u then u - x else x - u)) then z - y else (if y - z > (if u - x > x - u then u - x else x - u) then y - z else (if u - x > x - u then u - x else x - u))) = M) :
    joined (x, y) (u, z) = decide (M ≤ 2) := by
  rw [Bool.eq_iff_iff]; simp only [joined, Bool.and_eq_true, decide_eq_true_eq]
  subst hM
  split <;> split <;> split <;> omega

set_option maxHeartbeats 1000000 in
theorem c_areJoined (a b : Cl) (w : World) (ha : inR a = true) (hb : inR b = true) :
    Calls Try.prog 123 #[.agg #[.int .i64 a.1, .int .i64 a.2], .agg #[.int .i64 b.1, .int .i64 b.2]] w fun e w' => e = .returned (.bool (joined a b)) ∧ Below w.heap.size w w' := by
  simp only [inR, Bool.and_eq_true, decide_eq_true_eq] at ha hb
  obtain ⟨x, y⟩ := a
  obtain ⟨u, z⟩ := b
  dsimp only at ha hb ⊢
  obtain ⟨M, hM⟩ : ∃ M, (if z - y > (if y - z > (if u - x > x - u then u - x else x - u) then y - z else (if u - x > x - u then u - x else x - u)) then z - y else (if y - z > (if u - x > x - u then u - x else x - u) then y - z else (if u - x > x - u then u - x else x - u))) = M := ⟨_, rfl⟩
  have hmx := fun (W : World) t1 t2 t3 t4 t => run_max4 W t1 t2 t3 t4 t (x - u) (u - x) (y - z) (z - y) M hM
  have hv := hid (joined_max hM)
  have HB := hid (((Below.refl w.heap.size w).alloc (Nat.le_refl _) (.cells #[.int .i64 x, .int .i64 y] 36)).alloc (by simp) (.cells #[.int .i64 u, .int .i64 z] 36))
  clear hM
  go_enter Try.func123, Try.ntmps123
  go_wp2
  go_ret
  exact ⟨by rw [hv.out]; rfl, HB.out⟩

theorem c_l1In2 (n : Int) (v : Bool) (h : (decide (-2 ≤ n) && decide (n ≤ 2)) = v) (w : World) : Calls Try.prog 102 #[.int .i64 n, .int .i64 (-2), .int .i64 2] w fun e w' => e = .returned (.bool v) ∧ w' = w := by
  rw [← h]; exact c_l1In n (-2) 2 w

set_option maxHeartbeats 1000000 in
theorem c_l7Close (a b : Cl) (w : World) (ha : inR a = true) (hb : inR b = true) :
    Calls Try.prog 76 #[.agg #[.int .i64 a.1, .int .i64 a.2], .agg #[.int .i64 b.1, .int .i64 b.2]] w fun e w' => e = .returned (.bool (joined a b)) ∧ Below w.heap.size w w' := by
  simp only [inR, Bool.and_eq_true, decide_eq_true_eq] at ha hb
  have hv := hid (show joined a b = ((decide (-2 ≤ a.1 - b.1) && decide (a.1 - b.1 ≤ 2)) && (decide (-2 ≤ a.2 - b.2) && decide (a.2 - b.2 ≤ 2))) from rfl)
  obtain ⟨x, y⟩ := a
  obtain ⟨u, z⟩ := b
  dsimp only at ha hb hv ⊢
  have HB := hid (((Below.refl w.heap.size w).alloc (Nat.le_refl _) (.cells #[.int .i64 x, .int .i64 y] 36)).alloc (by simp) (.cells #[.int .i64 u, .int .i64 z] 36))
  cases h1 : (decide (-2 ≤ x - u) && decide (x - u ≤ 2))
  · rw [h1] at hv
    have C1 := hid (fun W => c_l1In2 (x - u) false h1 W)
    clear h1
    go_enter Try.func76, Try.ntmps76
    go_wp2_with fail
    refine (C1.out _).mono ?_
    rintro e w1 ⟨rfl, rfl⟩
    go_wp2
    go_ret
    exact ⟨by rw [hv.out]; rfl, HB.out⟩
  · rw [h1] at hv
    have C1 := hid (fun W => c_l1In2 (x - u) true h1 W)
    have C2 := hid (fun W => c_l1In2 (y - z) _ rfl W)
    clear h1
    generalize (decide (-2 ≤ y - z) && decide (y - z ≤ 2)) = q at *
    go_enter Try.func76, Try.ntmps76
    go_wp2_with fail
    refine (C1.out _).mono ?_
    rintro e w1 ⟨rfl, rfl⟩
    go_wp2_with fail
    refine (C2.out _).mono ?_
    rintro e w2 ⟨rfl, rfl⟩
    go_wp2
    go_ret
    exact ⟨by rw [hv.out]; simp, HB.out⟩
end Go.Proofs.Ytgfdkolhldbehaa

namespace Go.Proofs.Ytgfdkolhldbehaa
open Go.RowKit
set_option linter.unusedVariables false

/-- The slice v' lies where v lay, or in a block that was not there in w. -/
def Near' (w : World) (v v' : Value) : Prop := v'.ownBlock = v.ownBlock ∨ ∃ k, v'.ownBlock = some k ∧ w.heap.size ≤ k

theorem wpList_appAt {w : World} {ops : Array Oper} {rest : List Oper} {o : Oper} {a : Act} {Q : Exit → Act → World → Prop} (hgd : o.guard = none) (s x : Operand)
    (ho : o.op = .call { callee := .builtin .append, args := #[s, x], argTypes := #[23, 23] })
    (base : Nat) (v : Value) (l m : List Cl) (ad : Addr) (k : Nat) (hs : a.eval s = v) (hown : OwnS w base v l) (hx : a.eval x = .slice (some ad) m.length k) (hseg : Seg w (some ad) m) (hlen : l.length + m.length ≤ 4194304) (hbase : base ≤ w.heap.size)
    (h : ∀ v' w', OwnS w' base v' (l ++ m) → w.grownBy w' v.ownBlock → Near' w v v' → wpList Try.prog ops Q rest (a.put o.dst v') w') : wpList Try.prog ops Q (o :: rest) a w := by
  obtain ⟨i, hi, hz, hsz, hb⟩ := info_parts info_Cell
  refine wpList_append_own_at w hgd s x 23 ho base 36 i _ 2 16 Try.underlying23 hi hz hsz hb rfl (by omega) v l.length (flat l) hs hown ad m.length k (flat m) hx (flat_length m) (seg_news hseg) (flat_one m)
    (by unfold maxLen; omega) (by omega) hbase ?_
  intro v' w' h1 h2 _ h4
  refine h v' w' ?_ h2 ?_
  · unfold OwnS
    rw [flat_append, List.length_append]
    exact h1
  · rcases h4 with h4 | h4
    · exact .inl h4
    · exact .inr ⟨_, h4, Nat.le_refl _⟩

/-- While cells are put behind all: the slice vi holds l; the box at the heap's end of w, whose cells are bx, is as it was; of what was in w only v's block has changed. -/
structure Stg (w W : World) (base : Nat) (v vi : Value) (bx : List Value) (l : List Cl) : Prop where
  own : OwnS W base vi l
  box : ∀ j u, bx[j]? = some u → W.cell? ⟨w.heap.size, j, none⟩ = some u
  lt : w.heap.size < W.heap.size
  gr : w.grownBy W v.ownBlock
  fr : vi.ownBlock = v.ownBlock ∨ ∃ k, vi.ownBlock = some k ∧ w.heap.size < k
theorem Stg.new {w : World} {base : Nat} {v : Value} {l : List Cl} (h : OwnS w base v l) (bx : List Value) (t : TypeId) : Stg w (w.alloc (.cells bx.toArray t)) base v v bx l := by
  have hb := (Below.refl w.heap.size w).alloc (Nat.le_refl _) (.cells bx.toArray t)
  refine ⟨h.below hb, fun j u hj => ?_, by simp, grown_of_below hb _, .inl rfl⟩
  unfold World.cell?
  rw [heap_alloc_new]
  simpa using hj
theorem Stg.step {w W W' : World} {base : Nat} {v vi vj : Value} {bx : List Value} {l l0 l' : List Cl} (h : Stg w W base v vi bx l) (hv : OwnS w base v l0) (ho : OwnS W' base vj l') (hg : W.grownBy W' vi.ownBlock) (hn : Near' W vi vj) : Stg w W' base v vj bx l' := by
  have hne : some w.heap.size ≠ vi.ownBlock := by
    rcases h.fr with e | ⟨k, e, hk⟩
    · rw [e]
      intro e2
      have := (hv.lt _ e2.symm).2
      omega
    · rw [e]
      intro e2
      simp at e2
      omega
  refine ⟨ho, fun j u hj => ?_, Nat.lt_of_lt_of_le h.lt hg.size, ⟨hg.os.trans h.gr.os, hg.tape.trans h.gr.tape, hg.output.trans h.gr.output, Nat.le_trans h.gr.size hg.size, fun k hk hkn => ?_⟩, ?_⟩
  · exact (World.cell?_of_block (a := ⟨w.heap.size, j, none⟩) (hg.block _ h.lt hne)).trans (h.box j u hj)
  · refine (hg.block k (Nat.lt_of_lt_of_le hk h.gr.size) ?_).trans (h.gr.block k hk hkn)
    rcases h.fr with e | ⟨k', e, hk'⟩
    · rw [e]; exact hkn
    · rw [e]; intro e2; simp at e2; omega
  · rcases hn with e | ⟨k, e, hk⟩
    · rw [e]; exact h.fr
    · exact .inr ⟨k, e, Nat.lt_of_lt_of_le h.lt hk⟩
theorem Stg.below {w W W' : World} {base : Nat} {v vi : Value} {bx : List Value} {l : List Cl} (h : Stg w W base v vi bx l) (hb : Below W.heap.size W W') : Stg w W' base v vi bx l :=
  ⟨h.own.below hb, fun j u hj => (hb.cell (p := ⟨w.heap.size, j, none⟩) h.lt).trans (h.box j u hj), Nat.lt_of_lt_of_le h.lt hb.size,
    ⟨hb.os.trans h.gr.os, hb.tape.trans h.gr.tape, hb.output.trans h.gr.output, Nat.le_trans h.gr.size hb.size, fun k hk hkn => (hb.block k (Nat.lt_of_lt_of_le hk h.gr.size)).trans (h.gr.block k hk hkn)⟩, h.fr⟩
theorem Stg.drew {w W : World} {base : Nat} {v vi : Value} {bx : List Value} {l : List Cl} (h : Stg w W base v vi bx l) : Stg w W.drew base v vi bx l := h.below ((Below.refl _ _).drew)
/-- What lay below base is as it was. -/
theorem Stg.old {W0 w W : World} {base : Nat} {v vi : Value} {bx : List Value} {l l0 : List Cl} (h : Stg w W base v vi bx l) (hv : OwnS w base v l0) (hB : Below W0.heap.size W0 w) (hb : W0.heap.size ≤ base) : Below W0.heap.size W0 W :=
  hB.grown h.gr hB.size fun k hk => Nat.le_trans hb (hv.lt k hk).1
theorem Stg.near {w W : World} {base : Nat} {v vi : Value} {bx : List Value} {l : List Cl} (h : Stg w W base v vi bx l) : Near' w v vi := by
  rcases h.fr with e | ⟨k, e, hk⟩
  · exact .inl e
  · exact .inr ⟨k, e, Nat.le_of_lt hk⟩

end Go.Proofs.Ytgfdkolhldbehaa

namespace Go.Proofs.Ytgfdkolhldbehaa
open Go.RowKit
set_option linter.unusedVariables false
set_option linter.unusedSimpArgs false
attribute [local go_sem ↓] Go.wp_at_zero Go.wp_at_succ

theorem seg_far {W W' : World} {a : Option Addr} {s : List Cl} {row : Option Nat} (h : Seg W a s) (hg : W.grownBy W' row) (hne : ∀ A, a = some A → row ≠ some A.block) : Seg W' a s := by
  intro i hi
  obtain ⟨b, o, e, hb, p0, p1⟩ := h i hi
  exact ⟨b, o, e, Nat.lt_of_lt_of_le hb hg.size, hg.cell p0 (fun e2 => hne _ e e2.symm), hg.cell p1 (fun e2 => hne _ e e2.symm)⟩
theorem filter_more (f : Cl → Bool) {s : List Cl} {k : Nat} (hk : k < s.length) : (s.take (k + 1)).filter f = (s.take k).filter f ++ if f (at_ s k) then [at_ s k] else [] := by
  have e : at_ s k = s[k] := by simp [at_, hk]
  rw [List.take_succ_eq_append_getElem hk, List.filter_append, ← e]
  congr 1
  cases h : f (at_ s k) <;> simp [List.filter_cons, h]
theorem near_far {W : World} {v v' : Value} {b : Nat} (hn : Near' W v v') (hv : v.ownBlock ≠ some b) (hb : b < W.heap.size) : v'.ownBlock ≠ some b := by
  intro e
  rcases hn with h | ⟨k, h, hk⟩
  · exact hv (h.symm.trans e)
  · rw [h] at e; simp only [Option.some.injEq] at e; omega

/-- A slice lies in a row of cells. -/
def Ty (W : World) (a : Option Addr) : Prop := ∀ A, a = some A → ∃ cur f, W.heap[A.block]? = some (.cells cur 36 f)
theorem Ty.below {W W' : World} {a : Option Addr} (h : Ty W a) (hb : Below W.heap.size W W') : Ty W' a := fun A e => by
  obtain ⟨cur, f, h1⟩ := h A e
  exact ⟨cur, f, (hb.block _ (Array.getElem?_eq_some_iff.1 h1).1).trans h1⟩
theorem Ty.far {W W' : World} {a : Option Addr} {row : Option Nat} (h : Ty W a) (hg : W.grownBy W' row) (hne : ∀ A, a = some A → row ≠ some A.block) : Ty W' a := fun A e => by
  obtain ⟨cur, f, h1⟩ := h A e
  exact ⟨cur, f, (hg.block _ (Array.getElem?_eq_some_iff.1 h1).1 (fun e2 => hne A e e2.symm)).trans h1⟩
theorem OwnS.ty {W : World} {base n c : Nat} {a : Option Addr} {l : List Cl} (h : OwnS W base (.slice a n c) l) : Ty W a := fun A e => by
  subst e
  rcases h.2 with ⟨e, _⟩ | ⟨g, cap, cur, e, _, hg, _⟩
  · cases e
  · simp only [Value.slice.injEq, Option.some.injEq] at e
    obtain ⟨rfl, -⟩ := e
    exact ⟨cur, _, hg⟩

theorem OwnS.cap_le {W : World} {base n c : Nat} {a : Option Addr} {l : List Cl} (h : OwnS W base (.slice a n c) l) : l.length ≤ c := by
  rcases h.2 with ⟨e, h0⟩ | ⟨g, cap, cur, e, _, _, h1, _⟩
  · omega
  · simp only [Value.slice.injEq] at e
    obtain ⟨-, -, rfl⟩ := e
    exact h1

/-- A part and a rest, as they lie in memory. -/
structure FP (w W : World) (v : Value) (p : List Cl) (a2 : Option Addr) (s : List Cl) : Prop where
  own : OwnS W w.heap.size v p
  seg : Seg W a2 s
  ne : ∀ A, a2 = some A → v.ownBlock ≠ some A.block
  bel : Below w.heap.size w W
  ty : Ty W a2

set_option maxHeartbeats 4000000 in
set_option maxRecDepth 100000 in
theorem c_firstPart (a : Addr) (c : Cl) (r : List Cl) (ca : Nat) (w : World) (ha : Seg w (some a) (c :: r)) (hlt : a.block < w.heap.size) (hty : Ty w (some a)) (hca : (c :: r).length ≤ ca) (hl : (c :: r).length ≤ 120) (hin : ∀ x ∈ c :: r, inR x = true) :
    Calls Try.prog 74 #[.slice (some a) (c :: r).length ca] w fun e w' => ∃ v1 v2 l', e = .returned (.tuple #[v1, v2]) ∧ OwnS w' w.heap.size v1 l' ∧ l'.Perm (grown 0 [c] r).1 ∧ Sorted l' ∧ (∃ a2 c2, v2 = .slice a2 (grown 0 [c] r).2.length c2 ∧ Seg w' a2 (grown 0 [c] r).2 ∧ Ty w' a2 ∧ (grown 0 [c] r).2.length ≤ c2) ∧ Below w.heap.size w w' := by
  obtain ⟨b, o, e, hb, p0, p1⟩ := ha 0 (by simp)
  simp only [Option.some.injEq] at e
  subst e
  simp only [Nat.zero_mul, Nat.add_zero, List.getD_cons_zero] at p0 p1
  have hc0 : (0 : Int) < (r.length : Int) + 1 := by omega
  have hc1 : (1 : Int) ≤ (r.length : Int) + 1 := by omega
  have hc2 : (r.length : Int) + 1 ≤ (ca : Int) := by simp at hca; omega
  have D := hid ((Below.refl w.heap.size w).drew)
  have K := hid (((Below.refl w.drew.heap.size w.drew).alloc (Nat.le_refl _) (.cells #[.int .i64 c.1, .int .i64 c.2] 36)))
  go_enter Try.func74, Try.ntmps74
  go_wp2_with fail
  go_region_held3 (fun W => W.cell? ⟨b, o, none⟩ = some (.int .i64 c.1) ∧ W.cell? ⟨b, o + 1, none⟩ = some (.int .i64 c.2))
    (first | exact ⟨p0, p1⟩ | exact ⟨(D.out.cell hb).trans p0, (D.out.cell hb).trans p1⟩ | exact ⟨(K.out.cell hb).trans ((D.out.cell hb).trans p0), (K.out.cell hb).trans ((D.out.cell hb).trans p1)⟩ | go_keep) (fail)
  have K0 := (((Below.refl w.heap.size w).alloc (Nat.le_refl _) (.cells #[.int .i64 c.1, .int .i64 c.2] 36)).drew)
  have O0 := (own_lit w [c] #[.int .i64 c.1, .int .i64 c.2] 1 rfl (by omega) rfl).below ((Below.refl _ _).drew)
  obtain ⟨a0, e0⟩ : ∃ a0, (if ca = 1 then some (⟨b, o, none⟩ : Addr) else some ⟨b, o + 2, none⟩) = a0 := ⟨_, rfl⟩
  have S0 : Seg (w.alloc (.cells #[.int .i64 c.1, .int .i64 c.2] 36)).drew a0 r := by
    have h := (ha.drop 1).below K0
    by_cases h1 : ca = 1
    · have : r = [] := by
        cases r with
        | nil => rfl
        | cons x r => simp at hca; omega
      subst this; intro i hi; simp at hi
    · rw [if_neg h1] at e0; subst e0; simpa using h
  have N0 : ∀ A, a0 = some A → A.block = b := fun A e => by
    subst e
    split at e0 <;> (simp only [Option.some.injEq] at e0; subst e0; rfl)
  have T0 : Ty (w.alloc (.cells #[.int .i64 c.1, .int .i64 c.2] 36)).drew a0 := fun A e => by
    obtain ⟨cur, f, h1⟩ := hty _ rfl
    rw [N0 A e]
    exact ⟨cur, f, (K0.block b hb).trans h1⟩
  rw [e0]
  clear e0
  generalize (w.alloc (.cells #[.int .i64 c.1, .int .i64 c.2] 36)).drew = w1 at *
  have FP0 : FP w w1 (.slice (some ⟨w.heap.size, 0, none⟩) 1 1) [c] a0 r := ⟨O0, S0, fun A e => by have := N0 A e; simp [Value.ownBlock]; omega, K0, T0⟩
  clear ha p0 p1 O0 S0 N0 K0 K D T0 hty
  have HIN := hid hin
  go_wp2_with fail
  go_loopw [4, 5, 6] (fun pv rv iv wr => ∃ (i : Nat) (p s : List Cl) (a2 : Option Addr) (c2 : Nat), i ≤ p.length ∧ iv = .int .i64 (i : Int) ∧ rv = .slice a2 s.length c2 ∧ s.length ≤ c2 ∧ p.length + s.length = r.length + 1 ∧ Hid (FP w wr pv p a2 s ∧ grown i p s = grown 0 [c] r ∧ (∀ x ∈ p ++ s, x ∈ c :: r) ∧ 0 < p.length)) (fun _ _ iv _ => r.length + 1 - (intOf iv).toNat)
  case atStart => exact ⟨0, [c], r, a0, ca - 1, Nat.zero_le _, rfl, rfl, by simp at hca; omega, by simp; omega, FP0, rfl, (fun x hx => by simpa using hx), by simp⟩
  case round =>
    obtain ⟨i, p, s, a2, c2, hi, rfl, rfl, hcs, hps, hF⟩ := hrel
    obtain ⟨ap, cp, rfl, sp⟩ := hF.out.1.own.form
    have hr9 : r.length ≤ 119 := by simp at hl; omega
    by_cases hlt : i < p.length
    · have i0 : (0 : Int) ≤ (i : Int) := by omega
      have i1 : (i : Int) < (p.length : Int) := by omega
      have SP := hid sp
      clear sp
      go_wp2_with fail
      go_loopw [4, 7, 24] (fun pv uv kv wk => ∃ (k : Nat) (u : List Cl), k ≤ s.length ∧ kv = .int .i64 (k : Int) ∧ Hid (FP w wk pv (p ++ (s.take k).filter (joined (at_ p i))) a2 s ∧ OwnS wk w.heap.size uv ((s.take k).filter fun x => !joined (at_ p i) x) ∧ (∀ b, uv.ownBlock = some b → pv.ownBlock ≠ some b ∧ ∀ A, a2 = some A → A.block ≠ b))) (fun _ _ kv _ => s.length - (intOf kv).toNat)
      case atStart => exact ⟨0, [], Nat.zero_le _, rfl, by simpa using hF.out.1, by simpa using OwnS.nil _ _, fun b h => by simp [Value.ownBlock] at h⟩
      case round =>
        obtain ⟨k, u, hk, rfl, hJ⟩ := hrel
        by_cases hkl : k < s.length
        · have k0 : (0 : Int) ≤ (k : Int) := by omega
          have k1 : (k : Int) < (s.length : Int) := by omega
          obtain ⟨P2, hP2⟩ : ∃ P2, P2 = p ++ (s.take k).filter (joined (at_ p i)) := ⟨_, rfl⟩
          obtain ⟨U2, hU2⟩ : ∃ U2, U2 = (s.take k).filter fun x => !joined (at_ p i) x := ⟨_, rfl⟩
          rw [← hP2, ← hU2] at hJ
          have hPi : at_ P2 i = at_ p i := by rw [hP2]; simp [at_, List.getElem?_append_left hlt]
          have hPl : i < P2.length := by rw [hP2, List.length_append]; omega
          have hPl2 : P2.length ≤ 120 := by
            have h1 := List.length_filter_le (joined (at_ p i)) (s.take k)
            have h2 := List.length_take_le k s
            rw [hP2, List.length_append]; omega
          have hUl2 : U2.length ≤ 120 := by
            have h1 := List.length_filter_le (fun x => !joined (at_ p i) x) (s.take k)
            have h2 := List.length_take_le k s
            rw [hU2]; omega
          have i2 : (i : Int) < (P2.length : Int) := by omega
          have hI1 : inR (at_ p i) = true := HIN.out _ (hF.out.2.2.1 _ (List.mem_append_left _ (by simp [at_, hlt])))
          have hI2 : inR (at_ s k) = true := HIN.out _ (hF.out.2.2.1 _ (List.mem_append_right _ (by simp [at_, hkl])))
          obtain ⟨b3, o3, rfl, hb3, q0, q1⟩ := hJ.out.1.seg k hkl
          obtain ⟨a5, c5, rfl, s5⟩ := hJ.out.1.own.form
          obtain ⟨a6, c6, rfl, s6⟩ := hJ.out.2.1.form
          obtain ⟨b5, o5, rfl, hb5, z0, z1⟩ := s5 i hPl
          change _ = some (Value.int .i64 (at_ P2 i).1) at z0
          change _ = some (Value.int .i64 (at_ P2 i).2) at z1
          change _ = some (Value.int .i64 (at_ s k).1) at q0
          change _ = some (Value.int .i64 (at_ s k).2) at q1
          rw [hPi] at z0 z1
          have HP2 := hid hP2
          have HU2 := hid hU2
          clear hP2 hU2 s5 s6 hPi
          obtain ⟨y, hy⟩ : ∃ y, y = at_ s k := ⟨_, rfl⟩
          obtain ⟨x, hx⟩ : ∃ x, x = at_ p i := ⟨_, rfl⟩
          rw [← hy] at q0 q1 hI2
          rw [← hx] at z0 z1 hI1
          have HX := hid hx
          have HY := hid hy
          clear hx hy
          have ky := (Below.refl wr.heap.size wr).alloc (Nat.le_refl _) (.cells #[.int .i64 y.1, .int .i64 y.2] 36)
          have KD := hid (ky.trans ((Below.refl _ (wr.alloc (.cells #[.int .i64 y.1, .int .i64 y.2] 36))).drew.mono ky.size))
          have KY := hid ky
          have Y1 := WRow.new wr (.int .i64 y.1) y.2 36
          have YD := hid (Y1.below ((Below.refl _ _).drew))
          have y0 := Y1.c0
          have y1 := Y1.c1
          clear ky
          have CJ := hid (fun W => c_areJoined x y W hI1 hI2)
          have z2 := (KY.out.cell (p := ⟨b5, o5 + i * 2, none⟩) hb5).trans z0
          have z3 := (KY.out.cell (p := ⟨b5, o5 + i * 2 + 1, none⟩) hb5).trans z1
          have K2 := KD
          clear KD KY
          cases hj : joined x y
          · rw [hj] at CJ
            go_wp2_with fail
            generalize hW2 : wr.alloc (.cells #[.int .i64 y.1, .int .i64 y.2] 36) = w2 at *
            go_region_held3 (fun W => (W.cell? ⟨wr.heap.size, 0, none⟩ = some (.int .i64 y.1) ∧ W.cell? ⟨wr.heap.size, 1, none⟩ = some (.int .i64 y.2)) ∧ (W.cell? ⟨b5, o5 + i * 2, none⟩ = some (.int .i64 x.1) ∧ W.cell? ⟨b5, o5 + i * 2 + 1, none⟩ = some (.int .i64 x.2)))
              (first | exact ⟨⟨y0, y1⟩, z2, z3⟩ | exact ⟨⟨(YD.out.below b4).c0, (YD.out.below b4).c1⟩, ((K2.out.trans (b4.mono K2.out.size)).cell hb5).trans z0, ((K2.out.trans (b4.mono K2.out.size)).cell hb5).trans z1⟩ | exact ⟨⟨YD.out.c0, YD.out.c1⟩, (K2.out.cell hb5).trans z0, (K2.out.cell hb5).trans z1⟩ | go_keep)
              (first | (go_at_call 123; refine (CJ.out w2.drew).mono ?_; rintro e w4 ⟨rfl, b4⟩))
            have K4 := hid (K2.out.trans (b4.mono K2.out.size))
            have Y4 := hid (YD.out.below b4)
            have v0 := Y4.out.c0
            have v1 := Y4.out.c1
            have A4 := hid (hJ.out.1.own.below K4.out)
            have U4 := hid (hJ.out.2.1.below K4.out)
            have S4 := hid (hJ.out.1.seg.below K4.out)
            have T4 := hid (hJ.out.1.ty.below K4.out)
            have B4 := hid (hJ.out.1.bel.trans (K4.out.mono hJ.out.1.bel.size))
            clear b4 y0 y1 z0 z1 z2 z3 YD K2 CJ
            have kz := (Below.refl w4.heap.size w4).alloc (Nat.le_refl _) (.cells #[.int .i64 y.1, .int .i64 y.2] 36)
            have SN := hid (seg_block (heap_alloc_last w4 (.cells #[.int .i64 y.1, .int .i64 y.2] 36)))
            have A5 := hid (A4.out.below kz)
            have U5 := hid (U4.out.below kz)
            have S5 := hid (S4.out.below kz)
            have T5 := hid (T4.out.below kz)
            have B5 := hid (B4.out.trans (kz.mono B4.out.size))
            have hb3' := hid (show b3 < (w4.alloc (.cells #[.int .i64 y.1, .int .i64 y.2] 36)).heap.size from Nat.lt_of_lt_of_le hb3 (Nat.le_trans K4.out.size kz.size))
            clear kz A4 U4 S4 B4
            go_wp2_with (first | (at_builtin; refine wpList_appAt rfl (.tmp 38) (.tmp 40) rfl w.heap.size _ U2 [y] ⟨w4.heap.size, 0, none⟩ 1 rfl U5.out rfl SN.out (by simp; omega) B5.out.size ?_; intro v6 w6 hO6 hG6 hN6))
            go_roundw
            case rel =>
              have e1 : p ++ (s.take (k + 1)).filter (joined (at_ p i)) = P2 := by rw [filter_more _ hkl, ← HX.out, ← HY.out, hj, HP2.out, ← HX.out]; simp
              have e2 : (s.take (k + 1)).filter (fun x => !joined (at_ p i) x) = U2 ++ [y] := by rw [filter_more _ hkl, ← HX.out, ← HY.out, hj, HU2.out, ← HX.out]; simp
              refine ⟨k + 1, [], by omega, by go_num, ?_⟩
              rw [e1, e2]
              refine ⟨⟨own_keep A5.out hG6 (fun z hz e => (hJ.out.2.2 z e).1 hz), seg_far S5.out hG6 (fun A e e2 => (hJ.out.2.2 _ e2).2 A e rfl), hJ.out.1.ne, below_row B5.out hG6 (fun z e => (U5.out.lt z e).1), T5.out.far hG6 (fun A e e2 => (hJ.out.2.2 _ e2).2 A e rfl)⟩, hO6, fun z hz => ⟨fun e => ?_, fun A e e2 => ?_⟩⟩
              · exact near_far hN6 (fun e3 => (hJ.out.2.2 z e3).1 e) (A5.out.lt z e).2 hz
              · exact near_far (b := A.block) hN6 (fun e3 => (hJ.out.2.2 _ e3).2 A e rfl) (by have := hb3'.out; cases e; exact this) (by rw [e2]; exact hz)
            case measure => simp [intOf]; omega
          · rw [hj] at CJ
            go_wp2_with fail
            generalize hW2 : wr.alloc (.cells #[.int .i64 y.1, .int .i64 y.2] 36) = w2 at *
            go_region_held3 (fun W => (W.cell? ⟨wr.heap.size, 0, none⟩ = some (.int .i64 y.1) ∧ W.cell? ⟨wr.heap.size, 1, none⟩ = some (.int .i64 y.2)) ∧ (W.cell? ⟨b5, o5 + i * 2, none⟩ = some (.int .i64 x.1) ∧ W.cell? ⟨b5, o5 + i * 2 + 1, none⟩ = some (.int .i64 x.2)))
              (first | exact ⟨⟨y0, y1⟩, z2, z3⟩ | exact ⟨⟨(YD.out.below b4).c0, (YD.out.below b4).c1⟩, ((K2.out.trans (b4.mono K2.out.size)).cell hb5).trans z0, ((K2.out.trans (b4.mono K2.out.size)).cell hb5).trans z1⟩ | exact ⟨⟨YD.out.c0, YD.out.c1⟩, (K2.out.cell hb5).trans z0, (K2.out.cell hb5).trans z1⟩ | go_keep)
              (first | (go_at_call 123; refine (CJ.out w2.drew).mono ?_; rintro e w4 ⟨rfl, b4⟩))
            have K4 := hid (K2.out.trans (b4.mono K2.out.size))
            have Y4 := hid (YD.out.below b4)
            have v0 := Y4.out.c0
            have v1 := Y4.out.c1
            have A4 := hid (hJ.out.1.own.below K4.out)
            have U4 := hid (hJ.out.2.1.below K4.out)
            have S4 := hid (hJ.out.1.seg.below K4.out)
            have T4 := hid (hJ.out.1.ty.below K4.out)
            have B4 := hid (hJ.out.1.bel.trans (K4.out.mono hJ.out.1.bel.size))
            clear b4 y0 y1 z0 z1 z2 z3 YD K2 CJ
            have kz := (Below.refl w4.heap.size w4).alloc (Nat.le_refl _) (.cells #[.int .i64 y.1, .int .i64 y.2] 36)
            have SN := hid (seg_block (heap_alloc_last w4 (.cells #[.int .i64 y.1, .int .i64 y.2] 36)))
            have A5 := hid (A4.out.below kz)
            have U5 := hid (U4.out.below kz)
            have S5 := hid (S4.out.below kz)
            have T5 := hid (T4.out.below kz)
            have B5 := hid (B4.out.trans (kz.mono B4.out.size))
            have hb3' := hid (show b3 < (w4.alloc (.cells #[.int .i64 y.1, .int .i64 y.2] 36)).heap.size from Nat.lt_of_lt_of_le hb3 (Nat.le_trans K4.out.size kz.size))
            clear kz A4 U4 S4 B4
            go_wp2_with (first | (at_builtin; refine wpList_appAt rfl (.tmp 34) (.tmp 36) rfl w.heap.size _ P2 [y] ⟨w4.heap.size, 0, none⟩ 1 rfl A5.out rfl SN.out (by simp; omega) B5.out.size ?_; intro v6 w6 hO6 hG6 hN6))
            go_roundw
            case rel =>
              have e1 : p ++ (s.take (k + 1)).filter (joined (at_ p i)) = P2 ++ [y] := by rw [filter_more _ hkl, ← HX.out, ← HY.out, hj, HP2.out, ← HX.out]; simp
              have e2 : (s.take (k + 1)).filter (fun x => !joined (at_ p i) x) = U2 := by rw [filter_more _ hkl, ← HX.out, ← HY.out, hj, HU2.out, ← HX.out]; simp
              refine ⟨k + 1, [], by omega, by go_num, ?_⟩
              rw [e1, e2]
              refine ⟨⟨hO6, seg_far S5.out hG6 (fun A e e2 => hJ.out.1.ne A e e2), fun A e e2 => ?_, below_row B5.out hG6 (fun z e => (A5.out.lt z e).1), T5.out.far hG6 (fun A e e2 => hJ.out.1.ne A e e2)⟩, own_keep U5.out hG6 (fun z hz e => (hJ.out.2.2 z hz).1 e), fun z hz => ⟨fun e => ?_, (hJ.out.2.2 z hz).2⟩⟩
              · exact near_far hN6 (fun e3 => hJ.out.1.ne A e e3) (by have := hb3'.out; cases e; exact this) e2
              · exact near_far hN6 (fun e3 => (hJ.out.2.2 z hz).1 e3) (U5.out.lt z hz).2 e
            case measure => simp [intOf]; omega
        · have hke : k = s.length := by omega
          subst hke
          obtain ⟨a6, c6, rfl, s6⟩ := hJ.out.2.1.form
          have S6 := hid s6
          have C6 := hid hJ.out.2.1.cap_le
          have T6 := hid hJ.out.2.1.ty
          have h2 := filter_two (joined (at_ p i)) s
          have HG := hid (grown_step (r := s) hlt)
          rw [List.take_length] at hJ S6 C6
          clear s6
          go_wp2_with fail
          go_roundw
          case rel =>
            refine ⟨i + 1, p ++ s.filter (joined (at_ p i)), s.filter (fun x => !joined (at_ p i) x), a6, c6, by rw [List.length_append]; omega, by go_num, by rw [List.take_length], C6.out, by rw [List.length_append]; omega, ⟨hJ.out.1.own, S6.out, fun A e => ?_, hJ.out.1.bel, T6.out⟩, HG.out.symm.trans hF.out.2.1, fun x hx => ?_, by rw [List.length_append]; omega⟩
            · subst e; exact (hJ.out.2.2 A.block (by simp [Value.ownBlock])).1
            · simp only [List.mem_append, List.mem_filter] at hx
              rcases hx with (h | ⟨h, _⟩) | ⟨h, _⟩
              · exact hF.out.2.2.1 x (List.mem_append_left _ h)
              · exact hF.out.2.2.1 x (List.mem_append_right _ h)
              · exact hF.out.2.2.1 x (List.mem_append_right _ h)
          case measure => simp [intOf]; omega
    · have hie : i = p.length := by omega
      subst hie
      have HG := hid ((grown_end p s).symm.trans hF.out.2.1)
      obtain ⟨g, cap, e9, -, -⟩ := World.ownsRow.form hF.out.1.own hF.out.2.2.2
      simp only [Value.slice.injEq, true_and] at e9
      obtain ⟨rfl, rfl⟩ := e9
      go_wp2_with fail
      refine (c_sortOwn w.heap.size g cp p wr hF.out.1.own (by omega)).mono ?_
      rintro e w5 ⟨rfl, l', hpm, hso, ho, hg, hll⟩
      rw [hll] at ho
      have SO := hid ho
      have S5 := hid (seg_far hF.out.1.seg hg (fun A e e2 => hF.out.1.ne A e e2))
      have B5 := hid (below_row hF.out.1.bel hg (fun z e => (hF.out.1.own.lt z e).1))
      have T5 := hid (hF.out.1.ty.far hg (fun A e e2 => hF.out.1.ne A e e2))
      have PM := hid hpm
      have SD := hid hso
      clear ho hg hpm hso
      go_wp2_with fail
      go_ret2
      rw [← HG.out]
      exact ⟨_, _, l', rfl, SO.out, PM.out, SD.out, ⟨a2, c2, rfl, S5.out, T5.out, hcs⟩, B5.out⟩
end Go.Proofs.Ytgfdkolhldbehaa

namespace Go.Proofs.Ytgfdkolhldbehaa
open Go.RowKit
set_option linter.unusedVariables false
set_option linter.unusedSimpArgs false
attribute [local go_sem ↓] Go.wp_at_zero Go.wp_at_succ

theorem ris_pair {l : List Cl} (h : risTo l l.length = true) : l.Pairwise (fun a b => ltC a b = true) := by
  rw [List.pairwise_iff_getElem]
  intro i j hi hj hij
  have := ris_lt h j hij hj
  simpa only [at_, List.getD_eq_getElem?_getD, List.getElem?_eq_getElem hi, List.getElem?_eq_getElem hj, Option.getD_some] using this
theorem pair_ris {l : List Cl} (h : l.Pairwise (fun a b => ltC a b = true)) : risTo l l.length = true := by
  refine ris_of fun i hi => ?_
  rw [List.pairwise_iff_getElem] at h
  have := h i (i + 1) (by omega) hi (by omega)
  simpa [at_, hi, show i < l.length by omega] using this
/-- The part, sorted, is those of l that are in it. -/
theorem part_sorted {l : List Cl} {c : Cl} {r l' : List Cl} (hg : good l = true) (hs : ∀ x ∈ c :: r, x ∈ l) (hn : (c :: r).Nodup) (hp : l'.Perm (grown 0 [c] r).1) (hso : Sorted l') :
    l' = l.filter (fun x => decide (x ∈ (grown 0 [c] r).1)) := by
  obtain ⟨-, h2, h3⟩ := grown_rest (p := [c]) (r := r) hn
  have hnp := (List.nodup_append.1 h2).1
  refine ris_unique (nodup_sorted_ris hso (hp.symm.nodup hnp)) (pair_ris ((ris_pair (good_ris hg)).filter _)) fun x => ?_
  rw [hp.mem_iff, List.mem_filter]
  simp only [decide_eq_true_eq]
  exact ⟨fun h => ⟨hs x ((h3 x).1 (List.mem_append_left _ h)), h⟩, fun h => h.2⟩
theorem left_sub {c : Cl} {r : List Cl} (hn : (c :: r).Nodup) : (∀ x ∈ (grown 0 [c] r).2, x ∈ c :: r) ∧ (grown 0 [c] r).2.Nodup := by
  obtain ⟨-, h2, h3⟩ := grown_rest (p := [c]) (r := r) hn
  exact ⟨fun x h => (h3 x).1 (List.mem_append_right _ h), (List.nodup_append.1 h2).2.1⟩
theorem good_mem1 {l : List Cl} (h : good l = true) {c : Cl} (hc : c ∈ l) : inR c = true := by
  obtain ⟨i, hi, e⟩ := List.getElem_of_mem hc
  have := good_in h i hi
  simpa [at_, hi, e] using this
theorem ty_ne {W : World} {base : Nat} {pv : Value} {vs : List Value} {H : List (List Cl)} {a : Option Addr} (h : OwnH W base pv vs H) (ht : Ty W a) : ∀ A, a = some A → pv.ownBlock ≠ some A.block := by
  intro A e e2
  obtain ⟨cur, f, h1⟩ := ht A e
  rcases h.row.2 with ⟨rfl, _⟩ | ⟨g, cap, cur', rfl, _, hg, _⟩
  · simp [Value.ownBlock] at e2
  · simp only [Value.ownBlock, Option.some.injEq] at e2
    rw [e2, h1] at hg
    simp only [Option.some.injEq, Obj.cells.injEq] at hg
    exact absurd hg.2.1 (by decide)
def slLen : Value → Nat
  | .slice _ n _ => n
  | _ => 0
/-- Parts that are found, and what is left. -/
structure LP (w W : World) (l : List Cl) (pv : Value) (vs : List Value) (H : List (List Cl)) (a2 : Option Addr) (s : List Cl) : Prop where
  own : OwnH W w.heap.size pv vs H
  seg : Seg W a2 s
  ty : Ty W a2
  all : H ++ partsOf l s = partsOf l l
  sub : ∀ x ∈ s, x ∈ l
  nd : s.Nodup
  len : H.length + s.length ≤ l.length
  bel : Below w.heap.size w W

set_option maxHeartbeats 4000000 in
set_option maxRecDepth 100000 in
theorem c_iLoneParts (a : Option Addr) (l : List Cl) (ca : Nat) (w : World) (ha : Seg w a l) (hty : Ty w a) (hca : l.length ≤ ca) (hl : l.length ≤ 1048576) :
    Calls Try.prog 23 #[.slice a l.length ca] w fun e w' => ∃ v vs, e = .returned (.tuple #[v, .bool (good l)]) ∧ OwnH w' w.heap.size v vs (lpL l) ∧ Below w.heap.size w w' := by
  cases hg : good l
  · have HC := hid (c_iGood' a l ca false hg _ ha hl)
    have HV := hid (show lpL l = [] by simp [lpL, hg])
    go_enter Try.func23, Try.ntmps23
    go_wp2_with fail
    refine HC.out.mono ?_
    rintro e w1 ⟨rfl, b1⟩
    go_wp2
    go_ret2
    first | exact ⟨_, [], rfl, by rw [HV.out]; exact OwnH.nil _ _, b1⟩ | exact ⟨_, rfl, ⟨[], by rw [HV.out]; exact OwnH.nil _ _⟩, b1⟩
  · have HC := hid (c_iGood' a l ca true hg _ ha hl)
    have HV := hid (show lpL l = partsOf l l by simp [lpL, hg])
    go_enter Try.func23, Try.ntmps23
    go_wp2_with fail
    refine HC.out.mono ?_
    rintro e w1 ⟨rfl, b1⟩
    have hl2 := good_le hg
    have P0 := hid (show LP w w1 l (.slice none 0 0) [] [] a l from ⟨OwnH.nil _ _, ha.below b1, hty.below b1, rfl, fun x h => h, ris_nodup (good_ris hg), by simp, b1⟩)
    have HGD := hid hg
    clear ha hty b1 HC hg
    go_wp2_with fail
    go_loopw [4, 5] (fun pv rv wr => ∃ (vs : List Value) (H : List (List Cl)) (s : List Cl) (a2 : Option Addr) (c2 : Nat), rv = .slice a2 s.length c2 ∧ s.length ≤ c2 ∧ Hid (LP w wr l pv vs H a2 s)) (fun _ rv _ => slLen rv)
    case atStart => exact ⟨[], [], l, a, ca, rfl, hca, P0.out⟩
    case round =>
      obtain ⟨vs, H, s, a2, c2, rfl, hc2, hL⟩ := hrel
      cases s with
      | nil =>
        have HA := hid hL.out.all
        have HO := hid hL.out.own
        have HB := hid hL.out.bel
        go_wp2_with fail
        go_ret2
        rw [HV.out, ← HA.out, parts_nil, List.append_nil]
        first | exact ⟨_, vs, rfl, HO.out, HB.out⟩ | exact ⟨_, rfl, ⟨vs, HO.out⟩, HB.out⟩
      | cons c r =>
        obtain ⟨b, o, e, hb, -, -⟩ := hL.out.seg 0 (by simp)
        subst e
        have h9 : (0 : Int) < (r.length : Int) + 1 := by omega
        have hcl : (c :: r).length ≤ 120 := by have := hL.out.len; omega
        have FPC := hid (c_firstPart ⟨b, o, none⟩ c r c2 wr hL.out.seg hb hL.out.ty hc2 hcl (fun x hx => by
          have := good_mem1 HGD.out (hL.out.sub x hx)
          exact this))
        go_wp2_with fail
        refine FPC.out.mono ?_
        rintro e w2 ⟨v1, v2, l', rfl, ho, hp, hso, ⟨a3, c3, rfl, hs3, ht3, hc3⟩, b2⟩
        rw [part_sorted HGD.out hL.out.sub hL.out.nd hp hso] at ho
        obtain ⟨ap, cp, rfl, -⟩ := ho.form
        obtain ⟨L', hL'⟩ : ∃ L', L' = l.filter (fun x => decide (x ∈ (grown 0 [c] r).1)) := ⟨_, rfl⟩
        rw [← hL'] at ho
        rw [← hL']
        have kz := (Below.refl w2.heap.size w2).alloc (Nat.le_refl _) (.cells #[.slice ap L'.length cp] 23)
        have HC7 := hid (cell_one' w2 (.slice ap L'.length cp) 23)
        have HO7 := hid (ho.below kz)
        have HH7 := hid ((hL.out.own.below b2).below kz)
        have S7 := hid (hs3.below kz)
        have T7 := hid (ht3.below kz)
        have B7 := hid (hL.out.bel.trans ((b2.trans (kz.mono b2.size)).mono hL.out.bel.size))
        have hbs := hL.out.bel.size
        have hgl := grown_left c r
        have hln := hL.out.len
        simp only [List.length_cons] at hln
        have HA := hid hL.out.all
        rw [parts_cons, ← hL'] at HA
        obtain ⟨hsu, hsn⟩ := left_sub hL.out.nd
        have HSU := hid (fun x hx => hL.out.sub x (hsu x hx))
        have HSN := hid hsn
        have hc3' := hc3
        have hHl : H.length ≤ 100000 := by omega
        have HL0 := hid (fun i (hi : i < H.length) => (hL.out.own.each i hi).lt)
        clear kz ho hs3 ht3 b2 FPC hsu hsn hc3 hL hso hp hL'
        generalize (grown 0 [c] r).2 = s3 at *
        go_wp2_with (first | (at_builtin; refine wpList_appH rfl _ _ rfl w.heap.size _ vs H (.slice ap L'.length cp) L' ⟨w2.heap.size, 0, none⟩ rfl HH7.out rfl HC7.out rfl (HO7.out.mono hbs) (fun i hi k hk e => by have h1 := (HL0.out i hi k hk).2; have h2 := (HO7.out.lt k e).1; omega) hHl B7.out.size ?_; intro v8 w8 hO8 hG8))
        go_roundw
        case rel =>
          refine ⟨vs ++ [.slice ap L'.length cp], H ++ [L'], s3, a3, c3, rfl, hc3', ⟨hO8, seg_far S7.out hG8 (ty_ne HH7.out T7.out), T7.out.far hG8 (ty_ne HH7.out T7.out), by rw [← HA.out]; simp, HSU.out, HSN.out, by rw [List.length_append]; simp; omega, below_row B7.out hG8 (fun z e => (HH7.out.lt z e).1)⟩⟩
        case measure => simp [slLen]; omega
end Go.Proofs.Ytgfdkolhldbehaa

namespace Go.Proofs.Ytgfdkolhldbehaa
open Go.RowKit
set_option linter.unusedVariables false
set_option linter.unusedSimpArgs false

theorem own_cap {w : World} {base n c : Nat} {a : Option Addr} {l : List Cl} (h : OwnS w base (.slice a n c) l) : l.length ≤ c := by
  rcases h.2 with ⟨e, hn⟩ | ⟨g, cap, cur, e, _, _, hcap, _⟩
  · simp only [Value.slice.injEq] at e; omega
  · simp only [Value.slice.injEq] at e; omega
/-- A part of l: some of its cells, all those that are joined to one of them. -/
structure Part (l y : List Cl) : Prop where
  form : ∃ G : List Cl, y = l.filter (fun x => decide (x ∈ G))
  closed : ∀ x ∈ y, ∀ z ∈ l, joined x z = true → z ∈ y
theorem filter_len {l G : List Cl} (hl : l.Nodup) (hG : G.Nodup) (hs : ∀ x ∈ G, x ∈ l) : (l.filter (fun x => decide (x ∈ G))).length = G.length := by
  rw [← List.countP_eq_length_filter, countP_swap l G hl hG, List.countP_eq_length.2]
  intro x hx
  simpa using hs x hx
/-- All that the parts are: each is one, all cells are in one, and they are as many as the cells. -/
theorem partsGo_all (l : List Cl) (hl : l.Nodup) : ∀ (n : Nat) (r : List Cl), r.length ≤ n → r.Nodup → (∀ x ∈ r, x ∈ l) → (∀ x ∈ r, ∀ z ∈ l, joined x z = true → z ∈ r) →
    (∀ y ∈ partsGo l n r, Part l y) ∧ (∀ x ∈ r, ∃ y ∈ partsGo l n r, x ∈ y) ∧ ((partsGo l n r).map List.length).sum = r.length
  | n, [], _, _, _, _ => by cases n <;> simp [partsGo]
  | 0, c :: r, h, _, _, _ => by simp at h
  | n + 1, c :: r, h, hn, hs, hc => by
    have h1 := grown_left c r
    simp only [List.length_cons] at h
    obtain ⟨-, h2, h3⟩ := grown_rest (p := [c]) (r := r) hn
    have h4 := grown_apart (p := [c]) (r := r)
    have h5 := grown_len (i := 0) (p := [c]) (r := r) (Nat.zero_le _)
    generalize hG : (grown 0 [c] r).1 = G at *
    generalize hR : (grown 0 [c] r).2 = R at *
    obtain ⟨nG, nR, -⟩ := List.nodup_append.1 h2
    have sG : ∀ x ∈ G, x ∈ l := fun x hx => hs x ((h3 x).1 (List.mem_append_left _ hx))
    have sR : ∀ x ∈ R, x ∈ l := fun x hx => hs x ((h3 x).1 (List.mem_append_right _ hx))
    have cl : ∀ x ∈ G, ∀ z ∈ l, joined x z = true → z ∈ G := fun x hx z hz hj => by
      have := hc x ((h3 x).1 (List.mem_append_left _ hx)) z hz hj
      rcases List.mem_append.1 ((h3 z).2 this) with h | h
      · exact h
      · rw [h4 x hx z h] at hj; cases hj
    have cR : ∀ x ∈ R, ∀ z ∈ l, joined x z = true → z ∈ R := fun x hx z hz hj => by
      have := hc x ((h3 x).1 (List.mem_append_right _ hx)) z hz hj
      rcases List.mem_append.1 ((h3 z).2 this) with h | h
      · rw [joined_comm, h4 z h x hx] at hj; cases hj
      · exact h
    obtain ⟨i1, i2, i3⟩ := partsGo_all l hl n R (by omega) nR sR cR
    rw [partsGo, hG, hR]
    refine ⟨fun y hy => ?_, fun x hx => ?_, ?_⟩
    · rcases List.mem_cons.1 hy with rfl | hy
      · refine ⟨⟨G, rfl⟩, fun x hx z hz hj => ?_⟩
        simp only [List.mem_filter, decide_eq_true_eq] at hx ⊢
        exact ⟨hz, cl x hx.2 z hz hj⟩
      · exact i1 y hy
    · rcases List.mem_append.1 ((h3 x).2 hx) with h | h
      · exact ⟨_, List.mem_cons_self, List.mem_filter.2 ⟨sG x h, by simpa using h⟩⟩
      · obtain ⟨y, hy, hxy⟩ := i2 x h
        exact ⟨y, List.mem_cons_of_mem _ hy, hxy⟩
    · rw [List.map_cons, List.sum_cons, i3, filter_len hl nG sG]
      simp only [List.length_cons, List.length_nil] at h5 ⊢
      omega
theorem lp_all {l : List Cl} (hg : good l = true) : (∀ y ∈ lpL l, Part l y) ∧ (∀ x ∈ l, ∃ y ∈ lpL l, x ∈ y) ∧ ((lpL l).map List.length).sum = l.length := by
  have hn := ris_nodup (good_ris hg)
  have := partsGo_all l hn l.length l (Nat.le_refl _) hn (fun x h => h) (fun x _ z hz _ => hz)
  simpa [lpL, hg, partsOf] using this

theorem near_in {l y : List Cl} (h : Part l y) {c x : Cl} (hx : x ∈ y) (hxc : nearB c x = true) : (∀ z ∈ l, nearB c z = true → z ∈ y) ∧ (c ∈ l → c ∈ y) := by
  have e1 := ((nearB_iff c x).1 hxc).2
  refine ⟨fun z hz hzc => ?_, fun hc => ?_⟩
  · have e2 := ((nearB_iff c z).1 hzc).2
    refine h.closed x hx z hz ?_
    simp only [joined, Bool.and_eq_true, decide_eq_true_eq]
    omega
  · refine h.closed x hx c hc ?_
    simp only [joined, Bool.and_eq_true, decide_eq_true_eq]
    omega
theorem part_sub {l y : List Cl} (h : Part l y) {x : Cl} (hx : x ∈ y) : x ∈ l := by
  obtain ⟨G, e⟩ := h.form
  rw [e] at hx
  exact (List.mem_filter.1 hx).1
/-- A part that has a neighbour has all. -/
theorem nxt_part {l y : List Cl} (h : Part l y) {c x : Cl} (hx : x ∈ y) (hxc : nearB c x = true) : nxtB y c = nxtB l c := by
  obtain ⟨k1, k2⟩ := near_in h hx hxc
  have e1 : near y c = near l c := by
    obtain ⟨G, e⟩ := h.form
    unfold near
    conv => lhs; rw [e]
    rw [List.countP_filter]
    apply List.countP_congr
    intro z hz
    simp only [Bool.and_eq_true, decide_eq_true_eq]
    constructor
    · exact fun q => q.1
    · intro q
      refine ⟨q, ?_⟩
      have := k1 z hz q
      rw [e] at this
      simpa using (List.mem_filter.1 this).2
  have e2 : decide (c ∈ y) = decide (c ∈ l) := by
    rw [Bool.eq_iff_iff, decide_eq_true_iff, decide_eq_true_iff]
    exact ⟨part_sub h, k2⟩
  unfold nxtB kp
  rw [e1, e2]
theorem nxt_parts {l : List Cl} (hg : good l = true) (c : Cl) : nxtB l c = true ↔ ∃ y ∈ lpL l, nxtB y c = true := by
  obtain ⟨h1, h2, -⟩ := lp_all hg
  constructor
  · intro h
    obtain ⟨x, hx, hn⟩ := nxt_near h
    obtain ⟨y, hy, hxy⟩ := h2 x hx
    exact ⟨y, hy, by rw [nxt_part (h1 y hy) hxy hn]; exact h⟩
  · rintro ⟨y, hy, h⟩
    obtain ⟨x, hx, hn⟩ := nxt_near h
    rw [nxt_part (h1 y hy) hx hn] at h
    exact h

/-- What is put together of the first k parts, and whether all was good. -/
noncomputable def allS (P : List (List Cl)) : Nat → List Cl × Bool
  | 0 => ([], true)
  | k + 1 => (bothL (allS P k).1 (stepL (ht P k)), ((allS P k).2 && stepOk (ht P k)) && bothOk (allS P k).1 (stepL (ht P k)))
theorem allS_le (P : List (List Cl)) : ∀ k, (allS P k).1.length ≤ 120
  | 0 => by simp [allS]
  | k + 1 => bothL_le _ _
def sumS (P : List (List Cl)) (k : Nat) : Nat := ((P.take k).map List.length).sum
theorem sumS_zero (P : List (List Cl)) : sumS P 0 = 0 := rfl
theorem sumS_succ {P : List (List Cl)} {k : Nat} (h : k < P.length) : sumS P (k + 1) = sumS P k + (ht P k).length := by
  unfold sumS
  rw [List.take_succ_eq_append_getElem h, List.map_append, List.sum_append]
  simp [ht, h]
theorem sumS_all {l : List Cl} (hg : good l = true) : sumS (lpL l) (lpL l).length = l.length := by
  unfold sumS
  rw [List.take_length]
  exact (lp_all hg).2.2
theorem ord_is (L : List Cl) : risTo (ordL L) (ordL L).length = true ∧ ∀ c, c ∈ ordL L ↔ c ∈ L := by
  obtain ⟨l', h1, h2⟩ := ord_ex L
  rw [ordL_eq h1 h2]
  exact ⟨h1, h2⟩
theorem allS_is (P : List (List Cl)) : ∀ k, k ≤ P.length → (allS P k).2 = true → risTo (allS P k).1 (allS P k).1.length = true ∧ ∀ c, c ∈ (allS P k).1 ↔ ∃ y ∈ P.take k, nxtB y c = true
  | 0, _, _ => by simp [allS, risTo]
  | k + 1, hk, h => by
    simp only [allS, Bool.and_eq_true] at h ⊢
    obtain ⟨⟨g1, g2⟩, g3⟩ := h
    obtain ⟨i1, i2⟩ := allS_is P k (by omega) g1
    obtain ⟨-, s2, -⟩ := stepOk_parts g2
    simp only [bothOk, Bool.and_eq_true] at g3
    have e : bothL (allS P k).1 (stepL (ht P k)) = ordL ((allS P k).1 ++ stepL (ht P k)) := by
      simp [bothL, g3.1.1, g3.1.2, tellV, g3.2]
    rw [e]
    obtain ⟨o1, o2⟩ := ord_is ((allS P k).1 ++ stepL (ht P k))
    refine ⟨o1, fun c => ?_⟩
    rw [o2, List.mem_append, i2, s2, (pickL_spec _).2, List.take_succ_eq_append_getElem (by omega : k < P.length)]
    have e2 : ht P k = P[k] := by simp [ht, show k < P.length by omega]
    rw [e2]
    constructor
    · rintro (⟨y, hy, hn⟩ | hn)
      · exact ⟨y, List.mem_append_left _ hy, hn⟩
      · exact ⟨P[k], List.mem_append_right _ (by simp), hn⟩
    · rintro ⟨y, hy, hn⟩
      rcases List.mem_append.1 hy with h | h
      · exact Or.inl ⟨y, h, hn⟩
      · simp only [List.mem_singleton] at h
        subst h
        exact Or.inr hn
/-- Parts that are apart go their own ways. -/
theorem own_ways {l : List Cl} (hg : good l = true) (h1 : (allS (lpL l) (lpL l).length).2 = true) (h2 : stepOk l = true) : (allS (lpL l) (lpL l).length).1 = stepL l := by
  obtain ⟨k1, k2⟩ := allS_is _ _ (Nat.le_refl _) h1
  obtain ⟨-, s2, -⟩ := stepOk_parts h2
  obtain ⟨p1, p2⟩ := pickL_spec l
  rw [s2]
  refine ris_unique k1 p1 (fun c => ?_)
  rw [k2, p2, List.take_length, nxt_parts hg]
end Go.Proofs.Ytgfdkolhldbehaa

namespace Go.Proofs.Ytgfdkolhldbehaa
open Go.RowKit
set_option linter.unusedVariables false
set_option linter.unusedSimpArgs false

/-- While the part of c grows. -/
structure GS (l D : List Cl) (c : Cl) (r : List Cl) (i : Nat) (p t : List Cl) : Prop where
  g1 : grown i p t = grown 0 [c] r
  g2 : t = l.filter fun x => decide (x ∉ D) && decide (x ∉ p)
  g3 : ∀ x ∈ p, x ∈ c :: r
  g4 : i ≤ p.length
  g5 : p.length + t.length = r.length + 1
theorem GS.start {l D : List Cl} {c : Cl} {r : List Cl} (hs : (l.filter fun x => decide (x ∉ D)) = c :: r) (hn : l.Nodup) : GS l D c r 0 [c] r := by
  refine ⟨rfl, ?_, fun x hx => by simp at hx; simp [hx], by simp, by simp; omega⟩
  have h2 : (c :: r).Nodup := by rw [← hs]; exact hn.filter _
  have h3 : (l.filter fun x => decide (x ∉ D) && decide (x ∉ [c])) = (c :: r).filter fun x => decide (x ∉ [c]) := by
    rw [← hs, List.filter_filter]
    apply List.filter_congr
    intro x hx
    rw [Bool.and_comm]
  rw [h3, List.filter_cons, if_neg (by simp), List.filter_eq_self.2]
  intro x hx
  simp only [List.mem_singleton, decide_eq_true_eq]
  rintro rfl
  exact (List.nodup_cons.1 h2).1 hx
theorem GS.step {l D : List Cl} {c : Cl} {r : List Cl} {i : Nat} {p t : List Cl} (h : GS l D c r i p t) (hs : (l.filter fun x => decide (x ∉ D)) = c :: r) (hD : ∀ y ∈ D, ∀ x ∈ c :: r, joined y x = false) (hi : i < p.length) :
    GS l D c r (i + 1) (p ++ brings l p (at_ p i)) (t.filter fun x => !joined (at_ p i) x) := by
  have hm : at_ p i ∈ p := by simp [at_, hi]
  have hb : brings l p (at_ p i) = t.filter (joined (at_ p i)) := brings_rest hm h.g2 (fun y hy x hx => hD y hy x (h.g3 x hx))
  have h2 := filter_two (joined (at_ p i)) t
  have ht : ∀ x ∈ t, x ∈ c :: r := fun x hx => by
    rw [h.g2, List.mem_filter] at hx
    rw [← hs, List.mem_filter]
    simp only [Bool.and_eq_true] at hx
    exact ⟨hx.1, hx.2.1⟩
  refine ⟨by rw [hb, ← grown_step hi]; exact h.g1, ?_, fun x hx => ?_, by rw [List.length_append]; omega, by rw [hb, List.length_append]; have := h.g5; omega⟩
  · rw [h.g2, List.filter_filter]
    apply List.filter_congr
    intro x hx
    have e : decide (x ∉ p ++ brings l p (at_ p i)) = (decide (x ∉ p) && !(joined x (at_ p i))) := by
      by_cases hp : x ∈ p
      · simp [hp]
      · cases hj : joined x (at_ p i) <;> simp [hp, brings, hx, hj]
    rw [e, joined_comm x (at_ p i)]
    cases decide (x ∉ D) <;> cases decide (x ∉ p) <;> cases joined (at_ p i) x <;> rfl
  · rw [hb, List.mem_append, List.mem_filter] at hx
    rcases hx with hx | ⟨hx, _⟩
    · exact h.g3 x hx
    · exact ht x hx

/-- Of l the first k cells are gone through, D are done, H are their parts. -/
structure OS (l : List Cl) (k : Nat) (D : List Cl) (H : List (List Cl)) : Prop where
  o1 : H ++ partsOf l (l.filter fun x => decide (x ∉ D)) = partsOf l l
  o2 : ∀ j, j < k → at_ l j ∈ D
  o3 : ∀ x ∈ D, x ∈ l
  o4 : ∀ y ∈ D, ∀ x ∈ (l.filter fun x => decide (x ∉ D)), joined y x = false
  o5 : D.Nodup
  o6 : H.length + (l.filter fun x => decide (x ∉ D)).length ≤ l.length
  o7 : D.length + (l.filter fun x => decide (x ∉ D)).length = l.length
theorem OS.start (l : List Cl) : OS l 0 [] [] := by
  have e : (l.filter fun x => decide (x ∉ ([] : List Cl))) = l := by rw [List.filter_eq_self]; simp
  exact ⟨by rw [e]; rfl, fun j hj => absurd hj (Nat.not_lt_zero _), fun x hx => by simp at hx, fun y hy => by simp at hy, List.nodup_nil, by rw [e]; simp, by rw [e]; simp⟩
theorem OS.skip {l : List Cl} {k : Nat} {D : List Cl} {H : List (List Cl)} (h : OS l k D H) (hk : at_ l k ∈ D) : OS l (k + 1) D H :=
  ⟨h.o1, fun j hj => by
    by_cases e : j = k
    · subst e; exact hk
    · exact h.o2 j (by omega), h.o3, h.o4, h.o5, h.o6, h.o7⟩
theorem OS.first {l : List Cl} {k : Nat} {D : List Cl} {H : List (List Cl)} (h : OS l k D H) (hk : k < l.length) (hd : at_ l k ∉ D) : ∃ r, (l.filter fun x => decide (x ∉ D)) = at_ l k :: r := by
  have e : at_ l k = l[k] := by simp [at_, hk]
  have h1 : ((l.take k).filter fun x => decide (x ∉ D)) = [] := by
    rw [List.filter_eq_nil_iff]
    intro x hx
    obtain ⟨j, hj, ej⟩ := List.getElem_of_mem hx
    rw [List.length_take] at hj
    rw [List.getElem_take] at ej
    have := h.o2 j (by omega)
    rw [show at_ l j = l[j] by simp [at_, show j < l.length by omega], ej] at this
    simpa using this
  refine ⟨(l.drop (k + 1)).filter fun x => decide (x ∉ D), ?_⟩
  conv => lhs; rw [← List.take_append_drop k l]
  rw [List.filter_append, h1, List.nil_append, List.drop_eq_getElem_cons hk, ← e, List.filter_cons, if_pos (by simpa using hd)]
theorem OS.next {l : List Cl} {k : Nat} {D : List Cl} {H : List (List Cl)} {r p t : List Cl} (h : OS l k D H) (hn : l.Nodup) (hs : (l.filter fun x => decide (x ∉ D)) = at_ l k :: r) (hg : GS l D (at_ l k) r p.length p t) :
    OS l (k + 1) (D ++ p) (H ++ [l.filter fun x => decide (x ∈ p)]) := by
  have hG : grown 0 [at_ l k] r = (p, t) := by rw [← hg.g1, grown_end]
  have hp1 : (grown 0 [at_ l k] r).1 = p := by rw [hG]
  have hp2 : (grown 0 [at_ l k] r).2 = t := by rw [hG]
  have hns : (at_ l k :: r).Nodup := by rw [← hs]; exact hn.filter _
  have hpre := grown_pre (i := 0) (p := [at_ l k]) (r := r) (Nat.zero_le _)
  have hap := grown_apart (p := [at_ l k]) (r := r)
  obtain ⟨-, hnd, -⟩ := grown_rest (p := [at_ l k]) (r := r) hns
  have ha := h.o1
  rw [hs, parts_cons] at ha
  rw [hp1, hp2] at hap hnd ha
  rw [hp1] at hpre
  have ht : (l.filter fun x => decide (x ∉ D ++ p)) = t := by
    rw [hg.g2]
    apply List.filter_congr
    intro x hx
    simp
  have hsub : ∀ x ∈ t, x ∈ at_ l k :: r := fun x hx => by
    rw [hg.g2, List.mem_filter] at hx
    rw [← hs, List.mem_filter]
    simp only [Bool.and_eq_true] at hx
    exact ⟨hx.1, hx.2.1⟩
  have hsl : ∀ x ∈ at_ l k :: r, x ∈ l ∧ x ∉ D := fun x hx => by
    rw [← hs, List.mem_filter] at hx
    simpa using hx
  refine ⟨by rw [ht, ← ha]; simp, fun j hj => ?_, fun x hx => ?_, fun y hy x hx => ?_, ?_, ?_, ?_⟩
  · rw [List.mem_append]
    by_cases e : j = k
    · subst e; exact .inr (hpre.subset (by simp))
    · exact .inl (h.o2 j (by omega))
  · rcases List.mem_append.1 hx with hx | hx
    · exact h.o3 x hx
    · exact (hsl x (hg.g3 x hx)).1
  · rw [ht] at hx
    rcases List.mem_append.1 hy with hy | hy
    · exact h.o4 y hy x (by rw [hs]; exact hsub x hx)
    · exact hap y hy x hx
  · rw [List.nodup_append]
    refine ⟨h.o5, (List.nodup_append.1 hnd).1, fun x hx y hy e => ?_⟩
    subst e
    exact (hsl x (hg.g3 x hy)).2 hx
  · have h6 := h.o6
    have h5 := hg.g5
    have h7 := hpre.length_le
    rw [ht, List.length_append]
    rw [hs] at h6
    simp only [List.length_cons, List.length_nil] at h6 h7 ⊢
    omega
  · have h6 := h.o7
    have h5 := hg.g5
    rw [ht, List.length_append]
    rw [hs] at h6
    simp only [List.length_cons] at h6
    omega
theorem OS.done {l : List Cl} {D : List Cl} {H : List (List Cl)} (h : OS l l.length D H) : H = partsOf l l := by
  have e : (l.filter fun x => decide (x ∉ D)) = [] := by
    rw [List.filter_eq_nil_iff]
    intro x hx
    obtain ⟨j, hj, ej⟩ := List.getElem_of_mem hx
    have := h.o2 j hj
    rw [show at_ l j = l[j] by simp [at_, hj], ej] at this
    simpa using this
  have := h.o1
  rw [e, parts_nil, List.append_nil] at this
  exact this
end Go.Proofs.Ytgfdkolhldbehaa

namespace Go.Proofs.Ytgfdkolhldbehaa
open Go.RowKit
set_option linter.unusedVariables false
set_option linter.unusedSimpArgs false
attribute [local go_sem ↓] Go.wp_at_zero Go.wp_at_succ

theorem OwnH.keep_apart {w w' : World} {base : Nat} {v : Value} {vs : List Value} {H : List (List Cl)} {u : Value} {D : List Cl} {base' : Nat} (h : OwnH w base v vs H) (hu : OwnS w base' u D) (hg : w.grownBy w' u.ownBlock)
    (hne : ∀ i, i < H.length → ∀ b, (va vs i).ownBlock = some b → u.ownBlock ≠ some b) : OwnH w' base v vs H := by
  refine ⟨h.len, World.ownsRow.kept h.row hg ?_, fun i hi => own_keep (h.each i hi) hg fun k hk e => hne i hi k hk e, h.apart⟩
  cases e : v.ownBlock with
  | none => exact .inl rfl
  | some k => exact .inr fun e2 => row_ne h.row hu k e e2.symm

/-- What the specification's loop over the cells holds in memory. -/
structure SM (w W : World) (dv : Value) (D : List Cl) (ov : Value) (vs : List Value) (H : List (List Cl)) : Prop where
  dn : OwnS W w.heap.size dv D
  out : OwnH W w.heap.size ov vs H
  ne : ∀ i, i < H.length → ∀ b, (va vs i).ownBlock = some b → dv.ownBlock ≠ some b
  bel : Below w.heap.size w W
theorem SM.below {w W W' : World} {dv : Value} {D : List Cl} {ov : Value} {vs : List Value} {H : List (List Cl)} (h : SM w W dv D ov vs H) (hb : Below W.heap.size W W') : SM w W' dv D ov vs H :=
  ⟨h.dn.below hb, h.out.below hb, h.ne, h.bel.trans (hb.mono h.bel.size)⟩

set_option maxHeartbeats 4000000 in
set_option maxRecDepth 100000 in
theorem c_sLoneParts (a : Option Addr) (l : List Cl) (ca : Nat) (w : World) (ha : Seg w a l) (hl : l.length ≤ 1048576) :
    Calls Try.prog 24 #[.slice a l.length ca] w fun e w' => ∃ v vs, e = .returned (.tuple #[v, .bool (good l)]) ∧ OwnH w' w.heap.size v vs (lpL l) ∧ Below w.heap.size w w' := by
  cases hg : good l
  · have HC := hid (c_sGood' a l ca false hg _ ha hl)
    have HV := hid (show lpL l = [] by simp [lpL, hg])
    go_enter Try.func24, Try.ntmps24
    go_wp2_with fail
    refine HC.out.mono ?_
    rintro e w1 ⟨rfl, b1⟩
    go_wp2
    go_ret2
    first | exact ⟨_, [], rfl, by rw [HV.out]; exact OwnH.nil _ _, b1⟩ | exact ⟨_, rfl, ⟨[], by rw [HV.out]; exact OwnH.nil _ _⟩, b1⟩
  · have HC := hid (c_sGood' a l ca true hg _ ha hl)
    have HV := hid (show lpL l = partsOf l l by simp [lpL, hg])
    have hl2 := good_le hg
    have HN := hid (ris_nodup (good_ris hg))
    have HRI := hid (good_ris hg)
    have HGI := hid (fun x (hx : x ∈ l) => good_mem1 hg hx)
    go_enter Try.func24, Try.ntmps24
    go_wp2_with fail
    refine HC.out.mono ?_
    rintro e w1 ⟨rfl, b1⟩
    have A1 := hid (ha.below b1)
    have HAB := hid (show ∀ A, a = some A → 0 < l.length → A.block < w.heap.size from fun A e hl0 => by
      obtain ⟨b, o, e2, hb, _⟩ := ha 0 hl0
      rw [e] at e2; cases e2; exact hb)
    have M1 := hid (show SM w w1 (.slice none 0 0) [] (.slice none 0 0) [] [] from ⟨OwnS.nil _ _, OwnH.nil _ _, fun i hi => absurd hi (Nat.not_lt_zero _), b1⟩)
    clear ha b1 HC hg
    go_wp2_with fail
    go_loopw [4, 5, 17] (fun dv ov kv wr => ∃ (k : Nat) (D : List Cl) (vs : List Value) (H : List (List Cl)), k ≤ l.length ∧ kv = .int .i64 (k : Int) ∧ Hid (SM w wr dv D ov vs H ∧ OS l k D H ∧ Seg wr a l)) (fun _ _ kv _ => l.length - (intOf kv).toNat)
    case atStart => exact ⟨0, [], [], [], Nat.zero_le _, rfl, M1.out, OS.start l, A1.out⟩
    case round =>
      obtain ⟨k, D, vs, H, hk, rfl, hx⟩ := hrel
      by_cases hkl : k < l.length
      · have k0 : (0 : Int) ≤ (k : Int) := by omega
        have k1 : (k : Int) < (l.length : Int) := by omega
        obtain ⟨b3, o3, rfl, hb3, q0, q1⟩ := hx.out.2.2 k hkl
        obtain ⟨ad, cd, rfl, sd⟩ := hx.out.1.dn.form
        change _ = some (Value.int .i64 (at_ l k).1) at q0
        change _ = some (Value.int .i64 (at_ l k).2) at q1
        have hD9 : D.length ≤ 120 := by
          have := hx.out.2.1.o7
          omega
        obtain ⟨c, hc⟩ : ∃ c, c = at_ l k := ⟨_, rfl⟩
        rw [← hc] at q0 q1
        have HC := hid hc
        have kc := (Below.refl wr.heap.size wr).alloc (Nat.le_refl _) (.cells #[.int .i64 c.1, .int .i64 c.2] 36)
        have C1 := hid (WRow.new wr (.int .i64 c.1) c.2 36)
        have M2 := hid (hx.out.1.below kc)
        have A2 := hid (hx.out.2.2.below kc)
        have CA := hid (c_l1Alive ad D cd c _ (sd.below kc) (by omega))
        have y0 := C1.out.c0
        have y1 := C1.out.c1
        have HOS := hid hx.out.2.1
        clear kc hc sd hx
        cases hal : decide (c ∈ D)
        · rw [hal] at CA
          have hcd : c ∉ D := by simpa using hal
          have HCD := hid hcd
          clear hal hcd
          go_wp2_with fail
          refine CA.out.mono ?_
          rintro e w2 ⟨rfl, b2⟩
          obtain ⟨r, hr⟩ := HOS.out.first hkl (by rw [← HC.out]; exact HCD.out)
          rw [← HC.out] at hr
          have HR := hid hr
          have HRL := hid (show r.length + 1 ≤ 120 by
            have := HOS.out.o7
            rw [hr] at this
            simp only [List.length_cons] at this; omega)
          have HDJ := hid (show ∀ y ∈ D, ∀ x ∈ c :: r, joined y x = false from fun y hy x hx => HOS.out.o4 y hy x (by rw [hr]; exact hx))
          have HCL := hid (show ∀ x ∈ c :: r, x ∈ l from fun x hx => by rw [← hr] at hx; exact (List.mem_filter.1 hx).1)
          have C2 := hid (C1.out.below b2)
          have z0 := C2.out.c0
          have z1 := C2.out.c1
          have M3 := hid (M2.out.below b2)
          have A3 := hid (A2.out.below b2)
          have kp := (Below.refl w2.heap.size w2).alloc (Nat.le_refl _) (.cells #[.int .i64 c.1, .int .i64 c.2] 36)
          have K4 := hid kp
          have P4 := hid (own_lit w2 [c] #[.int .i64 c.1, .int .i64 c.2] 1 rfl (by omega) rfl)
          clear hr b2 CA C1 C2 M2 A2 kp y0 y1
          go_wp2_with fail
          have hw2 := M3.out.bel.size
          generalize hw3 : w2.alloc (.cells #[.int .i64 c.1, .int .i64 c.2] 36) = w3 at *
          have hw32 : w2.heap.size + 1 = w3.heap.size := by rw [← hw3]; simp
          clear hw3
          go_loopw [8, 9] (fun pv iv ws => ∃ (i : Nat) (p t : List Cl), iv = .int .i64 (i : Int) ∧ p.length ≤ 120 ∧ Hid (GS l D c r i p t ∧ OwnS ws w2.heap.size pv p ∧ Below w2.heap.size w2 ws)) (fun _ iv _ => 121 - (intOf iv).toNat)
          case atStart => exact ⟨0, [c], r, rfl, by simp, GS.start HR.out HN.out, P4.out, K4.out⟩
          case round =>
            obtain ⟨i, p, t, rfl, hp9, hG⟩ := hrel
            obtain ⟨ap, cp, rfl, sp⟩ := hG.out.2.1.form
            by_cases hip : i < p.length
            · have i0 : (0 : Int) ≤ (i : Int) := by omega
              have i1 : (i : Int) < (p.length : Int) := by omega
              have hg4 := hG.out.1.g4
              go_wp2_with fail
              go_loopw [8, 34] (fun pv jv wt => ∃ (j : Nat), j ≤ l.length ∧ jv = .int .i64 (j : Int) ∧ Hid (OwnS wt w2.heap.size pv (p ++ brings (l.take j) p (at_ p i)) ∧ Below w2.heap.size w2 wt)) (fun _ jv _ => l.length - (intOf jv).toNat)
              case atStart => exact ⟨0, Nat.zero_le _, rfl, by simpa [brings] using hG.out.2.1, hG.out.2.2⟩
              case round =>
                obtain ⟨j, hjl, rfl, hJ⟩ := hrel
                by_cases hjj : j < l.length
                · have j0 : (0 : Int) ≤ (j : Int) := by omega
                  have j1 : (j : Int) < (l.length : Int) := by omega
                  obtain ⟨P2, hP2⟩ : ∃ P2, P2 = p ++ brings (l.take j) p (at_ p i) := ⟨_, rfl⟩
                  rw [← hP2] at hJ
                  have hPi : at_ P2 i = at_ p i := by rw [hP2]; simp [at_, List.getElem?_append_left hip]
                  have hPl : i < P2.length := by rw [hP2, List.length_append]; omega
                  have hPl2 : P2.length ≤ 240 := by
                    have h1 := List.length_filter_le (fun x => joined x (at_ p i) && decide (x ∉ p)) (l.take j)
                    have h2 := List.length_take_le j l
                    rw [hP2, List.length_append, brings]; omega
                  have hbt := brings_take (p := p) (c := at_ p i) hjj HN.out
                  have hbs := brings_succ (p := p) (c := at_ p i) hjj
                  rw [← hP2] at hbt
                  have i2 : (i : Int) < (P2.length : Int) := by omega
                  have hI1 : inR (at_ p i) = true := HGI.out _ (HCL.out _ (hG.out.1.g3 _ (by simp [at_, hip])))
                  have hI2 : inR (at_ l j) = true := HGI.out _ (by simp [at_, hjj])
                  obtain ⟨b4, o4, e4, hb4, q0, q1⟩ := A3.out j hjj
                  simp only [Option.some.injEq, Addr.mk.injEq, and_true] at e4
                  obtain ⟨rfl, rfl⟩ := e4
                  obtain ⟨a5, c5, rfl, s5⟩ := hJ.out.1.form
                  obtain ⟨b5, o5, rfl, hb5, z0, z1⟩ := s5 i hPl
                  change _ = some (Value.int .i64 (at_ P2 i).1) at z0
                  change _ = some (Value.int .i64 (at_ P2 i).2) at z1
                  change _ = some (Value.int .i64 (at_ l j).1) at q0
                  change _ = some (Value.int .i64 (at_ l j).2) at q1
                  replace q0 := (hJ.out.2.cell hb4).trans q0
                  replace q1 := (hJ.out.2.cell hb4).trans q1
                  rw [hPi] at z0 z1
                  obtain ⟨x, hx⟩ : ∃ x, x = at_ l j := ⟨_, rfl⟩
                  obtain ⟨y, hy⟩ : ∃ y, y = at_ p i := ⟨_, rfl⟩
                  rw [← hx] at q0 q1 hI2 hbt hbs
                  rw [← hy] at z0 z1 hI1 hbs hP2
                  have HP2 := hid hP2
                  have HBS := hid hbs
                  have HY := hid hy
                  have ky := (Below.refl wr.heap.size wr).alloc (Nat.le_refl _) (.cells #[.int .i64 x.1, .int .i64 x.2] 36)
                  have KD := hid (ky.trans ((Below.refl _ (wr.alloc (.cells #[.int .i64 x.1, .int .i64 x.2] 36))).drew.mono ky.size))
                  have KY := hid ky
                  have Y1 := WRow.new wr (.int .i64 x.1) x.2 36
                  have YD := hid (Y1.below ((Below.refl _ _).drew))
                  have x0 := Y1.c0
                  have x1 := Y1.c1
                  have CJ := hid (fun W => c_l7Close x y W hI2 hI1)
                  have CM := hid (fun (W : World) (h : Seg W (some ⟨b5, o5, none⟩) P2) => c_l1Alive (some ⟨b5, o5, none⟩) P2 c5 x W h (by omega))
                  have z2 := (KY.out.cell (p := ⟨b5, o5 + i * 2, none⟩) hb5).trans z0
                  have z3 := (KY.out.cell (p := ⟨b5, o5 + i * 2 + 1, none⟩) hb5).trans z1
                  have SP := hid s5
                  clear s5 ky hP2 hbs hy hx
                  cases hj : joined x y
                  · rw [hj] at CJ
                    go_wp2_with fail
                    generalize hW2 : wr.alloc (.cells #[.int .i64 x.1, .int .i64 x.2] 36) = wq at *
                    have hlq := World.rowIs.lt Y1
                    have hbq := Nat.lt_of_lt_of_le hb5 KY.out.size
                    have g0 := fun g : Gr wq => g.cell x0 hlq
                    have g1 := fun g : Gr wq => g.cell x1 hlq
                    have g2 := fun g : Gr wq => g.cell z2 hbq
                    have g3 := fun g : Gr wq => g.cell z3 hbq
                    have hne := Gr.ne wq
                    refine wp_region_gr (by kernel_rfl) (by kernel_rfl) ?_
                    repeat (go_big_quiet_step (first | (go_at_call 76; exact Calls.gr _ (CJ.out _))))
                    refine wpQuiet_nil ?_
                    rintro _ ⟨g, rfl⟩
                    clear g0 g1 g2 g3
                    have K8 := hid (KY.out.trans (g.below.mono KY.out.size))
                    have O8 := hid (hJ.out.1.below K8.out)
                    have B8 := hid (hJ.out.2.trans (K8.out.mono hJ.out.2.size))
                    have E8 := hid (show p ++ brings (l.take (j + 1)) p (at_ p i) = P2 by rw [← HY.out, HBS.out, hj, HP2.out]; simp)
                    go_wp2_with fail
                    go_roundw
                    case rel =>
                      refine ⟨j + 1, by omega, by go_num, ?_⟩
                      rw [E8.out]
                      exact ⟨O8.out, B8.out⟩
                    case measure => simp [intOf]; omega
                  · rw [hj] at CJ
                    cases hm : decide (x ∈ P2)
                    · rw [hm] at CM
                      go_wp2_with fail
                      generalize hW2 : wr.alloc (.cells #[.int .i64 x.1, .int .i64 x.2] 36) = wq at *
                      go_region_held3 (fun W => (W.cell? ⟨wr.heap.size, 0, none⟩ = some (.int .i64 x.1) ∧ W.cell? ⟨wr.heap.size, 1, none⟩ = some (.int .i64 x.2)) ∧ (W.cell? ⟨b5, o5 + i * 2, none⟩ = some (.int .i64 y.1) ∧ W.cell? ⟨b5, o5 + i * 2 + 1, none⟩ = some (.int .i64 y.2)))
                        (first | exact ⟨⟨x0, x1⟩, z2, z3⟩ | exact ⟨⟨((YD.out.below b8).below b9).c0, ((YD.out.below b8).below b9).c1⟩, (K9.out.cell hb5).trans z0, (K9.out.cell hb5).trans z1⟩ | exact ⟨⟨(YD.out.below b8).c0, (YD.out.below b8).c1⟩, ((KD.out.trans (b8.mono KD.out.size)).cell hb5).trans z0, ((KD.out.trans (b8.mono KD.out.size)).cell hb5).trans z1⟩ | exact ⟨⟨YD.out.c0, YD.out.c1⟩, (KD.out.cell hb5).trans z0, (KD.out.cell hb5).trans z1⟩ | go_keep)
                        (first | (go_at_call 75; refine (CM.out w8 (SP.out.below (KD.out.trans (b8.mono KD.out.size)))).mono ?_; rintro e w9 ⟨rfl, b9⟩; have K9 := hid (KD.out.trans ((b8.trans (b9.mono b8.size)).mono KD.out.size))) | (go_at_call 76; refine (CJ.out wq.drew).mono ?_; rintro e w8 ⟨rfl, b8⟩))
                      have O8 := hid (hJ.out.1.below K9.out)
                      have B8 := hid (hJ.out.2.trans (K9.out.mono hJ.out.2.size))
                      have Y9 := (YD.out.below b8).below b9
                      have E8 := hid (show p ++ brings (l.take (j + 1)) p (at_ p i) = P2 ++ [x] by
                        have h3 : x ∉ p := by rw [hm] at hbt; simpa using hbt.symm
                        rw [← HY.out, HBS.out, hj, HP2.out]; simp [h3])
                      have v0 := Y9.c0
                      have v1 := Y9.c1
                      have kz := (Below.refl w9.heap.size w9).alloc (Nat.le_refl _) (.cells #[.int .i64 x.1, .int .i64 x.2] 36)
                      have SN := hid (seg_block (heap_alloc_last w9 (.cells #[.int .i64 x.1, .int .i64 x.2] 36)))
                      have O9 := hid (O8.out.below kz)
                      have B9 := hid (B8.out.trans (kz.mono B8.out.size))
                      clear kz b8 b9 x0 x1 z0 z1 z2 z3 YD
                      go_wp2_with (first | (at_builtin; refine wpList_appAt rfl (.tmp 50) (.tmp 52) rfl w2.heap.size _ P2 [x] ⟨w9.heap.size, 0, none⟩ 1 rfl O9.out rfl SN.out (by simp; omega) B9.out.size ?_; intro v6 w6 hO6 hG6 hN6))
                      go_roundw
                      case rel =>
                        refine ⟨j + 1, by omega, by go_num, ?_⟩
                        rw [E8.out]
                        exact ⟨hO6, below_row B9.out hG6 (fun z e => (O9.out.lt z e).1)⟩
                      case measure => simp [intOf]; omega
                    · rw [hm] at CM
                      go_wp2_with fail
                      generalize hW2 : wr.alloc (.cells #[.int .i64 x.1, .int .i64 x.2] 36) = wq at *
                      go_region_held3 (fun W => (W.cell? ⟨wr.heap.size, 0, none⟩ = some (.int .i64 x.1) ∧ W.cell? ⟨wr.heap.size, 1, none⟩ = some (.int .i64 x.2)) ∧ (W.cell? ⟨b5, o5 + i * 2, none⟩ = some (.int .i64 y.1) ∧ W.cell? ⟨b5, o5 + i * 2 + 1, none⟩ = some (.int .i64 y.2)))
                        (first | exact ⟨⟨x0, x1⟩, z2, z3⟩ | exact ⟨⟨((YD.out.below b8).below b9).c0, ((YD.out.below b8).below b9).c1⟩, (K9.out.cell hb5).trans z0, (K9.out.cell hb5).trans z1⟩ | exact ⟨⟨(YD.out.below b8).c0, (YD.out.below b8).c1⟩, ((KD.out.trans (b8.mono KD.out.size)).cell hb5).trans z0, ((KD.out.trans (b8.mono KD.out.size)).cell hb5).trans z1⟩ | exact ⟨⟨YD.out.c0, YD.out.c1⟩, (KD.out.cell hb5).trans z0, (KD.out.cell hb5).trans z1⟩ | go_keep)
                        (first | (go_at_call 75; refine (CM.out w8 (SP.out.below (KD.out.trans (b8.mono KD.out.size)))).mono ?_; rintro e w9 ⟨rfl, b9⟩; have K9 := hid (KD.out.trans ((b8.trans (b9.mono b8.size)).mono KD.out.size))) | (go_at_call 76; refine (CJ.out wq.drew).mono ?_; rintro e w8 ⟨rfl, b8⟩))
                      have O8 := hid (hJ.out.1.below K9.out)
                      have B8 := hid (hJ.out.2.trans (K9.out.mono hJ.out.2.size))
                      have E8 := hid (show p ++ brings (l.take (j + 1)) p (at_ p i) = P2 by
                        have h3 : x ∈ p := by rw [hm] at hbt; simpa using hbt.symm
                        rw [← HY.out, HBS.out, hj, HP2.out]; simp [h3])
                      go_wp2_with fail
                      go_roundw
                      case rel =>
                        refine ⟨j + 1, by omega, by go_num, ?_⟩
                        rw [E8.out]
                        exact ⟨O8.out, B8.out⟩
                      case measure => simp [intOf]; omega
                · have hje : j = l.length := by omega
                  subst hje
                  rw [List.take_length] at hJ
                  have GN := hid (hG.out.1.step HR.out HDJ.out hip)
                  have hg5 := GN.out.g5
                  have hrl := HRL.out
                  go_wp2_with fail
                  go_roundw
                  case rel => exact ⟨i + 1, _, _, by go_num, by omega, GN.out, hJ.out.1, hJ.out.2⟩
                  case measure => simp [intOf]; omega
            · have hie : i = p.length := by have := hG.out.1.g4; omega
              subst hie
              have hpp : 0 < p.length := by
                have h1 := grown_pre (i := 0) (p := [c]) (r := r) (Nat.zero_le _)
                rw [← hG.out.1.g1, grown_end] at h1
                have := h1.length_le
                simp only [List.length_cons, List.length_nil] at this
                omega
              obtain ⟨gp, cap, e9, hgp, -⟩ := World.ownsRow.form hG.out.2.1 hpp
              simp only [Value.slice.injEq, true_and] at e9
              obtain ⟨rfl, rfl⟩ := e9
              have M5 := hid (M3.out.below hG.out.2.2)
              have A5 := hid (A3.out.below hG.out.2.2)
              have PO := hid hG.out.2.1
              have PS := hid sp
              have B5 := hid hG.out.2.2
              have hbz := M5.out.bel.size
              have hb9 := HAB.out ⟨b3, o3, none⟩ rfl (by omega)
              have HB9 := hid (show b3 < w.heap.size from hb9)
              have DL := hid (fun z (e : (Value.slice ad D.length cd).ownBlock = some z) => (M3.out.dn.lt z e).2)
              have HSO := hid (fun (W : World) (h : Seg W (some ⟨gp, 0, none⟩) p) => c_l1Sort (some ⟨gp, 0, none⟩) p cp W h (by omega))
              have ON := hid (HOS.out.next HN.out (by rw [← HC.out]; exact HR.out) (by rw [← HC.out]; exact hG.out.1))
              have HPL := hid (fun x (hx : x ∈ p) => HCL.out x (hG.out.1.g3 x hx))
              have hH9 : H.length ≤ 100000 := by have := HOS.out.o6; omega
              clear sp hG
              go_wp2_with (first | (at_builtin; refine wpList_appAt rfl (.tmp 55) (.tmp 56) rfl w.heap.size _ D p ⟨gp, 0, none⟩ cp rfl M5.out.dn rfl PS.out (by omega) hbz ?_; intro v6 w6 hO6 hG6 hN6; have PO6 := hid (own_keep PO.out hG6 (fun z hz e => by have h1 := DL.out z e; have h2 := (PO.out.lt z hz).1; omega)); have HH6 := hid (M5.out.out.keep_apart M5.out.dn hG6 M5.out.ne); have A6 := hid (seg_far A5.out hG6 (fun A e e2 => by cases e; have := (M5.out.dn.lt _ e2).1; omega)); have B6 := hid (below_row M5.out.bel hG6 (fun z e => (M5.out.dn.lt z e).1)); have O6 := hid hO6))
              refine (HSO.out w6 PO6.out.seg).mono ?_
              rintro e w7 ⟨v7, l', rfl, ho7, hr7, hm7, hl7, b7⟩
              have HF := hid (show l' = l.filter (fun x => decide (x ∈ p)) from ris_unique hr7 (pair_ris ((ris_pair HRI.out).filter _)) (fun x => by
                rw [hm7, List.mem_filter]
                simp only [decide_eq_true_eq]
                exact ⟨fun h => ⟨HPL.out x h, h⟩, fun h => h.2⟩))
              obtain ⟨a7, c7, rfl, -⟩ := ho7.form
              have kz := (Below.refl w7.heap.size w7).alloc (Nat.le_refl _) (.cells #[.slice a7 l'.length c7] 23)
              have HC7 := hid (cell_one' w7 (.slice a7 l'.length c7) 23)
              have HO7 := hid (ho7.below kz)
              have HH7 := hid ((HH6.out.below b7).below kz)
              have D7 := hid ((O6.out.below b7).below kz)
              have A7 := hid ((A6.out.below b7).below kz)
              have B7 := hid (B6.out.trans ((b7.trans (kz.mono b7.size)).mono B6.out.size))
              have HL0 := hid (fun i (hi : i < H.length) => (M5.out.out.each i hi).lt)
              have hws := hG6.size
              have hw6 := B6.out.size
              have NE := hid M5.out.ne
              have HLE := hid (fun i (hi : i < H.length) z (e : (va vs i).ownBlock = some z) => (HH6.out.each i hi).lt z e)
              have hlv := M5.out.out.len
              clear kz ho7 b7 hr7 hm7 hl7 M5 A5
              go_wp2_with (first | (at_builtin; refine wpList_appH rfl _ _ rfl w.heap.size _ vs H (.slice a7 l'.length c7) l' ⟨w7.heap.size, 0, none⟩ rfl HH7.out rfl HC7.out rfl (HO7.out.mono hw6) (fun i hi z hz e => by have h1 := (HLE.out i hi z hz).2; have h2 := (HO7.out.lt z e).1; omega) hH9 B7.out.size ?_; intro v8 w8 hO8 hG8))
              go_roundw
              case rel =>
                refine ⟨k + 1, D ++ p, vs ++ [.slice a7 l'.length c7], H ++ [l'], by omega, by go_num, ⟨own_rowkept HH7.out.row hG8 D7.out, hO8, fun i hi z hz e => ?_, below_row B7.out hG8 (fun z e => (HH7.out.lt z e).1)⟩, by rw [HF.out]; exact ON.out, seg_far A7.out hG8 (fun A e e2 => by cases e; have h1 : w.heap.size ≤ b3 := (HH7.out.lt _ e2).1; have h2 : b3 < w.heap.size := HB9.out; omega)⟩
                rw [List.length_append] at hi
                simp only [List.length_cons, List.length_nil] at hi
                rw [va_snoc i (by rw [hlv]; omega), hlv] at hz
                split at hz
                · have h1 := (O6.out.lt z e).2
                  have h2 := (HO7.out.lt z hz).1
                  omega
                · exact near_far hN6 (NE.out i (by omega) z hz) (HL0.out i (by omega) z hz).2 e
              case measure => simp [intOf]; omega
        · rw [hal] at CA
          have HCD := hid (show at_ l k ∈ D by rw [← HC.out]; simpa using hal)
          clear hal
          go_wp2_with fail
          refine CA.out.mono ?_
          rintro e w2 ⟨rfl, b2⟩
          go_wp2_with fail
          go_roundw
          case rel => exact ⟨k + 1, D, vs, H, by omega, by go_num, M2.out.below b2, HOS.out.skip HCD.out, A2.out.below b2⟩
          case measure => simp [intOf]; omega
      · have hke : k = l.length := by omega
        subst hke
        have HO := hid hx.out.1.out
        have HB := hid hx.out.1.bel
        have HD := hid hx.out.2.1.done
        go_wp2_with fail
        go_ret2
        rw [HV.out, ← HD.out]
        first | exact ⟨_, vs, rfl, HO.out, HB.out⟩ | exact ⟨_, rfl, ⟨vs, HO.out⟩, HB.out⟩
theorem lpL_each (l : List Cl) {i : Nat} (hi : i < (lpL l).length) : (ht (lpL l) i).length ≤ 120 := lpL_mem (ht_in hi)
end Go.Proofs.Ytgfdkolhldbehaa
