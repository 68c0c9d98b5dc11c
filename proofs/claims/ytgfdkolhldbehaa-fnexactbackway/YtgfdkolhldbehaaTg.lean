/- Turnings: rows of functions and how many times each is done; one cell turned, of both sides. -/
import Derived.Test.YtgfdkolhldbehaaTurnP
import Derived.Test.YtgfdkolhldbehaaClsP
import Derived.Test.YtgfdkolhldbehaaWd
import Derived.Test.YtgfdkolhldbehaaApp
import Derived.Test.YtgfdkolhldbehaaInts
import Derived.Test.YtgfdkolhldbehaaBoxS
namespace Go.Proofs.Ytgfdkolhldbehaa
open Go.RowKit
set_option linter.unusedVariables false
set_option linter.unusedSimpArgs false

/-- What becomes of a cell: mirrored, turned by a quarter, or counted from the middle of a square (whose side lies in a box). -/
inductive Kd where
  | mir : Kd
  | qtr : Kd
  | mid : Nat → Nat → Kd
/-- A turning: what becomes of a cell, and how many times. -/
abbrev Tn := Kd × Nat
def tnV : Kd → Value
  | .mir => .func (.func 131) #[] #[]
  | .qtr => .func (.func 132) #[] #[]
  | .mid p _ => .func (.func 137) #[] #[.pointer (some ⟨p, 0, none⟩)]
def tnF : Kd → Cl → Cl
  | .mir, c => mir c
  | .qtr, c => qt c
  | .mid _ s, c => midC s c
/-- The box that it reads is there. -/
def KdOk (w : World) : Kd → Prop
  | .mid p s => p < w.heap.size ∧ w.cell? ⟨p, 0, none⟩ = some (.int .i64 (s : Int)) ∧ s ≤ 3
  | _ => True
theorem KdOk.below {w w' : World} {k : Kd} (h : KdOk w k) (hb : Below w.heap.size w w') : KdOk w' k := by
  cases k with
  | mir => trivial
  | qtr => trivial
  | mid p s => exact ⟨Nat.lt_of_lt_of_le h.1 hb.size, (hb.cell (p := ⟨p, 0, none⟩) h.1).trans h.2.1, h.2.2⟩
def tnN (b : Kd) : Nat → Cl → Cl
  | 0, c => c
  | n + 1, c => tnN b n (tnF b c)
theorem tnN_succ (b : Kd) : ∀ (n : Nat) (c : Cl), tnN b (n + 1) c = tnF b (tnN b n c)
  | 0, c => rfl
  | n + 1, c => by rw [tnN, tnN_succ b n (tnF b c)]; rfl
def tnBy (T : List Tn) (c : Cl) : Cl := T.foldl (fun c t => tnN t.1 t.2 c) c
def ta (T : List Tn) (i : Nat) : Tn := T.getD i (.mir, 0)
theorem tnBy_succ {T : List Tn} {k : Nat} (h : k < T.length) (c : Cl) : tnBy (T.take (k + 1)) c = tnN (ta T k).1 (ta T k).2 (tnBy (T.take k) c) := by
  rw [tnBy, List.take_succ_eq_append_getElem h, List.foldl_append]
  simp [ta, h, tnBy]
/-- How far a cell may be, of whom this becomes. -/
def kdFar : Kd → Int → Int
  | .mid _ _, n => 2 * n + 2
  | _, n => n
theorem tnF_reach (b : Kd) (hb : ∀ p s, b = .mid p s → s ≤ 3) {c : Cl} {n : Int} (h : -n ≤ c.1 ∧ c.1 ≤ n ∧ -n ≤ c.2 ∧ c.2 ≤ n) : -kdFar b n ≤ (tnF b c).1 ∧ (tnF b c).1 ≤ kdFar b n ∧ -kdFar b n ≤ (tnF b c).2 ∧ (tnF b c).2 ≤ kdFar b n := by
  cases b with
  | mir => simp only [tnF, mir, kdFar]; omega
  | qtr => simp only [tnF, qt, kdFar]; omega
  | mid p s => have := hb p s rfl; simp only [tnF, midC, kdFar]; omega
/-- The turnings of ways. -/
def tnW (ws : List Nat) : List Tn := ws.flatMap fun w => [(Kd.mir, w / 4), (Kd.qtr, w % 4)]
theorem tnW_len (ws : List Nat) : (tnW ws).length = ws.length * 2 := by
  induction ws with
  | nil => rfl
  | cons w r ih => simp only [tnW, List.flatMap_cons, List.length_append, List.length_cons, List.length_nil] at *; omega
theorem tnN_quarter : ∀ (n : Nat) (c : Cl), tnN .qtr n c = qts n c
  | 0, c => rfl
  | n + 1, c => by rw [tnN, qts, tnN_quarter n]; rfl
theorem tnBy_way {w : Nat} (hw : w < 8) (c : Cl) : tnBy [(Kd.mir, w / 4), (Kd.qtr, w % 4)] c = trn w c := by
  show tnN .qtr (w % 4) (tnN .mir (w / 4) c) = _
  rw [tnN_quarter, trn]
  congr 1
  by_cases h : 3 < w
  · rw [if_pos h, show w / 4 = 1 by omega]; rfl
  · rw [if_neg h, show w / 4 = 0 by omega]; rfl
theorem tnBy_cons {w : Nat} (hw : w < 8) (ws : List Nat) (c : Cl) : tnBy (tnW (w :: ws)) c = tnBy (tnW ws) (trn w c) := by
  rw [← tnBy_way hw c]; rfl

/-- The turnings lie in memory. -/
def TSeg (w : World) (a : Option Addr) (T : List Tn) : Prop :=
  ∀ i, i < T.length → ∃ b o, a = some ⟨b, o, none⟩ ∧ b < w.heap.size ∧ w.cell? ⟨b, o + i * 2, none⟩ = some (tnV (ta T i).1) ∧ w.cell? ⟨b, o + i * 2 + 1, none⟩ = some (.int .i64 (((ta T i).2 : Nat) : Int)) ∧ KdOk w (ta T i).1
theorem TSeg.below {w w' : World} {a : Option Addr} {T : List Tn} (h : TSeg w a T) (hb : Below w.heap.size w w') : TSeg w' a T := by
  intro i hi
  obtain ⟨b, o, e, hlt, p1, p2, p3⟩ := h i hi
  exact ⟨b, o, e, by have := hb.size; omega, (hb.cell (p := ⟨b, o + i * 2, none⟩) hlt).trans p1, (hb.cell (p := ⟨b, o + i * 2 + 1, none⟩) hlt).trans p2, p3.below hb⟩
def flT (T : List Tn) : List Value := T.flatMap fun t => [tnV t.1, .int .i64 ((t.2 : Nat) : Int)]
theorem flT_length (T : List Tn) : (flT T).length = T.length * 2 := by
  induction T with
  | nil => rfl
  | cons c r ih => simp only [flT, List.flatMap_cons, List.length_append, List.length_cons, List.length_nil] at *; omega
theorem flT_append (l m : List Tn) : flT (l ++ m) = flT l ++ flT m := by simp [flT]
theorem flT_cons (c : Tn) (l : List Tn) : flT (c :: l) = tnV c.1 :: .int .i64 ((c.2 : Nat) : Int) :: flT l := by simp [flT]
theorem flT_even : ∀ {l : List Tn} {i : Nat}, i < l.length → (flT l)[i * 2]? = some (tnV (ta l i).1)
  | [], i, h => by simp at h
  | c :: r, 0, h => by rw [flT_cons]; simp [ta]
  | c :: r, i + 1, h => by
    rw [flT_cons, show (i + 1) * 2 = i * 2 + 1 + 1 by omega, List.getElem?_cons_succ, List.getElem?_cons_succ, flT_even (by simpa using h)]
    simp [ta]
theorem flT_odd : ∀ {l : List Tn} {i : Nat}, i < l.length → (flT l)[i * 2 + 1]? = some (.int .i64 (((ta l i).2 : Nat) : Int))
  | [], i, h => by simp at h
  | c :: r, 0, h => by rw [flT_cons]; simp [ta]
  | c :: r, i + 1, h => by
    rw [flT_cons, show (i + 1) * 2 + 1 = i * 2 + 1 + 1 + 1 by omega, List.getElem?_cons_succ, List.getElem?_cons_succ, flT_odd (by simpa using h)]
    simp [ta]
theorem flT_one (T : List Tn) : ∀ u ∈ flT T, u.oneCell' = true := by
  intro u hu
  simp only [flT, List.mem_flatMap, List.mem_cons, List.not_mem_nil, or_false] at hu
  obtain ⟨⟨b, n⟩, _, rfl | rfl⟩ := hu
  · cases b <;> rfl
  · rfl
def OwnT (w : World) (base : Nat) (v : Value) (T : List Tn) : Prop := w.ownsRow base 119 2 v T.length (flT T)
theorem OwnT.nil (w : World) (base : Nat) : OwnT w base (.slice none 0 0) [] := World.ownsRow_nil w base 119 2
theorem OwnT.form {w : World} {base : Nat} {v : Value} {T : List Tn} (h : OwnT w base v T) (hk : ∀ i, i < T.length → KdOk w (ta T i).1) : ∃ a cap, v = .slice a T.length cap ∧ TSeg w a T := by
  have h0 := h
  rcases h.2 with ⟨rfl, hn⟩ | ⟨g, cap, cur, rfl, hb, hg, hcap, hm, hs, ht⟩
  · exact ⟨none, 0, by rw [hn], fun i hi => by omega⟩
  · refine ⟨some ⟨g, 0, none⟩, cap, rfl, fun i hi => ⟨g, 0, rfl, (Array.getElem?_eq_some_iff.1 hg).1, ?_, ?_, hk i hi⟩⟩
    · have := World.ownsRow.cellAt h0 (i * 2) (by omega)
      rw [flT_even hi] at this
      rw [Nat.zero_add]
      exact this
    · have := World.ownsRow.cellAt h0 (i * 2 + 1) (by omega)
      rw [flT_odd hi] at this
      rw [Nat.zero_add]
      exact this
theorem OwnT.below {w w' : World} {base : Nat} {v : Value} {T : List Tn} (h : OwnT w base v T) (hb : Below w.heap.size w w') : OwnT w' base v T :=
  World.ownsRow.kept h (grown_of_below hb none) (by cases v.ownBlock <;> simp)
theorem OwnT.lt {w : World} {base : Nat} {v : Value} {T : List Tn} (h : OwnT w base v T) : ∀ k, v.ownBlock = some k → base ≤ k ∧ k < w.heap.size := World.ownsRow.lt h
theorem tseg_news {w : World} {ad : Addr} {m : List Tn} (h : TSeg w (some ad) m) : ∀ j u, (flT m)[j]? = some u → w.cell? (ad.add j) = some u := by
  intro j u hu
  have hj : j < m.length * 2 := by rw [← flT_length]; exact (List.getElem?_eq_some_iff.1 hu).1
  have hi : j / 2 < m.length := by omega
  obtain ⟨b, o, e, hb, h0, h1, _⟩ := h (j / 2) hi
  simp only [Option.some.injEq] at e
  subst e
  have hadd : (⟨b, o, none⟩ : Addr).add j = ⟨b, o + j, none⟩ := by unfold Addr.add; split <;> simp_all
  rw [hadd]
  rcases (show j = j / 2 * 2 ∨ j = j / 2 * 2 + 1 by omega) with e | e
  · rw [e, flT_even hi] at hu
    rw [e, h0, ← hu]
  · rw [e, flT_odd hi] at hu
    rw [e, show o + (j / 2 * 2 + 1) = o + j / 2 * 2 + 1 by omega, h1, ← hu]
theorem info_turning : (Try.prog.info? 119).map (fun i => (i.zero, i.size, i.bytes)) = some (some (.agg #[.nilFunc, .int .i64 0]), 2, 16) := by kernel_rfl
theorem wpList_appTg {w : World} {ops : Array Oper} {rest : List Oper} {o : Oper} {a : Act} {Q : Exit → Act → World → Prop} (hgd : o.guard = none) (s x : Operand)
    (ho : o.op = .call { callee := .builtin .append, args := #[s, x], argTypes := #[99, 99] })
    (base : Nat) (v : Value) (l m : List Tn) (ad : Addr) (n k : Nat) (hs : a.eval s = v) (hown : OwnT w base v l) (hx : a.eval x = .slice (some ad) n k) (hn : m.length = n) (hseg : TSeg w (some ad) m) (hlen : l.length + m.length ≤ 4194304) (hbase : base ≤ w.heap.size)
    (h : ∀ v' w', OwnT w' base v' (l ++ m) → w.grownBy w' v.ownBlock → wpList Try.prog ops Q rest (a.put o.dst v') w') : wpList Try.prog ops Q (o :: rest) a w := by
  subst hn
  obtain ⟨i, hi, hz, hsz, hb⟩ := info_parts info_turning
  refine wpList_append_own w hgd s x 99 ho base 119 i _ 2 16 Try.underlying99 hi hz hsz hb rfl (by omega) v l.length (flT l) hs hown ad m.length k (flT m) hx (flT_length m) (tseg_news hseg) (flT_one m)
    (by unfold maxLen; omega) (by omega) hbase ?_
  intro v' w' h1 h2 _
  refine h v' w' ?_ h2
  unfold OwnT
  rw [flT_append, List.length_append]
  exact h1
theorem below_grownT {w W W' : World} {v : Value} {l : List Tn} (hB : Below w.heap.size w W) (hown : OwnT W w.heap.size v l) (hg : W.grownBy W' v.ownBlock) : Below w.heap.size w W' :=
  hB.grown hg hB.size fun k hk => (hown.lt k hk).1

set_option maxHeartbeats 400000 in
theorem c_quarterTurned (c : Cl) (w : World) (hc : -1000 ≤ c.1 ∧ c.1 ≤ 1000 ∧ -1000 ≤ c.2 ∧ c.2 ≤ 1000) :
    Calls Try.prog 132 #[.agg #[.int .i64 c.1, .int .i64 c.2]] w fun e w' => e = .returned (.agg #[.int .i64 (qt c).1, .int .i64 (qt c).2]) ∧ Below w.heap.size w w' := by
  obtain ⟨x, y⟩ := c
  obtain ⟨h1, h2, h3, h4⟩ := hc
  dsimp only [qt] at *
  have z0 := cell_new0 (w.alloc (.cells #[.int .i64 x, .int .i64 y] 36)) (.int .i64 (-y)) (.int .i64 x) 36
  have z1 := cell_new1 (w.alloc (.cells #[.int .i64 x, .int .i64 y] 36)) (.int .i64 (-y)) (.int .i64 x) 36
  simp only [World.size_alloc] at z0 z1
  go_enter Try.func132, Try.ntmps132
  go_wp2
  refine bodyPost_ret (v := .agg #[.int .i64 (-y), .int .i64 x]) (by simp [results, Try.results132, go_sem, z0, z1]) rfl ⟨rfl, ?_⟩
  exact ((Below.refl _ _).alloc (Nat.le_refl _) _).alloc (by simp) _
set_option maxHeartbeats 400000 in
theorem c_mirrored (c : Cl) (w : World) (hc : -1000 ≤ c.1 ∧ c.1 ≤ 1000 ∧ -1000 ≤ c.2 ∧ c.2 ≤ 1000) :
    Calls Try.prog 131 #[.agg #[.int .i64 c.1, .int .i64 c.2]] w fun e w' => e = .returned (.agg #[.int .i64 (mir c).1, .int .i64 (mir c).2]) ∧ Below w.heap.size w w' := by
  obtain ⟨x, y⟩ := c
  obtain ⟨h1, h2, h3, h4⟩ := hc
  dsimp only [mir] at *
  have z0 := cell_new0 (w.alloc (.cells #[.int .i64 x, .int .i64 y] 36)) (.int .i64 (-x)) (.int .i64 y) 36
  have z1 := cell_new1 (w.alloc (.cells #[.int .i64 x, .int .i64 y] 36)) (.int .i64 (-x)) (.int .i64 y) 36
  simp only [World.size_alloc] at z0 z1
  go_enter Try.func131, Try.ntmps131
  go_wp2
  refine bodyPost_ret (v := .agg #[.int .i64 (-x), .int .i64 y]) (by simp [results, Try.results131, go_sem, z0, z1]) rfl ⟨rfl, ?_⟩
  exact ((Below.refl _ _).alloc (Nat.le_refl _) _).alloc (by simp) _
end Go.Proofs.Ytgfdkolhldbehaa
