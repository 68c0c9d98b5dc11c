/- Texts of this seat, one behind the other: Tg, TuB, TgO, TuA, TurnF. -/
import Derived.Test.YtgfdkolhldbehaaLf
import Derived.Test.YtgfdkolhldbehaaLg
import Derived.Test.YtgfdkolhldbehaaLa
import Derived.Test.YtgfdkolhldbehaaBoxS
import Derived.Laws.EntriesVeiled
import Derived.Test.YtgfdkolhldbehaaLc
import Derived.Test.YtgfdkolhldbehaaLb
namespace Go.Proofs.Ytgfdkolhldbehaa
open Go.RowKit
set_option linter.unusedVariables false
set_option linter.unusedSimpArgs false

/-- What becomes of a cell: mirrored, turned by a quarter, or counted from the middle of a square (whose side lies in a box). -/
inductive Kd where
  | mir : Kd
  | qtr : Kd
  | mid : Nat → Nat → Kd
/-- A turning: what becomes of a cell, and how many times. -/
abbrev Tn := Kd × Nat
def tnV : Kd → Value
  | .mir => .func (.func 131) #[] #[]
  | .qtr => .func (.func 132) #[] #[]
  | .mid p _ => .func (.func 137) #[] #[.pointer (some ⟨p, 0, none⟩)]
def tnF : Kd → Cl → Cl
  | .mir, c => mir c
  | .qtr, c => qt c
  | .mid _ s, c => midC s c
/-- The box that it reads is there. -/
def KdOk (w : World) : Kd → Prop
  | .mid p s => p < w.heap.size ∧ w.cell? ⟨p, 0, none⟩ = some (.int .i64 (s : Int)) ∧ s ≤ 3
  | _ => True
theorem KdOk.below {w w' : World} {k : Kd} (h : KdOk w k) (hb : Below w.heap.size w w') : KdOk w' k := by
  cases k with
  | mir => trivial
  | qtr => trivial
  | mid p s => exact ⟨Nat.lt_of_lt_of_le h.1 hb.size, (hb.cell (p := ⟨p, 0, none⟩) h.1).trans h.2.1, h.2.2⟩
def tnN (b : Kd) : Nat → Cl → Cl
  | 0, c => c
  | n + 1, c => tnN b n (tnF b c)
theorem tnN_succ (b : Kd) : ∀ (n : Nat) (c : Cl), tnN b (n + 1) c = tnF b (tnN b n c)
  | 0, c => rfl
  | n + 1, c => by rw [tnN, tnN_succ b n (tnF b c)]; rfl
def tnBy (T : List Tn) (c : Cl) : Cl := T.foldl (fun c t => tnN t.1 t.2 c) c
def ta (T : List Tn) (i : Nat) : Tn := T.getD i (.mir, 0)
theorem tnBy_succ {T : List Tn} {k : Nat} (h : k < T.length) (c : Cl) : tnBy (T.take (k + 1)) c = tnN (ta T k).1 (ta T k).2 (tnBy (T.take k) c) := by
  rw [tnBy, List.take_succ_eq_append_getElem h, List.foldl_append]
  simp [ta, h, tnBy]
/-- How far a cell may be, of whom this becomes. -/
def kdFar : Kd → Int → Int
  | .mid _ _, n => 2 * n + 2
  | _, n => n
theorem tnF_reach (b : Kd) (hb : ∀ p s, b = .mid p s → s ≤ 3) {c : Cl} {n : Int} (h : -n ≤ c.1 ∧ c.1 ≤ n ∧ -n ≤ c.2 ∧ c.2 ≤ n) : -kdFar b n ≤ (tnF b c).1 ∧ (tnF b c).1 ≤ kdFar b n ∧ -kdFar b n ≤ (tnF b c).2 ∧ (tnF b c).2 ≤ kdFar b n := by
  cases b with
  | mir => simp only [tnF, mir, kdFar]; omega
  | qtr => simp only [tnF, qt, kdFar]; omega
  | mid p s => have := hb p s rfl; simp only [tnF, midC, kdFar]; omega
/-- The turnings of ways. -/
def tnW (ws : List Nat) : List Tn := ws.flatMap fun w => [(Kd.mir, w / 4), (Kd.qtr, w % 4)]
theorem tnW_len (ws : List Nat) : (tnW ws).length = ws.length * 2 := by
  induction ws with
  | nil => rfl
  | cons w r ih => simp only [tnW, List.flatMap_cons, List.length_append, List.length_cons, List.length_nil] at *; omega
theorem tnN_quarter : ∀ (n : Nat) (c : Cl), tnN .qtr n c = qts n c
  | 0, c => rfl
  | n + 1, c => by rw [tnN, qts, tnN_quarter n]; rfl
theorem tnBy_way {w : Nat} (hw : w < 8) (c : Cl) : tnBy [(Kd.mir, w / 4), (Kd.qtr, w % 4)] c = trn w c := by
  show tnN .qtr (w % 4) (tnN .mir (w / 4) c) = _
  rw [tnN_quarter, trn]
  congr 1
  by_cases h : 3 < w
  · rw [if_pos h, show w / 4 = 1 by omega]; rfl
  · rw [if_neg h, show w / 4 = 0 by omega]; rfl
theorem tnBy_cons {w : Nat} (hw : w < 8) (ws : List Nat) (c : Cl) : tnBy (tnW (w :: ws)) c = tnBy (tnW ws) (trn w c) := by
  rw [← tnBy_way hw c]; rfl

/-- The turnings lie in memory. -/
def TSeg (w : World) (a : Option Addr) (T : List Tn) : Prop :=
  ∀ i, i < T.length → ∃ b o, a = some ⟨b, o, none⟩ ∧ b < w.heap.size ∧ w.cell? ⟨b, o + i * 2, none⟩ = some (tnV (ta T i).1) ∧ w.cell? ⟨b, o + i * 2 + 1, none⟩ = some (.int .i64 (((ta T i).2 : Nat) : Int)) ∧ KdOk w (ta T i).1
theorem TSeg.below {w w' : World} {a : Option Addr} {T : List Tn} (h : TSeg w a T) (hb : Below w.heap.size w w') : TSeg w' a T := by
  intro i hi
  obtain ⟨b, o, e, hlt, p1, p2, p3⟩ := h i hi
  exact ⟨b, o, e, by have := hb.size; omega, (hb.cell (p := ⟨b, o + i * 2, none⟩) hlt).trans p1, (hb.cell (p := ⟨b, o + i * 2 + 1, none⟩) hlt).trans p2, p3.below hb⟩
def flT (T : List Tn) : List Value := T.flatMap fun t => [tnV t.1, .int .i64 ((t.2 : Nat) : Int)]
theorem flT_length (T : List Tn) : (flT T).length = T.length * 2 := by
  induction T with
  | nil => rfl
  | cons c r ih => simp only [flT, List.flatMap_cons, List.length_append, List.length_cons, List.length_nil] at *; omega
theorem flT_append (l m : List Tn) : flT (l ++ m) = flT l ++ flT m := by simp [flT]
theorem flT_cons (c : Tn) (l : List Tn) : flT (c :: l) = tnV c.1 :: .int .i64 ((c.2 : Nat) : Int) :: flT l := by simp [flT]
theorem flT_even : ∀ {l : List Tn} {i : Nat}, i < l.length → (flT l)[i * 2]? = some (tnV (ta l i).1)
  | [], i, h => by simp at h
  | c :: r, 0, h => by rw [flT_cons]; simp [ta]
  | c :: r, i + 1, h => by
    rw [flT_cons, show (i + 1) * 2 = i * 2 + 1 + 1 by omega, List.getElem?_cons_succ, List.getElem?_cons_succ, flT_even (by simpa using h)]
    simp [ta]
theorem flT_odd : ∀ {l : List Tn} {i : Nat}, i < l.length → (flT l)[i * 2 + 1]? = some (.int .i64 (((ta l i).2 : Nat) : Int))
  | [], i, h => by simp at h
  | c :: r, 0, h => by rw [flT_cons]; simp [ta]
  | c :: r, i + 1, h => by
    rw [flT_cons, show (i + 1) * 2 + 1 = i * 2 + 1 + 1 + 1 by omega, List.getElem?_cons_succ, List.getElem?_cons_succ, flT_odd (by simpa using h)]
    simp [ta]
theorem flT_one (T : List Tn) : ∀ u ∈ flT T, u.oneCell' = true := by
  intro u hu
  simp only [flT, List.mem_flatMap, List.mem_cons, List.not_mem_nil, or_false] at hu
  obtain ⟨⟨b, n⟩, _, rfl | rfl⟩ := hu
  · cases b <;> rfl
  · rfl
def OwnT (w : World) (base : Nat) (v : Value) (T : List Tn) : Prop := w.ownsRow base 119 2 v T.length (flT T)
theorem OwnT.nil (w : World) (base : Nat) : OwnT w base (.slice none 0 0) [] := World.ownsRow_nil w base 119 2
theorem OwnT.form {w : World} {base : Nat} {v : Value} {T : List Tn} (h : OwnT w base v T) (hk : ∀ i, i < T.length → KdOk w (ta T i).1) : ∃ a cap, v = .slice a T.length cap ∧ TSeg w a T := by
  have h0 := h
  rcases h.2 with ⟨rfl, hn⟩ | ⟨g, cap, cur, rfl, hb, hg, hcap, hm, hs, ht⟩
  · exact ⟨none, 0, by rw [hn], fun i hi => by omega⟩
  · refine ⟨some ⟨g, 0, none⟩, cap, rfl, fun i hi => ⟨g, 0, rfl, (Array.getElem?_eq_some_iff.1 hg).1, ?_, ?_, hk i hi⟩⟩
    · have := World.ownsRow.cellAt h0 (i * 2) (by omega)
      rw [flT_even hi] at this
      rw [Nat.zero_add]
      exact this
    · have := World.ownsRow.cellAt h0 (i * 2 + 1) (by omega)
      rw [flT_odd hi] at this
      rw [Nat.zero_add]
      exact this
theorem OwnT.below {w w' : World} {base : Nat} {v : Value} {T : List Tn} (h : OwnT w base v T) (hb : Below w.heap.size w w') : OwnT w' base v T :=
  World.ownsRow.kept h (grown_of_below hb none) (by cases v.ownBlock <;> simp)
theorem OwnT.lt {w : World} {base : Nat} {v : Value} {T : List Tn} (h : OwnT w base v T) : ∀ k, v.ownBlock = some k → base ≤ k ∧ k < w.heap.size := World.ownsRow.lt h
theorem tseg_news {w : World} {ad : Addr} {m : List Tn} (h : TSeg w (some ad) m) : ∀ j u, (flT m)[j]? = some u → w.cell? (ad.add j) = some u := by
  intro j u hu
  have hj : j < m.length * 2 := by rw [← flT_length]; exact (List.getElem?_eq_some_iff.1 hu).1
  have hi : j / 2 < m.length := by omega
  obtain ⟨b, o, e, hb, h0, h1, _⟩ := h (j / 2) hi
  simp only [Option.some.injEq] at e
  subst e
  have hadd : (⟨b, o, none⟩ : Addr).add j = ⟨b, o + j, none⟩ := by unfold Addr.add; split <;> simp_all
  rw [hadd]
  rcases (show j = j / 2 * 2 ∨ j = j / 2 * 2 + 1 by omega) with e | e
  · rw [e, flT_even hi] at hu
    rw [e, h0, ← hu]
  · rw [e, flT_odd hi] at hu
    rw [e, show o + (j / 2 * 2 + 1) = o + j / 2 * 2 + 1 by omega, h1, ← hu]
theorem info_turning : (Try.prog.info? 119).map (fun i => (i.zero, i.size, i.bytes)) = some (some (.agg #[.nilFunc, .int .i64 0]), 2, 16) := by kernel_rfl
theorem wpList_appTg {w : World} {ops : Array Oper} {rest : List Oper} {o : Oper} {a : Act} {Q : Exit → Act → World → Prop} (hgd : o.guard = none) (s x : Operand)
    (ho : o.op = .call { callee := .builtin .append, args := #[s, x], argTypes := #[99, 99] })
    (base : Nat) (v : Value) (l m : List Tn) (ad : Addr) (n k : Nat) (hs : a.eval s = v) (hown : OwnT w base v l) (hx : a.eval x = .slice (some ad) n k) (hn : m.length = n) (hseg : TSeg w (some ad) m) (hlen : l.length + m.length ≤ 4194304) (hbase : base ≤ w.heap.size)
    (h : ∀ v' w', OwnT w' base v' (l ++ m) → w.grownBy w' v.ownBlock → wpList Try.prog ops Q rest (a.put o.dst v') w') : wpList Try.prog ops Q (o :: rest) a w := by
  subst hn
  obtain ⟨i, hi, hz, hsz, hb⟩ := info_parts info_turning
  refine wpList_append_own w hgd s x 99 ho base 119 i _ 2 16 Try.underlying99 hi hz hsz hb rfl (by omega) v l.length (flT l) hs hown ad m.length k (flT m) hx (flT_length m) (tseg_news hseg) (flT_one m)
    (by unfold maxLen; omega) (by omega) hbase ?_
  intro v' w' h1 h2 _
  refine h v' w' ?_ h2
  unfold OwnT
  rw [flT_append, List.length_append]
  exact h1
theorem below_grownT {w W W' : World} {v : Value} {l : List Tn} (hB : Below w.heap.size w W) (hown : OwnT W w.heap.size v l) (hg : W.grownBy W' v.ownBlock) : Below w.heap.size w W' :=
  hB.grown hg hB.size fun k hk => (hown.lt k hk).1

set_option maxHeartbeats 400000 in
theorem c_quarterTurned (c : Cl) (w : World) (hc : -1000 ≤ c.1 ∧ c.1 ≤ 1000 ∧ -1000 ≤ c.2 ∧ c.2 ≤ 1000) :
    Calls Try.prog 132 #[.agg #[.int .i64 c.1, .int .i64 c.2]] w fun e w' => e = .returned (.agg #[.int .i64 (qt c).1, .int .i64 (qt c).2]) ∧ Below w.heap.size w w' := by
  obtain ⟨x, y⟩ := c
  obtain ⟨h1, h2, h3, h4⟩ := hc
  dsimp only [qt] at *
  have z0 := cell_new0 (w.alloc (.cells #[.int .i64 x, .int .i64 y] 36)) (.int .i64 (-y)) (.int .i64 x) 36
  have z1 := cell_new1 (w.alloc (.cells #[.int .i64 x, .int .i64 y] 36)) (.int .i64 (-y)) (.int .i64 x) 36
  simp only [World.size_alloc] at z0 z1
  go_enter Try.func132, Try.ntmps132
  go_wp2
  refine bodyPost_ret (v := .agg #[.int .i64 (-y), .int .i64 x]) (by simp [results, Try.results132, go_sem, z0, z1]) rfl ⟨rfl, ?_⟩
  exact ((Below.refl _ _).alloc (Nat.le_refl _) _).alloc (by simp) _
set_option maxHeartbeats 400000 in
theorem c_mirrored (c : Cl) (w : World) (hc : -1000 ≤ c.1 ∧ c.1 ≤ 1000 ∧ -1000 ≤ c.2 ∧ c.2 ≤ 1000) :
    Calls Try.prog 131 #[.agg #[.int .i64 c.1, .int .i64 c.2]] w fun e w' => e = .returned (.agg #[.int .i64 (mir c).1, .int .i64 (mir c).2]) ∧ Below w.heap.size w w' := by
  obtain ⟨x, y⟩ := c
  obtain ⟨h1, h2, h3, h4⟩ := hc
  dsimp only [mir] at *
  have z0 := cell_new0 (w.alloc (.cells #[.int .i64 x, .int .i64 y] 36)) (.int .i64 (-x)) (.int .i64 y) 36
  have z1 := cell_new1 (w.alloc (.cells #[.int .i64 x, .int .i64 y] 36)) (.int .i64 (-x)) (.int .i64 y) 36
  simp only [World.size_alloc] at z0 z1
  go_enter Try.func131, Try.ntmps131
  go_wp2
  refine bodyPost_ret (v := .agg #[.int .i64 (-x), .int .i64 y]) (by simp [results, Try.results131, go_sem, z0, z1]) rfl ⟨rfl, ?_⟩
  exact ((Below.refl _ _).alloc (Nat.le_refl _) _).alloc (by simp) _
end Go.Proofs.Ytgfdkolhldbehaa

namespace Go.Proofs.Ytgfdkolhldbehaa
open Go.RowKit
set_option linter.unusedVariables false
set_option linter.unusedSimpArgs false

def bdC (c : Cl) : Prop := -1000 ≤ c.1 ∧ c.1 ≤ 1000 ∧ -1000 ≤ c.2 ∧ c.2 ≤ 1000
set_option maxHeartbeats 400000 in
theorem c_fromMid (p s : Nat) (c : Cl) (w : World) (hk : KdOk w (.mid p s)) (hc : bdC c) :
    Calls Try.prog 137 #[.agg #[.int .i64 c.1, .int .i64 c.2], .pointer (some ⟨p, 0, none⟩)] w fun e w' => e = .returned (.agg #[.int .i64 (midC s c).1, .int .i64 (midC s c).2]) ∧ Below w.heap.size w w' := by
  obtain ⟨x, y⟩ := c
  obtain ⟨h1, h2, h3, h4⟩ := hc
  obtain ⟨k1, k2, k3⟩ := hk
  have g1 := cell_old w (.cells #[.int .i64 x, .int .i64 y] 36) k2 k1
  have g2 := cell_old (w.alloc (.cells #[.int .i64 x, .int .i64 y] 36)) (.cells #[.int .i64 0, .int .i64 0] 36) g1 (by simp; omega)
  dsimp only [midC] at *
  obtain ⟨d, hd⟩ : ∃ d : Int, d = (s : Int) - 1 := ⟨_, rfl⟩
  rw [← hd]
  have hd2 : (s : Int) - 1 = d := hd.symm
  have hdr : -1 ≤ d ∧ d ≤ 2 := by omega
  clear hd k2 g1
  have P1 := hid ((WRow.new w (.int .i64 x) y 36).below ((Below.refl _ _).alloc (Nat.le_refl _) (.cells #[.int .i64 0, .int .i64 0] 36)))
  have P2 := hid (WRow.new (w.alloc (.cells #[.int .i64 x, .int .i64 y] 36)) (.int .i64 0) 0 36)
  have hz1 : (w.alloc (.cells #[.int .i64 x, .int .i64 y] 36)).heap.size = w.heap.size + 1 := by simp
  rw [hz1] at P2
  have RZ := hid (P2.out.put (.int .i64 (2 * x - d)) (2 * y - d))
  have z0 := RZ.out.c0
  have z1 := RZ.out.c1
  have x0 := P1.out.c0
  have x1 := P1.out.c1
  have f0 := P2.out.fr 0
  have f1 := P2.out.fr 1
  have B2 := hid (((Below.refl w.heap.size w).alloc (Nat.le_refl _) (.cells #[.int .i64 x, .int .i64 y] 36)).alloc (by simp) (.cells #[.int .i64 0, .int .i64 0] 36))
  clear hz1
  go_enter Try.func137, Try.ntmps137
  go_wp2
  refine bodyPost_ret (v := .agg #[.int .i64 (2 * x - d), .int .i64 (2 * y - d)]) (by simp [results, Try.results137, go_sem, z0, z1]) rfl ⟨rfl, ?_⟩
  exact ((Below.refl w.heap.size w).alloc (Nat.le_refl _) _).alloc (by simp) _

/-- No box that a function reads is the block b. -/
def KdNe (b : Nat) : Kd → Prop
  | .mid p _ => p ≠ b
  | _ => True
theorem KdOk.set2 {w : World} {b : Nat} {k : Kd} (h : KdOk w k) (hne : KdNe b k) {u v : Value} : KdOk ((w.setCell ⟨b, 0, none⟩ u).setCell ⟨b, 1, none⟩ v) k := by
  cases k with
  | mir => trivial
  | qtr => trivial
  | mid p s =>
    obtain ⟨h1, h2, h3⟩ := h
    refine ⟨by simpa using h1, ?_, h3⟩
    have hne' : p ≠ b := hne
    rw [World.cell?_setCell_other _ _ _ _ (by simp [Ne.symm hne']), World.cell?_setCell_other _ _ _ _ (by simp [Ne.symm hne'])]
    exact h2
/-- All cells on the way are near. -/
def Nr (T : List Tn) (c : Cl) : Prop := ∀ k, k < T.length → ∀ j, j < (ta T k).2 → bdC (tnN (ta T k).1 j (tnBy (T.take k) c))
/-- One round of the inner loop: the function is called, and what it answers stored. -/
theorem tn_call (k : Kd) (c : Cl) (w : World) (hk : KdOk w k) (hc : bdC c) :
    match k with
    | .mir => Calls Try.prog 131 #[.agg #[.int .i64 c.1, .int .i64 c.2]] w fun e w' => e = .returned (.agg #[.int .i64 (tnF k c).1, .int .i64 (tnF k c).2]) ∧ Below w.heap.size w w'
    | .qtr => Calls Try.prog 132 #[.agg #[.int .i64 c.1, .int .i64 c.2]] w fun e w' => e = .returned (.agg #[.int .i64 (tnF k c).1, .int .i64 (tnF k c).2]) ∧ Below w.heap.size w w'
    | .mid p _ => Calls Try.prog 137 #[.agg #[.int .i64 c.1, .int .i64 c.2], .pointer (some ⟨p, 0, none⟩)] w fun e w' => e = .returned (.agg #[.int .i64 (tnF k c).1, .int .i64 (tnF k c).2]) ∧ Below w.heap.size w w' := by
  cases k with
  | mir => exact c_mirrored c w hc
  | qtr => exact c_quarterTurned c w hc
  | mid p s => exact c_fromMid p s c w hk hc

set_option maxRecDepth 100000 in
set_option maxHeartbeats 4000000 in
theorem c_turnedBy (a : Option Addr) (T : List Tn) (ca : Nat) (c : Cl) (w : World) (ha : TSeg w a T) (hl : T.length ≤ 1000) (hN : Nr T c) (ht : ∀ k, k < T.length → (ta T k).2 ≤ 1000) :
    Calls Try.prog 130 #[.agg #[.int .i64 c.1, .int .i64 c.2], .slice a T.length ca] w fun e w' => e = .returned (.agg #[.int .i64 (tnBy T c).1, .int .i64 (tnBy T c).2]) ∧ Below w.heap.size w w' := by
  have P0 := hid ((WRow.new w (.int .i64 c.1) c.2 36).below ((Below.refl _ _).alloc (Nat.le_refl _) (.cells #[.int .i64 0, .int .i64 0] 36)))
  have P1 := hid (WRow.new (w.alloc (.cells #[.int .i64 c.1, .int .i64 c.2] 36)) (.int .i64 0) 0 36)
  have hz1 : (w.alloc (.cells #[.int .i64 c.1, .int .i64 c.2] 36)).heap.size = w.heap.size + 1 := by simp
  rw [hz1] at P1
  have B2 := hid (((Below.refl w.heap.size w).alloc (Nat.le_refl _) (.cells #[.int .i64 c.1, .int .i64 c.2] 36)).alloc (by simp) (.cells #[.int .i64 0, .int .i64 0] 36))
  have HA := hid ha
  have HN := hid hN
  have HT := hid ht
  clear ha hN ht hz1
  go_enter Try.func130, Try.ntmps130
  go_wp2_with fail
  go_loopw [9] (fun i wr => ∃ k : Nat, k ≤ T.length ∧ i = .int .i64 k ∧ WRow wr w.heap.size (.int .i64 (tnBy (T.take k) c).1) (tnBy (T.take k) c).2 36 ∧ WRow wr (w.heap.size + 1) (.int .i64 0) 0 36 ∧ Below w.heap.size w wr) (fun i _ => T.length - (intOf i).toNat)
  case atStart => exact ⟨0, Nat.zero_le _, rfl, P0.out, P1.out, B2.out⟩
  case round =>
    clear P0 P1 B2
    obtain ⟨k, hk, rfl, hP, hQ, hB⟩ := hrel
    have HP := hid hP
    have HQ := hid hQ
    have HB := hid hB
    clear hP hQ hB
    by_cases hlt : k < T.length
    · obtain ⟨b, o, rfl, hb, g1, g2, hKd⟩ := HA.out k hlt
      replace g1 := (HB.out.cell (p := ⟨b, o + k * 2, none⟩) hb).trans g1
      replace g2 := (HB.out.cell (p := ⟨b, o + k * 2 + 1, none⟩) hb).trans g2
      have HK := hid (hKd.below HB.out)
      have HNk := hid (fun j hj => HN.out k hlt j hj)
      have hTk := HT.out k hlt
      have HS := hid (tnBy_succ hlt c)
      have hneK : KdNe w.heap.size (ta T k).1 := by
        cases hf : (ta T k).1 with
        | mir => trivial
        | qtr => trivial
        | mid p s => rw [hf] at hKd; exact Nat.ne_of_lt hKd.1
      clear hKd
      generalize tnBy (T.take k) c = c0 at *
      generalize hta : ta T k = t at *
      obtain ⟨f, n⟩ := t
      clear hta
      dsimp only at *
      have hne1 : ¬ wr.heap.size = w.heap.size := by have := World.rowIs.lt HP.out; omega
      have hne2 : ¬ w.heap.size = wr.heap.size := by omega
      have hne3 : ¬ w.heap.size + 1 = w.heap.size := by omega
      have hlw : w.heap.size < wr.heap.size := World.rowIs.lt HP.out
      have HCall := hid (fun (c' : Cl) (W : World) (h1 : KdOk W f) (h2 : bdC c') => tn_call f c' W h1 h2)
      --WAYS
      cases f with
      | mir =>
        dsimp only [tnV] at *
        have BA := (Below.refl wr.heap.size wr).alloc (Nat.le_refl _) (.cells #[.func (.func 131) #[] #[], .int .i64 (n : Int)] 119)
        have HPa := hid (HP.out.below BA)
        have HQa := hid (HQ.out.below BA)
        have HKa := hid (HK.out.below BA)
        have HBa := hid (HB.out.alloc HB.out.size (.cells #[.func (.func 131) #[] #[], .int .i64 (n : Int)] 119))
        have HEa := hid (WRow.new wr (.func (.func 131) #[] #[]) (n : Int) 119)
        clear BA
        go_wp2_with fail
        generalize wr.alloc (.cells #[.func (.func 131) #[] #[], .int .i64 (n : Int)] 119) = wa at *
        generalize hE : wr.heap.size = E at *
        clear hE
        go_loopw [15] (fun i wq => ∃ j : Nat, j ≤ n ∧ i = .int .i64 j ∧ WRow wq w.heap.size (.int .i64 (tnN (.mir) j c0).1) (tnN (.mir) j c0).2 36 ∧ WRow wq (w.heap.size + 1) (.int .i64 0) 0 36 ∧ WRow wq E (.func (.func 131) #[] #[]) (n : Int) 119 ∧ KdOk wq (.mir) ∧ Below w.heap.size w wq) (fun i _ => n - (intOf i).toNat)
        case atStart => exact ⟨0, Nat.zero_le _, rfl, HPa.out, HQa.out, HEa.out, HKa.out, HBa.out⟩
        case round =>
          clear HPa HQa HEa HKa HBa HP HQ HK HB
          obtain ⟨j, hj, rfl, hP, hQ, hE, hKk, hB⟩ := hrel
          have HP := hid hP
          have HQ := hid hQ
          have HE := hid hE
          have HK := hid hKk
          have HB := hid hB
          clear hP hQ hE hKk hB
          by_cases hlj : j < n
          · have HC := hid (HNk.out j hlj)
            have HT1 := hid (tnN_succ (.mir) j c0)
            generalize tnN (.mir) j c0 = c1 at *
            have x0 := HP.out.c0
            have x1 := HP.out.c1
            have y0 := HE.out.c0
            have y1 := HE.out.c1
            go_wp2_with fail
            refine (HCall.out c1 _ HK.out HC.out).mono ?_
            rintro e w5 ⟨rfl, b5⟩
            have HP5 := hid (HP.out.below b5)
            have HQ5 := hid (HQ.out.below b5)
            have HE5 := hid (HE.out.below b5)
            have HK5 := hid (HK.out.below b5)
            have HB5 := hid (HB.out.trans (b5.mono HB.out.size))
            clear b5 x0 x1 y0 y1
            have x0 := HP5.out.c0
            have x1 := HP5.out.c1
            have f0 := HP5.out.fr 0
            have f1 := HP5.out.fr 1
            generalize hc2 : tnF (.mir) c1 = c2 at *

            clear hc2
            go_wp2_with fail
            go_roundw
            case rel => exact ⟨j + 1, by omega, by go_num, by rw [HT1.out]; exact HP5.out.put _ _, (HQ5.out.other hne3 _).other hne3 _, (HE5.out.other hne1 _).other hne1 _, HK5.out.set2 hneK, (HB5.out.setCell (p := ⟨w.heap.size, 0, none⟩) (Nat.le_refl _) _).setCell (p := ⟨w.heap.size, 1, none⟩) (Nat.le_refl _) _⟩
            case measure => simp [intOf]; omega
          · obtain rfl : j = n := by omega
            have y1 := HE.out.c1
            go_wp2_with fail
            go_roundw
            case rel => exact ⟨k + 1, by omega, by go_num, by rw [HS.out]; exact HP.out, HQ.out, HB.out⟩
            case measure => simp [intOf]; omega
      | qtr =>
        dsimp only [tnV] at *
        have BA := (Below.refl wr.heap.size wr).alloc (Nat.le_refl _) (.cells #[.func (.func 132) #[] #[], .int .i64 (n : Int)] 119)
        have HPa := hid (HP.out.below BA)
        have HQa := hid (HQ.out.below BA)
        have HKa := hid (HK.out.below BA)
        have HBa := hid (HB.out.alloc HB.out.size (.cells #[.func (.func 132) #[] #[], .int .i64 (n : Int)] 119))
        have HEa := hid (WRow.new wr (.func (.func 132) #[] #[]) (n : Int) 119)
        clear BA
        go_wp2_with fail
        generalize wr.alloc (.cells #[.func (.func 132) #[] #[], .int .i64 (n : Int)] 119) = wa at *
        generalize hE : wr.heap.size = E at *
        clear hE
        go_loopw [15] (fun i wq => ∃ j : Nat, j ≤ n ∧ i = .int .i64 j ∧ WRow wq w.heap.size (.int .i64 (tnN (.qtr) j c0).1) (tnN (.qtr) j c0).2 36 ∧ WRow wq (w.heap.size + 1) (.int .i64 0) 0 36 ∧ WRow wq E (.func (.func 132) #[] #[]) (n : Int) 119 ∧ KdOk wq (.qtr) ∧ Below w.heap.size w wq) (fun i _ => n - (intOf i).toNat)
        case atStart => exact ⟨0, Nat.zero_le _, rfl, HPa.out, HQa.out, HEa.out, HKa.out, HBa.out⟩
        case round =>
          clear HPa HQa HEa HKa HBa HP HQ HK HB
          obtain ⟨j, hj, rfl, hP, hQ, hE, hKk, hB⟩ := hrel
          have HP := hid hP
          have HQ := hid hQ
          have HE := hid hE
          have HK := hid hKk
          have HB := hid hB
          clear hP hQ hE hKk hB
          by_cases hlj : j < n
          · have HC := hid (HNk.out j hlj)
            have HT1 := hid (tnN_succ (.qtr) j c0)
            generalize tnN (.qtr) j c0 = c1 at *
            have x0 := HP.out.c0
            have x1 := HP.out.c1
            have y0 := HE.out.c0
            have y1 := HE.out.c1
            go_wp2_with fail
            refine (HCall.out c1 _ HK.out HC.out).mono ?_
            rintro e w5 ⟨rfl, b5⟩
            have HP5 := hid (HP.out.below b5)
            have HQ5 := hid (HQ.out.below b5)
            have HE5 := hid (HE.out.below b5)
            have HK5 := hid (HK.out.below b5)
            have HB5 := hid (HB.out.trans (b5.mono HB.out.size))
            clear b5 x0 x1 y0 y1
            have x0 := HP5.out.c0
            have x1 := HP5.out.c1
            have f0 := HP5.out.fr 0
            have f1 := HP5.out.fr 1
            generalize hc2 : tnF (.qtr) c1 = c2 at *

            clear hc2
            go_wp2_with fail
            go_roundw
            case rel => exact ⟨j + 1, by omega, by go_num, by rw [HT1.out]; exact HP5.out.put _ _, (HQ5.out.other hne3 _).other hne3 _, (HE5.out.other hne1 _).other hne1 _, HK5.out.set2 hneK, (HB5.out.setCell (p := ⟨w.heap.size, 0, none⟩) (Nat.le_refl _) _).setCell (p := ⟨w.heap.size, 1, none⟩) (Nat.le_refl _) _⟩
            case measure => simp [intOf]; omega
          · obtain rfl : j = n := by omega
            have y1 := HE.out.c1
            go_wp2_with fail
            go_roundw
            case rel => exact ⟨k + 1, by omega, by go_num, by rw [HS.out]; exact HP.out, HQ.out, HB.out⟩
            case measure => simp [intOf]; omega
      | mid p s =>
        dsimp only [tnV] at *
        have BA := (Below.refl wr.heap.size wr).alloc (Nat.le_refl _) (.cells #[.func (.func 137) #[] #[.pointer (some ⟨p, 0, none⟩)], .int .i64 (n : Int)] 119)
        have HPa := hid (HP.out.below BA)
        have HQa := hid (HQ.out.below BA)
        have HKa := hid (HK.out.below BA)
        have HBa := hid (HB.out.alloc HB.out.size (.cells #[.func (.func 137) #[] #[.pointer (some ⟨p, 0, none⟩)], .int .i64 (n : Int)] 119))
        have HEa := hid (WRow.new wr (.func (.func 137) #[] #[.pointer (some ⟨p, 0, none⟩)]) (n : Int) 119)
        clear BA
        go_wp2_with fail
        generalize wr.alloc (.cells #[.func (.func 137) #[] #[.pointer (some ⟨p, 0, none⟩)], .int .i64 (n : Int)] 119) = wa at *
        generalize hE : wr.heap.size = E at *
        clear hE
        go_loopw [15] (fun i wq => ∃ j : Nat, j ≤ n ∧ i = .int .i64 j ∧ WRow wq w.heap.size (.int .i64 (tnN (.mid p s) j c0).1) (tnN (.mid p s) j c0).2 36 ∧ WRow wq (w.heap.size + 1) (.int .i64 0) 0 36 ∧ WRow wq E (.func (.func 137) #[] #[.pointer (some ⟨p, 0, none⟩)]) (n : Int) 119 ∧ KdOk wq (.mid p s) ∧ Below w.heap.size w wq) (fun i _ => n - (intOf i).toNat)
        case atStart => exact ⟨0, Nat.zero_le _, rfl, HPa.out, HQa.out, HEa.out, HKa.out, HBa.out⟩
        case round =>
          clear HPa HQa HEa HKa HBa HP HQ HK HB
          obtain ⟨j, hj, rfl, hP, hQ, hE, hKk, hB⟩ := hrel
          have HP := hid hP
          have HQ := hid hQ
          have HE := hid hE
          have HK := hid hKk
          have HB := hid hB
          clear hP hQ hE hKk hB
          by_cases hlj : j < n
          · have HC := hid (HNk.out j hlj)
            have HT1 := hid (tnN_succ (.mid p s) j c0)
            generalize tnN (.mid p s) j c0 = c1 at *
            have x0 := HP.out.c0
            have x1 := HP.out.c1
            have y0 := HE.out.c0
            have y1 := HE.out.c1
            go_wp2_with fail
            refine (HCall.out c1 _ HK.out HC.out).mono ?_
            rintro e w5 ⟨rfl, b5⟩
            have HP5 := hid (HP.out.below b5)
            have HQ5 := hid (HQ.out.below b5)
            have HE5 := hid (HE.out.below b5)
            have HK5 := hid (HK.out.below b5)
            have HB5 := hid (HB.out.trans (b5.mono HB.out.size))
            clear b5 x0 x1 y0 y1
            have x0 := HP5.out.c0
            have x1 := HP5.out.c1
            have f0 := HP5.out.fr 0
            have f1 := HP5.out.fr 1
            generalize hc2 : tnF (.mid p s) c1 = c2 at *

            clear hc2
            go_wp2_with fail
            go_roundw
            case rel => exact ⟨j + 1, by omega, by go_num, by rw [HT1.out]; exact HP5.out.put _ _, (HQ5.out.other hne3 _).other hne3 _, (HE5.out.other hne1 _).other hne1 _, HK5.out.set2 hneK, (HB5.out.setCell (p := ⟨w.heap.size, 0, none⟩) (Nat.le_refl _) _).setCell (p := ⟨w.heap.size, 1, none⟩) (Nat.le_refl _) _⟩
            case measure => simp [intOf]; omega
          · obtain rfl : j = n := by omega
            have y1 := HE.out.c1
            go_wp2_with fail
            go_roundw
            case rel => exact ⟨k + 1, by omega, by go_num, by rw [HS.out]; exact HP.out, HQ.out, HB.out⟩
            case measure => simp [intOf]; omega
    · --END
      obtain rfl : k = T.length := by omega
      have HTT : Hid (tnBy (T.take T.length) c = tnBy T c) := by show _ = _; rw [List.take_length]
      generalize tnBy (T.take T.length) c = c0 at *
      have x0 := HP.out.c0
      have x1 := HP.out.c1
      have y0 := HQ.out.c0
      have y1 := HQ.out.c1
      have f0 := HQ.out.fr 0
      have f1 := HQ.out.fr 1
      have RZ := hid (HQ.out.put (.int .i64 c0.1) c0.2)
      have z0 := RZ.out.c0
      have z1 := RZ.out.c1
      go_wp2
      refine bodyPost_ret (v := .agg #[.int .i64 c0.1, .int .i64 c0.2]) (by simp [results, Try.results130, go_sem, z0, z1]) rfl ⟨by rw [← HTT.out], ?_⟩
      exact (HB.out.setCell (p := ⟨w.heap.size + 1, 0, none⟩) (by simp) _).setCell (p := ⟨w.heap.size + 1, 1, none⟩) (by simp) _
end Go.Proofs.Ytgfdkolhldbehaa

namespace Go.Proofs.Ytgfdkolhldbehaa
open Go.RowKit
set_option linter.unusedVariables false
set_option linter.unusedSimpArgs false

/-- Ways, as the program's numbers. -/
def iw (ws : List Nat) : List Int := ws.map fun w : Nat => (w : Int)
theorem iw_at {ws : List Nat} {i : Nat} (h : i < ws.length) : ia (iw ws) i = ((ws.getD i 0 : Nat) : Int) := by simp [ia, iw, h]
theorem tnW_take {ws : List Nat} {k : Nat} (h : k < ws.length) : tnW (ws.take (k + 1)) = tnW (ws.take k) ++ [(Kd.mir, ws.getD k 0 / 4), (Kd.qtr, ws.getD k 0 % 4)] := by
  unfold tnW
  rw [List.take_succ_eq_append_getElem h, List.flatMap_append, show ws.getD k 0 = ws[k] by simp [h]]
  rfl
theorem tseg_two {w : World} {B : Nat} {q r : Nat} {fr : Nat × Nat} (hb : w.heap[B]? = some (.cells #[tnV .mir, .int .i64 (q : Int), tnV .qtr, .int .i64 (r : Int)] 119 fr)) : TSeg w (some ⟨B, 0, none⟩) [(.mir, q), (.qtr, r)] := by
  have hlt : B < w.heap.size := (Array.getElem?_eq_some_iff.1 hb).1
  intro i hi
  simp only [List.length_cons, List.length_nil] at hi
  rcases (show i = 0 ∨ i = 1 by omega) with rfl | rfl
  · refine ⟨B, 0, rfl, hlt, ?_, ?_, trivial⟩
    · unfold World.cell?; rw [hb]; rfl
    · unfold World.cell?; rw [hb]; rfl
  · refine ⟨B, 0, rfl, hlt, ?_, ?_, trivial⟩
    · unfold World.cell?; rw [hb]; rfl
    · unfold World.cell?; rw [hb]; rfl
theorem tnW_kinds (ws : List Nat) : ∀ t ∈ tnW ws, t.1 = .mir ∨ t.1 = .qtr := by
  intro t ht
  simp only [tnW, List.mem_flatMap, List.mem_cons, List.not_mem_nil, or_false] at ht
  obtain ⟨w, _, rfl | rfl⟩ := ht
  · exact .inl rfl
  · exact .inr rfl
theorem ta_mem {T : List Tn} {i : Nat} (h : i < T.length) : ta T i ∈ T := by simp [ta, h]
theorem tnW_ok (ws : List Nat) (W : World) : ∀ i, i < (tnW ws).length → KdOk W (ta (tnW ws) i).1 := by
  intro i hi
  rcases tnW_kinds ws _ (ta_mem hi) with h | h <;> rw [h] <;> trivial

set_option maxRecDepth 100000 in
set_option maxHeartbeats 4000000 in
theorem c_turningsOf (a : Option Addr) (ws : List Nat) (ca : Nat) (w : World) (ha : ISeg w a (iw ws)) (hl : ws.length ≤ 1000) (hw : ∀ x ∈ ws, x < 8) :
    Calls Try.prog 84 #[.slice a ws.length ca] w fun e w' => ∃ v, e = .returned v ∧ OwnT w' w.heap.size v (tnW ws) ∧ Below w.heap.size w w' := by
  have HA := hid ha
  have HW := hid (fun k (h : k < ws.length) => hw (ws.getD k 0) (by simp [h]))
  clear ha hw
  go_enter Try.func84, Try.ntmps84
  go_wp2_with fail
  go_loopw [3, 8] (fun v i wr => ∃ k : Nat, k ≤ ws.length ∧ i = .int .i64 k ∧ OwnT wr w.heap.size v (tnW (ws.take k)) ∧ Below w.heap.size w wr) (fun _ i _ => ws.length - (intOf i).toNat)
  case atStart => exact ⟨0, Nat.zero_le _, rfl, OwnT.nil _ _, Below.refl _ _⟩
  case round =>
    obtain ⟨k, hk, rfl, hO, hB⟩ := hrel
    have HO := hid hO
    have HB := hid hB
    clear hO hB
    by_cases hlt : k < ws.length
    · obtain ⟨b, o, rfl, hb, g⟩ := HA.out k (by simpa [iw] using hlt)
      replace g := (HB.out.cell (p := ⟨b, o + k, none⟩) hb).trans g
      rw [iw_at hlt] at g
      have HT := hid (tnW_take hlt)
      have HLn := hid (tnW_len (ws.take k))
      have hlk : (ws.take k).length ≤ 1000 := by rw [List.length_take]; omega
      have hx := HW.out k hlt
      generalize ws.getD k 0 = x at *
      obtain ⟨q, hq⟩ : ∃ q : Nat, q = x / 4 := ⟨_, rfl⟩
      obtain ⟨r, hr⟩ : ∃ r : Nat, r = x % 4 := ⟨_, rfl⟩
      rw [← hq, ← hr] at HT
      have e1 : (x : Int) / 4 = (q : Int) := by omega
      have e2 : (x : Int) % 4 = (r : Int) := by omega
      clear hq hr
      have BA := (Below.refl wr.heap.size wr).alloc (Nat.le_refl _) (.cells #[tnV .mir, .int .i64 (q : Int), tnV .qtr, .int .i64 (r : Int)] 119)
      have HO6 := hid (HO.out.below BA)
      have HB6 := hid (HB.out.trans (BA.mono HB.out.size))
      have HSg := hid (tseg_two (q := q) (r := r) (heap_alloc_new wr (.cells #[tnV .mir, .int .i64 (q : Int), tnV .qtr, .int .i64 (r : Int)] 119)))
      have hl1 := HLn.out
      clear BA
      dsimp only [tnV] at *
      go_wp2_with (at_builtin; refine wpList_appTg rfl _ _ rfl w.heap.size _ _ [(.mir, q), (.qtr, r)] _ 2 2 rfl HO6.out rfl rfl HSg.out (by simp; omega) HB6.out.size ?_; intro v' w5 hO5 hG5; have HB7 := hid (below_grownT HB6.out HO6.out hG5); have HO7 := hid hO5; clear hO5 hG5)
      go_roundw
      case rel => exact ⟨k + 1, by omega, by go_num, by rw [HT.out]; exact HO7.out, HB7.out⟩
      case measure => simp [intOf]; omega
    · obtain rfl : k = ws.length := by omega
      have HTT : Hid (ws.take ws.length = ws) := List.take_length
      go_wp2
      go_ret
      exact ⟨_, rfl, by rw [← HTT.out]; exact HO.out, HB.out⟩
end Go.Proofs.Ytgfdkolhldbehaa

namespace Go.Proofs.Ytgfdkolhldbehaa
open Go.RowKit Go.Maps
set_option linter.unusedVariables false
set_option linter.unusedSimpArgs false

set_option maxRecDepth 100000 in
set_option maxHeartbeats 4000000 in
theorem c_allTurned (a b : Option Addr) (l : List Cl) (T : List Tn) (ca cb : Nat) (w : World) (ha : Seg w a l) (hb : TSeg w b T) (hl : l.length ≤ 1048576) (hT : T.length ≤ 1000) (hN : ∀ c ∈ l, Nr T c) (ht : ∀ k, k < T.length → (ta T k).2 ≤ 1000) (hnd : (l.map (tnBy T)).Nodup) :
    Calls Try.prog 83 #[.slice a l.length ca, .slice b T.length cb] w fun e w' => ∃ v, e = .returned v ∧ OwnS w' w.heap.size v (ordL (l.map (tnBy T))) ∧ (ordL (l.map (tnBy T))).length = l.length ∧ Below w.heap.size w w' := by
  obtain ⟨M, hM⟩ : ∃ M : List Cl, M = l.map (tnBy T) := ⟨_, rfl⟩
  have hML : M.length = l.length := by rw [hM, List.length_map]
  have HAt := hid (fun k (h : k < l.length) => show at_ M k = tnBy T (at_ l k) by simp [hM, at_, h])
  rw [← hM] at hnd ⊢
  have HMem := hid (fun k (h : k < l.length) => hN (at_ l k) (by simp [at_, h]))
  have hmk := make_Cells l.length hl
  have HR := made_row w M
  rw [hML] at HR
  have R0 := hid HR
  have HA := hid ha
  have HB := hid hb
  have HT := hid ht
  have HND := hid hnd
  clear HR ha hb hN ht hM hnd
  go_enter Try.func83, Try.ntmps83
  go_wp2_with fail
  go_loopw [13] (fun i wr => ∃ k : Nat, k ≤ l.length ∧ i = .int .i64 k ∧ wr.rowIs w.heap.size 36 (M.length * 2) (cellTo M k) ∧ Below w.heap.size w wr) (fun i _ => l.length - (intOf i).toNat)
  case atStart => exact ⟨0, Nat.zero_le _, rfl, by rw [hML]; exact R0.out, (Below.refl _ _).alloc (Nat.le_refl _) _⟩
  case round =>
    clear R0 hmk
    obtain ⟨k, hk, rfl, hR, hbel⟩ := hrel
    by_cases hlt : k < l.length
    · obtain ⟨b1, o1, rfl, hb1, p1, p2⟩ := HA.out k hlt
      have g1 := (hbel.cell (p := ⟨b1, o1 + k * 2, none⟩) hb1).trans p1
      have g2 := (hbel.cell (p := ⟨b1, o1 + k * 2 + 1, none⟩) hb1).trans p2
      change _ = some (Value.int .i64 (at_ l k).1) at g1
      change _ = some (Value.int .i64 (at_ l k).2) at g2
      have HX := hid (HMem.out k hlt)
      have HE := hid (HAt.out k hlt)
      generalize at_ l k = x at *
      clear p1 p2
      have k0 : (0 : Int) ≤ (k : Int) := by omega
      have k1 : (k : Int) < (l.length : Int) := by omega
      have hR' := hid hR
      have q0 := cell_new0 wr (.int .i64 x.1) (.int .i64 x.2) 36
      have q1 := cell_new1 wr (.int .i64 x.1) (.int .i64 x.2) 36
      have BA := (Below.refl wr.heap.size wr).alloc (Nat.le_refl _) (.cells #[.int .i64 x.1, .int .i64 x.2] 36)
      have HB1 := hid (hbel.trans (BA.mono hbel.size))
      have HR1 := hid (hR'.out.of_block (BA.block _ hR'.out.lt))
      clear hR BA
      go_wp2_with fail
      refine (c_turnedBy b T cb x _ (HB.out.below HB1.out) hT HX.out HT.out).mono ?_
      rintro e w3 ⟨rfl, b3⟩
      have HB3 := hid (HB1.out.trans (b3.mono HB1.out.size))
      have HR3 := hid (HR1.out.of_block (b3.block _ HR1.out.lt))
      have hkm : k < M.length := by omega
      clear b3 q0 q1
      rw [← HE.out]
      have c1 := HR3.out.cell (i := k * 2) (by omega)
      have c2 := HR3.out.cell (i := k * 2 + 1) (by omega)
      have f1 := HR3.out.frozen (k * 2)
      have f2 := HR3.out.frozen (k * 2 + 1)
      go_wp2_with fail
      go_roundw
      case rel => exact ⟨k + 1, by omega, by go_num, row_step HR3.out hkm, (HB3.out.setCell (p := ⟨w.heap.size, _, none⟩) (Nat.le_refl _) _).setCell (p := ⟨w.heap.size, _, none⟩) (Nat.le_refl _) _⟩
      case measure => simp [intOf]; omega
    · obtain rfl : k = l.length := by omega
      rw [← hML] at hR
      have HO := hid ((row_done hR).own (by omega))
      have HBB := hid hbel
      clear hR hbel
      rw [hML] at HO
      have HSRT := hid (c_sortOwn w.heap.size w.heap.size l.length M wr (by rw [hML]; exact HO.out) (by omega))
      rw [hML] at HSRT
      go_wp2_with fail
      refine HSRT.out.mono ?_
      rintro e w3 ⟨rfl, l', hperm, hsrt, hO3, hg3, hll⟩
      have HO3 := hid hO3
      have HLL := hid hll
      have HRS := hid (nodup_sorted_ris hsrt (hperm.symm.nodup HND.out))
      have HEQ := hid (ordL_eq HRS.out (fun c => hperm.mem_iff))
      have HG3 := hid hg3
      clear hO3 hll hsrt hperm hg3
      go_wp2
      go_ret
      refine ⟨_, rfl, ?_, ?_, HBB.out.grown HG3.out HBB.out.size (fun k e => by cases e; exact Nat.le_refl _)⟩
      · rw [HEQ.out]
        have := HO3.out
        rw [HLL.out] at this
        exact this
      · rw [HEQ.out, HLL.out]
end Go.Proofs.Ytgfdkolhldbehaa

namespace Go.Proofs.Ytgfdkolhldbehaa
open Go.RowKit Go.Maps
set_option linter.unusedVariables false
set_option linter.unusedSimpArgs false

theorem bd_qt {c : Cl} (h : bdC c) : bdC (qt c) := by unfold bdC qt at *; dsimp only; omega
theorem bd_mir {c : Cl} (h : bdC c) : bdC (mir c) := by unfold bdC mir at *; dsimp only; omega
theorem bd_qts : ∀ (n : Nat) {c : Cl}, bdC c → bdC (qts n c)
  | 0, c, h => h
  | n + 1, c, h => bd_qts n (bd_qt h)
theorem bd_trn {w : Nat} (c : Cl) (h : bdC c) : bdC (trn w c) := by
  unfold trn; split
  · exact bd_qts _ (bd_mir h)
  · exact bd_qts _ h
theorem inW_inB (t : Int) : inB 0 7 t = inW t := by
  unfold inB inW; congr 1; rw [decide_eq_decide]; omega
theorem c_l8Way (t : Int) (v : Bool) (h : inW t = v) (w : World) : Calls Try.prog 85 #[.int .i64 t] w fun e w' => e = .returned (.bool v) ∧ w' = w := by
  go_enter Try.func85, Try.ntmps85
  go_wp2_with fail
  refine (c_l1In' t 0 7 v ((inW_inB t).trans h) _).mono ?_
  rintro e w1 ⟨rfl, rfl⟩
  go_wp2
  go_ret
  exact ⟨rfl, rfl⟩
theorem c_isWay (t : Int) (v : Bool) (h : inW t = v) (w : World) : Calls Try.prog 82 #[.int .i64 t] w fun e w' => e = .returned (.bool v) ∧ w' = w := by
  rw [← h]
  unfold inW
  by_cases h1 : (0 : Int) ≤ t
  · have d1 : decide ((0 : Int) ≤ t) = true := by simpa using h1
    go_enter Try.func82, Try.ntmps82
    go_wp2
    go_ret
    exact ⟨by simp [h1], rfl⟩
  · have d1 : decide ((0 : Int) ≤ t) = false := by simpa using h1
    go_enter Try.func82, Try.ntmps82
    go_wp2
    go_ret
    exact ⟨by simp [h1], rfl⟩

set_option maxRecDepth 100000 in
set_option maxHeartbeats 2000000 in
theorem c_l8Turn (c : Cl) (m : Nat) (hm : m < 8) (hc : bdC c) (w : World) :
    Calls Try.prog 89 #[.agg #[.int .i64 c.1, .int .i64 c.2], .int .i64 (m : Int)] w fun e w' => e = .returned (.agg #[.int .i64 (trn m c).1, .int .i64 (trn m c).2]) ∧ Below w.heap.size w w' := by
  obtain ⟨c0, hc0⟩ : ∃ c0, c0 = if 3 < m then mir c else c := ⟨_, rfl⟩
  obtain ⟨q, hq⟩ : ∃ q : Nat, q = m % 4 := ⟨_, rfl⟩
  have HE : Hid (trn m c = qts q c0) := by show _ = _; rw [hq, hc0]; rfl
  have hq3 : q < 4 := by omega
  have e1 : (m : Int) % 4 = (q : Int) := by omega
  have HB0 : Hid (bdC c0) := by show bdC _; rw [hc0]; split; exact bd_mir hc; exact hc
  have HC1 : Hid (3 < m → mir c = c0) := fun h => by rw [hc0, if_pos h]
  have HC2 : Hid (¬ 3 < m → c = c0) := fun h => by rw [hc0, if_neg h]
  clear hq hc0
  rw [HE.out]
  have P0 := hid ((WRow.new w (.int .i64 c.1) c.2 36).below ((Below.refl _ _).alloc (Nat.le_refl _) (.cells #[.int .i64 0, .int .i64 0] 36)))
  have P1 := hid (WRow.new (w.alloc (.cells #[.int .i64 c.1, .int .i64 c.2] 36)) (.int .i64 0) 0 36)
  have hz1 : (w.alloc (.cells #[.int .i64 c.1, .int .i64 c.2] 36)).heap.size = w.heap.size + 1 := by simp
  rw [hz1] at P1
  have B2 := hid (((Below.refl w.heap.size w).alloc (Nat.le_refl _) (.cells #[.int .i64 c.1, .int .i64 c.2] 36)).alloc (by simp) (.cells #[.int .i64 0, .int .i64 0] 36))
  have hne3 : ¬ w.heap.size + 1 = w.heap.size := by omega
  clear hz1
  have hm8 : (m : Int) < 8 := by omega
  have hcb := hc
  unfold bdC at hcb
  by_cases h3 : 3 < m
  · have k3 : (3 : Int) < (m : Int) := by omega
    have HM := hid (HC1.out h3)
    clear HC1 HC2 HE h3
    have x0 := P0.out.c0
    have x1 := P0.out.c1
    have f0 := P0.out.fr 0
    have f1 := P0.out.fr 1
    go_enter Try.func89, Try.ntmps89
    go_wp2_with fail
    go_loopw [5] (fun i wr => ∃ k : Nat, k ≤ q ∧ i = .int .i64 (k : Int) ∧ WRow wr w.heap.size (.int .i64 (qts (q - k) c0).1) (qts (q - k) c0).2 36 ∧ WRow wr (w.heap.size + 1) (.int .i64 0) 0 36 ∧ Below w.heap.size w wr) (fun i _ => (intOf i).toNat)
    case atStart =>
      have P1' := WRow.new (w.alloc (.cells #[.int .i64 (-c.1), .int .i64 c.2] 36)) (.int .i64 0) 0 36
      rw [show (w.alloc (.cells #[.int .i64 (-c.1), .int .i64 c.2] 36)).heap.size = w.heap.size + 1 by simp] at P1'
      refine ⟨q, Nat.le_refl _, by first | rfl | rw [e1], ?_, P1', ((Below.refl w.heap.size w).alloc (Nat.le_refl _) _).alloc (by simp) _⟩
      rw [Nat.sub_self]
      show WRow _ _ (.int .i64 c0.1) c0.2 _
      rw [← HM.out]
      exact (WRow.new w (.int .i64 (-c.1)) c.2 36).below ((Below.refl _ _).alloc (Nat.le_refl _) _)
    case round =>
      clear P0 P1 B2 x0 x1 f0 f1 hcb
      obtain ⟨k, hk, rfl, hP, hQ, hB⟩ := hrel
      have HP := hid hP
      have HQ := hid hQ
      have HB := hid hB
      clear hP hQ hB
      cases k with
      | zero =>
        obtain ⟨c1, hc1⟩ : ∃ c1, c1 = qts q c0 := ⟨_, rfl⟩
        replace HP : Hid (WRow wr w.heap.size (.int .i64 c1.1) c1.2 36) := by
          show WRow _ _ _ _ _
          rw [hc1]; exact HP.out
        have HT := hid hc1
        clear hc1
        have x0 := HP.out.c0
        have x1 := HP.out.c1
        have y0 := HQ.out.c0
        have y1 := HQ.out.c1
        have f0 := HQ.out.fr 0
        have f1 := HQ.out.fr 1
        have RZ := hid (HQ.out.put (.int .i64 c1.1) c1.2)
        have z0 := RZ.out.c0
        have z1 := RZ.out.c1
        go_wp2
        refine bodyPost_ret (v := .agg #[.int .i64 c1.1, .int .i64 c1.2]) (by simp [results, Try.results89, go_sem, z0, z1]) rfl ⟨by rw [← HT.out], ?_⟩
        exact (HB.out.setCell (p := ⟨w.heap.size + 1, 0, none⟩) (by simp) _).setCell (p := ⟨w.heap.size + 1, 1, none⟩) (by simp) _
      | succ k =>
        have HT : Hid (qts (q - k) c0 = qt (qts (q - (k + 1)) c0)) := by
          show _ = _
          rw [show q - k = q - (k + 1) + 1 by omega, qts_succ]
        have hbd := bd_qts (q - (k + 1)) HB0.out
        generalize qts (q - (k + 1)) c0 = c1 at *
        unfold bdC at hbd
        have x0 := HP.out.c0
        have x1 := HP.out.c1
        have f0 := HP.out.fr 0
        have f1 := HP.out.fr 1
        have k0 : (0 : Int) < ((k + 1 : Nat) : Int) := by omega
        have k1 : ((k + 1 : Nat) : Int) ≤ 4 := by omega
        have HKK : Hid (((k + 1 : Nat) : Int) - 1 = (k : Int)) := by show _ = _; omega
        generalize ((k + 1 : Nat) : Int) = S at *
        go_wp2_with fail
        go_roundw
        case rel =>
          refine ⟨k, by omega, by rw [HKK.out], ?_, (HQ.out.other hne3 _).other hne3 _, (HB.out.setCell (p := ⟨w.heap.size, 0, none⟩) (Nat.le_refl _) _).setCell (p := ⟨w.heap.size, 1, none⟩) (Nat.le_refl _) _⟩
          rw [HT.out]
          exact HP.out.put _ _
        case measure => simp [intOf]; omega
  · have k3 : ¬ (3 : Int) < (m : Int) := by omega
    have HM := hid (HC2.out h3)
    clear HC1 HC2 HE h3 hcb
    go_enter Try.func89, Try.ntmps89
    go_wp2_with fail
    go_loopw [5] (fun i wr => ∃ k : Nat, k ≤ q ∧ i = .int .i64 (k : Int) ∧ WRow wr w.heap.size (.int .i64 (qts (q - k) c0).1) (qts (q - k) c0).2 36 ∧ WRow wr (w.heap.size + 1) (.int .i64 0) 0 36 ∧ Below w.heap.size w wr) (fun i _ => (intOf i).toNat)
    case atStart =>
      refine ⟨q, Nat.le_refl _, by first | rfl | rw [e1], ?_, P1.out, B2.out⟩
      rw [Nat.sub_self]
      show WRow _ _ (.int .i64 c0.1) c0.2 _
      rw [← HM.out]
      exact P0.out
    case round =>
      clear P0 P1 B2
      obtain ⟨k, hk, rfl, hP, hQ, hB⟩ := hrel
      have HP := hid hP
      have HQ := hid hQ
      have HB := hid hB
      clear hP hQ hB
      cases k with
      | zero =>
        obtain ⟨c1, hc1⟩ : ∃ c1, c1 = qts q c0 := ⟨_, rfl⟩
        replace HP : Hid (WRow wr w.heap.size (.int .i64 c1.1) c1.2 36) := by
          show WRow _ _ _ _ _
          rw [hc1]; exact HP.out
        have HT := hid hc1
        clear hc1
        have x0 := HP.out.c0
        have x1 := HP.out.c1
        have y0 := HQ.out.c0
        have y1 := HQ.out.c1
        have f0 := HQ.out.fr 0
        have f1 := HQ.out.fr 1
        have RZ := hid (HQ.out.put (.int .i64 c1.1) c1.2)
        have z0 := RZ.out.c0
        have z1 := RZ.out.c1
        go_wp2
        refine bodyPost_ret (v := .agg #[.int .i64 c1.1, .int .i64 c1.2]) (by simp [results, Try.results89, go_sem, z0, z1]) rfl ⟨by rw [← HT.out], ?_⟩
        exact (HB.out.setCell (p := ⟨w.heap.size + 1, 0, none⟩) (by simp) _).setCell (p := ⟨w.heap.size + 1, 1, none⟩) (by simp) _
      | succ k =>
        have HT : Hid (qts (q - k) c0 = qt (qts (q - (k + 1)) c0)) := by
          show _ = _
          rw [show q - k = q - (k + 1) + 1 by omega, qts_succ]
        have hbd := bd_qts (q - (k + 1)) HB0.out
        generalize qts (q - (k + 1)) c0 = c1 at *
        unfold bdC at hbd
        have x0 := HP.out.c0
        have x1 := HP.out.c1
        have f0 := HP.out.fr 0
        have f1 := HP.out.fr 1
        have k0 : (0 : Int) < ((k + 1 : Nat) : Int) := by omega
        have k1 : ((k + 1 : Nat) : Int) ≤ 4 := by omega
        have HKK : Hid (((k + 1 : Nat) : Int) - 1 = (k : Int)) := by show _ = _; omega
        generalize ((k + 1 : Nat) : Int) = S at *
        go_wp2_with fail
        go_roundw
        case rel =>
          refine ⟨k, by omega, by rw [HKK.out], ?_, (HQ.out.other hne3 _).other hne3 _, (HB.out.setCell (p := ⟨w.heap.size, 0, none⟩) (Nat.le_refl _) _).setCell (p := ⟨w.heap.size, 1, none⟩) (Nat.le_refl _) _⟩
          rw [HT.out]
          exact HP.out.put _ _
        case measure => simp [intOf]; omega

theorem nodup_near {l : List Cl} (hg : good l = true) : ∀ c ∈ l, bdC c := by
  intro c hc
  have h := good_memT hg hc
  simp only [inR, Bool.and_eq_true, decide_eq_true_eq] at h
  unfold bdC; omega
set_option maxRecDepth 100000 in
set_option maxHeartbeats 2000000 in
theorem c_l8All (a : Option Addr) (l : List Cl) (ca m : Nat) (hm : m < 8) (w : World) (ha : Seg w a l) (hl : l.length ≤ 524288) (hN : ∀ c ∈ l, bdC c) :
    Calls Try.prog 87 #[.slice a l.length ca, .int .i64 (m : Int)] w fun e w' => ∃ v, e = .returned v ∧ OwnS w' w.heap.size v (tuL m l) ∧ Below w.heap.size w w' := by
  have HMm := hid (fun k (h : k < l.length) => hN (at_ l k) (by simp [at_, h]))
  have HAt := hid (fun k (h : k < l.length) => show (l.map (trn m)).take (k + 1) = (l.map (trn m)).take k ++ [trn m (at_ l k)] by rw [List.take_succ_eq_append_getElem (by simpa using h)]; simp [at_, h])
  have HAl := hid (show (l.map (trn m)).take l.length = l.map (trn m) by rw [List.take_of_length_le (by simp)])
  have HA := hid ha
  have HM8 := hid hm
  clear hN ha
  go_enter Try.func87, Try.ntmps87
  go_wp2
  go_loopw [5, 10] (fun v i wr => ∃ (k : Nat) (M : List Cl), k ≤ l.length ∧ i = .int .i64 k ∧ OwnS wr w.heap.size v M ∧ risTo M M.length = true ∧ (∀ c, c ∈ M ↔ c ∈ (l.map (trn m)).take k) ∧ M.length ≤ k ∧ Below w.heap.size w wr) (fun _ i _ => l.length - (intOf i).toNat)
  case atStart => exact ⟨0, [], Nat.zero_le _, rfl, OwnS.nil _ _, rfl, fun c => by simp, by simp, Below.refl _ _⟩
  case round =>
    obtain ⟨k, M, hk, rfl, hSL, hris, hmem, hml, hbel⟩ := hrel
    have HR := hid hris
    have HM := hid hmem
    have HB := hid hbel
    have HSL := hid hSL
    clear hris hmem hSL
    by_cases hlt : k < l.length
    · obtain ⟨b1, o1, rfl, hb1, p1, p2⟩ := HA.out k hlt
      have g1 := (hbel.cell (p := ⟨b1, o1 + k * 2, none⟩) hb1).trans p1
      have g2 := (hbel.cell (p := ⟨b1, o1 + k * 2 + 1, none⟩) hb1).trans p2
      change _ = some (Value.int .i64 (at_ l k).1) at g1
      change _ = some (Value.int .i64 (at_ l k).2) at g2
      have HT := hid (HAt.out k hlt)
      have HX := hid (HMm.out k hlt)
      generalize at_ l k = x at *
      clear p1 p2 hbel
      have q0 := cell_new0 wr (.int .i64 x.1) (.int .i64 x.2) 36
      have q1 := cell_new1 wr (.int .i64 x.1) (.int .i64 x.2) 36
      have HB1 := hid (HB.out.alloc HB.out.size (.cells #[.int .i64 x.1, .int .i64 x.2] 36))
      have HS1 := hid (HSL.out.below ((Below.refl wr.heap.size wr).alloc (Nat.le_refl _) (.cells #[.int .i64 x.1, .int .i64 x.2] 36)))
      go_wp2_with fail
      refine (c_l8Turn x m HM8.out HX.out _).mono ?_
      rintro e w2 ⟨rfl, b2⟩
      have HB2 := hid (HB1.out.trans (b2.mono HB1.out.size))
      have HS2 := hid (HS1.out.below b2)
      clear b2 HB1 HS1 q0 q1
      generalize trn m x = y at *
      go_wp2_with fail
      refine (c_l1AddO _ M y _ HS2.out.sl (by omega) HR.out).mono ?_
      rintro e w3 ⟨v3, m3, rfl, hS3, hW3, hb3, hO3⟩
      have HB3 := hid (HB2.out.trans (hb3.mono HB2.out.size))
      have HS3 : Hid (OwnS w3 w.heap.size v3 m3) := by
        rcases hO3 with h | ⟨rfl, rfl⟩
        · exact h.mono HB2.out.size
        · exact HS2.out.below hb3
      have HW3 := hid hW3
      clear hS3 hW3 hb3 hO3
      go_wp2
      go_roundw
      case rel => exact ⟨k + 1, m3, by omega, by go_num, HS3.out, HW3.out.1, fun c => by rw [HW3.out.2.1, HM.out, HT.out, List.mem_append, List.mem_singleton]; exact Or.comm, by have := HW3.out.2.2; omega, HB3.out⟩
      case measure => simp [intOf]; omega
    · clear hbel
      go_wp2
      go_ret
      have : k = l.length := by omega
      subst this
      refine ⟨_, rfl, ?_, HB.out⟩
      rw [← tu_is HR.out (fun c => by rw [HM.out, HAl.out])]
      exact HSL.out

/-- All cells that come by on a way are near. -/
theorem nr_way {m : Nat} (hm : m < 8) {c : Cl} (hc : bdC c) : Nr (tnW [m]) c := by
  have H : ∀ (T : List Tn), (∀ t ∈ T, t.1 = .mir ∨ t.1 = .qtr) → ∀ c, bdC c → Nr T c ∧ bdC (tnBy T c) := by
    intro T hT c hc
    have hN : ∀ (b : Kd), b = .mir ∨ b = .qtr → ∀ n c, bdC c → bdC (tnN b n c) := by
      intro b hb n
      induction n with
      | zero => intro c h; exact h
      | succ n ih =>
        intro c h
        rw [tnN]
        refine ih _ ?_
        rcases hb with rfl | rfl
        · exact bd_mir h
        · exact bd_qt h
    have hk : ∀ k, k ≤ T.length → bdC (tnBy (T.take k) c) := by
      intro k
      induction k with
      | zero => intro _; exact hc
      | succ k ih =>
        intro h
        rw [tnBy_succ (by omega)]
        exact hN _ (hT _ (ta_mem (by omega))) _ _ (ih (by omega))
    refine ⟨fun k hk' j hj => hN _ (hT _ (ta_mem hk')) _ _ (hk k (by omega)), ?_⟩
    have := hk T.length (Nat.le_refl _)
    rwa [List.take_length] at this
  exact (H _ (tnW_kinds _) c hc).1
theorem tnW_one {m : Nat} (hm : m < 8) : tnBy (tnW [m]) = trn m := funext fun c => tnBy_way hm c
theorem tnW_few {m : Nat} (hm : m < 8) : ∀ k, k < (tnW [m]).length → (ta (tnW [m]) k).2 ≤ 1000 := by
  intro k hk
  simp only [tnW, List.flatMap_cons, List.flatMap_nil, List.append_nil, List.length_cons, List.length_nil] at hk
  rcases (show k = 0 ∨ k = 1 by omega) with rfl | rfl
  · show m / 4 ≤ 1000; omega
  · show m % 4 ≤ 1000; omega

set_option maxRecDepth 100000 in
set_option maxHeartbeats 1000000 in
theorem c_sTurnCells (a : Option Addr) (l : List Cl) (ca : Nat) (t : Int) (w : World) (ha : Seg w a l) (hl : l.length ≤ 1048576) :
    Calls Try.prog 29 #[.slice a l.length ca, .int .i64 t] w fun e w' => ∃ v, e = .returned (.tuple #[v, .bool (turnOk l t)]) ∧ OwnS w' w.heap.size v (turnL l t) ∧ Below w.heap.size w w' := by
  cases hg : good l
  · have HC := hid (c_sGood' a l ca false hg _ ha hl)
    have HV : Hid (turnL l t = [] ∧ turnOk l t = false) := by simp [Hid, turnL, turnOk, hg]
    clear ha
    go_enter Try.func29, Try.ntmps29
    go_wp2_with fail
    refine HC.out.mono ?_
    rintro e w1 ⟨rfl, hb1⟩
    go_wp2
    go_ret2
    exact ⟨_, by rw [HV.out.2]; rfl, by rw [HV.out.1]; exact OwnS.nil _ _, hb1⟩
  · have HC := hid (c_sGood' a l ca true hg _ ha hl)
    cases ht : inW t
    · have HV : Hid (turnL l t = [] ∧ turnOk l t = false) := by simp [Hid, turnL, turnOk, hg, ht]
      clear ha
      go_enter Try.func29, Try.ntmps29
      go_wp2_with fail
      refine HC.out.mono ?_
      rintro e w1 ⟨rfl, hb1⟩
      go_wp2_with fail
      refine (c_l8Way t false ht _).mono ?_
      rintro e w2 ⟨rfl, rfl⟩
      go_wp2
      go_ret2
      exact ⟨_, by rw [HV.out.2]; rfl, by rw [HV.out.1]; exact OwnS.nil _ _, hb1⟩
    · obtain ⟨m, rfl⟩ : ∃ m : Nat, t = (m : Int) := ⟨t.toNat, by have := inW_bd ht; omega⟩
      have hm : m < 8 := by have := inW_bd ht; omega
      have HV : Hid (turnL l (m : Int) = tellV (tuL m l) ∧ turnOk l (m : Int) = good (tuL m l)) := by simp [Hid, turnL, turnOk, hg, ht, tu_good hm hg, tellV]
      have HL := hid (show (tuL m l).length ≤ 120 from good_len (tu_good hm hg))
      have HN := hid (nodup_near hg)
      have hlg := good_le hg
      have HA := hid ha
      have HT := hid ht
      clear ha hg ht
      go_enter Try.func29, Try.ntmps29
      go_wp2_with fail
      refine HC.out.mono ?_
      rintro e w1 ⟨rfl, hb1⟩
      have HA1 := hid (HA.out.below hb1)
      have HB1 := hid hb1
      clear hb1 HA HC
      go_wp2_with fail
      refine (c_l8Way (m : Int) true HT.out _).mono ?_
      rintro e w2 ⟨rfl, rfl⟩
      go_wp2_with fail
      refine (c_l8All a l ca m hm _ HA1.out (by omega) HN.out).mono ?_
      rintro e w3 ⟨v3, rfl, o3, b3⟩
      obtain ⟨a3, c3, rfl, s3, n3⟩ := o3.sl.form
      have HB3 := hid (HB1.out.trans (b3.mono HB1.out.size))
      have S3 := hid s3
      clear o3 s3 b3
      have hlt := HL.out
      go_wp2_with fail
      refine (c_l1Tell a3 (tuL m l) c3 _ S3.out (by omega) n3).mono ?_
      rintro e w5 ⟨v, rfl, hO5, hB5⟩
      go_wp2
      go_ret2
      exact ⟨_, by rw [HV.out.2]; rfl, by rw [HV.out.1]; exact hO5.mono HB3.out.size, HB3.out.trans (hB5.mono HB3.out.size)⟩

set_option maxRecDepth 100000 in
set_option maxHeartbeats 1000000 in
theorem c_iTurnCells (a : Option Addr) (l : List Cl) (ca : Nat) (t : Int) (w : World) (ha : Seg w a l) (hl : l.length ≤ 1048576) :
    Calls Try.prog 28 #[.slice a l.length ca, .int .i64 t] w fun e w' => ∃ v, e = .returned (.tuple #[v, .bool (turnOk l t)]) ∧ OwnS w' w.heap.size v (turnL l t) ∧ Below w.heap.size w w' := by
  cases hg : good l
  · have HC := hid (c_iGood' a l ca false hg _ ha hl)
    have HV : Hid (turnL l t = [] ∧ turnOk l t = false) := by simp [Hid, turnL, turnOk, hg]
    clear ha
    go_enter Try.func28, Try.ntmps28
    go_wp2_with fail
    refine HC.out.mono ?_
    rintro e w1 ⟨rfl, hb1⟩
    go_wp2
    go_ret2
    exact ⟨_, by rw [HV.out.2]; rfl, by rw [HV.out.1]; exact OwnS.nil _ _, hb1⟩
  · have HC := hid (c_iGood' a l ca true hg _ ha hl)
    cases ht : inW t
    · have HV : Hid (turnL l t = [] ∧ turnOk l t = false) := by simp [Hid, turnL, turnOk, hg, ht]
      clear ha
      go_enter Try.func28, Try.ntmps28
      go_wp2_with fail
      refine HC.out.mono ?_
      rintro e w1 ⟨rfl, hb1⟩
      go_wp2_with fail
      refine (c_isWay t false ht _).mono ?_
      rintro e w2 ⟨rfl, rfl⟩
      go_wp2
      go_ret2
      exact ⟨_, by rw [HV.out.2]; rfl, by rw [HV.out.1]; exact OwnS.nil _ _, hb1⟩
    · obtain ⟨m, rfl⟩ : ∃ m : Nat, t = (m : Int) := ⟨t.toNat, by have := inW_bd ht; omega⟩
      have hm : m < 8 := by have := inW_bd ht; omega
      have HV : Hid (turnL l (m : Int) = ordL (l.map (tnBy (tnW [m]))) ∧ turnOk l (m : Int) = true) := by simp [Hid, turnL, turnOk, hg, ht, tnW_one hm, tuL]
      have HND : Hid ((l.map (tnBy (tnW [m]))).Nodup) := by show List.Nodup _; rw [tnW_one hm]; exact map_nodup hm (ris_nodup (good_ris hg))
      have HNr := hid (fun c hc => nr_way hm (nodup_near hg c hc))
      have HFw := hid (tnW_few hm)
      have hlg := good_le hg
      have HA := hid ha
      have HT := hid ht
      have hm1000 : ∀ x ∈ [m], x < 8 := by simpa using hm
      have HM := hid hm1000
      clear ha hg ht hm1000
      go_enter Try.func28, Try.ntmps28
      go_wp2_with fail
      refine HC.out.mono ?_
      rintro e w1 ⟨rfl, hb1⟩
      have HA1 := hid (HA.out.below hb1)
      have HB1 := hid hb1
      clear hb1 HA HC
      go_wp2_with fail
      refine (c_isWay (m : Int) true HT.out _).mono ?_
      rintro e w2 ⟨rfl, rfl⟩
      have BA := (Below.refl w2.heap.size w2).alloc (Nat.le_refl _) (.cells #[.int .i64 (m : Int)] 3)
      have HA2 := hid (HA1.out.below BA)
      have HB2 := hid (HB1.out.trans (BA.mono HB1.out.size))
      have HI2 := hid (iseg_block (heap_alloc_new w2 (.cells #[.int .i64 (m : Int)] 3)))
      clear BA HA1 HB1
      go_wp2_with fail
      refine (c_turningsOf _ [m] 1 _ HI2.out (by simp) HM.out).mono ?_
      rintro e w3 ⟨v3, rfl, o3, b3⟩
      obtain ⟨a3, c3, rfl, s3⟩ := o3.form (tnW_ok _ _)
      have HA3 := hid (HA2.out.below b3)
      have HB3 := hid (HB2.out.trans (b3.mono HB2.out.size))
      have S3 := hid s3
      clear o3 s3 b3 HA2 HB2
      go_wp2_with fail
      refine (c_allTurned a a3 l (tnW [m]) ca c3 w3 HA3.out S3.out (by omega) (by rw [tnW_len]; simp) HNr.out HFw.out HND.out).mono ?_
      rintro e w4 ⟨v4, rfl, o4, l4, b4⟩
      go_wp2
      go_ret2
      exact ⟨_, by rw [HV.out.2]; rfl, by rw [HV.out.1]; exact o4.mono HB3.out.size, HB3.out.trans (b4.mono HB3.out.size)⟩
end Go.Proofs.Ytgfdkolhldbehaa
