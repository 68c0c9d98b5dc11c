/- Texts of this seat, one behind the other: ITree. -/
import Derived.Test.YtokemdbgcegjiaaGreatIFor
import Derived.Test.YtokemdbgcegjiaaGreatB07
import Derived.Test.YtokemdbgcegjiaaGreatGroveM
import Derived.Test.YtokemdbgcegjiaaGreatB08
namespace Go.Proofs.YtokemdbgcegjiaaGreat
open Go.RowKit Go.Maps
set_option linter.unusedVariables false
set_option linter.unusedSimpArgs false
attribute [local go_sem ↓] Go.wp_at_zero Go.wp_at_succ

set_option maxHeartbeats 1000000 in
theorem c_told (q : Int) (w : World) {base p g cap mb : Nat} {G : List Qd} (h : Grv w base p g cap mb G) (hG : Grows G) (hlen : G.length ≤ 100000) :
    Calls Tryz.prog 97 #[.pointer (some ⟨p, 0, none⟩), .int .i64 q] w fun e w' => ∃ u, e = .returned (.tuple #[.agg #[u], .int .i64 (tellQ G q), .bool (tellB G)]) ∧ FOwn w' w.heap.size w'.heap.size u (tellF G) ∧ Below w.heap.size w w' := by
  have hb1 := (Below.refl w.heap.size w).alloc (Nat.le_refl _) (.cells #[.slice none 0 0] 25)
  have R1 := hid (one_row (heap_alloc_new w (.cells #[.slice none 0 0] 25)))
  have H1 := hid (h.below hb1)
  have HB1 := hid hb1
  have hsz : (w.alloc (.cells #[.slice none 0 0] 25)).heap.size = w.heap.size + 1 := by simp
  have c0 := H1.out.c0
  clear hb1 h
  by_cases h4 : G.length ≤ 400
  · have d4 : ¬ (400 : Int) < (G.length : Int) := by omega
    have HV : Hid (tellF G = G ∧ tellQ G q = q ∧ tellB G = true) := by simp [Hid, tellF, tellQ, tellB, h4]
    have HC := hid (c_forest _ H1.out hG hlen)
    rw [hsz] at HC
    have HSZ := hid hsz
    clear hsz
    go_enter Tryz.func97, Tryz.ntmps97
    go_wp2_with fail
    refine HC.out.mono ?_
    rintro e w1 ⟨rfl, hO, hB⟩
    have R2 := R1.out.of_block (hB.block _ (by omega))
    have r0 := R2.cell (i := 0) (by omega)
    have f0 := R2.frozen 0
    have E0 := hid ((R2.set 0 (.slice (some ⟨w.heap.size + 1 + 1, 0, none⟩) G.length G.length)).cell (i := 0) (by omega))
    simp only [if_true] at E0
    have hs2 : (w1.setCell ⟨w.heap.size, 0, none⟩ (.slice (some ⟨w.heap.size + 1 + 1, 0, none⟩) G.length G.length)).heap.size = w1.heap.size := by simp
    have hGW : Grew w1 (w1.setCell ⟨w.heap.size, 0, none⟩ (.slice (some ⟨w.heap.size + 1 + 1, 0, none⟩) G.length G.length)) w.heap.size (w.heap.size + 1) := (Grew.refl w1 _ _).set (Nat.le_refl _) (by omega) _
    have HO2 := hid (((hO.kept hGW (by omega)).wide (lo' := w.heap.size) (hi' := w1.heap.size) (by omega) (Nat.le_refl _) (by rw [hs2]; exact Nat.le_refl _)))
    have HB2 := hid ((HB1.out.trans (hB.mono (by omega))).setCell (p := ⟨w.heap.size, 0, none⟩) (Nat.le_refl _) (.slice (some ⟨w.heap.size + 1 + 1, 0, none⟩) G.length G.length))
    have HS2 := hid hs2
    clear HC hO hB R2 R1 H1 HB1 hs2 hGW
    go_wp2_with fail
    refine bodyPost_ret (v := .tuple #[.agg #[.slice (some ⟨w.heap.size + 1 + 1, 0, none⟩) G.length G.length], .int .i64 q, .bool true]) (by simp [results, Tryz.results97, go_sem, E0.out]) rfl ⟨.slice (some ⟨w.heap.size + 1 + 1, 0, none⟩) G.length G.length, ?_, ?_, HB2.out⟩
    · rw [HV.out.2.1, HV.out.2.2]
    · rw [HV.out.1, HS2.out]; exact HO2.out
  · have d4 : (400 : Int) < (G.length : Int) := by omega
    have HV : Hid (tellF G = [] ∧ tellQ G q = 0 ∧ tellB G = false) := by simp [Hid, tellF, tellQ, tellB, h4]
    go_enter Tryz.func97, Tryz.ntmps97
    go_wp2_with fail
    refine bodyPost_ret (v := .tuple #[.agg #[.slice none 0 0], .int .i64 0, .bool false]) (by simp [results, Tryz.results97, go_sem]) rfl ⟨.slice none 0 0, ?_, ?_, HB1.out⟩
    · rw [HV.out.2.1, HV.out.2.2]
    · rw [HV.out.1]; exact .inl ⟨rfl, rfl⟩

theorem numTo_find {G : List Qd} (h : Grows G) (l : List Int) : ∀ k, k ≤ G.length → numTo G k l = (findF G l k).map fun i : Nat => (i : Int)
  | 0, _ => rfl
  | k + 1, hk => by
    have ih := numTo_find h l k (by omega)
    simp only [numTo, findF]
    cases hf : findF G l k with
    | some i =>
      obtain ⟨h1, h2, h3⟩ := findF_some hf
      rw [hf] at ih
      rw [if_neg (by rintro ⟨h4, h5⟩; exact h.uniq i k h1 h2 (by omega) (h3.trans h5)), ih]
    | none =>
      rw [hf] at ih
      by_cases e : 2 ≤ k ∧ (qa G k).2 = l
      · rw [if_pos ⟨e.1, e.2.symm⟩]
        simp only
        rw [if_pos e]; rfl
      · rw [if_neg (by rintro ⟨h4, h5⟩; exact e ⟨h4, h5.symm⟩), ih]
        simp only
        rw [if_neg e]
theorem own_row_ne {w : World} {base g cap n n' : Nat} {t : TypeId} {f : Nat → Value} {xs : List Value} (ho : w.ownsRow base 98 5 (.slice (some ⟨g, 0, none⟩) n cap) n xs) (hr : w.rowIs g t n' f) (h2 : t ≠ 98) (_ : True = True) : False := by
  rcases ho.2 with ⟨e, _⟩ | ⟨g', cap', cur, e, _, hgg, _⟩
  · cases e
  · simp at e
    obtain ⟨rfl, _⟩ := e
    obtain ⟨c, hc, _⟩ := hr
    rw [hc] at hgg
    simp at hgg
    exact h2 hgg.2
/-- Rows of other things than groves and nodes, and of one node alone, are as they were. -/
theorem own_row_ne5 {w : World} {base g cap n : Nat} {f : Nat → Value} {xs : List Value} (ho : w.ownsRow base 98 5 (.slice (some ⟨g, 0, none⟩) n cap) n xs) (hr : w.rowIs g 98 5 f) (h2 : 2 ≤ n) : False := by
  rcases ho.2 with ⟨e, _⟩ | ⟨g', cap', cur, e, _, hgg, hc, _, hs, _⟩
  · cases e
  · simp at e
    obtain ⟨rfl, _⟩ := e
    obtain ⟨c, hc', hz, _⟩ := hr
    rw [hc'] at hgg
    simp at hgg
    subst hgg
    omega

def RowsKept (w w' : World) : Prop := ∀ (B : Nat) (t : TypeId) (n : Nat) (f : Nat → Value), t ≠ 102 → (t = 98 → n = 5) → w.rowIs B t n f → w'.rowIs B t n f
theorem RowsKept.trans {a b c : World} (h : RowsKept a b) (k : RowsKept b c) : RowsKept a c := fun B t n f h1 h2 h3 => k B t n f h1 h2 (h B t n f h1 h2 h3)
theorem RowsKept.of_below {w w' : World} (h : Below w.heap.size w w') : RowsKept w w' := fun B t n f _ _ h3 => h3.of_block (h.block _ h3.lt)
theorem rows_of_else {w w' : World} {base p g cap mb : Nat} {G : List Qd} (h : Grv w base p g cap mb G) (hG2 : 2 ≤ G.length) (he : ∀ k, k < w.heap.size → k ≠ p → k ≠ g → k ≠ mb → w'.heap[k]? = w.heap[k]?) : RowsKept w w' := by
  intro B t n f h1 h2 h3
  refine h3.of_block (he B h3.lt ?_ ?_ ?_)
  · intro e
    subst e
    obtain ⟨c, hc, _⟩ := h3
    obtain ⟨d, hd, _⟩ := h.box
    rw [hc] at hd
    simp at hd
    exact h1 hd.2
  · intro e
    subst e
    by_cases ht : t = 98
    · obtain rfl := h2 ht
      subst ht
      exact own_row_ne5 h.own h3 hG2
    · exact own_row_ne h.own h3 ht rfl
  · intro e
    subst e
    obtain ⟨c, hc, _⟩ := h3
    obtain ⟨D, ⟨es, clock, hd, _⟩, _⟩ := h.map
    rw [hc] at hd
    simp at hd

/-- A box of four is written: a grove is as it was. -/
theorem Grv.setFour {w : World} {base p g cap mb : Nat} {G : List Qd} (h : Grv w base p g cap mb G) {B : Nat} {f : Nat → Value} (hr : w.rowIs B 96 4 f) (k : Nat) (v : Int) : Grv (w.setCell ⟨B, k, none⟩ (.int .i64 v)) base p g cap mb G := by
  have np : p ≠ B := by
    intro e
    subst e
    obtain ⟨c, hc, _⟩ := hr
    obtain ⟨d, hd, _⟩ := h.box
    rw [hc] at hd
    simp at hd
  have ng : g ≠ B := by
    intro e
    subst e
    exact own_row_ne h.own hr (by decide) rfl
  have nm : mb ≠ B := by
    intro e
    subst e
    obtain ⟨c, hc, _⟩ := hr
    obtain ⟨D, ⟨es, clock, hd, _⟩, _⟩ := h.map
    rw [hc] at hd
    simp at hd
  refine ⟨h.lowp, h.lowm, h.box.setOther (by dsimp only; omega) _, ownsRow_setCell_other h.own (by simp [Value.ownBlock]; omega) _, ?_, h.pm, h.pg, h.mg⟩
  obtain ⟨D, ⟨es, clock, hb, r⟩, hd⟩ := h.map
  refine ⟨D, ⟨es, clock, ?_, r⟩, hd⟩
  rw [Below.heap_setCell _ _ _ _ (by dsimp only; omega)]
  exact hb
/-- A block that was not there is written: rows that were there are as they were. -/
theorem rows_set {w w' : World} (h : RowsKept w w') {B : Nat} (hB : w.heap.size ≤ B) (k : Nat) (v : Value) : RowsKept w (w'.setCell ⟨B, k, none⟩ v) := by
  intro B' t n f h1 h2 h3
  have := h3.lt
  exact (h B' t n f h1 h2 h3).setOther (by dsimp only; omega) _

/-- What a joining leaves of all but its grove's three blocks. -/
def GElse (w w' : World) (p g mb : Nat) : Prop := ∀ k, k < w.heap.size → k ≠ p → k ≠ g → k ≠ mb → w'.heap[k]? = w.heap[k]?
theorem c_ijoinE (l : List Int) (hl : l.length = 4) (w : World) {base p g cap mb : Nat} {G : List Qd} (h : Grv w base p g cap mb G) (hG : Grows G) (hlen : G.length ≤ 100000) (hk : ∀ j, j < 4 → 0 ≤ ia l j ∧ ia l j < (G.length : Int)) :
    Calls Tryz.prog 99 #[.pointer (some ⟨p, 0, none⟩), kv l] w fun e w' => ∃ g' cap', e = .returned (.int .i64 ((joinF G l).2 : Int)) ∧ Grv w' base p g' cap' mb (joinF G l).1 ∧ Below base w w' ∧ RowsKept w w' ∧ GElse w w' p g mb ∧ (g' = g ∨ w.heap.size ≤ g') := by
  have hf : fits4 l := ⟨hl, fun i hi => by have := hk i hi; unfold fit1; omega⟩
  have hbase : base ≤ w.heap.size := Nat.le_trans h.lowp (Nat.le_of_lt h.box.lt)
  have hnf := numTo_find hG l G.length (Nat.le_refl _)
  have h0 := hk 0 (by omega)
  have hlv := hG.lev (ia l 0).toNat (by omega)
  unfold joinF
  cases hfd : findF G l G.length with
  | some i =>
    rw [hfd] at hnf
    refine (c_join_old l (i : Int) w h hf (by rw [hnf]; rfl)).mono ?_
    rintro e w' ⟨rfl, hb⟩
    exact ⟨g, cap, rfl, h.below hb, hb.mono hbase, RowsKept.of_below hb, fun k hk _ _ _ => hb.block k hk, .inl rfl⟩
  | none =>
    rw [hfd] at hnf
    refine (c_join_new l w h hf (by rw [hnf]; rfl) hG.two (by omega) h0.1 h0.2 (by omega) (by omega)).mono ?_
    rintro e w' ⟨g', cap', rfl, h1, h2, h3, h4⟩
    exact ⟨g', cap', rfl, h1, h2, rows_of_else h hG.two h3, h3, h4⟩
theorem c_ijoin (l : List Int) (hl : l.length = 4) (w : World) {base p g cap mb : Nat} {G : List Qd} (h : Grv w base p g cap mb G) (hG : Grows G) (hlen : G.length ≤ 100000) (hk : ∀ j, j < 4 → 0 ≤ ia l j ∧ ia l j < (G.length : Int)) :
    Calls Tryz.prog 99 #[.pointer (some ⟨p, 0, none⟩), kv l] w fun e w' => ∃ g' cap', e = .returned (.int .i64 ((joinF G l).2 : Int)) ∧ Grv w' base p g' cap' mb (joinF G l).1 ∧ Below base w w' ∧ RowsKept w w' :=
  (c_ijoinE l hl w h hG hlen hk).mono fun e w' ⟨g', cap', h1, h2, h3, h4, _⟩ => ⟨g', cap', h1, h2, h3, h4⟩

/-- The forest behind the first k kids, and their numbers. -/
def pk (L : List Cl) (n : Nat) (x y : Int) (G : List Qd) : Nat → List Qd × List Int
  | 0 => (G, [])
  | k + 1 => ((treeL L n (kx n k x) (ky n k y) (pk L n x y G k).1).1, (pk L n x y G k).2 ++ [((treeL L n (kx n k x) (ky n k y) (pk L n x y G k).1).2 : Int)])
theorem pk_four (L : List Cl) (n : Nat) (x y : Int) (G : List Qd) : treeL L (n + 1) x y G = joinF (pk L n x y G 4).1 (pk L n x y G 4).2 := by
  simp [pk, treeL, kx, ky]
theorem pk_facts (L : List Cl) (n : Nat) (x y : Int) (G : List Qd) (hn : n < 5) (h : Grows G) : ∀ k, Grows (pk L n x y G k).1 ∧ (pk L n x y G k).1.length + k ≤ G.length + k * 4 ^ n ∧ (pk L n x y G k).2.length = k
  | 0 => ⟨h, by simp [pk], rfl⟩
  | k + 1 => by
    obtain ⟨h1, h2, h3⟩ := pk_facts L n x y G hn h k
    have t := treeL_tr L n (kx n k x) (ky n k y) _ (by omega) h1
    refine ⟨t.grows, ?_, by simp [pk, h3]⟩
    have := t.most
    have e : (k + 1) * 4 ^ n = k * 4 ^ n + 4 ^ n := Nat.succ_mul _ _
    simp only [pk]
    omega
theorem pk_join (L : List Cl) (n : Nat) (x y : Int) (G : List Qd) (hn : n < 5) (h : Grows G) : ∀ j, j < 4 → 0 ≤ ia (pk L n x y G 4).2 j ∧ ia (pk L n x y G 4).2 j < ((pk L n x y G 4).1.length : Int) := by
  have t0 := treeL_tr L n (kx n 0 x) (ky n 0 y) G (by omega) h
  have t1 := treeL_tr L n (kx n 1 x) (ky n 1 y) _ (by omega) t0.grows
  have t2 := treeL_tr L n (kx n 2 x) (ky n 2 y) _ (by omega) t1.grows
  have t3 := treeL_tr L n (kx n 3 x) (ky n 3 y) _ (by omega) t2.grows
  exact (tr_join hn t0 t1 t2 t3).2.1
theorem pk_at (L : List Cl) (n : Nat) (x y : Int) (G : List Qd) (hn : n < 5) (h : Grows G) (k j : Nat) : (if j = k then ((treeL L n (kx n k x) (ky n k y) (pk L n x y G k).1).2 : Int) else if j < k then ia (pk L n x y G k).2 j else 0) = (if j < k + 1 then ia (pk L n x y G (k + 1)).2 j else 0) := by
  have h3 := (pk_facts L n x y G hn h k).2.2
  by_cases e : j = k
  · subst e
    rw [if_pos rfl, if_pos (by omega)]
    simp only [pk, ia]
    rw [List.getD_eq_getElem?_getD, List.getElem?_append_right (by omega), h3]
    simp
  · rw [if_neg e]
    by_cases e2 : j < k
    · rw [if_pos e2, if_pos (by omega)]
      simp only [pk, ia]
      rw [List.getD_eq_getElem?_getD, List.getD_eq_getElem?_getD, List.getElem?_append_left (by omega)]
    · rw [if_neg e2, if_neg (by omega)]
/-- Four numbers in a box. -/
def FRow (w : World) (B : Nat) (f : Nat → Int) : Prop := w.rowIs B 96 4 (fun j => .int .i64 (f j))
theorem frow_new (w : World) : FRow (w.alloc (.cells #[.int .i64 0, .int .i64 0, .int .i64 0, .int .i64 0] 96)) w.heap.size (fun _ => 0) := by
  refine ⟨_, heap_alloc_new _ _, rfl, fun i hi => ?_⟩
  rcases (show i = 0 ∨ i = 1 ∨ i = 2 ∨ i = 3 by omega) with rfl | rfl | rfl | rfl <;> rfl
def CRow (w : World) (B : Nat) (x y : Int) : Prop := w.rowIs B 41 2 (fun j => if j = 0 then .int .i64 x else .int .i64 y)

set_option maxHeartbeats 4000000 in
set_option maxRecDepth 100000 in
theorem c_plant (L : List Cl) (la : Option Addr) (lca : Nat) (W0 : World) (hL : Seg W0 la L) (hLl : L.length ≤ 1048576) (hr : risTo L L.length = true) (base p mb : Nat) (hb0 : W0.heap.size ≤ base) : ∀ (n : Nat) (x y : Int) (G : List Qd) (g cap : Nat) (w : World),
    n ≤ 5 → Grows G → G.length + 4 ^ n ≤ 10000 → -100000 ≤ x → x + 2 ^ n ≤ 100000 → -100000 ≤ y → y + 2 ^ n ≤ 100000 → Grv w base p g cap mb G → Below W0.heap.size W0 w →
    Calls Tryz.prog 142 #[.pointer (some ⟨p, 0, none⟩), .int .i64 (n : Int), .agg #[.int .i64 x, .int .i64 y], .slice la L.length lca] w fun e w' => ∃ g' cap', e = .returned (.int .i64 ((treeL L n x y G).2 : Int)) ∧ Grv w' base p g' cap' mb (treeL L n x y G).1 ∧ Below base w w' ∧ RowsKept w w' := by
  intro n
  induction n with
  | zero =>
    intro x y G g cap w hn hGr hlen x0 x1 y0 y1 hG hB
    have HX := hid (BoxIn.new w (x, y) 41)
    have hb1 := HX.out.below
    have HG := hid (hG.below hb1)
    have HB1 := hid hb1
    have hbs : base ≤ w.heap.size := Nat.le_trans hG.lowp (Nat.le_of_lt hG.box.lt)
    have HC := hid (c_hasCell la L lca (x, y) _ ((hL.below hB).below hb1) hLl hr)
    dsimp only at HX HG HB1 HC
    by_cases e : (x, y) ∈ L
    · rw [show decide ((x, y) ∈ L) = true by simp [e]] at HC
      have HV : Hid (treeL L 0 x y G = (G, 1)) := by simp [Hid, treeL, e]
      clear hG hB e hb1 HX
      go_enter Tryz.func142, Tryz.ntmps142
      go_wp2_with fail
      refine HC.out.mono ?_
      rintro e w1 ⟨rfl, hb⟩
      go_wp2_with fail
      go_ret
      rw [HV.out]
      have hbb := HB1.out.trans (hb.mono HB1.out.size)
      exact ⟨g, cap, rfl, HG.out.below hb, hbb.mono hbs, RowsKept.of_below hbb⟩
    · rw [show decide ((x, y) ∈ L) = false by simp [e]] at HC
      have HV : Hid (treeL L 0 x y G = (G, 0)) := by simp [Hid, treeL, e]
      clear hG hB e hb1 HX
      go_enter Tryz.func142, Tryz.ntmps142
      go_wp2_with fail
      refine HC.out.mono ?_
      rintro e w1 ⟨rfl, hb⟩
      go_wp2_with fail
      go_ret
      rw [HV.out]
      have hbb := HB1.out.trans (hb.mono HB1.out.size)
      exact ⟨g, cap, rfl, HG.out.below hb, hbb.mono hbs, RowsKept.of_below hbb⟩
  | succ n ih =>
    intro x y G g cap w hn hGr hlen x0 x1 y0 y1 hG hB
    have HIH := hid ih
    have hpos := pow_pos' n
    have hle : (2 : Int) ^ n ≤ 16 := by
      rcases (show n = 0 ∨ n = 1 ∨ n = 2 ∨ n = 3 ∨ n = 4 by omega) with rfl | rfl | rfl | rfl | rfl <;> decide
    have h4 : (4 : Nat) ^ (n + 1) = 4 * 4 ^ n := by rw [Nat.pow_succ]; omega
    rw [h4] at hlen
    rw [two_pow] at x1 y1
    have HPF := hid (fun k => pk_facts L n x y G (by omega) hGr k)
    have HPJ := hid (pk_join L n x y G (by omega) hGr)
    have HPA := hid (fun k j => pk_at L n x y G (by omega) hGr k j)
    have HP4 := hid (pk_four L n x y G)
    have HLEN := hid hlen
    have hbs : base ≤ w.heap.size := Nat.le_trans hG.lowp (Nat.le_of_lt hG.box.lt)
    have hb1 := (Below.refl w.heap.size w).alloc (Nat.le_refl _) (.cells #[.int .i64 x, .int .i64 y] 41)
    have hb2 := hb1.alloc hb1.size (.cells #[.int .i64 0, .int .i64 0, .int .i64 0, .int .i64 0] 96)
    have C2 : CRow ((w.alloc (.cells #[.int .i64 x, .int .i64 y] 41)).alloc (.cells #[.int .i64 0, .int .i64 0, .int .i64 0, .int .i64 0] 96)) w.heap.size x y := World.rowIs.alloc (two_row (heap_alloc_new _ _)) _
    have F2 := frow_new (w.alloc (.cells #[.int .i64 x, .int .i64 y] 41))
    rw [show (w.alloc (.cells #[.int .i64 x, .int .i64 y] 41)).heap.size = w.heap.size + 1 by simp] at F2
    have HC2 := hid C2
    have HF2 := hid F2
    have HG2 := hid (hG.below hb2)
    have HB2 := hid hb2
    have HBO := hid hB
    clear hG hB ih hlen h4 hb1 hb2 C2 F2
    have dn : ((n : Int) + 1 == 0) = false := by simp; omega
    rw [show ((n + 1 : Nat) : Int) = (n : Int) + 1 by omega]
    go_enter Tryz.func142, Tryz.ntmps142
    go_wp2_with fail
    go_loopw [16] (fun i wr => ∃ (k g' cap' : Nat), k ≤ 4 ∧ i = .int .i64 k ∧ Hid (Grv wr base p g' cap' mb (pk L n x y G k).1) ∧ Hid (CRow wr w.heap.size x y) ∧ Hid (FRow wr (w.heap.size + 1) (fun j => if j < k then ia (pk L n x y G k).2 j else 0)) ∧ Hid (Below base w wr) ∧ Hid (RowsKept w wr)) (fun i _ => 4 - (intOf i).toNat)
    case atStart => exact ⟨0, g, cap, by omega, rfl, HG2.out, HC2.out, (HF2.out.congr fun j hj => by simp), HB2.out.mono hbs, RowsKept.of_below HB2.out⟩
    case round =>
      clear HG2 HC2 HF2 HB2
      obtain ⟨k, g1, cap1, hk, rfl, HG, HCR, HFR, HB, HRK⟩ := hrel
      by_cases hlt : k < 4
      · have k0 : (0 : Int) ≤ (k : Int) := by omega
        have k1 : (k : Int) < 4 := by omega
        have b0 := World.rowIs.cell HCR.out (i := 0) (by omega)
        have b1 := World.rowIs.cell HCR.out (i := 1) (by omega)
        simp only [if_true, if_false, Nat.one_ne_zero] at b0 b1
        have hx : -100000 ≤ kx n k x ∧ kx n k x + 2 ^ n ≤ 100000 := by
          unfold kx
          rcases (show k % 2 = 0 ∨ k % 2 = 1 by omega) with e | e <;> rw [e] <;> simp <;> omega
        have hy : -100000 ≤ ky n k y ∧ ky n k y + 2 ^ n ≤ 100000 := by
          unfold ky
          rcases (show k / 2 = 0 ∨ k / 2 = 1 by omega) with e | e <;> rw [e] <;> simp <;> omega
        have HKC := hid (c_kidCorner n k (by omega) hlt x y wr x0 (by omega) y0 (by omega))
        have HPK := hid (show (pk L n x y G (k + 1)).1 = (treeL L n (kx n k x) (ky n k y) (pk L n x y G k).1).1 from rfl)
        go_wp2_with fail
        refine HKC.out.mono ?_
        rintro e w2 ⟨rfl, hb⟩
        have hpf := HPF.out k
        have hl4 : k * 4 ^ n ≤ 3 * 4 ^ n := Nat.mul_le_mul_right _ (by omega)
        have HPL := hid (HIH.out (kx n k x) (ky n k y) (pk L n x y G k).1 g1 cap1 w2 (by omega) hpf.1 (by have := HLEN.out; have := hpf.2.1; omega) hx.1 hx.2 hy.1 hy.2 (HG.out.below hb) (HBO.out.trans ((HB.out.mono hb0).trans (hb.mono (Nat.le_trans hb0 (Nat.le_trans hbs HB.out.size))))))
        have HR2 := hid (HRK.out.trans (RowsKept.of_below hb))
        have HC2 := hid (World.rowIs.of_block HCR.out (hb.block _ (World.rowIs.lt HCR.out)))
        have HF2 := hid (World.rowIs.of_block HFR.out (hb.block _ (World.rowIs.lt HFR.out)))
        have HB2 := hid (HB.out.trans (hb.mono (Nat.le_trans hbs HB.out.size)))
        clear HKC hb hpf hl4 HG HCR HFR HB HRK
        go_wp2_with fail
        refine HPL.out.mono ?_
        rintro e w3 ⟨g3, cap3, rfl, hG3, hb3, hr3⟩
        have HC3 := hid (hr3 _ _ _ _ (by decide) (by decide) HC2.out)
        have hF3 := hr3 _ _ _ _ (by decide) (by decide) HF2.out
        have c9 := hF3.cell (i := k) (by omega)
        have f9 := hF3.frozen k
        have hF4 : FRow (w3.setCell ⟨w.heap.size + 1, k, none⟩ (.int .i64 ((treeL L n (kx n k x) (ky n k y) (pk L n x y G k).1).2 : Int))) (w.heap.size + 1) (fun j => if j < k + 1 then ia (pk L n x y G (k + 1)).2 j else 0) := by
          refine (World.rowIs.set hF3 k _).congr fun j hj => ?_
          dsimp only
          rw [← HPA.out k j]
          by_cases e : j = k
          · rw [if_pos e, if_pos e]
          · rw [if_neg e, if_neg e]
        have HF4 := hid hF4
        have HC4 := hid (World.rowIs.setOther HC3.out (a := ⟨w.heap.size + 1, k, none⟩) (by dsimp only; omega) (.int .i64 ((treeL L n (kx n k x) (ky n k y) (pk L n x y G k).1).2 : Int)))
        have HG4 := hid (hG3.setFour hF3 k ((treeL L n (kx n k x) (ky n k y) (pk L n x y G k).1).2 : Int))
        have HB4 := hid ((HB2.out.trans hb3).setCell (p := ⟨w.heap.size + 1, k, none⟩) (by dsimp only; omega) (.int .i64 ((treeL L n (kx n k x) (ky n k y) (pk L n x y G k).1).2 : Int)))
        have HR4 := hid (rows_set (HR2.out.trans hr3) (show w.heap.size ≤ w.heap.size + 1 by omega) k (.int .i64 ((treeL L n (kx n k x) (ky n k y) (pk L n x y G k).1).2 : Int)))
        rw [← HPK.out] at HG4
        clear HPL hG3 hb3 hr3 hF3 hF4 HC3 HC2 HF2 HB2 HR2 b0 b1
        generalize ((treeL L n (kx n k x) (ky n k y) (pk L n x y G k).1).2 : Int) = TQ at *
        go_wp2_with fail
        go_roundw
        case rel => exact ⟨k + 1, g3, cap3, by omega, by go_num, HG4.out, HC4.out, HF4.out, HB4.out, HR4.out⟩
        case measure => simp [intOf]; omega
      · obtain rfl : k = 4 := by omega
        have hpf := HPF.out 4
        have b0 := World.rowIs.cell HFR.out (i := 0) (by omega)
        have b1 := World.rowIs.cell HFR.out (i := 1) (by omega)
        have b2 := World.rowIs.cell HFR.out (i := 2) (by omega)
        have b3 := World.rowIs.cell HFR.out (i := 3) (by omega)
        simp only [show (0 : Nat) < 4 by omega, show (1 : Nat) < 4 by omega, show (2 : Nat) < 4 by omega, show (3 : Nat) < 4 by omega, if_true] at b0 b1 b2 b3
        have HJ := hid (c_ijoin (pk L n x y G 4).2 hpf.2.2 wr HG.out hpf.1 (by have := HLEN.out; have := hpf.2.1; omega) HPJ.out)
        unfold kv at HJ
        generalize pk L n x y G 4 = PP at *
        clear hpf
        go_wp2_with fail
        refine HJ.out.mono ?_
        rintro e w3 ⟨g3, cap3, rfl, hG3, hb3, hr3⟩
        have HG3 := hid hG3
        have HB3 := hid (HB.out.trans hb3)
        have HR3 := hid (HRK.out.trans hr3)
        clear hG3 hb3 hr3 HJ
        go_wp2_with fail
        go_ret
        rw [HP4.out]
        exact ⟨g3, cap3, rfl, HG3.out, HB3.out, HR3.out⟩

end Go.Proofs.YtokemdbgcegjiaaGreat
