/- Texts of this seat, one behind the other: Four, Grove, CellI, QuadZ. -/
import Derived.Test.YtokemdbgcegjiaaGreatB01
import Derived.Test.YtokemdbgcegjiaaGreatB02
import Derived.Maps.Own
import Derived.Maps.OwnOps
import Derived.Maps.Views
import Derived.DeepKeys4
import Derived.WideKeyEntry
import Derived.BigRegion
import Derived.Deep.RegionHeld3
import Derived.ChangeSlices
import Derived.ChangeSame
namespace Go.Proofs.YtokemdbgcegjiaaGreat
open Go.RowKit Go.Maps
set_option linter.unusedVariables false
set_option linter.unusedSimpArgs false

theorem wide4 : (match Tryz.prog.underlying 96 with | some (.array _ _) | some (.struct _) => true | _ => false) = true := by kernel_rfl
theorem row4 : 96 < Tryz.prog.types.size := of_decide_eq_true (by kernel_rfl)
set_option maxRecDepth 100000 in
theorem klaw4 : WideMaps.KeyLaw Tryz.prog 96 := deep_law_laid laidOut (m := 2) (by omega) row4 (by kernel_rfl) wide4
theorem law4 : Keyed Tryz.prog 96 := Keyed.of_law klaw4
theorem mund4 : Tryz.prog.underlying 100 = some (.map 96 3) := Tryz.underlying100
theorem mzero4 (w : World) : (zeroValue 3).run Tryz.prog w = .ok (.int .i64 0) w := by kernel_rfl
def fit1 (n : Int) : Prop := -9223372036854775808 ≤ n ∧ n ≤ 9223372036854775807
/-- Four numbers that fit. -/
def fits4 (l : List Int) : Prop := l.length = 4 ∧ ∀ i, i < 4 → fit1 (ia l i)
def kv (l : List Int) : Value := .agg #[.int .i64 (ia l 0), .int .i64 (ia l 1), .int .i64 (ia l 2), .int .i64 (ia l 3)]
def kap4 (l : List Int) : Lit := .string (keyBytes [.int .i64 (ia l 0), .int .i64 (ia l 1), .int .i64 (ia l 2), .int .i64 (ia l 3)])
theorem und_four : Tryz.prog.underlying 96 = some (.array 4 3) := Tryz.underlying96
theorem cells_four : Tryz.prog.cellsOf 96 = 4 := by kernel_rfl
theorem keyType_four : Tryz.prog.keyType 96 = true := by kernel_rfl
theorem wf1 {n : Int} (h : fit1 n) : (Lit.int .i64 n).wf = true := WalkArith.wf_i64 (by unfold fit1 at h; omega)
theorem lits1 (d : Nat) {n : Int} (h : fit1 n) : Tryz.prog.keyLits (d + 1) 3 [.int .i64 n] = some [.int .i64 n] := by
  unfold Program.keyLits
  rw [Tryz.underlying3]
  simp [wf1 h]
theorem lits4 (d : Nat) {a b c e : Int} (ha : fit1 a) (hb : fit1 b) (hc : fit1 c) (he : fit1 e) : Tryz.prog.keyLits (d + 2) 96 [.int .i64 a, .int .i64 b, .int .i64 c, .int .i64 e] = some [.int .i64 a, .int .i64 b, .int .i64 c, .int .i64 e] := by
  conv => lhs; unfold Program.keyLits
  rw [und_four]
  simp only [List.length_cons, List.length_nil, cells_four]
  rw [if_pos trivial, show List.range 4 = [0, 1, 2, 3] from rfl]
  simp only [List.mapM_cons, List.mapM_nil, cells_int, Nat.mul_one, List.drop_zero, List.take_succ_cons, List.take_zero, List.drop_succ_cons, lits1 d ha, lits1 d hb, lits1 d hc, lits1 d he]
  rfl
set_option maxRecDepth 100000 in
theorem key_of4 (l : List Int) (h : fits4 l) : keyOf Tryz.prog 96 (kv l) = some (kap4 l) := by
  obtain ⟨d, hd⟩ : ∃ d, Tryz.prog.types.size + 1 = d + 2 := ⟨Tryz.prog.types.size - 1, by have := row4; omega⟩
  unfold keyOf
  rw [und_four]
  have hf : (kv l).formed Tryz.prog 96 = true := by simp [kv, Value.formed, und_four, cells_four]
  have hc : (kv l).cells.toList = [.int .i64 (ia l 0), .int .i64 (ia l 1), .int .i64 (ia l 2), .int .i64 (ia l 3)] := rfl
  simp only [keyType_four, hf, Bool.and_self, if_true, hd, hc, lits4 d (h.2 0 (by omega)) (h.2 1 (by omega)) (h.2 2 (by omega)) (h.2 3 (by omega))]
  rfl
theorem four_ext {l m : List Int} (hl : l.length = 4) (hm : m.length = 4) (h : ∀ i, i < 4 → ia l i = ia m i) : l = m := by
  apply List.ext_getElem (by omega)
  intro i h1 h2
  have := h i (by omega)
  simpa [ia, h1, h2] using this
theorem kap4_inj {l m : List Int} (hl : fits4 l) (hm : fits4 m) (h : kap4 l = kap4 m) : l = m := by
  have h1 := key_of4 l hl
  have h2 := key_of4 m hm
  rw [h] at h1
  have := law4.inj h1 h2
  simp [kv] at this
  refine four_ext hl.1 hm.1 fun i hi => ?_
  rcases (show i = 0 ∨ i = 1 ∨ i = 2 ∨ i = 3 by omega) with rfl | rfl | rfl | rfl
  · exact this.1
  · exact this.2.1
  · exact this.2.2.1
  · exact this.2.2.2

/-- The map in block b holds f l at each four l that f knows, and nothing at every other one; it has at most n entries. -/
def Map4 (w : World) (b n : Nat) (f : List Int → Option Int) : Prop :=
  ∃ D : DataW Unit, w.ownsMap Tryz.prog 96 (plainElem Tryz.prog 3) b n D ∧ ∀ l, fits4 l → ∀ zd, D.atKey (kap4 l) zd = (match f l with | some i => .lit (.int .i64 i) | none => zd)
theorem Map4.made (w : World) : Map4 (w.alloc (.map #[] 0)) w.heap.size 0 (fun _ => none) :=
  ⟨.map [], World.ownsMap_made w _ _ _, fun _ _ _ => rfl⟩
theorem Map4.lt {w : World} {b n : Nat} {f : List Int → Option Int} (h : Map4 w b n f) : b < w.heap.size := by
  obtain ⟨D, ho, _⟩ := h; exact ho.lt
theorem Map4.kept {w w' : World} {b n : Nat} {f : List Int → Option Int} {row : Option Nat} (h : Map4 w b n f) (hg : w.grownBy w' row) (hne : some b ≠ row) : Map4 w' b n f := by
  obtain ⟨D, ho, h1⟩ := h; exact ⟨D, ho.kept hg hne, h1⟩
theorem Map4.congr {w : World} {b n : Nat} {f f' : List Int → Option Int} (h : Map4 w b n f) (h1 : ∀ l, fits4 l → f l = f' l) : Map4 w b n f' := by
  obtain ⟨D, ho, k1⟩ := h
  exact ⟨D, ho, fun l hl zd => by rw [k1 l hl, h1 l hl]⟩
/-- What looking up gives. -/
theorem Map4.look {w : World} {b n : Nat} {f : List Int → Option Int} (h : Map4 w b n f) {l : List Int} (hl : fits4 l) :
    (Instr.lookup 100 (.map (some b)) (kv l) true).run Tryz.prog w = .ok (.tuple #[.int .i64 ((f l).getD 0), .bool (f l).isSome]) w := by
  obtain ⟨D, ⟨es, clock, hb, F, _, rfl⟩, h2⟩ := h
  have hk := h2 l hl
  rcases Maps.fit_look true law4 mund4 (mzero4 w) hb F (key_of4 l hl) with ⟨hrun, _, hat⟩ | ⟨e0, y, _, _, hrun, hRv, hat, _⟩
  · cases hf : f l with
    | none => rw [hrun]; rfl
    | some i =>
      have := hk (.lit (.int .i64 (i + 1)))
      rw [hat, hf] at this
      simp only [DataW.lit.injEq, Lit.int.injEq, true_and] at this
      omega
  · cases hf : f l with
    | none =>
      have t0 := hk (.lit (.int .i64 0))
      have t1 := hk (.lit (.int .i64 1))
      rw [hat, hf] at t0 t1
      simp only at t0 t1
      rw [t0] at t1
      simp at t1
    | some i =>
      have t0 := hk (.lit (.int .i64 0))
      rw [hat, hf] at t0
      simp only at t0
      obtain ⟨a, e1, e2, _⟩ := plainElem_int_inv Tryz.underlying3 hRv
      rw [e2] at t0
      simp at t0
      rw [hrun, e1, t0]; rfl
/-- What a store leaves. -/
theorem Map4.put {w : World} {b n : Nat} {f : List Int → Option Int} (h : Map4 w b n f) {l : List Int} (hl : fits4 l) (hn : n < maxLen) {v : Int} (hv : fit1 v) :
    ∃ w', (Instr.mapUpdate 100 (.map (some b)) (kv l) (.int .i64 v)).run Tryz.prog w = .ok () w' ∧ Map4 w' b (n + 1) (fun m => if m = l then some v else f m) ∧ w.grownBy w' (some b) := by
  obtain ⟨D, ho, h2⟩ := h
  have him : Maps.IsMap D := by
    obtain ⟨es, clock, hb, F, _, hD⟩ := ho
    exact ⟨_, hD⟩
  obtain ⟨w', hrun, ho', hg⟩ := ho.update law4 mund4 hn (key_of4 l hl) (plainElem_int Tryz.underlying3 (wf1 hv))
  refine ⟨w', hrun, ⟨_, ho', fun m hm zd => ?_⟩, hg⟩
  by_cases e : m = l
  · subst e
    rw [Maps.atKey_put_same him (law4.key (key_of4 m hm))]; simp
  · rw [Maps.atKey_put_other (fun h => e (kap4_inj hm hl h)), h2 m hm]; simp [e]

end Go.Proofs.YtokemdbgcegjiaaGreat

namespace Go.Proofs.YtokemdbgcegjiaaGreat
open Go.RowKit Go.Maps
set_option linter.unusedVariables false
attribute [local go_sem ↓] Go.wp_at_zero Go.wp_at_succ

/-- A node's cells. -/
def nq (q : Qd) : List Value := [.int .i64 q.1, .int .i64 (ia q.2 0), .int .i64 (ia q.2 1), .int .i64 (ia q.2 2), .int .i64 (ia q.2 3)]
def nflat (G : List Qd) : List Value := G.flatMap nq
theorem nflat_length (G : List Qd) : (nflat G).length = G.length * 5 := by
  induction G with
  | nil => rfl
  | cons c r ih => simp only [nflat, List.flatMap_cons, List.length_append, List.length_cons] at *; simp [nq] at *; omega
theorem nflat_append (G H : List Qd) : nflat (G ++ H) = nflat G ++ nflat H := by simp [nflat]
theorem nflat_at {G : List Qd} {i j : Nat} (h : i < G.length) (hj : j < 5) : (nflat G)[i * 5 + j]? = (nq (qa G i))[j]? := by
  induction G generalizing i with
  | nil => simp at h
  | cons c r ih =>
    have hc : (nq c).length = 5 := rfl
    cases i with
    | zero =>
      simp only [nflat, List.flatMap_cons, Nat.zero_mul, Nat.zero_add]
      rw [List.getElem?_append_left (by omega)]
      simp [qa]
    | succ i =>
      simp only [nflat, List.flatMap_cons]
      rw [List.getElem?_append_right (by omega), hc, show (i + 1) * 5 + j - 5 = i * 5 + j by omega]
      have := ih (i := i) (by simpa using h)
      rw [nflat] at this
      rw [this]
      simp [qa]
theorem nq_one (q : Qd) : ∀ u ∈ nq q, u.oneCell' = true := by
  intro u hu
  simp only [nq, List.mem_cons, List.not_mem_nil, or_false] at hu
  rcases hu with rfl | rfl | rfl | rfl | rfl <;> rfl

/-- The number of the quad with these kids, among the first k. -/
def numTo (G : List Qd) : Nat → List Int → Option Int
  | 0, _ => none
  | k + 1, l => if 2 ≤ k ∧ l = (qa G k).2 then some (k : Int) else numTo G k l
theorem qa_snoc_old {G : List Qd} {q : Qd} {i : Nat} (h : i < G.length) : qa (G ++ [q]) i = qa G i := by simp [qa, List.getElem?_append_left h]
theorem qa_snoc_new (G : List Qd) (q : Qd) : qa (G ++ [q]) G.length = q := by simp [qa]
theorem numTo_snoc (G : List Qd) (q : Qd) : ∀ k, k ≤ G.length → numTo (G ++ [q]) k = numTo G k
  | 0, _ => rfl
  | k + 1, h => by
    funext l
    simp only [numTo, qa_snoc_old (q := q) (show k < G.length by omega), numTo_snoc G q k (by omega)]
theorem numTo_some {G : List Qd} {l : List Int} : ∀ {k : Nat} {i : Int}, numTo G k l = some i → ∃ n : Nat, i = n ∧ 2 ≤ n ∧ n < k ∧ (qa G n).2 = l
  | 0, i, h => by simp [numTo] at h
  | k + 1, i, h => by
    simp only [numTo] at h
    split at h
    · rename_i hc
      simp at h
      exact ⟨k, h.symm, hc.1, by omega, hc.2.symm⟩
    · obtain ⟨n, h1, h2, h3, h4⟩ := numTo_some h
      exact ⟨n, h1, h2, by omega, h4⟩
theorem numTo_none {G : List Qd} {l : List Int} : ∀ {k : Nat}, numTo G k l = none → ∀ n, 2 ≤ n → n < k → (qa G n).2 ≠ l
  | 0, h, n, h2, hk => by omega
  | k + 1, h, n, h2, hk => by
    simp only [numTo] at h
    split at h
    · cases h
    · rename_i hc
      by_cases e : n = k
      · subst e; intro e2; exact hc ⟨h2, e2.symm⟩
      · exact numTo_none h n h2 (by omega)

/-- A grove: its box is block p, its nodes are block g, its map is block mb. -/
structure Grv (w : World) (base p g cap mb : Nat) (G : List Qd) : Prop where
  lowp : base ≤ p
  lowm : base ≤ mb
  box : w.rowIs p 102 2 (fun j => if j = 0 then .slice (some ⟨g, 0, none⟩) G.length cap else .map (some mb))
  own : w.ownsRow base 98 5 (.slice (some ⟨g, 0, none⟩) G.length cap) G.length (nflat G)
  map : Map4 w mb G.length (numTo G G.length)
  pm : p ≠ mb
  pg : p ≠ g
  mg : mb ≠ g
theorem Grv.below {w w' : World} {base p g cap mb : Nat} {G : List Qd} (h : Grv w base p g cap mb G) (hb : Below w.heap.size w w') : Grv w' base p g cap mb G :=
  ⟨h.lowp, h.lowm, h.box.of_block (hb.block _ h.box.lt), World.ownsRow.kept h.own (grown_of_below hb none) (.inr (by simp [Value.ownBlock])), h.map.kept (grown_of_below hb none) (by simp), h.pm, h.pg, h.mg⟩
theorem Grv.lev {w : World} {base p g cap mb : Nat} {G : List Qd} (h : Grv w base p g cap mb G) {i : Nat} (hi : i < G.length) : w.cell? ⟨g, i * 5, none⟩ = some (.int .i64 (qa G i).1) := by
  have := World.ownsRow.cellAt h.own (i * 5) (by omega)
  have e := nflat_at (G := G) (i := i) (j := 0) hi (by omega)
  rw [Nat.add_zero] at e
  rw [this, e]; rfl
theorem Grv.lt {w : World} {base p g cap mb : Nat} {G : List Qd} (h : Grv w base p g cap mb G) : base ≤ g ∧ g < w.heap.size := World.ownsRow.lt h.own g rfl
theorem Grv.c0 {w : World} {base p g cap mb : Nat} {G : List Qd} (h : Grv w base p g cap mb G) : w.cell? ⟨p, 0, none⟩ = some (.slice (some ⟨g, 0, none⟩) G.length cap) := by
  have := h.box.cell (i := 0) (by omega)
  simpa using this
theorem Grv.c1 {w : World} {base p g cap mb : Nat} {G : List Qd} (h : Grv w base p g cap mb G) : w.cell? ⟨p, 1, none⟩ = some (.map (some mb)) := by
  have := h.box.cell (i := 1) (by omega)
  simpa using this

/-- What make lays at once for a grove. -/
theorem info_node : (Tryz.prog.info? 98).map (fun i => (i.zero, i.size, i.bytes)) = some (some (.agg #[.int .i64 0, .int .i64 0, .int .i64 0, .int .i64 0, .int .i64 0]), 5, 40) := by kernel_rfl
theorem make_Nodes (w : World) :
    (Instr.makeSlice 99 (.int .i64 2) (.int .i64 2)).run Tryz.prog w = .ok (.slice (some ⟨w.heap.size, 0, none⟩) 2 2) (w.alloc (.cells (madeCells #[.int .i64 0, .int .i64 0, .int .i64 0, .int .i64 0, .int .i64 0] 10) 98)) := by
  obtain ⟨i, hi, hz, hs, hb⟩ := info_parts info_node
  have := run_make (P := Tryz.prog) w 99 98 i _ Tryz.underlying99 hi hz .i64 .i64 2 2 (by omega) (Int.le_refl _) (by rw [hb]; omega) (by omega)
  simpa [hs, Value.cells] using this
/-- The two quads of a cell. -/
def two : List Qd := [(0, []), (0, [])]
theorem grv_new (w : World) :
    Grv (((w.alloc (.cells (madeCells #[.int .i64 0, .int .i64 0, .int .i64 0, .int .i64 0, .int .i64 0] 10) 98)).alloc (.map #[] 0)).alloc (.cells #[.slice (some ⟨w.heap.size, 0, none⟩) 2 2, .map (some (w.heap.size + 1))] 102)) w.heap.size (w.heap.size + 2) w.heap.size 2 (w.heap.size + 1) two := by
  obtain ⟨W1, hW1⟩ : ∃ W1, W1 = w.alloc (.cells (madeCells #[.int .i64 0, .int .i64 0, .int .i64 0, .int .i64 0, .int .i64 0] 10) 98) := ⟨_, rfl⟩
  obtain ⟨W2, hW2⟩ : ∃ W2, W2 = W1.alloc (.map #[] 0) := ⟨_, rfl⟩
  have s1 : W1.heap.size = w.heap.size + 1 := by rw [hW1]; simp
  have s2 : W2.heap.size = w.heap.size + 2 := by rw [hW2]; simp [s1]
  rw [← hW1, ← hW2]
  refine ⟨by omega, by omega, ?_, ?_, ?_, by omega, by omega, by omega⟩
  · rw [← s2]; exact two_row (heap_alloc_new _ _)
  · refine World.ownsRow.alloc ?_ _
    rw [hW2]
    refine World.ownsRow.alloc ?_ _
    rw [hW1]
    have h := World.ownsRow_lit (size := 5) (e := 98) w (madeCells #[.int .i64 0, .int .i64 0, .int .i64 0, .int .i64 0, .int .i64 0] 10) 2 (Nat.le_refl _) (by simp [maxLen]) (by simp [madeCells])
    have e : (madeCells #[.int .i64 0, .int .i64 0, .int .i64 0, .int .i64 0, .int .i64 0] 10).toList = nflat two := by kernel_rfl
    rw [e] at h
    exact h
  · have hm := Map4.made W1
    rw [← hW2, s1] at hm
    have hm2 := hm.kept (grown_of_below ((Below.refl W2.heap.size W2).alloc (Nat.le_refl _) (.cells #[.slice (some ⟨w.heap.size, 0, none⟩) 2 2, .map (some (w.heap.size + 1))] 102)) none) (by simp)
    obtain ⟨D, ho, hd⟩ := hm2
    refine ⟨D, ho.mono (Nat.zero_le _), fun l hl zd => ?_⟩
    rw [hd l hl]
    rfl

set_option maxHeartbeats 400000 in
theorem c_newGrove (w : World) :
    Calls Tryz.prog 100 #[] w fun e w' => e = .returned (.pointer (some ⟨w.heap.size + 2, 0, none⟩)) ∧ Grv w' w.heap.size (w.heap.size + 2) w.heap.size 2 (w.heap.size + 1) two ∧ Below w.heap.size w w' := by
  have hmm := @run_makeMap Tryz.prog
  have hmk := make_Nodes
  have HG := hid (grv_new w)
  go_enter Tryz.func100, Tryz.ntmps100
  go_wp2
  go_ret
  exact ⟨rfl, HG.out, (((Below.refl _ _).alloc (Nat.le_refl _) _).alloc (by simp) _).alloc (by simp; omega) _⟩

set_option maxHeartbeats 400000 in
theorem c_has (x : Int) (w : World) {base p g cap mb : Nat} {G : List Qd} (h : Grv w base p g cap mb G) :
    Calls Tryz.prog 64 #[.pointer (some ⟨p, 0, none⟩), .int .i64 x] w fun e w' => e = .returned (.bool (inB 0 ((G.length : Int) - 1) x)) ∧ w' = w := by
  have c0 := h.c0
  clear h
  by_cases h0 : 0 ≤ x
  · have d0 : decide (0 ≤ x) = true := decide_eq_true h0
    by_cases h1 : x < (G.length : Int)
    · have d1 : decide (x < (G.length : Int)) = true := decide_eq_true h1
      go_enter Tryz.func64, Tryz.ntmps64
      go_wp2
      go_ret
      exact ⟨ret_bool (by simp [inB] <;> omega), rfl⟩
    · have d1 : decide (x < (G.length : Int)) = false := decide_eq_false h1
      go_enter Tryz.func64, Tryz.ntmps64
      go_wp2
      go_ret
      exact ⟨ret_bool (by simp [inB] <;> omega), rfl⟩
  · have d0 : decide (0 ≤ x) = false := decide_eq_false h0
    go_enter Tryz.func64, Tryz.ntmps64
    go_wp2
    go_ret
    exact ⟨ret_bool (by simp [inB] <;> omega), rfl⟩
theorem c_has' (x : Int) (v : Bool) (w : World) {base p g cap mb : Nat} {G : List Qd} (hv : inB 0 ((G.length : Int) - 1) x = v) (h : Grv w base p g cap mb G) :
    Calls Tryz.prog 64 #[.pointer (some ⟨p, 0, none⟩), .int .i64 x] w fun e w' => e = .returned (.bool v) ∧ Below w.heap.size w w' := by
  rw [← hv]
  exact (c_has x w h).mono fun e w' ⟨h1, h2⟩ => ⟨h1, by rw [h2]; exact Below.refl _ _⟩

theorem four_index (l : List Int) (k : Nat) (hk : k < 4) (w : World) : (Instr.index 96 (kv l) (.int .i64 (k : Int))).run Tryz.prog w = .ok (.int .i64 (ia l k)) w := by
  rcases (show k = 0 ∨ k = 1 ∨ k = 2 ∨ k = 3 by omega) with h | h | h | h
  all_goals
    subst h
    kernel_rfl

end Go.Proofs.YtokemdbgcegjiaaGreat

namespace Go.Proofs.YtokemdbgcegjiaaGreat
open Go.RowKit
set_option linter.unusedVariables false
set_option linter.unusedSimpArgs false
attribute [local go_sem ↓] Go.wp_at_zero Go.wp_at_succ

/-- The corner of kid i. -/
def kx (n i : Nat) (x : Int) : Int := x + ((i % 2 : Nat) : Int) * 2 ^ n
def ky (n i : Nat) (y : Int) : Int := y + ((i / 2 : Nat) : Int) * 2 ^ n

set_option maxHeartbeats 1000000 in
set_option maxRecDepth 100000 in
theorem c_kidCorner (n i : Nat) (hn : n < 5) (hi : i < 4) (x y : Int) (w : World) (x0 : -100000 ≤ x) (x1 : x ≤ 100000) (y0 : -100000 ≤ y) (y1 : y ≤ 100000) :
    Calls Tryz.prog 132 #[.int .i64 ((n : Int) + 1), .agg #[.int .i64 x, .int .i64 y], .int .i64 (i : Int)] w fun e w' => e = .returned (.agg #[.int .i64 (kx n i x), .int .i64 (ky n i y)]) ∧ Below w.heap.size w w' := by
  have hpos := pow_pos' n
  have hle : (2 : Int) ^ n ≤ 16 := by
    rcases (show n = 0 ∨ n = 1 ∨ n = 2 ∨ n = 3 ∨ n = 4 by omega) with rfl | rfl | rfl | rfl | rfl <;> decide
  have B2 := hid (((Below.refl w.heap.size w).alloc (Nat.le_refl _) (.cells #[.int .i64 x, .int .i64 y] 41)).alloc (by simp) (.cells #[.int .i64 0, .int .i64 0] 41))
  rcases (show i = 0 ∨ i = 1 ∨ i = 2 ∨ i = 3 by omega) with rfl | rfl | rfl | rfl
  all_goals
    go_enter Tryz.func132, Tryz.ntmps132
    go_wp2
    refine bodyPost_ret (v := .agg #[.int .i64 (kx n _ x), .int .i64 (ky n _ y)]) (by simp [results, Tryz.results132, go_sem, kx, ky]) rfl ⟨rfl, ((Below.refl _ _).alloc (Nat.le_refl _) _).alloc (by simp) _⟩

/-- The cells of the first i kids. -/
def cellsTo (F : List Qd) (n q : Nat) (x y : Int) : Nat → List Cl
  | 0 => []
  | i + 1 => cellsTo F n q x y i ++ cellsL F n (kidq F q i) (kx n i x) (ky n i y)
theorem cellsTo_four (F : List Qd) (n q : Nat) (x y : Int) : cellsTo F n q x y 4 = cellsL F (n + 1) q x y := by
  simp [cellsTo, cellsL, kx, ky]
theorem cellsTo_len (F : List Qd) (n q : Nat) (x y : Int) : ∀ i, (cellsTo F n q x y i).length ≤ i * 4 ^ n
  | 0 => by simp [cellsTo]
  | i + 1 => by
    have h1 := cellsTo_len F n q x y i
    have h2 := cellsL_len F n (kidq F q i) (kx n i x) (ky n i y)
    have h3 : (i + 1) * 4 ^ n = i * 4 ^ n + 4 ^ n := Nat.succ_mul _ _
    simp only [cellsTo, List.length_append]
    omega
theorem Grv.kidAt {w : World} {base p g cap mb : Nat} {G : List Qd} (h : Grv w base p g cap mb G) {i : Nat} (hi : i < G.length) {j : Nat} (hj : j < 4) : w.cell? ⟨g, i * 5 + 1 + j, none⟩ = some (.int .i64 (ia (qa G i).2 j)) := by
  have h1 := World.ownsRow.cellAt h.own (i * 5 + (1 + j)) (by omega)
  have e := nflat_at (G := G) (i := i) (j := 1 + j) hi (by omega)
  rw [show i * 5 + 1 + j = i * 5 + (1 + j) by omega, h1, e]
  rcases (show j = 0 ∨ j = 1 ∨ j = 2 ∨ j = 3 by omega) with rfl | rfl | rfl | rfl <;> rfl

/-- What a round of appendCells reads. -/
theorem seenA {W0 w W : World} {b0 p g cap mb base : Nat} {F : List Qd} {v vi : Value} {x y : Int} {l l0 : List Cl} {q n : Nat} (hG : Grv W0 b0 p g cap mb F) (h : Stg w W base v vi [.int .i64 x, .int .i64 y] l) (hv : OwnS w base v l0) (hB : Below W0.heap.size W0 w) (hb : W0.heap.size ≤ base) (hq : q < F.length) (hlev : (qa F q).1 = (n : Int) + 1) :
    W.cell? ⟨p, 0, none⟩ = some (.slice (some ⟨g, 0, none⟩) F.length cap) ∧ W.cell? ⟨g, q * 5, none⟩ = some (.int .i64 ((n : Int) + 1)) ∧ W.cell? ⟨w.heap.size, 0, none⟩ = some (.int .i64 x) ∧ W.cell? ⟨w.heap.size, 1, none⟩ = some (.int .i64 y) := by
  have G := hG.below (h.old hv hB hb)
  exact ⟨G.c0, by rw [← hlev]; exact G.lev hq, h.box 0 _ rfl, h.box 1 _ rfl⟩

set_option maxHeartbeats 4000000 in
set_option maxRecDepth 100000 in
theorem c_appendCells {F : List Qd} (hg : goodF F = true) {W0 : World} {b0 p g cap mb : Nat} (hG : Grv W0 b0 p g cap mb F) : ∀ (n : Nat) (q x y : Int) (v : Value) (out : List Cl) (w : World) (base : Nat),
    0 ≤ q → q < (F.length : Int) → (qa F q.toNat).1 = (n : Int) → -100000 ≤ x → x + 2 ^ n ≤ 100000 → -100000 ≤ y → y + 2 ^ n ≤ 100000 → Below W0.heap.size W0 w → W0.heap.size ≤ base → base ≤ w.heap.size → OwnS w base v out → out.length + 4 ^ n ≤ 4000000 →
    Calls Tryz.prog 109 #[.pointer (some ⟨p, 0, none⟩), v, .int .i64 q, .agg #[.int .i64 x, .int .i64 y]] w fun e w' => ∃ v', e = .returned v' ∧ OwnS w' base v' (out ++ cellsL F n q.toNat x y) ∧ w.grownBy w' v.ownBlock ∧ Near' w v v' := by
  intro n
  induction n with
  | zero =>
    intro q x y v out w base h0 h1 hlev x0 x1 y0 y1 hB hb0 hb1 hO hlen
    have hq2 := (lev_two hg (q := q.toNat) (by omega)).1 (by simpa using hlev)
    rcases (show q = 0 ∨ q = 1 by omega) with rfl | rfl
    · have S1 := hid (Stg.new hO [.int .i64 x, .int .i64 y] 41)
      clear hO
      go_enter Tryz.func109, Tryz.ntmps109
      go_wp2
      go_ret
      exact ⟨v, rfl, by simpa [cellsL] using S1.out.own, S1.out.gr, S1.out.near⟩
    · have HO := hid hO
      have S1 := hid (Stg.new hO [.int .i64 x, .int .i64 y] 41)
      clear hO
      have HS2 := hid (S1.out.below ((Below.refl _ _).alloc (Nat.le_refl _) (.cells #[.int .i64 x, .int .i64 y] 41)))
      have hsg := (seg_block (heap_alloc_new (w.alloc (.cells #[.int .i64 x, .int .i64 y] 41)) (.cells #[.int .i64 x, .int .i64 y] 41)) : Seg _ _ [(x, y)])
      rw [show (w.alloc (.cells #[.int .i64 x, .int .i64 y] 41)).heap.size = w.heap.size + 1 by simp] at hsg
      have HSG := hid hsg
      clear hsg
      go_enter Tryz.func109, Tryz.ntmps109
      go_wp2_with (at_builtin; refine wpList_appAt rfl _ _ rfl base _ out [(x, y)] _ 1 rfl HS2.out.own rfl HSG.out (by simp at hlen ⊢; omega) (by simp; omega) ?_; intro v' w2 hO2 hG2 hN2)
      go_ret
      have S3 := HS2.out.step HO.out hO2 hG2 hN2
      exact ⟨v', rfl, by simpa [cellsL] using S3.own, S3.gr, S3.near⟩
  | succ n ih =>
    intro q x y v out w base h0 h1 hlev x0 x1 y0 y1 hB hb0 hb1 hO hlen
    have hq2 : 2 ≤ q := by
      have := (lev_two hg (q := q.toNat) (by omega))
      rw [hlev] at this
      have h3 : ¬ q.toNat < 2 := fun h => by have := this.2 h; omega
      omega
    obtain ⟨k4, l1, l5, kin, klev⟩ := good_quad hg (q := q.toNat) (by omega) (by omega)
    have d0 : (q == 0) = false := by simp; omega
    have d1 : (q == 1) = false := by simp; omega
    have hn5 : n < 5 := by omega
    have hlev' : (qa F q.toNat).1 = (n : Int) + 1 := by rw [hlev]; omega
    have hqn : q.toNat < F.length := by omega
    have S1 := hid (Stg.new hO [.int .i64 x, .int .i64 y] 41)
    have G1 := hG.below (S1.out.old hO hB hb0)
    have c0 := G1.c0
    have e0 := G1.kidAt (i := q.toNat) (by omega) (j := 0) (by omega)
    have e1 := G1.kidAt (i := q.toNat) (by omega) (j := 1) (by omega)
    have e2 := G1.kidAt (i := q.toNat) (by omega) (j := 2) (by omega)
    have e3 := G1.kidAt (i := q.toNat) (by omega) (j := 3) (by omega)
    rw [Nat.add_zero] at e0
    have hpos := pow_pos' n
    have hle : (2 : Int) ^ n ≤ 16 := by
      rcases (show n = 0 ∨ n = 1 ∨ n = 2 ∨ n = 3 ∨ n = 4 by omega) with rfl | rfl | rfl | rfl | rfl <;> decide
    have H4 := hid (show (4 : Nat) ^ (n + 1) = 4 * 4 ^ n by rw [Nat.pow_succ]; omega)
    rw [two_pow] at x1 y1
    have HIH := hid ih
    have HB := hid hB
    have HO := hid hO
    have HLV := hid hlev'
    have HLEN := hid hlen
    have HKI := hid kin
    have HKL := hid klev
    have HGG := hid hG
    clear ih hB hO hlen hlev hlev' kin klev l1 l5 k4 G1
    go_enter Tryz.func109, Tryz.ntmps109
    go_wp2_with fail
    go_loopw [29, 1] (fun i vi wr => ∃ k : Nat, k ≤ 4 ∧ i = .int .i64 k ∧ Hid (Stg w wr base v vi [.int .i64 x, .int .i64 y] (out ++ cellsTo F n q.toNat x y k))) (fun i _ _ => 4 - (intOf i).toNat)
    case atStart => exact ⟨0, by omega, rfl, (by show Stg _ _ _ _ _ _ _; simpa [cellsTo] using S1.out)⟩
    case round =>
      clear S1 c0 e0 e1 e2 e3
      obtain ⟨k, hk, rfl, SG⟩ := hrel
      by_cases hlt : k < 4
      · have hidx := four_index (qa F q.toNat).2 k hlt
        unfold kv at hidx
        have k0 : (0 : Int) ≤ (k : Int) := by omega
        have k1 : (k : Int) < 4 := by omega
        have hki := HKI.out k hlt
        have HKK := hid (show (qa F (ia (qa F q.toNat).2 k).toNat).1 = (n : Int) by have := HKL.out k hlt; rw [HLV.out] at this; unfold kidq at this; omega)
        have HT := hid (show cellsTo F n q.toNat x y (k + 1) = cellsTo F n q.toNat x y k ++ cellsL F n (ia (qa F q.toNat).2 k).toNat (kx n k x) (ky n k y) from rfl)
        have HLN := hid (show (out ++ cellsTo F n q.toNat x y k).length + 4 ^ n ≤ 4000000 by
          have h1 := cellsTo_len F n q.toNat x y k
          have h2 := HLEN.out
          rw [H4.out] at h2
          have h3 : k * 4 ^ n ≤ 3 * 4 ^ n := Nat.mul_le_mul_right _ (by omega)
          rw [List.length_append]; omega)
        have hx : -100000 ≤ kx n k x ∧ kx n k x + 2 ^ n ≤ 100000 := by
          unfold kx
          rcases (show k % 2 = 0 ∨ k % 2 = 1 by omega) with e | e <;> rw [e] <;> simp <;> omega
        have hy : -100000 ≤ ky n k y ∧ ky n k y + 2 ^ n ≤ 100000 := by
          unfold ky
          rcases (show k / 2 = 0 ∨ k / 2 = 1 by omega) with e | e <;> rw [e] <;> simp <;> omega
        have HSN := hid (seenA HGG.out SG.out HO.out HB.out hb0 hqn HLV.out)
        have SD := hid SG.out.drew
        have HSN2 := hid (fun (W : World) (h : Below wr.drew.heap.size wr.drew W) => seenA HGG.out (SD.out.below h) HO.out HB.out hb0 hqn HLV.out)
        have HSN3 := hid (fun (W : World) (vj : Value) (l : List Cl) (h : Stg w W base v vj [.int .i64 x, .int .i64 y] l) => seenA HGG.out h HO.out HB.out hb0 hqn HLV.out)
        have HKC := hid (fun W : World => c_kidCorner n k hn5 hlt x y W x0 (by omega) y0 (by omega))
        generalize hkq : ia (qa F q.toNat).2 k = qk at *
        have HQK := hid hkq
        clear hkq
        obtain ⟨s1, s2, s3, s4⟩ := HSN.out
        go_wp2_with fail
        go_region_held3 (fun w' => w'.cell? ⟨p, 0, none⟩ = some (.slice (some ⟨g, 0, none⟩) F.length cap) ∧ w'.cell? ⟨g, q.toNat * 5, none⟩ = some (.int .i64 ((n : Int) + 1)) ∧ w'.cell? ⟨w.heap.size, 0, none⟩ = some (.int .i64 x) ∧ w'.cell? ⟨w.heap.size, 1, none⟩ = some (.int .i64 y))
          (first | exact HSN.out | exact HSN2.out _ hb2 | exact HSN3.out _ _ _ S3.out | go_keep)
          (first
            | (go_at_call 132; refine (HKC.out _).mono ?_; rintro e w2 ⟨rfl, hb2⟩)
            | (go_at_call 109; refine (HIH.out qk (kx n k x) (ky n k y) _ _ w2 base (by omega) (by omega) HKK.out hx.1 hx.2 hy.1 hy.2 ((SD.out.below hb2).old HO.out HB.out hb0) hb0 (Nat.le_trans hb1 (SD.out.below hb2).gr.size) (SD.out.below hb2).own HLN.out).mono ?_; rintro e w3 ⟨v3, rfl, hO3, hG3, hN3⟩; have S3 := hid ((SD.out.below hb2).step HO.out hO3 hG3 hN3)))
        go_wp2_with fail
        go_roundw
        case rel => exact ⟨k + 1, by omega, by go_num, by (show Stg _ _ _ _ _ _ _; rw [HT.out, ← List.append_assoc]; exact S3.out)⟩
        case measure => simp [intOf]; omega
      · obtain rfl : k = 4 := by omega
        go_wp2_with fail
        go_ret
        refine ⟨_, rfl, ?_, SG.out.gr, SG.out.near⟩
        have := SG.out.own
        rw [cellsTo_four] at this
        exact this

end Go.Proofs.YtokemdbgcegjiaaGreat

namespace Go.Proofs.YtokemdbgcegjiaaGreat
open Go.RowKit Go.ChangeShapes Go.WideShapes Go.ChangeAt Go.Deep Go.Joins
set_option linter.unusedVariables false
attribute [local go_sem ↓] Go.wp_at_zero Go.wp_at_succ

theorem und_Quad : ∃ f0 f1 : Field, Tryz.prog.underlying 154 = some (.struct #[f0, f1]) ∧ f0.offset = 0 ∧ f1.offset = 1 ∧ f0.type = 3 ∧ f1.type = 46 :=
  ⟨_, _, Tryz.underlying154, rfl, rfl, rfl, rfl⟩
theorem und_Forest : ∃ f0 : Field, Tryz.prog.underlying 61 = some (.struct #[f0]) ∧ f0.offset = 0 ∧ f0.type = 59 :=
  ⟨_, Tryz.underlying61, rfl, rfl⟩
theorem cells_Quad : Tryz.prog.cellsOf 154 = 2 := by kernel_rfl
theorem cells_Forest : Tryz.prog.cellsOf 61 = 1 := by kernel_rfl
theorem cells_Ints : Tryz.prog.cellsOf 46 = 1 := by kernel_rfl
theorem cells_Quads : Tryz.prog.cellsOf 59 = 1 := by kernel_rfl

/-- A slice of numbers that came in. -/
theorem open_nums {H : Type} {enc : TypeId × Value → H} {W : World} {base fuel : Nat} {spare : Nat → Bool} {held : Bool} {v : Value} {x : DataW H × List MemPlace}
    (h : DataW.trod enc Tryz.prog W base spare held fuel 46 [v] = some x) : ∃ (a : Option Addr) (l : List Int) (cap : Nat), v = .slice a l.length cap ∧ l.length ≤ maxLen ∧ l.length ≤ cap ∧ ISeg W a l := by
  rcases open_ints Tryz.underlying46 Tryz.underlying3 cells_int h with ⟨hcs, _⟩ | ⟨ad, len', cap', zs, hcs, _, hl, hm, hz, _, hc, hw⟩
  · simp at hcs
    exact ⟨none, [], 0, hcs, by simp [maxLen], by simp, fun i hi => by simp at hi⟩
  · simp at hcs
    have hlm : len' ≤ zs.length := by rw [hz]; split <;> omega
    refine ⟨some ad, zs.take len', cap', by rw [hcs]; simp; omega, by simp; omega, by simp; omega, fun i hi => ?_⟩
    have hi' : i < len' := by simp at hi; omega
    have c0 := hc i (by omega)
    have c00 := hc 0 (by omega)
    obtain ⟨b, o, spot⟩ := ad
    have hspot : spot = none := by simpa [Addr.add] using World.cell?_spot c00
    subst hspot
    rw [add_plain] at c0
    have hlt := lt_of_cell c0
    have hget : ia (zs.take len') i = zs.getD i 0 := by
      unfold ia
      rw [List.getD_eq_getElem?_getD, List.getD_eq_getElem?_getD, List.getElem?_take_of_lt hi']
    exact ⟨b, o, rfl, hlt, by rw [hget]; exact c0⟩

/-- A slice of quads that came in. -/
theorem open_quads {H : Type} {enc : TypeId × Value → H} {W : World} {base fuel : Nat} {spare : Nat → Bool} {held : Bool} {v : Value} {x : DataW H × List MemPlace}
    (h : DataW.trod enc Tryz.prog W base spare held fuel 59 [v] = some x) : ∃ (a : Option Addr) (F : List Qd) (cap : Nat), v = .slice a F.length cap ∧ F.length ≤ maxLen ∧ (∀ i, i < F.length → (qa F i).2.length ≤ maxLen) ∧ QSeg W a F := by
  obtain ⟨f0, f1, he, o0, o1, t0, t1⟩ := und_Quad
  rcases open_slice_pairs Tryz.underlying59 he cells_Quad o0 o1 (by rw [t0]; exact cells_int) (by rw [t1]; exact cells_Ints) h with ⟨hcs, _⟩ | ⟨ad, len, cap', m, n, V0, V1, D0, D1, P0, P1, hcs, _, hl, hm, hmm, _, hc⟩
  · simp at hcs
    exact ⟨none, [], 0, hcs, by simp [maxLen], fun i hi => by simp at hi, fun i hi => by simp at hi⟩
  · simp at hcs
    have hlm : len ≤ m := by rw [hmm]; split <;> omega
    have each : ∀ i, i < len → ∃ q : Qd × Option Addr × Nat, V0 i = .int .i64 q.1.1 ∧ V1 i = .slice q.2.1 q.1.2.length q.2.2 ∧ q.1.2.length ≤ maxLen ∧ q.1.2.length ≤ q.2.2 ∧ ISeg W q.2.1 q.1.2 := by
      intro i hi
      obtain ⟨_, _, r0, r1⟩ := hc i (by omega)
      rw [t0] at r0
      rw [t1] at r1
      obtain ⟨n0, e0, _⟩ := DataW.trod_int Tryz.underlying3 r0
      simp at e0
      obtain ⟨a, l, c, e1, h1, h2, h3⟩ := open_nums r1
      exact ⟨((n0, l), a, c), e0, e1, h1, h2, h3⟩
    obtain ⟨q, hq⟩ := choose_lt each
    have hqa : ∀ i, i < len → qa ((List.range len).map fun i => (q i).1) i = (q i).1 := by
      intro i hi
      simp [qa, hi]
    refine ⟨some ad, (List.range len).map fun i => (q i).1, cap', by rw [hcs]; simp, by simp; omega, fun i hi => ?_, fun i hi => ?_⟩
    · simp at hi
      rw [hqa i hi]
      exact (hq i hi).2.2.1
    · simp at hi
      obtain ⟨c0, c1, _, _⟩ := hc i (by omega)
      obtain ⟨c00, _, _, _⟩ := hc 0 (by omega)
      obtain ⟨b, o, spot⟩ := ad
      have hspot : spot = none := by simpa [Addr.add] using World.cell?_spot c00
      subst hspot
      rw [add_plain] at c0 c1
      have hlt := lt_of_cell c0
      rw [hqa i hi]
      refine ⟨b, o, (q i).2.1, (q i).2.2, rfl, hlt, ?_, ?_, (hq i hi).2.2.2.2, (hq i hi).2.2.2.1⟩
      · rw [c0, (hq i hi).1]
      · rw [show o + i * 2 + 1 = o + (i * 2 + 1) by omega, c1, (hq i hi).2.1]

set_option maxRecDepth 100000 in
/-- A forest that came in. -/
theorem open_forest {H : Type} {enc : TypeId × Value → H} {W : World} {base base' : Nat} {spare : Nat → Bool} {held : Bool} {v : Value} {d : DataW H} {p : List MemPlace}
    (hval : Value.okWide Tryz.prog W .any base' 61 v) (h : DataW.Trod enc Tryz.prog W base spare held 61 v d p) :
    ∃ (a : Option Addr) (F : List Qd) (cap : Nat), v = .agg #[.slice a F.length cap] ∧ F.length ≤ maxLen ∧ (∀ i, i < F.length → (qa F i).2.length ≤ maxLen) ∧ QSeg W a F := by
  obtain ⟨f0, hu, o0, t0⟩ := und_Forest
  obtain ⟨cs, rfl, hsz⟩ := okWide_struct hu hval
  have hsz' : cs.size = 1 := hsz.trans cells_Forest
  obtain ⟨c0, rfl⟩ : ∃ c0, cs = #[c0] := by
    obtain ⟨l⟩ := cs
    match l, hsz' with
    | [u], _ => exact ⟨u, rfl⟩
  obtain ⟨fuel, hf⟩ := h
  obtain ⟨y0, n, hx, _, h0⟩ := trod_struct1 hu hf
  rw [t0, o0, cells_Quads] at h0
  simp [Value.cells] at h0
  obtain ⟨a, F, cap, rfl, h1, h2, h3⟩ := open_quads h0
  exact ⟨a, F, cap, rfl, h1, h2, h3⟩

/-- How many kids the first k quads have. -/
def kidTo (F : List Qd) : Nat → Nat
  | 0 => 0
  | k + 1 => kidTo F k + (qa F k).2.length
theorem kidTo_mono (F : List Qd) {j k : Nat} (h : j ≤ k) : kidTo F j ≤ kidTo F k := by
  induction k with
  | zero => have : j = 0 := by omega
            subst this; exact Nat.le_refl _
  | succ k ih =>
    by_cases e : j = k + 1
    · rw [e]; exact Nat.le_refl _
    · have := ih (by omega)
      simp only [kidTo]; omega
def totQ (F : List Qd) : Nat := F.length + kidTo F F.length
def leftQ (F : List Qd) : Int := if totQ F ≤ 1048576 then 1048576 - (totQ F : Int) else -1
theorem totQ_kids {F : List Qd} (h : totQ F ≤ 1048576) : KidsLe F ∧ F.length ≤ 1048576 := by
  unfold totQ at h
  refine ⟨fun i hi => ?_, by omega⟩
  have := kidTo_mono F (show i + 1 ≤ F.length by omega)
  simp only [kidTo] at this
  omega

set_option maxHeartbeats 400000 in
theorem c_szIntS (a : Option Addr) (n ca : Nat) (L : Int) (w : World) (hn : n ≤ 9223372036854775807) (h0 : 0 ≤ L) (h1 : L ≤ 1048576) :
    Calls Tryz.prog 143 #[.slice a n ca, .int .i64 L] w fun e w' => e = .returned (.int .i64 (if (n : Int) ≤ L then L - n else -1)) ∧ w' = w := by
  by_cases h : (n : Int) ≤ L
  · have h2 : ¬ L - (n : Int) < 0 := by omega
    go_enter Tryz.func143, Tryz.ntmps143
    go_wp2
    go_ret
    exact ⟨ret_int (by first | rfl | (split <;> omega)), rfl⟩
  · have h2 : L - (n : Int) < 0 := by omega
    go_enter Tryz.func143, Tryz.ntmps143
    go_wp2
    go_ret
    exact ⟨ret_int (by first | rfl | (split <;> omega)), rfl⟩

set_option maxHeartbeats 400000 in
theorem c_szQuad (q : Qd) (a : Option Addr) (ca : Nat) (L : Int) (w : World) (hn : q.2.length ≤ 9223372036854775807) (h0 : 0 ≤ L) (h1 : L ≤ 1048576) :
    Calls Tryz.prog 124 #[.agg #[.int .i64 q.1, .slice a q.2.length ca], .int .i64 L] w fun e w' => e = .returned (.int .i64 (if (q.2.length : Int) ≤ L then L - q.2.length else -1)) ∧ Below w.heap.size w w' := by
  have HC := hid (c_szIntS a q.2.length ca L (w.alloc (.cells #[.int .i64 q.1, .slice a q.2.length ca] 154)) hn h0 h1)
  by_cases h : (q.2.length : Int) ≤ L
  · rw [if_pos h] at HC
    have h2 : ¬ L - (q.2.length : Int) < 0 := by omega
    go_enter Tryz.func124, Tryz.ntmps124
    go_wp2_with fail
    refine HC.out.mono ?_
    rintro e w1 ⟨rfl, rfl⟩
    clear HC
    go_wp2
    go_ret
    exact ⟨ret_int (by first | rfl | (split <;> omega)), (Below.refl _ _).alloc (Nat.le_refl _) _⟩
  · rw [if_neg h] at HC
    go_enter Tryz.func124, Tryz.ntmps124
    go_wp2_with fail
    refine HC.out.mono ?_
    rintro e w1 ⟨rfl, rfl⟩
    clear HC
    go_wp2
    go_ret
    exact ⟨ret_int (by first | rfl | (split <;> omega)), (Below.refl _ _).alloc (Nat.le_refl _) _⟩

set_option maxHeartbeats 1000000 in
theorem c_szQuadS (a : Option Addr) (F : List Qd) (ca : Nat) (w : World) (ha : QSeg w a F) (hm : F.length ≤ 9223372036854775807) (hs : ∀ i, i < F.length → (qa F i).2.length ≤ 9223372036854775807) :
    Calls Tryz.prog 89 #[.slice a F.length ca, .int .i64 1048576] w fun e w' => e = .returned (.int .i64 (leftQ F)) ∧ Below w.heap.size w w' := by
  by_cases hL : (F.length : Int) ≤ 1048576
  · go_enter Tryz.func89, Tryz.ntmps89
    have h0 : ¬ 1048576 - (F.length : Int) < 0 := by omega
    go_wp2
    go_loopw [1, 5] (fun s i wr => ∃ j : Nat, j ≤ F.length ∧ i = .int .i64 j ∧ s = .int .i64 (1048576 - (F.length : Int) - (kidTo F j : Int)) ∧ (F.length : Int) + (kidTo F j : Int) ≤ 1048576 ∧ Below w.heap.size w wr) (fun _ i _ => F.length - (intOf i).toNat)
    case atStart => exact ⟨0, Nat.zero_le _, rfl, by simp [kidTo], by simp [kidTo]; omega, Below.refl _ _⟩
    case round =>
      obtain ⟨j, hj, rfl, rfl, hT, hbel⟩ := hrel
      by_cases hlt : j < F.length
      · obtain ⟨b1, o1, ak, ck, rfl, hb1, p1, p2, _, _⟩ := ha j hlt
        have g1 := (hbel.cell (p := ⟨b1, o1 + j * 2, none⟩) hb1).trans p1
        have g2 := (hbel.cell (p := ⟨b1, o1 + j * 2 + 1, none⟩) hb1).trans p2
        clear p1 p2
        have hsj := hs j hlt
        have HS := hid (show kidTo F (j + 1) = kidTo F j + (qa F j).2.length from rfl)
        have HM := hid (kidTo_mono F (show j + 1 ≤ F.length by omega))
        have j0 : (0 : Int) ≤ (j : Int) := by omega
        have j1 : (j : Int) < (F.length : Int) := by omega
        generalize kidTo F j = T at *
        have HC := hid (c_szQuad (qa F j) ak ck (1048576 - (F.length : Int) - (T : Int)) wr hsj (by omega) (by omega))
        generalize qa F j = q at *
        by_cases hgo : (q.2.length : Int) ≤ 1048576 - (F.length : Int) - (T : Int)
        · rw [if_pos hgo] at HC
          have e1 : ¬ 1048576 - (F.length : Int) - (T : Int) - (q.2.length : Int) < 0 := by omega
          go_wp2_with fail
          refine HC.out.mono ?_
          rintro e w1 ⟨rfl, hb⟩
          clear HC
          go_wp2
          go_roundw
          case rel => exact ⟨j + 1, by omega, by go_num, by rw [HS.out]; go_num, by rw [HS.out]; omega, hbel.trans (hb.mono hbel.size)⟩
          case measure => simp [intOf]; omega
        · rw [if_neg hgo] at HC
          go_wp2_with fail
          refine HC.out.mono ?_
          rintro e w1 ⟨rfl, hb⟩
          clear HC
          go_wp2
          go_ret
          have hbig : ¬ totQ F ≤ 1048576 := by unfold totQ; have := HM.out; rw [HS.out] at this; omega
          exact ⟨by simp [leftQ, hbig], hbel.trans (hb.mono hbel.size)⟩
      · go_wp2
        go_ret
        obtain rfl : j = F.length := by omega
        have hsm : totQ F ≤ 1048576 := by unfold totQ; omega
        exact ⟨by simp only [leftQ, if_pos hsm]; unfold totQ; exact ret_int (by omega), hbel⟩
  · have h0 : 1048576 - (F.length : Int) < 0 := by omega
    go_enter Tryz.func89, Tryz.ntmps89
    go_wp2
    go_ret
    have hbig : ¬ totQ F ≤ 1048576 := by unfold totQ; omega
    exact ⟨by simp [leftQ, hbig], Below.refl _ _⟩

set_option maxHeartbeats 400000 in
theorem c_szForest (a : Option Addr) (F : List Qd) (ca : Nat) (w : World) (ha : QSeg w a F) (hm : F.length ≤ 9223372036854775807) (hs : ∀ i, i < F.length → (qa F i).2.length ≤ 9223372036854775807) :
    Calls Tryz.prog 38 #[.agg #[.slice a F.length ca], .int .i64 1048576] w fun e w' => e = .returned (.int .i64 (leftQ F)) ∧ Below w.heap.size w w' := by
  have B1 := hid ((Below.refl w.heap.size w).alloc (Nat.le_refl _) (.cells #[.slice a F.length ca] 61))
  have HC := hid (c_szQuadS a F ca _ (ha.below B1.out) hm hs)
  by_cases h : totQ F ≤ 1048576
  · have hL : leftQ F = 1048576 - (totQ F : Int) := by simp [leftQ, h]
    rw [hL] at HC ⊢
    have h2 : ¬ 1048576 - (totQ F : Int) < 0 := by omega
    generalize (1048576 - (totQ F : Int)) = L at *
    go_enter Tryz.func38, Tryz.ntmps38
    go_wp2_with fail
    refine HC.out.mono ?_
    rintro e w1 ⟨rfl, hb⟩
    clear HC
    go_wp2
    go_ret
    exact ⟨rfl, Below.then B1.out hb (by simp)⟩
  · have hL : leftQ F = -1 := by simp [leftQ, h]
    rw [hL] at HC ⊢
    go_enter Tryz.func38, Tryz.ntmps38
    go_wp2_with fail
    refine HC.out.mono ?_
    rintro e w1 ⟨rfl, hb⟩
    clear HC
    go_wp2
    go_ret
    exact ⟨rfl, Below.then B1.out hb (by simp)⟩

end Go.Proofs.YtokemdbgcegjiaaGreat
