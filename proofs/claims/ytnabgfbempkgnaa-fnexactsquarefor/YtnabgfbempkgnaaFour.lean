/- A map of numbers keyed by four numbers, in a block of its own: what it holds at each four. -/
import Derived.Test.YtnabgfbempkgnaaQuadT
import Derived.Test.YtnabgfbempkgnaaOpen
import Derived.Maps.Own
import Derived.Maps.OwnOps
import Derived.Maps.Views
import Derived.DeepKeys4
import Derived.WideKeyEntry
namespace Go.Proofs.Ytnabgfbempkgnaa
open Go.RowKit Go.Maps
set_option linter.unusedVariables false
set_option linter.unusedSimpArgs false

theorem wide4 : (match Try.prog.underlying 99 with | some (.array _ _) | some (.struct _) => true | _ => false) = true := by kernel_rfl
theorem row4 : 99 < Try.prog.types.size := of_decide_eq_true (by kernel_rfl)
set_option maxRecDepth 100000 in
theorem klaw4 : WideMaps.KeyLaw Try.prog 99 := deep_law_laid laidOut (m := 2) (by omega) row4 (by kernel_rfl) wide4
theorem law4 : Keyed Try.prog 99 := Keyed.of_law klaw4
theorem mund4 : Try.prog.underlying 103 = some (.map 99 3) := Try.underlying103
theorem mzero4 (w : World) : (zeroValue 3).run Try.prog w = .ok (.int .i64 0) w := by kernel_rfl
def fit1 (n : Int) : Prop := -9223372036854775808 ≤ n ∧ n ≤ 9223372036854775807
/-- Four numbers that fit. -/
def fits4 (l : List Int) : Prop := l.length = 4 ∧ ∀ i, i < 4 → fit1 (ia l i)
def kv (l : List Int) : Value := .agg #[.int .i64 (ia l 0), .int .i64 (ia l 1), .int .i64 (ia l 2), .int .i64 (ia l 3)]
def kap4 (l : List Int) : Lit := .string (keyBytes [.int .i64 (ia l 0), .int .i64 (ia l 1), .int .i64 (ia l 2), .int .i64 (ia l 3)])
theorem und_four : Try.prog.underlying 99 = some (.array 4 3) := Try.underlying99
theorem cells_four : Try.prog.cellsOf 99 = 4 := by kernel_rfl
theorem keyType_four : Try.prog.keyType 99 = true := by kernel_rfl
theorem wf1 {n : Int} (h : fit1 n) : (Lit.int .i64 n).wf = true := WalkArith.wf_i64 (by unfold fit1 at h; omega)
theorem lits1 (d : Nat) {n : Int} (h : fit1 n) : Try.prog.keyLits (d + 1) 3 [.int .i64 n] = some [.int .i64 n] := by
  unfold Program.keyLits
  rw [Try.underlying3]
  simp [wf1 h]
theorem lits4 (d : Nat) {a b c e : Int} (ha : fit1 a) (hb : fit1 b) (hc : fit1 c) (he : fit1 e) : Try.prog.keyLits (d + 2) 99 [.int .i64 a, .int .i64 b, .int .i64 c, .int .i64 e] = some [.int .i64 a, .int .i64 b, .int .i64 c, .int .i64 e] := by
  conv => lhs; unfold Program.keyLits
  rw [und_four]
  simp only [List.length_cons, List.length_nil, cells_four]
  rw [if_pos trivial, show List.range 4 = [0, 1, 2, 3] from rfl]
  simp only [List.mapM_cons, List.mapM_nil, cells_int, Nat.mul_one, List.drop_zero, List.take_succ_cons, List.take_zero, List.drop_succ_cons, lits1 d ha, lits1 d hb, lits1 d hc, lits1 d he]
  rfl
set_option maxRecDepth 100000 in
theorem key_of4 (l : List Int) (h : fits4 l) : keyOf Try.prog 99 (kv l) = some (kap4 l) := by
  obtain ⟨d, hd⟩ : ∃ d, Try.prog.types.size + 1 = d + 2 := ⟨Try.prog.types.size - 1, by have := row4; omega⟩
  unfold keyOf
  rw [und_four]
  have hf : (kv l).formed Try.prog 99 = true := by simp [kv, Value.formed, und_four, cells_four]
  have hc : (kv l).cells.toList = [.int .i64 (ia l 0), .int .i64 (ia l 1), .int .i64 (ia l 2), .int .i64 (ia l 3)] := rfl
  simp only [keyType_four, hf, Bool.and_self, if_true, hd, hc, lits4 d (h.2 0 (by omega)) (h.2 1 (by omega)) (h.2 2 (by omega)) (h.2 3 (by omega))]
  rfl
theorem four_ext {l m : List Int} (hl : l.length = 4) (hm : m.length = 4) (h : ∀ i, i < 4 → ia l i = ia m i) : l = m := by
  apply List.ext_getElem (by omega)
  intro i h1 h2
  have := h i (by omega)
  simpa [ia, h1, h2] using this
theorem kap4_inj {l m : List Int} (hl : fits4 l) (hm : fits4 m) (h : kap4 l = kap4 m) : l = m := by
  have h1 := key_of4 l hl
  have h2 := key_of4 m hm
  rw [h] at h1
  have := law4.inj h1 h2
  simp [kv] at this
  refine four_ext hl.1 hm.1 fun i hi => ?_
  rcases (show i = 0 ∨ i = 1 ∨ i = 2 ∨ i = 3 by omega) with rfl | rfl | rfl | rfl
  · exact this.1
  · exact this.2.1
  · exact this.2.2.1
  · exact this.2.2.2

/-- The map in block b holds f l at each four l that f knows, and nothing at every other one; it has at most n entries. -/
def Map4 (w : World) (b n : Nat) (f : List Int → Option Int) : Prop :=
  ∃ D : DataW Unit, w.ownsMap Try.prog 99 (plainElem Try.prog 3) b n D ∧ ∀ l, fits4 l → ∀ zd, D.atKey (kap4 l) zd = (match f l with | some i => .lit (.int .i64 i) | none => zd)
theorem Map4.made (w : World) : Map4 (w.alloc (.map #[] 0)) w.heap.size 0 (fun _ => none) :=
  ⟨.map [], World.ownsMap_made w _ _ _, fun _ _ _ => rfl⟩
theorem Map4.lt {w : World} {b n : Nat} {f : List Int → Option Int} (h : Map4 w b n f) : b < w.heap.size := by
  obtain ⟨D, ho, _⟩ := h; exact ho.lt
theorem Map4.kept {w w' : World} {b n : Nat} {f : List Int → Option Int} {row : Option Nat} (h : Map4 w b n f) (hg : w.grownBy w' row) (hne : some b ≠ row) : Map4 w' b n f := by
  obtain ⟨D, ho, h1⟩ := h; exact ⟨D, ho.kept hg hne, h1⟩
theorem Map4.congr {w : World} {b n : Nat} {f f' : List Int → Option Int} (h : Map4 w b n f) (h1 : ∀ l, fits4 l → f l = f' l) : Map4 w b n f' := by
  obtain ⟨D, ho, k1⟩ := h
  exact ⟨D, ho, fun l hl zd => by rw [k1 l hl, h1 l hl]⟩
/-- What looking up gives. -/
theorem Map4.look {w : World} {b n : Nat} {f : List Int → Option Int} (h : Map4 w b n f) {l : List Int} (hl : fits4 l) :
    (Instr.lookup 103 (.map (some b)) (kv l) true).run Try.prog w = .ok (.tuple #[.int .i64 ((f l).getD 0), .bool (f l).isSome]) w := by
  obtain ⟨D, ⟨es, clock, hb, F, _, rfl⟩, h2⟩ := h
  have hk := h2 l hl
  rcases Maps.fit_look true law4 mund4 (mzero4 w) hb F (key_of4 l hl) with ⟨hrun, _, hat⟩ | ⟨e0, y, _, _, hrun, hRv, hat, _⟩
  · cases hf : f l with
    | none => rw [hrun]; rfl
    | some i =>
      have := hk (.lit (.int .i64 (i + 1)))
      rw [hat, hf] at this
      simp only [DataW.lit.injEq, Lit.int.injEq, true_and] at this
      omega
  · cases hf : f l with
    | none =>
      have t0 := hk (.lit (.int .i64 0))
      have t1 := hk (.lit (.int .i64 1))
      rw [hat, hf] at t0 t1
      simp only at t0 t1
      rw [t0] at t1
      simp at t1
    | some i =>
      have t0 := hk (.lit (.int .i64 0))
      rw [hat, hf] at t0
      simp only at t0
      obtain ⟨a, e1, e2, _⟩ := plainElem_int_inv Try.underlying3 hRv
      rw [e2] at t0
      simp at t0
      rw [hrun, e1, t0]; rfl
/-- What a store leaves. -/
theorem Map4.put {w : World} {b n : Nat} {f : List Int → Option Int} (h : Map4 w b n f) {l : List Int} (hl : fits4 l) (hn : n < maxLen) {v : Int} (hv : fit1 v) :
    ∃ w', (Instr.mapUpdate 103 (.map (some b)) (kv l) (.int .i64 v)).run Try.prog w = .ok () w' ∧ Map4 w' b (n + 1) (fun m => if m = l then some v else f m) ∧ w.grownBy w' (some b) := by
  obtain ⟨D, ho, h2⟩ := h
  have him : Maps.IsMap D := by
    obtain ⟨es, clock, hb, F, _, hD⟩ := ho
    exact ⟨_, hD⟩
  obtain ⟨w', hrun, ho', hg⟩ := ho.update law4 mund4 hn (key_of4 l hl) (plainElem_int Try.underlying3 (wf1 hv))
  refine ⟨w', hrun, ⟨_, ho', fun m hm zd => ?_⟩, hg⟩
  by_cases e : m = l
  · subst e
    rw [Maps.atKey_put_same him (law4.key (key_of4 m hm))]; simp
  · rw [Maps.atKey_put_other (fun h => e (kap4_inj hm hl h)), h2 m hm]; simp [e]

end Go.Proofs.Ytnabgfbempkgnaa
