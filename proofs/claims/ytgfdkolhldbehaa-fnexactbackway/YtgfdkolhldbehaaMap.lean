/- A map of numbers keyed by cells, in a block of its own: what it holds at each cell. -/
import Derived.Test.YtgfdkolhldbehaaSort
import Derived.Test.YtgfdkolhldbehaaOpen
import Derived.Maps.Own
import Derived.Maps.OwnOps
import Derived.Maps.OwnSet
import Derived.Maps.RangeWalk
import Derived.Maps.Views
import Derived.DeepKeys4
import Derived.WideKeyEntry
namespace Go.Proofs.Ytgfdkolhldbehaa
open Go.RowKit Go.Maps
set_option linter.unusedVariables false
set_option linter.unusedSimpArgs false

theorem mwide : (match Try.prog.underlying 36 with | some (.array _ _) | some (.struct _) => true | _ => false) = true := by kernel_rfl
theorem mrow : 36 < Try.prog.types.size := of_decide_eq_true (by kernel_rfl)
set_option maxRecDepth 100000 in
theorem klaw : WideMaps.KeyLaw Try.prog 36 := deep_law_laid laidOut (m := 2) (by omega) mrow (by kernel_rfl) mwide
theorem law : Keyed Try.prog 36 := Keyed.of_law klaw
theorem mund : Try.prog.underlying 95 = some (.map 36 3) := Try.underlying95
theorem mzero (w : World) : (zeroValue 3).run Try.prog w = .ok (.int .i64 0) w := by kernel_rfl

/-- A cell whose numbers fit. -/
def fits (c : Cl) : Prop := -9223372036854775808 ≤ c.1 ∧ c.1 ≤ 9223372036854775807 ∧ -9223372036854775808 ≤ c.2 ∧ c.2 ≤ 9223372036854775807
/-- What a cell reads as, as a key. -/
def kap (c : Cl) : Lit := .string (keyBytes [.int .i64 c.1, .int .i64 c.2])

theorem und_iCell : ∃ f0 f1 : Field, Try.prog.underlying 36 = some (.struct #[f0, f1]) ∧ f0.offset = 0 ∧ f1.offset = 1 ∧ f0.type = 3 ∧ f1.type = 3 ∧ (f0.name != "_") = true ∧ (f1.name != "_") = true :=
  ⟨_, _, Try.underlying36, rfl, rfl, rfl, rfl, by decide, by decide⟩
theorem cells_iCell : Try.prog.cellsOf 36 = 2 := by kernel_rfl
theorem keyType_Cell : Try.prog.keyType 36 = true := by kernel_rfl
theorem wf_of {n : Int} (h : -9223372036854775808 ≤ n ∧ n ≤ 9223372036854775807) : (Lit.int .i64 n).wf = true := WalkArith.wf_i64 (by omega)
theorem of_wf {n : Int} (h : (Lit.int .i64 n).wf = true) : -9223372036854775808 ≤ n ∧ n ≤ 9223372036854775807 := by
  simp [Lit.wf, IntKind.min, IntKind.max, IntKind.bits, IntKind.signed] at h
  omega

theorem lits_int (d : Nat) (v : Value) : Try.prog.keyLits (d + 1) 3 [v] = match v with | .int .i64 n => (if (Lit.int .i64 n).wf = true then some [.int .i64 n] else none) | _ => none := by
  unfold Program.keyLits
  rw [Try.underlying3]
  cases v with
  | int q n => cases q <;> simp
  | _ => rfl

theorem lits_cell (d : Nat) (u v : Value) : Try.prog.keyLits (d + 2) 36 [u, v] = (do let a ← Try.prog.keyLits (d + 1) 3 [u]; let b ← Try.prog.keyLits (d + 1) 3 [v]; some (a ++ b)) := by
  obtain ⟨f0, f1, hu, o0, o1, t0, t1, m0, m1⟩ := und_iCell
  conv => lhs; unfold Program.keyLits
  rw [hu]
  simp only [List.length_cons, List.length_nil, cells_iCell]
  rw [if_pos ⟨trivial, by simp only [List.all_toArray, List.all_cons, List.all_nil, m0, m1]; rfl⟩]
  simp only [List.mapM_cons, List.mapM_nil, o0, o1, t0, t1, cells_int, List.drop_zero, List.take_succ_cons, List.take_zero, List.drop_succ_cons]
  cases Try.prog.keyLits (d + 1) 3 [u] with
  | none => rfl
  | some a =>
    cases Try.prog.keyLits (d + 1) 3 [v] with
    | none => rfl
    | some b => simp

set_option maxRecDepth 100000 in
theorem key_of (c : Cl) (h : fits c) : keyOf Try.prog 36 (.agg #[.int .i64 c.1, .int .i64 c.2]) = some (kap c) := by
  obtain ⟨f0, f1, hu, _⟩ := und_iCell
  obtain ⟨d, hd⟩ : ∃ d, Try.prog.types.size + 1 = d + 2 := ⟨Try.prog.types.size - 1, by have := mrow; omega⟩
  unfold keyOf
  rw [hu]
  have hf : (Value.agg #[.int .i64 c.1, .int .i64 c.2]).formed Try.prog 36 = true := by simp [Value.formed, hu, cells_iCell]
  have hc : (Value.agg #[.int .i64 c.1, .int .i64 c.2]).cells.toList = [.int .i64 c.1, .int .i64 c.2] := rfl
  simp only [keyType_Cell, hf, Bool.and_self, if_true, hd, hc, lits_cell, lits_int, wf_of ⟨h.1, h.2.1⟩, wf_of ⟨h.2.2.1, h.2.2.2⟩]
  rfl

set_option maxRecDepth 100000 in
theorem key_inv {v : Value} {kl : Lit} (h : keyOf Try.prog 36 v = some kl) : ∃ c : Cl, v = .agg #[.int .i64 c.1, .int .i64 c.2] ∧ fits c ∧ kl = kap c := by
  obtain ⟨f0, f1, hu, _⟩ := und_iCell
  obtain ⟨d, hd⟩ : ∃ d, Try.prog.types.size + 1 = d + 2 := ⟨Try.prog.types.size - 1, by have := mrow; omega⟩
  have h0 := h
  unfold keyOf at h
  rw [hu] at h
  by_cases hf : v.formed Try.prog 36 = true
  · cases v with
    | agg cs =>
      have hsz : cs.size = 2 := by simpa [Value.formed, hu, cells_iCell] using hf
      obtain ⟨u, x, rfl⟩ : ∃ u x, cs = #[u, x] := by
        obtain ⟨l⟩ := cs
        match l, hsz with
        | [u, x], _ => exact ⟨u, x, rfl⟩
      have hc : (Value.agg #[u, x]).cells.toList = [u, x] := rfl
      simp only [keyType_Cell, hf, Bool.and_self, if_true, hd, hc, lits_cell, lits_int] at h
      cases u with
      | int q n =>
        cases x with
        | int q' n' =>
          have hqq : q = .i64 ∧ q' = .i64 := by cases q <;> cases q' <;> simp at h <;> exact ⟨rfl, rfl⟩
          obtain ⟨rfl, rfl⟩ := hqq
          by_cases hw : (Lit.int .i64 n).wf = true
          · by_cases hw' : (Lit.int .i64 n').wf = true
            · simp [hw, hw'] at h
              exact ⟨(n, n'), rfl, ⟨(of_wf hw).1, (of_wf hw).2, (of_wf hw').1, (of_wf hw').2⟩, by rw [← h]; rfl⟩
            · simp [hw, hw'] at h
          · simp [hw] at h
        | _ => simp at h
      | _ => simp at h
    | tuple cs => simp [Value.formed] at hf
    | _ => simp [Value.formed, hu] at hf
  · simp [hf] at h

theorem kap_inj {c d : Cl} (hc : fits c) (hd : fits d) (h : kap c = kap d) : c = d := by
  have h1 := key_of c hc
  have h2 := key_of d hd
  rw [h] at h1
  have := law.inj h1 h2
  simp at this
  exact Prod.ext this.1 this.2

/-- The map in block b holds f c at each cell c that dom names, and nought at every other one; it has at most n entries. -/
def MapIs (w : World) (b n : Nat) (dom : Cl → Bool) (f : Cl → Int) : Prop :=
  ∃ D : DataW Unit, w.ownsMap Try.prog 36 (plainElem Try.prog 3) b n D ∧ (∀ c, fits c → Maps.has D (kap c) = dom c) ∧ (∀ c, fits c → D.atKey (kap c) (.lit (.int .i64 0)) = .lit (.int .i64 (f c)))

theorem MapIs.made (w : World) : MapIs (w.alloc (.map #[] 0)) w.heap.size 0 (fun _ => false) (fun _ => 0) :=
  ⟨.map [], World.ownsMap_made w _ _ _, fun _ _ => rfl, fun _ _ => rfl⟩
theorem MapIs.lt {w : World} {b n : Nat} {dom : Cl → Bool} {f : Cl → Int} (h : MapIs w b n dom f) : b < w.heap.size := by
  obtain ⟨D, ho, _⟩ := h; exact ho.lt
theorem MapIs.kept {w w' : World} {b n : Nat} {dom : Cl → Bool} {f : Cl → Int} {row : Option Nat} (h : MapIs w b n dom f) (hg : w.grownBy w' row) (hne : some b ≠ row) : MapIs w' b n dom f := by
  obtain ⟨D, ho, h1, h2⟩ := h; exact ⟨D, ho.kept hg hne, h1, h2⟩
theorem MapIs.below {w w' : World} {b n : Nat} {dom : Cl → Bool} {f : Cl → Int} (h : MapIs w b n dom f) (hb : RowKit.Below w.heap.size w w') : MapIs w' b n dom f := h.kept (grown_of_below hb none) (by simp)
theorem MapIs.congr {w : World} {b n : Nat} {dom dom' : Cl → Bool} {f f' : Cl → Int} (h : MapIs w b n dom f) (h1 : ∀ c, fits c → dom c = dom' c) (h2 : ∀ c, fits c → f c = f' c) : MapIs w b n dom' f' := by
  obtain ⟨D, ho, k1, k2⟩ := h
  exact ⟨D, ho, fun c hc => by rw [k1 c hc, h1 c hc], fun c hc => by rw [k2 c hc, h2 c hc]⟩

/-- What looking up gives. -/
theorem MapIs.look {w : World} {b n : Nat} {dom : Cl → Bool} {f : Cl → Int} (h : MapIs w b n dom f) {c : Cl} (hc : fits c) :
    (Instr.lookup 95 (.map (some b)) (.agg #[.int .i64 c.1, .int .i64 c.2]) false).run Try.prog w = .ok (.int .i64 (f c)) w := by
  obtain ⟨D, ho, _, h2⟩ := h
  obtain ⟨x, hrun, hat, _⟩ := ho.lookup_int law mund Try.underlying3 (mzero w) (key_of c hc)
  rw [h2 c hc] at hat
  simp at hat
  rw [hat]; exact hrun

/-- What a store leaves. -/
theorem MapIs.put_of {w w' : World} {b n : Nat} {dom : Cl → Bool} {f : Cl → Int} {D : DataW Unit} (him : Maps.IsMap D) (h1 : ∀ c, fits c → Maps.has D (kap c) = dom c) (h2 : ∀ c, fits c → D.atKey (kap c) (.lit (.int .i64 0)) = .lit (.int .i64 (f c)))
    {c : Cl} (hc : fits c) {v : Int} (ho : w'.ownsMap Try.prog 36 (plainElem Try.prog 3) b n (D.put (kap c) (.lit (.int .i64 v)))) : MapIs w' b n (fun d => decide (d = c) || dom d) (fun d => if d = c then v else f d) := by
  refine ⟨_, ho, fun d hd => ?_, fun d hd => ?_⟩
  · by_cases e : d = c
    · subst e
      rw [Maps.has_put_same him (law.key (key_of d hd))]; simp
    · rw [Maps.has_put_other (fun h => e (kap_inj hd hc h)), h1 d hd]; simp [e]
  · by_cases e : d = c
    · subst e
      rw [Maps.atKey_put_same him (law.key (key_of d hd))]; simp
    · rw [Maps.atKey_put_other (fun h => e (kap_inj hd hc h)), h2 d hd]; simp [e]


theorem setBlock_twice {w : World} {b : Nat} {o1 o2 : Obj} : ChangeMaps.setBlock (ChangeMaps.setBlock w b o1) b o2 = ChangeMaps.setBlock w b o2 := by
  simp [ChangeMaps.setBlock]

/-- A number in the map is raised: looked up, and stored again, whichever the order of looking up and of finding the entry's place. -/
theorem MapIs.incr {w : World} {b n : Nat} {dom : Cl → Bool} {f : Cl → Int} (h : MapIs w b n dom f) {c : Cl} (hc : fits c) (hn : n < maxLen) (v : Int) (hv : (Lit.int .i64 v).wf = true) :
    ∃ (v0 : Value) (st : Nat) (W1 W2 : World), (Instr.mapEntry 95 (.map (some b)) (.agg #[.int .i64 c.1, .int .i64 c.2])).run Try.prog w = .ok (.tuple #[v0, .int .i64 (st : Int)]) W1 ∧
      (Instr.lookup 95 (.map (some b)) (.agg #[.int .i64 c.1, .int .i64 c.2]) false).run Try.prog W1 = .ok (.int .i64 (f c)) W1 ∧
      (Instr.entryStore 95 (.map (some b)) (.int .i64 (st : Int)) (.int .i64 v)).run Try.prog W1 = .ok () W2 ∧
      MapIs W2 b (n + 1) (fun d => decide (d = c) || dom d) (fun d => if d = c then v else f d) ∧ w.grownBy W2 (some b) ∧ W2.heap.size = w.heap.size := by
  have hlook := h.look hc
  obtain ⟨D, hown, h1, h2⟩ := h
  have hown0 := hown
  obtain ⟨es, clock, hb, F, hs, hD⟩ := hown
  have hkey := key_of c hc
  obtain ⟨v0, st, es1, clock1, hent, _, hsto⟩ := WideElems.entry_then_store klaw mund mzero hb F hkey
  have hb1 : (ChangeMaps.setBlock w b (.map es1 clock1)).heap[b]? = some (.map es1 clock1) := ChangeMaps.heap_setBlock_same hb _
  obtain ⟨es2, clock2, hst2, hup2⟩ := hsto (ChangeMaps.setBlock w b (.map es1 clock1)) (.int .i64 v) hb1
  obtain ⟨es3, clock3, hst3, hup3⟩ := hsto (ChangeMaps.setBlock w b (.map es1 clock1)) (.int .i64 (f c)) hb1
  obtain ⟨w4, hrun4, hown4, hg4⟩ := hown0.update law mund hn hkey (plainElem_int Try.underlying3 hv)
  rw [hup2] at hrun4
  simp only [Result.ok.injEq, true_and] at hrun4
  subst hrun4
  refine ⟨v0, st, _, _, hent, ?_, hst2, ?_, ?_, ?_⟩
  · rcases law.find w hkey es.toList F.keys with ⟨e1, e2⟩ | ⟨j, e0, e1, e2, e3⟩
    · have r1 : (Instr.mapEntry 95 (.map (some b)) (.agg #[.int .i64 c.1, .int .i64 c.2])).run Try.prog w = .ok (.tuple #[.int .i64 0, goInt clock]) (ChangeMaps.setBlock w b (.map (es.push ⟨.agg #[.int .i64 c.1, .int .i64 c.2], .int .i64 0, clock⟩) (clock + 1))) := by
        simp [Instr.mapEntry, run_underlying mund, MapKept.run_getObj_map hb, law.check w false hkey, e1, MapKept.run_setObj_map _ hb, Result.andThen, ChangeMaps.setBlock]
      have r2 : (Instr.mapUpdate 95 (.map (some b)) (.agg #[.int .i64 c.1, .int .i64 c.2]) (.int .i64 0)).run Try.prog w = .ok () (ChangeMaps.setBlock w b (.map (es.push ⟨.agg #[.int .i64 c.1, .int .i64 c.2], .int .i64 0, clock⟩) (clock + 1))) := by
        simp [Instr.mapUpdate, run_underlying mund, MapKept.run_getObj_map hb, law.check w false hkey, e1, MapKept.run_setObj_map _ hb, Result.andThen, ChangeMaps.setBlock]
      have r3 : (Instr.lookup 95 (.map (some b)) (.agg #[.int .i64 c.1, .int .i64 c.2]) false).run Try.prog w = .ok (.int .i64 0) w := by
        simp [Instr.lookup, run_underlying mund, MapKept.run_getObj_map hb, law.check w _ hkey, e1, Result.andThen]
      rw [hlook] at r3
      simp only [Result.ok.injEq, Value.int.injEq, and_true, true_and] at r3
      rw [hent] at r1
      simp only [Result.ok.injEq] at r1
      rw [r1.2]
      obtain ⟨w5, hrun5, hown5, _⟩ := hown0.update law mund hn hkey (plainElem_int Try.underlying3 (wf_of (n := 0) (by omega)))
      rw [r2] at hrun5
      simp only [Result.ok.injEq, true_and] at hrun5
      rw [hrun5]
      obtain ⟨x, hx, hat, _⟩ := hown5.lookup_int law mund Try.underlying3 (mzero _) hkey
      rw [Maps.atKey_put_same ⟨_, hD⟩ (law.key hkey)] at hat
      simp at hat
      rw [hx, ← hat, r3]
    · have hj : es[j]? = some e0 := by simpa using e2
      have hsame : es.modify j (fun e => { e with key := .agg #[.int .i64 c.1, .int .i64 c.2] }) = es := by
        apply Array.ext'
        rw [Array.toList_modify, ChangeMaps.modify_eq_set _ _ _ _ e2]
        have : ({ e0 with key := .agg #[.int .i64 c.1, .int .i64 c.2] } : MapEntry) = e0 := by rw [← e3]
        rw [this]
        exact WideElems.set_self _ _ _ e2
      have r1 : (Instr.mapEntry 95 (.map (some b)) (.agg #[.int .i64 c.1, .int .i64 c.2])).run Try.prog w = .ok (.tuple #[e0.val, goInt e0.born]) (ChangeMaps.setBlock w b (.map es clock)) := by
        simp [Instr.mapEntry, run_underlying mund, MapKept.run_getObj_map hb, law.check w false hkey, e1, hj, e3, law.stays w hkey, hsame, MapKept.run_setObj_map _ hb, Result.andThen, ChangeMaps.setBlock]
      rw [hent] at r1
      simp only [Result.ok.injEq] at r1
      rw [r1.2]
      have hown5 : (ChangeMaps.setBlock w b (.map es clock)).ownsMap Try.prog 36 (plainElem Try.prog 3) b n D := ⟨es, clock, ChangeMaps.heap_setBlock_same hb _, F, hs, hD⟩
      obtain ⟨x, hx, hat, _⟩ := hown5.lookup_int law mund Try.underlying3 (mzero _) hkey
      rw [h2 c hc] at hat
      simp at hat
      rw [hx, hat]
  · rw [setBlock_twice]
    exact MapIs.put_of (w := w) ⟨_, hD⟩ h1 h2 hc hown4
  · rw [setBlock_twice]; exact hg4
  · simp [ChangeMaps.setBlock]


/-- How often a cell is in a list. -/
def cnt (L : List Cl) (c : Cl) : Int := ((L.countP fun d => decide (d = c) : Nat) : Int)
theorem cnt_snoc (L : List Cl) (y c : Cl) : cnt (L ++ [y]) c = if c = y then cnt L y + 1 else cnt L c := by
  unfold cnt
  rw [List.countP_append]
  by_cases e : c = y
  · subst e; simp
  · have e' : ¬ y = c := fun h => e h.symm
    simp [e, e']
theorem cnt_le (L : List Cl) (c : Cl) : 0 ≤ cnt L c ∧ cnt L c ≤ L.length := by
  unfold cnt
  have := List.countP_le_length (p := fun d => decide (d = c)) (l := L)
  omega
/-- The map in block b counts the cells of L. -/
def CntIs (w : World) (b : Nat) (L : List Cl) : Prop := MapIs w b L.length (fun c => decide (c ∈ L)) (cnt L)
theorem CntIs.made (w : World) : CntIs (w.alloc (.map #[] 0)) w.heap.size [] := (MapIs.made w).congr (fun c _ => by simp) (fun c _ => rfl)
theorem CntIs.step {w : World} {b : Nat} {L : List Cl} (h : CntIs w b L) {y : Cl} (hy : fits y) (hL : L.length ≤ 67108864) :
    ∃ (v0 : Value) (st : Nat) (W1 W2 : World), (Instr.lookup 95 (.map (some b)) (.agg #[.int .i64 y.1, .int .i64 y.2]) false).run Try.prog w = .ok (.int .i64 (cnt L y)) w ∧
      (Instr.mapEntry 95 (.map (some b)) (.agg #[.int .i64 y.1, .int .i64 y.2])).run Try.prog w = .ok (.tuple #[v0, .int .i64 (st : Int)]) W1 ∧
      (Instr.lookup 95 (.map (some b)) (.agg #[.int .i64 y.1, .int .i64 y.2]) false).run Try.prog W1 = .ok (.int .i64 (cnt L y)) W1 ∧
      (Instr.entryStore 95 (.map (some b)) (.int .i64 (st : Int)) (.int .i64 (cnt L y + 1))).run Try.prog W1 = .ok () W2 ∧
      CntIs W2 b (L ++ [y]) ∧ w.grownBy W2 (some b) ∧ W2.heap.size = w.heap.size := by
  have hc := cnt_le L y
  obtain ⟨v0, st, W1, W2, e2, e3, e4, hM, hg, hz⟩ := MapIs.incr h hy (by unfold maxLen; omega) (cnt L y + 1) (wf_of (by omega))
  refine ⟨v0, st, W1, W2, MapIs.look h hy, e2, e3, e4, ?_, hg, hz⟩
  unfold CntIs
  rw [List.length_append]
  refine hM.congr (fun d hd => ?_) (fun d hd => ?_)
  · by_cases e : d = y <;> simp [e]
  · rw [cnt_snoc]
theorem CntIs.below {w w' : World} {b : Nat} {L : List Cl} (h : CntIs w b L) (hb : RowKit.Below w.heap.size w w') : CntIs w' b L := MapIs.below h hb

end Go.Proofs.Ytgfdkolhldbehaa
