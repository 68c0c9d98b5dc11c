/- Texts of this seat, one behind the other: Sort, Map, Order, Near, Counts, Move, Add, SortS. -/
import Derived.Test.YtgfdkolhldbehaaLa
import Derived.Test.YtgfdkolhldbehaaLay
import Derived.Shelf.SlSortCmp.WholeK
import Derived.Maps.Own
import Derived.Maps.OwnOps
import Derived.Maps.OwnSet
import Derived.Maps.RangeWalk
import Derived.Maps.Views
import Derived.DeepKeys4
import Derived.WideKeyEntry
namespace Go.Proofs.Ytgfdkolhldbehaa
open Go.RowKit Go.Shelf Go.Lib Go.Sort
set_option linter.unusedVariables false

/-- A cell's two values. -/
def encC (c : Cl) : List Value := [.int .i64 c.1, .int .i64 c.2]

theorem grow_two (W : World) (o1 o2 : Obj) : (W.alloc o1).alloc o2 = grow (W.drewN 0) #[o1, o2] := by
  rw [alloc_eq_grow, alloc_eq_grow, grow_grow]; rfl

set_option maxHeartbeats 400000 in
/-- compareCells, its world written out. -/
theorem c_compareLays (c d : Cl) (w : World) :
    Calls Try.prog 125 #[.agg #[.int .i64 c.1, .int .i64 c.2], .agg #[.int .i64 d.1, .int .i64 d.2]] w fun e w' => e = .returned (.int .i64 (cmpC c d)) ∧ ∃ q os', w' = grow (w.drewN q) os' := by
  obtain ⟨x, y⟩ := c
  obtain ⟨u, v⟩ := d
  dsimp only
  by_cases h : y = v
  · have hb : (y != v) = false := by simp [h]
    have H : Hid (y = v) := h
    clear h
    go_enter Try.func125, Try.ntmps125
    go_wp2_with (go_at_call 142; refine (c_Compare _ _ _).mono ?_; rintro e w' ⟨rfl, rfl⟩)
    go_ret
    exact ⟨ret_int (by simp [cmpC, H.out]), 0, _, grow_two _ _ _⟩
  · have hb : (y != v) = true := by simp [h]
    go_enter Try.func125, Try.ntmps125
    go_wp2_with (go_at_call 142; refine (c_Compare _ _ _).mono ?_; rintro e w' ⟨rfl, rfl⟩)
    go_ret
    exact ⟨ret_int (by simp [cmpC, h]), 0, _, grow_two _ _ _⟩

theorem ltOf_cmp (a b : Cl) : ltOf cmpC a b = ltC a b := by
  have := cmpC_neg a b
  unfold ltOf
  cases h : ltC a b
  · rw [h] at this; simp at this; simp; omega
  · rw [h] at this; simp at this; simp; omega
theorem swoC : SWO (ltOf cmpC) where
  irrefl x := by rw [ltOf_cmp]; exact ltC_irr x
  trans x y z h1 h2 := by rw [ltOf_cmp] at *; exact ltC_trans h1 h2
  ntrans x y z h1 h2 := by rw [ltOf_cmp] at *; simp [ltC] at *; omega

theorem sizeAgg : ∀ w, (isAgg 36).run Try.prog w = .ok true w := fun w => by kernel_rfl
theorem sizeCell : ∀ w, (Go.sizeOf 36).run Try.prog w = .ok 2 w := fun w => by kernel_rfl

set_option maxHeartbeats 1000000 in
theorem c_sort (blk off cap : Nat) (d : Array Cl) (w : World) (hH : HoldsK encC 2 w blk off d) (hblk : blk < w.heap.size) (hsz : d.size < 4611686018427387904) :
    Calls Try.prog 124 #[.slice (some ⟨blk, off, none⟩) d.size cap, .func (.func 125) #[] #[]] w fun e w' => e = .returned (.tuple #[]) ∧ ∃ d' n os, PermIn 0 d.size d d' ∧ SortedIn (ltOf cmpC) 0 d.size d' ∧ w' = sortWorldK encC 2 w blk off n d' os := by
  have eg : ∀ args w, (callFunc 125 args).run Try.prog w = .ok (.enter 125 args) w := enters_of Try.func125 (by kernel_rfl) rfl
  have hcon := AnyQ.slices_SortFunc Try.sortCell 2 sizeAgg sizeCell encC (fun _ => rfl) (fun x v hv => by simp [encC] at hv; rcases hv with rfl | rfl <;> rfl) cmpC swoC 125 #[] blk off cap d w eg (fun _ _ _ _ x y => c_compareLays x y _) hH hblk hsz
  exact hcon


theorem holds_own {w : World} {base g cap : Nat} {l : List Cl} (h : OwnS w base (.slice (some ⟨g, 0, none⟩) l.length cap) l) : HoldsK encC 2 w g 0 l.toArray := by
  intro j hj
  have hj' : j < l.length * 2 := by simpa using hj
  have hi : j / 2 < l.length := by omega
  rw [get_flatK _ _ _ _ (by simpa using hj')]
  have hget : l.toArray[j / 2]! = at_ l (j / 2) := by
    rw [getElem!_pos l.toArray (j / 2) (by simpa using hi)]
    simp [at_, hi]
  rw [hget]
  have c := World.ownsRow.cellAt h j hj'
  have f := World.ownsRow.frozenAt h j
  rw [Nat.zero_add]
  refine ⟨?_, f⟩
  rw [c]
  rcases (show j % 2 = 0 ∨ j % 2 = 1 by omega) with e | e
  · rw [e]
    have := flat_even hi
    rw [show j / 2 * 2 = j by omega] at this
    rw [this]; rfl
  · rw [e]
    have := flat_odd hi
    rw [show j / 2 * 2 + 1 = j by omega] at this
    rw [this]; rfl

theorem own_sorted {w : World} {base g cap n : Nat} {l : List Cl} {d : Array Cl} {os : Array Obj} (h : OwnS w base (.slice (some ⟨g, 0, none⟩) l.length cap) l) (hd : d.size = l.length) :
    OwnS (sortWorldK encC 2 w g 0 n d os) base (.slice (some ⟨g, 0, none⟩) l.length cap) d.toList ∧ w.grownBy (sortWorldK encC 2 w g 0 n d os) (some g) := by
  rcases h.2 with ⟨e0, _⟩ | ⟨g', cap', cur, e0, hb, hg, hn, hm, hs, ht⟩
  · cases e0
  · injection e0 with e1 _ e3
    injection e1 with e1
    injection e1 with e1
    subst e1; subst e3
    have hlt : g < w.heap.size := (Array.getElem?_eq_some_iff.1 hg).1
    have hblk : (sortWorldK encC 2 w g 0 n d os).heap[g]? = some (.cells (putCells id 0 (flatK encC 2 d) cur) 36 (0, 0)) := by
      unfold sortWorldK grow putRowK
      show ((putRow id (Sort.ahead w n) g 0 (flatK encC 2 d)).heap ++ os)[g]? = _
      rw [Array.getElem?_append_left (by simpa [putRow, mapBlock, Sort.ahead] using hlt)]
      simp [putRow, mapBlock, Sort.ahead, Array.getElem?_modify, hg, onCells]
    have hlen : d.toList.length = l.length := by simpa using hd
    refine ⟨⟨by rw [hlen, flat_length, hlen], .inr ⟨g, cap, putCells id 0 (flatK encC 2 d) cur, by rw [hlen], hb, hblk, by rw [hlen]; exact hn, hm, by simpa [putCells] using hs, ?_⟩⟩, ⟨rfl, rfl, rfl, ?_, ?_⟩⟩
    · have hcs : (putCells id 0 (flatK encC 2 d) cur).size = cap * 2 := by simpa [putCells] using hs
      have hcl : (putCells id 0 (flatK encC 2 d) cur).toList.length = cap * 2 := by simpa using hcs
      refine flat_ext (by rw [List.length_take, hcl, hlen]; omega) fun i hi => ?_
      rw [hlen] at hi
      have hp : ∀ j, j < l.length * 2 → (putCells id 0 (flatK encC 2 d) cur)[j]? = some (encC d[j / 2]!)[j % 2]! := by
        intro j hj
        have hjc : j < cur.size := by omega
        simp only [putCells, Array.getElem?_mapIdx, Array.getElem?_eq_getElem hjc, Option.map_some]
        rw [if_pos (by simp; omega)]
        simp only [Nat.sub_zero, id]
        rw [get_flatK _ _ _ _ (by omega)]
      rw [hlen, List.getElem?_take_of_lt (by omega), List.getElem?_take_of_lt (by omega), Array.getElem?_toList, Array.getElem?_toList, hp _ (by omega), hp _ (by omega)]
      have hda : d[i]! = at_ d.toList i := by
        rw [getElem!_pos d i (by omega)]
        simp [at_, show i < d.size by omega]
      rw [show i * 2 / 2 = i by omega, show (i * 2 + 1) / 2 = i by omega, show i * 2 % 2 = 0 by omega, show (i * 2 + 1) % 2 = 1 by omega, hda]
      exact ⟨rfl, rfl⟩
    · show w.heap.size ≤ ((putRow id (Sort.ahead w n) g 0 (flatK encC 2 d)).heap ++ os).size
      simp [putRow, mapBlock, Sort.ahead]
    · intro k hk hne
      show ((putRow id (Sort.ahead w n) g 0 (flatK encC 2 d)).heap ++ os)[k]? = _
      rw [Array.getElem?_append_left (by simpa [putRow, mapBlock, Sort.ahead] using hk)]
      have : g ≠ k := fun e => hne (by rw [e])
      simp [putRow, mapBlock, Sort.ahead, Array.getElem?_modify, this]

/-- Cells in order, none behind a greater one. -/
def Sorted (l : List Cl) : Prop := ∀ i j, i < j → j < l.length → ltC (at_ l j) (at_ l i) = false

theorem c_sortOwn (base g cap : Nat) (l : List Cl) (w : World) (h : OwnS w base (.slice (some ⟨g, 0, none⟩) l.length cap) l) (hl : l.length ≤ 4194304) :
    Calls Try.prog 124 #[.slice (some ⟨g, 0, none⟩) l.length cap, .func (.func 125) #[] #[]] w fun e w' =>
      e = .returned (.tuple #[]) ∧ ∃ l' : List Cl, l'.Perm l ∧ Sorted l' ∧ OwnS w' base (.slice (some ⟨g, 0, none⟩) l'.length cap) l' ∧ w.grownBy w' (some g) ∧ l'.length = l.length := by
  have hlt : g < w.heap.size := (h.lt g rfl).2
  have hc := c_sort g 0 cap l.toArray w (holds_own h) hlt (by simp; omega)
  simp only [List.size_toArray] at hc
  refine hc.mono fun e w' ⟨he, d, n, os, hp, hs, hw⟩ => ⟨he, d.toList, ?_, ?_, ?_⟩
  · have h3 := hp.2.2
    have e1 : d.extract 0 l.length = d := by
      have : d.size = l.length := by simpa using hp.1
      rw [← this]; simp
    have e2 : l.toArray.extract 0 l.length = l.toArray := by simp
    rw [e1, e2] at h3
    simpa using h3
  · have hds : d.size = l.length := by simpa using hp.1
    intro i j hij hj
    have hj' : j < d.size := by simpa using hj
    have := hs i j (Nat.zero_le _) hij (by omega)
    rw [ltOf_cmp, getElem!_pos d j hj', getElem!_pos d i (by omega)] at this
    simpa [at_, hj', show i < d.size by omega] using this
  · have hds : d.size = l.length := by simpa using hp.1
    have hlen : d.toList.length = l.length := by simpa using hds
    rw [hlen, hw]
    obtain ⟨h1, h2⟩ := own_sorted (n := n) (os := os) h hds
    exact ⟨h1, h2, rfl⟩

end Go.Proofs.Ytgfdkolhldbehaa

namespace Go.Proofs.Ytgfdkolhldbehaa
open Go.RowKit Go.Maps
set_option linter.unusedVariables false
set_option linter.unusedSimpArgs false

theorem mwide : (match Try.prog.underlying 36 with | some (.array _ _) | some (.struct _) => true | _ => false) = true := by kernel_rfl
theorem mrow : 36 < Try.prog.types.size := of_decide_eq_true (by kernel_rfl)
set_option maxRecDepth 100000 in
theorem klaw : WideMaps.KeyLaw Try.prog 36 := deep_law_laid laidOut (m := 2) (by omega) mrow (by kernel_rfl) mwide
theorem law : Keyed Try.prog 36 := Keyed.of_law klaw
theorem mund : Try.prog.underlying 95 = some (.map 36 3) := Try.underlying95
theorem mzero (w : World) : (zeroValue 3).run Try.prog w = .ok (.int .i64 0) w := by kernel_rfl

/-- A cell whose numbers fit. -/
def fits (c : Cl) : Prop := -9223372036854775808 ≤ c.1 ∧ c.1 ≤ 9223372036854775807 ∧ -9223372036854775808 ≤ c.2 ∧ c.2 ≤ 9223372036854775807
/-- What a cell reads as, as a key. -/
def kap (c : Cl) : Lit := .string (keyBytes [.int .i64 c.1, .int .i64 c.2])

theorem und_iCell : ∃ f0 f1 : Field, Try.prog.underlying 36 = some (.struct #[f0, f1]) ∧ f0.offset = 0 ∧ f1.offset = 1 ∧ f0.type = 3 ∧ f1.type = 3 ∧ (f0.name != "_") = true ∧ (f1.name != "_") = true :=
  ⟨_, _, Try.underlying36, rfl, rfl, rfl, rfl, by decide, by decide⟩
theorem cells_iCell : Try.prog.cellsOf 36 = 2 := by kernel_rfl
theorem keyType_Cell : Try.prog.keyType 36 = true := by kernel_rfl
theorem wf_of {n : Int} (h : -9223372036854775808 ≤ n ∧ n ≤ 9223372036854775807) : (Lit.int .i64 n).wf = true := WalkArith.wf_i64 (by omega)
theorem of_wf {n : Int} (h : (Lit.int .i64 n).wf = true) : -9223372036854775808 ≤ n ∧ n ≤ 9223372036854775807 := by
  simp [Lit.wf, IntKind.min, IntKind.max, IntKind.bits, IntKind.signed] at h
  omega

theorem lits_int (d : Nat) (v : Value) : Try.prog.keyLits (d + 1) 3 [v] = match v with | .int .i64 n => (if (Lit.int .i64 n).wf = true then some [.int .i64 n] else none) | _ => none := by
  unfold Program.keyLits
  rw [Try.underlying3]
  cases v with
  | int q n => cases q <;> simp
  | _ => rfl

theorem lits_cell (d : Nat) (u v : Value) : Try.prog.keyLits (d + 2) 36 [u, v] = (do let a ← Try.prog.keyLits (d + 1) 3 [u]; let b ← Try.prog.keyLits (d + 1) 3 [v]; some (a ++ b)) := by
  obtain ⟨f0, f1, hu, o0, o1, t0, t1, m0, m1⟩ := und_iCell
  conv => lhs; unfold Program.keyLits
  rw [hu]
  simp only [List.length_cons, List.length_nil, cells_iCell]
  rw [if_pos ⟨trivial, by simp only [List.all_toArray, List.all_cons, List.all_nil, m0, m1]; rfl⟩]
  simp only [List.mapM_cons, List.mapM_nil, o0, o1, t0, t1, cells_int, List.drop_zero, List.take_succ_cons, List.take_zero, List.drop_succ_cons]
  cases Try.prog.keyLits (d + 1) 3 [u] with
  | none => rfl
  | some a =>
    cases Try.prog.keyLits (d + 1) 3 [v] with
    | none => rfl
    | some b => simp

set_option maxRecDepth 100000 in
theorem key_of (c : Cl) (h : fits c) : keyOf Try.prog 36 (.agg #[.int .i64 c.1, .int .i64 c.2]) = some (kap c) := by
  obtain ⟨f0, f1, hu, _⟩ := und_iCell
  obtain ⟨d, hd⟩ : ∃ d, Try.prog.types.size + 1 = d + 2 := ⟨Try.prog.types.size - 1, by have := mrow; omega⟩
  unfold keyOf
  rw [hu]
  have hf : (Value.agg #[.int .i64 c.1, .int .i64 c.2]).formed Try.prog 36 = true := by simp [Value.formed, hu, cells_iCell]
  have hc : (Value.agg #[.int .i64 c.1, .int .i64 c.2]).cells.toList = [.int .i64 c.1, .int .i64 c.2] := rfl
  simp only [keyType_Cell, hf, Bool.and_self, if_true, hd, hc, lits_cell, lits_int, wf_of ⟨h.1, h.2.1⟩, wf_of ⟨h.2.2.1, h.2.2.2⟩]
  rfl

set_option maxRecDepth 100000 in
theorem key_inv {v : Value} {kl : Lit} (h : keyOf Try.prog 36 v = some kl) : ∃ c : Cl, v = .agg #[.int .i64 c.1, .int .i64 c.2] ∧ fits c ∧ kl = kap c := by
  obtain ⟨f0, f1, hu, _⟩ := und_iCell
  obtain ⟨d, hd⟩ : ∃ d, Try.prog.types.size + 1 = d + 2 := ⟨Try.prog.types.size - 1, by have := mrow; omega⟩
  have h0 := h
  unfold keyOf at h
  rw [hu] at h
  by_cases hf : v.formed Try.prog 36 = true
  · cases v with
    | agg cs =>
      have hsz : cs.size = 2 := by simpa [Value.formed, hu, cells_iCell] using hf
      obtain ⟨u, x, rfl⟩ : ∃ u x, cs = #[u, x] := by
        obtain ⟨l⟩ := cs
        match l, hsz with
        | [u, x], _ => exact ⟨u, x, rfl⟩
      have hc : (Value.agg #[u, x]).cells.toList = [u, x] := rfl
      simp only [keyType_Cell, hf, Bool.and_self, if_true, hd, hc, lits_cell, lits_int] at h
      cases u with
      | int q n =>
        cases x with
        | int q' n' =>
          have hqq : q = .i64 ∧ q' = .i64 := by cases q <;> cases q' <;> simp at h <;> exact ⟨rfl, rfl⟩
          obtain ⟨rfl, rfl⟩ := hqq
          by_cases hw : (Lit.int .i64 n).wf = true
          · by_cases hw' : (Lit.int .i64 n').wf = true
            · simp [hw, hw'] at h
              exact ⟨(n, n'), rfl, ⟨(of_wf hw).1, (of_wf hw).2, (of_wf hw').1, (of_wf hw').2⟩, by rw [← h]; rfl⟩
            · simp [hw, hw'] at h
          · simp [hw] at h
        | _ => simp at h
      | _ => simp at h
    | tuple cs => simp [Value.formed] at hf
    | _ => simp [Value.formed, hu] at hf
  · simp [hf] at h

theorem kap_inj {c d : Cl} (hc : fits c) (hd : fits d) (h : kap c = kap d) : c = d := by
  have h1 := key_of c hc
  have h2 := key_of d hd
  rw [h] at h1
  have := law.inj h1 h2
  simp at this
  exact Prod.ext this.1 this.2

/-- The map in block b holds f c at each cell c that dom names, and nought at every other one; it has at most n entries. -/
def MapIs (w : World) (b n : Nat) (dom : Cl → Bool) (f : Cl → Int) : Prop :=
  ∃ D : DataW Unit, w.ownsMap Try.prog 36 (plainElem Try.prog 3) b n D ∧ (∀ c, fits c → Maps.has D (kap c) = dom c) ∧ (∀ c, fits c → D.atKey (kap c) (.lit (.int .i64 0)) = .lit (.int .i64 (f c)))

theorem MapIs.made (w : World) : MapIs (w.alloc (.map #[] 0)) w.heap.size 0 (fun _ => false) (fun _ => 0) :=
  ⟨.map [], World.ownsMap_made w _ _ _, fun _ _ => rfl, fun _ _ => rfl⟩
theorem MapIs.lt {w : World} {b n : Nat} {dom : Cl → Bool} {f : Cl → Int} (h : MapIs w b n dom f) : b < w.heap.size := by
  obtain ⟨D, ho, _⟩ := h; exact ho.lt
theorem MapIs.kept {w w' : World} {b n : Nat} {dom : Cl → Bool} {f : Cl → Int} {row : Option Nat} (h : MapIs w b n dom f) (hg : w.grownBy w' row) (hne : some b ≠ row) : MapIs w' b n dom f := by
  obtain ⟨D, ho, h1, h2⟩ := h; exact ⟨D, ho.kept hg hne, h1, h2⟩
theorem MapIs.below {w w' : World} {b n : Nat} {dom : Cl → Bool} {f : Cl → Int} (h : MapIs w b n dom f) (hb : RowKit.Below w.heap.size w w') : MapIs w' b n dom f := h.kept (grown_of_below hb none) (by simp)
theorem MapIs.congr {w : World} {b n : Nat} {dom dom' : Cl → Bool} {f f' : Cl → Int} (h : MapIs w b n dom f) (h1 : ∀ c, fits c → dom c = dom' c) (h2 : ∀ c, fits c → f c = f' c) : MapIs w b n dom' f' := by
  obtain ⟨D, ho, k1, k2⟩ := h
  exact ⟨D, ho, fun c hc => by rw [k1 c hc, h1 c hc], fun c hc => by rw [k2 c hc, h2 c hc]⟩

/-- What looking up gives. -/
theorem MapIs.look {w : World} {b n : Nat} {dom : Cl → Bool} {f : Cl → Int} (h : MapIs w b n dom f) {c : Cl} (hc : fits c) :
    (Instr.lookup 95 (.map (some b)) (.agg #[.int .i64 c.1, .int .i64 c.2]) false).run Try.prog w = .ok (.int .i64 (f c)) w := by
  obtain ⟨D, ho, _, h2⟩ := h
  obtain ⟨x, hrun, hat, _⟩ := ho.lookup_int law mund Try.underlying3 (mzero w) (key_of c hc)
  rw [h2 c hc] at hat
  simp at hat
  rw [hat]; exact hrun

/-- What a store leaves. -/
theorem MapIs.put_of {w w' : World} {b n : Nat} {dom : Cl → Bool} {f : Cl → Int} {D : DataW Unit} (him : Maps.IsMap D) (h1 : ∀ c, fits c → Maps.has D (kap c) = dom c) (h2 : ∀ c, fits c → D.atKey (kap c) (.lit (.int .i64 0)) = .lit (.int .i64 (f c)))
    {c : Cl} (hc : fits c) {v : Int} (ho : w'.ownsMap Try.prog 36 (plainElem Try.prog 3) b n (D.put (kap c) (.lit (.int .i64 v)))) : MapIs w' b n (fun d => decide (d = c) || dom d) (fun d => if d = c then v else f d) := by
  refine ⟨_, ho, fun d hd => ?_, fun d hd => ?_⟩
  · by_cases e : d = c
    · subst e
      rw [Maps.has_put_same him (law.key (key_of d hd))]; simp
    · rw [Maps.has_put_other (fun h => e (kap_inj hd hc h)), h1 d hd]; simp [e]
  · by_cases e : d = c
    · subst e
      rw [Maps.atKey_put_same him (law.key (key_of d hd))]; simp
    · rw [Maps.atKey_put_other (fun h => e (kap_inj hd hc h)), h2 d hd]; simp [e]


theorem setBlock_twice {w : World} {b : Nat} {o1 o2 : Obj} : ChangeMaps.setBlock (ChangeMaps.setBlock w b o1) b o2 = ChangeMaps.setBlock w b o2 := by
  simp [ChangeMaps.setBlock]

/-- A number in the map is raised: looked up, and stored again, whichever the order of looking up and of finding the entry's place. -/
theorem MapIs.incr {w : World} {b n : Nat} {dom : Cl → Bool} {f : Cl → Int} (h : MapIs w b n dom f) {c : Cl} (hc : fits c) (hn : n < maxLen) (v : Int) (hv : (Lit.int .i64 v).wf = true) :
    ∃ (v0 : Value) (st : Nat) (W1 W2 : World), (Instr.mapEntry 95 (.map (some b)) (.agg #[.int .i64 c.1, .int .i64 c.2])).run Try.prog w = .ok (.tuple #[v0, .int .i64 (st : Int)]) W1 ∧
      (Instr.lookup 95 (.map (some b)) (.agg #[.int .i64 c.1, .int .i64 c.2]) false).run Try.prog W1 = .ok (.int .i64 (f c)) W1 ∧
      (Instr.entryStore 95 (.map (some b)) (.int .i64 (st : Int)) (.int .i64 v)).run Try.prog W1 = .ok () W2 ∧
      MapIs W2 b (n + 1) (fun d => decide (d = c) || dom d) (fun d => if d = c then v else f d) ∧ w.grownBy W2 (some b) ∧ W2.heap.size = w.heap.size := by
  have hlook := h.look hc
  obtain ⟨D, hown, h1, h2⟩ := h
  have hown0 := hown
  obtain ⟨es, clock, hb, F, hs, hD⟩ := hown
  have hkey := key_of c hc
  obtain ⟨v0, st, es1, clock1, hent, _, hsto⟩ := WideElems.entry_then_store klaw mund mzero hb F hkey
  have hb1 : (ChangeMaps.setBlock w b (.map es1 clock1)).heap[b]? = some (.map es1 clock1) := ChangeMaps.heap_setBlock_same hb _
  obtain ⟨es2, clock2, hst2, hup2⟩ := hsto (ChangeMaps.setBlock w b (.map es1 clock1)) (.int .i64 v) hb1
  obtain ⟨es3, clock3, hst3, hup3⟩ := hsto (ChangeMaps.setBlock w b (.map es1 clock1)) (.int .i64 (f c)) hb1
  obtain ⟨w4, hrun4, hown4, hg4⟩ := hown0.update law mund hn hkey (plainElem_int Try.underlying3 hv)
  rw [hup2] at hrun4
  simp only [Result.ok.injEq, true_and] at hrun4
  subst hrun4
  refine ⟨v0, st, _, _, hent, ?_, hst2, ?_, ?_, ?_⟩
  · rcases law.find w hkey es.toList F.keys with ⟨e1, e2⟩ | ⟨j, e0, e1, e2, e3⟩
    · have r1 : (Instr.mapEntry 95 (.map (some b)) (.agg #[.int .i64 c.1, .int .i64 c.2])).run Try.prog w = .ok (.tuple #[.int .i64 0, goInt clock]) (ChangeMaps.setBlock w b (.map (es.push ⟨.agg #[.int .i64 c.1, .int .i64 c.2], .int .i64 0, clock⟩) (clock + 1))) := by
        simp [Instr.mapEntry, run_underlying mund, MapKept.run_getObj_map hb, law.check w false hkey, e1, MapKept.run_setObj_map _ hb, Result.andThen, ChangeMaps.setBlock]
      have r2 : (Instr.mapUpdate 95 (.map (some b)) (.agg #[.int .i64 c.1, .int .i64 c.2]) (.int .i64 0)).run Try.prog w = .ok () (ChangeMaps.setBlock w b (.map (es.push ⟨.agg #[.int .i64 c.1, .int .i64 c.2], .int .i64 0, clock⟩) (clock + 1))) := by
        simp [Instr.mapUpdate, run_underlying mund, MapKept.run_getObj_map hb, law.check w false hkey, e1, MapKept.run_setObj_map _ hb, Result.andThen, ChangeMaps.setBlock]
      have r3 : (Instr.lookup 95 (.map (some b)) (.agg #[.int .i64 c.1, .int .i64 c.2]) false).run Try.prog w = .ok (.int .i64 0) w := by
        simp [Instr.lookup, run_underlying mund, MapKept.run_getObj_map hb, law.check w _ hkey, e1, Result.andThen]
      rw [hlook] at r3
      simp only [Result.ok.injEq, Value.int.injEq, and_true, true_and] at r3
      rw [hent] at r1
      simp only [Result.ok.injEq] at r1
      rw [r1.2]
      obtain ⟨w5, hrun5, hown5, _⟩ := hown0.update law mund hn hkey (plainElem_int Try.underlying3 (wf_of (n := 0) (by omega)))
      rw [r2] at hrun5
      simp only [Result.ok.injEq, true_and] at hrun5
      rw [hrun5]
      obtain ⟨x, hx, hat, _⟩ := hown5.lookup_int law mund Try.underlying3 (mzero _) hkey
      rw [Maps.atKey_put_same ⟨_, hD⟩ (law.key hkey)] at hat
      simp at hat
      rw [hx, ← hat, r3]
    · have hj : es[j]? = some e0 := by simpa using e2
      have hsame : es.modify j (fun e => { e with key := .agg #[.int .i64 c.1, .int .i64 c.2] }) = es := by
        apply Array.ext'
        rw [Array.toList_modify, ChangeMaps.modify_eq_set _ _ _ _ e2]
        have : ({ e0 with key := .agg #[.int .i64 c.1, .int .i64 c.2] } : MapEntry) = e0 := by rw [← e3]
        rw [this]
        exact WideElems.set_self _ _ _ e2
      have r1 : (Instr.mapEntry 95 (.map (some b)) (.agg #[.int .i64 c.1, .int .i64 c.2])).run Try.prog w = .ok (.tuple #[e0.val, goInt e0.born]) (ChangeMaps.setBlock w b (.map es clock)) := by
        simp [Instr.mapEntry, run_underlying mund, MapKept.run_getObj_map hb, law.check w false hkey, e1, hj, e3, law.stays w hkey, hsame, MapKept.run_setObj_map _ hb, Result.andThen, ChangeMaps.setBlock]
      rw [hent] at r1
      simp only [Result.ok.injEq] at r1
      rw [r1.2]
      have hown5 : (ChangeMaps.setBlock w b (.map es clock)).ownsMap Try.prog 36 (plainElem Try.prog 3) b n D := ⟨es, clock, ChangeMaps.heap_setBlock_same hb _, F, hs, hD⟩
      obtain ⟨x, hx, hat, _⟩ := hown5.lookup_int law mund Try.underlying3 (mzero _) hkey
      rw [h2 c hc] at hat
      simp at hat
      rw [hx, hat]
  · rw [setBlock_twice]
    exact MapIs.put_of (w := w) ⟨_, hD⟩ h1 h2 hc hown4
  · rw [setBlock_twice]; exact hg4
  · simp [ChangeMaps.setBlock]


/-- How often a cell is in a list. -/
def cnt (L : List Cl) (c : Cl) : Int := ((L.countP fun d => decide (d = c) : Nat) : Int)
theorem cnt_snoc (L : List Cl) (y c : Cl) : cnt (L ++ [y]) c = if c = y then cnt L y + 1 else cnt L c := by
  unfold cnt
  rw [List.countP_append]
  by_cases e : c = y
  · subst e; simp
  · have e' : ¬ y = c := fun h => e h.symm
    simp [e, e']
theorem cnt_le (L : List Cl) (c : Cl) : 0 ≤ cnt L c ∧ cnt L c ≤ L.length := by
  unfold cnt
  have := List.countP_le_length (p := fun d => decide (d = c)) (l := L)
  omega
/-- The map in block b counts the cells of L. -/
def CntIs (w : World) (b : Nat) (L : List Cl) : Prop := MapIs w b L.length (fun c => decide (c ∈ L)) (cnt L)
theorem CntIs.made (w : World) : CntIs (w.alloc (.map #[] 0)) w.heap.size [] := (MapIs.made w).congr (fun c _ => by simp) (fun c _ => rfl)
theorem CntIs.step {w : World} {b : Nat} {L : List Cl} (h : CntIs w b L) {y : Cl} (hy : fits y) (hL : L.length ≤ 67108864) :
    ∃ (v0 : Value) (st : Nat) (W1 W2 : World), (Instr.lookup 95 (.map (some b)) (.agg #[.int .i64 y.1, .int .i64 y.2]) false).run Try.prog w = .ok (.int .i64 (cnt L y)) w ∧
      (Instr.mapEntry 95 (.map (some b)) (.agg #[.int .i64 y.1, .int .i64 y.2])).run Try.prog w = .ok (.tuple #[v0, .int .i64 (st : Int)]) W1 ∧
      (Instr.lookup 95 (.map (some b)) (.agg #[.int .i64 y.1, .int .i64 y.2]) false).run Try.prog W1 = .ok (.int .i64 (cnt L y)) W1 ∧
      (Instr.entryStore 95 (.map (some b)) (.int .i64 (st : Int)) (.int .i64 (cnt L y + 1))).run Try.prog W1 = .ok () W2 ∧
      CntIs W2 b (L ++ [y]) ∧ w.grownBy W2 (some b) ∧ W2.heap.size = w.heap.size := by
  have hc := cnt_le L y
  obtain ⟨v0, st, W1, W2, e2, e3, e4, hM, hg, hz⟩ := MapIs.incr h hy (by unfold maxLen; omega) (cnt L y + 1) (wf_of (by omega))
  refine ⟨v0, st, W1, W2, MapIs.look h hy, e2, e3, e4, ?_, hg, hz⟩
  unfold CntIs
  rw [List.length_append]
  refine hM.congr (fun d hd => ?_) (fun d hd => ?_)
  · by_cases e : d = y <;> simp [e]
  · rw [cnt_snoc]
theorem CntIs.below {w w' : World} {b : Nat} {L : List Cl} (h : CntIs w b L) (hb : RowKit.Below w.heap.size w w') : CntIs w' b L := MapIs.below h hb

end Go.Proofs.Ytgfdkolhldbehaa

namespace Go.Proofs.Ytgfdkolhldbehaa
open Go.RowKit Go.Maps
set_option linter.unusedVariables false

/-- What has been gathered of a map's keys while it is gone through. -/
def Got (D : DataW Unit) (left : Lit → Bool) (ks : List Cl) : Prop :=
  ks.Nodup ∧ (∀ c ∈ ks, fits c ∧ Maps.has D (kap c) = true ∧ left (kap c) = false) ∧ (∀ c, fits c → Maps.has D (kap c) = true → left (kap c) = false → c ∈ ks)
theorem Got.start (D : DataW Unit) : Got D (Maps.has D) [] := ⟨List.nodup_nil, fun c hc => by simp at hc, fun c _ h1 h2 => by rw [h1] at h2; cases h2⟩
theorem kap_same {c d : Cl} (hc : fits c) (hd : fits d) : (kap c).sameKey (kap d) = decide (c = d) := by
  by_cases e : c = d
  · subst e
    rw [WideAt.sameKey_self (law.key (key_of c hc))]; simp
  · rw [Maps.sameKey_ne (fun h => e (kap_inj hc hd h))]; simp [e]
theorem Got.step {D : DataW Unit} {left : Lit → Bool} {ks : List Cl} (h : Got D left ks) {x : Cl} (hx : fits x) (hD : Maps.has D (kap x) = true) (hl : left (kap x) = true) : Got D (fun z => left z && !z.sameKey (kap x)) (ks ++ [x]) := by
  obtain ⟨h1, h2, h3⟩ := h
  have hxn : x ∉ ks := fun hm => by have := (h2 x hm).2.2; rw [hl] at this; cases this
  refine ⟨?_, fun c hc => ?_, fun c hf hd hlc => ?_⟩
  · rw [List.nodup_append]
    refine ⟨h1, by simp, fun a ha b hb e => ?_⟩
    simp at hb
    subst hb; subst e
    exact hxn ha
  · rw [List.mem_append] at hc
    rcases hc with hc | hc
    · obtain ⟨a1, a2, a3⟩ := h2 c hc
      exact ⟨a1, a2, by simp [a3]⟩
    · simp at hc
      subst hc
      exact ⟨hx, hD, by simp [kap_same hx hx]⟩
  · rw [List.mem_append]
    by_cases e : c = x
    · right; simp [e]
    · left
      refine h3 c hf hd ?_
      have hlc' : (left (kap c) && !(kap c).sameKey (kap x)) = false := hlc
      rw [kap_same hf hx] at hlc'
      simpa [e] using hlc'
theorem nodup_sorted_ris {l : List Cl} (hs : Sorted l) (hn : l.Nodup) : risTo l l.length = true := by
  simp only [risTo, List.all_eq_true, List.mem_range]
  intro i hi
  by_cases h0 : i = 0
  · simp [h0]
  · have h1 := hs (i - 1) i (by omega) hi
    have hne : at_ l (i - 1) ≠ at_ l i := by
      intro e
      rw [List.nodup_iff_pairwise_ne, List.pairwise_iff_getElem] at hn
      have := hn (i - 1) i (by omega) hi (by omega)
      simp only [at_, List.getD_eq_getElem?_getD, List.getElem?_eq_getElem hi, List.getElem?_eq_getElem (show i - 1 < l.length by omega), Option.getD_some] at e
      exact this e
    have : ltC (at_ l (i - 1)) (at_ l i) = true := by
      generalize at_ l (i - 1) = p at *
      generalize at_ l i = q at *
      obtain ⟨x, y⟩ := p
      obtain ⟨u, v⟩ := q
      simp [ltC] at h1 hne ⊢
      omega
    simp [this]

theorem make_Cells0 (n : Nat) (hn : n ≤ 1048576) (w : World) :
    (Instr.makeSlice 23 (.int .i64 0) (.int .i64 (n : Int))).run Try.prog w = .ok (.slice (some ⟨w.heap.size, 0, none⟩) 0 n) (w.alloc (.cells (madeCells #[.int .i64 0, .int .i64 0] (n * 2)) 36)) := by
  obtain ⟨i, hi, hz, hs, hb⟩ := info_parts info_Cell
  have := run_make (P := Try.prog) w 23 36 i _ Try.underlying23 hi hz .i64 .i64 0 n (by omega) (by omega) (by rw [hb]; omega) (by omega)
  simpa [hs, Value.cells] using this
theorem made_own0 (w : World) (n : Nat) (hn : n ≤ 1048576) : OwnS (w.alloc (.cells (madeCells #[.int .i64 0, .int .i64 0] (n * 2)) 36)) w.heap.size (.slice (some ⟨w.heap.size, 0, none⟩) 0 n) [] :=
  World.ownsRow_made w _ n (Nat.le_refl _) (by unfold maxLen; omega) (size_madeCells _ _)

theorem own_ne_iter {W : World} {base b r n m g cap : Nat} {D : DataW Unit} {left : Lit → Bool} {cn : Nat} {l : List Cl} (hO : OwnS W base (.slice (some ⟨g, 0, none⟩) m cap) l) (hr : W.ranges Try.prog 36 (plainElem Try.prog 3) b r n D left cn) : g ≠ r ∧ g ≠ b := by
  rcases hO.2 with ⟨e, _⟩ | ⟨g', cap', cur, e, _, hg, _⟩
  · cases e
  · injection e with e1 _ _
    injection e1 with e1
    injection e1 with e1
    subst e1
    obtain ⟨es, clock, since, seen, c0, hb, _, _, _, hri, _⟩ := hr
    constructor
    · intro e; subst e; rw [hg] at hri; cases hri
    · intro e; subst e; rw [hg] at hb; cases hb
theorem own_snoc_form {W : World} {base : Nat} {v : Value} {l : List Cl} {x : Cl} (h : OwnS W base v (l ++ [x])) : ∃ g cap, v = .slice (some ⟨g, 0, none⟩) (l ++ [x]).length cap :=
  Joins.ownsRow_form h (by simp)

set_option maxHeartbeats 1000000 in
theorem c_inOrder (b n : Nat) (dom : Cl → Bool) (f : Cl → Int) (w : World) (h : MapIs w b n dom f) (hn : n ≤ 1048576) :
    Calls Try.prog 79 #[.map (some b)] w fun e w' => ∃ v l', e = .returned v ∧ OwnS w' w.heap.size v l' ∧ risTo l' l'.length = true ∧ (∀ c, c ∈ l' ↔ fits c ∧ dom c = true) ∧ l'.length ≤ n ∧ Below w.heap.size w w' := by
  obtain ⟨D, hown, hdom, hf⟩ := h
  have hSZ : Maps.size D ≤ n := by
    obtain ⟨es, clock, hb, F, hs, hD⟩ := hown
    rw [hD]
    simp only [Maps.size]
    rw [length_sorted]
    simpa using hs
  have hmk := make_Cells0 (Maps.size D) (by omega)
  have hblt := hown.lt
  have HO1 := hid (hown.alloc (.cells (madeCells #[.int .i64 0, .int .i64 0] (Maps.size D * 2)) 36))
  have HW1 := hid (made_own0 w (Maps.size D) (by omega))
  have HO := hid hown
  have HDOM := hid hdom
  clear hown hdom hf
  go_enter Try.func79, Try.ntmps79
  go_wp2_with (first | (at_len; refine wpList_len_own _ rfl _ 95 rfl 36 3 mund _ b n D rfl HO.out ?_) | (at_range; refine wpList_range_own _ rfl _ 95 rfl 36 3 law mund _ b n D rfl HO1.out ?_; intro w2 hrg2 hg2 hs2))
  go_frame
  have e1 : (w.alloc (.cells (madeCells #[.int .i64 0, .int .i64 0] (Maps.size D * 2)) 36)).heap.size = w.heap.size + 1 := by simp
  have HW2 := hid (own_keep HW1.out hg2 (fun k _ e => by cases e))
  have HB2 : Hid (Below w.heap.size w w2) := ((Below.refl _ _).alloc (Nat.le_refl _) _).grown hg2 (by simp) (fun k e => by cases e)
  clear hg2
  generalize (w.alloc (.cells (madeCells #[.int .i64 0, .int .i64 0] (Maps.size D * 2)) 36)).heap.size = r at *
  have HRG2 := hid hrg2
  have HZ2 : Hid (r < w2.heap.size) := by show _ < _; omega
  have HR := hid e1
  clear hrg2 hs2 e1 hmk HO1 HW1
  go_loopw [3] (fun v wr => ∃ (left : Lit → Bool) (cn : Nat) (ks : List Cl) (g cap : Nat), v = .slice (some ⟨g, 0, none⟩) ks.length cap ∧ wr.ranges Try.prog 36 (plainElem Try.prog 3) b r n D left cn ∧ Got D left ks ∧ ks.length + cn ≤ Maps.size D ∧ OwnS wr w.heap.size v ks ∧ r < wr.heap.size ∧ Below w.heap.size w wr) (fun _ wr => wr.rangeLeft b r)
  case atStart => exact ⟨_, _, [], w.heap.size, Maps.size D, rfl, HRG2.out, Got.start D, by simp, HW2.out, HZ2.out, HB2.out⟩
  case round =>
    clear HRG2 HW2 HB2 HZ2
    obtain ⟨left, cn, ks, g, cap, rfl, hrg, hgot, hlen, hO, hz, hB⟩ := hrel
    have hgne := own_ne_iter hO hrg
    have HGOT := hid hgot
    have HRG := hid hrg
    have HOO := hid hO
    have HB := hid hB
    have HGN := hid hgne
    clear hgot hrg hO hB hgne
    go_wp2_with (at_next; refine wpList_next_ranges _ rfl _ rfl 36 law (plainElem Try.prog 3) (fun c : Cl => .agg #[.int .i64 c.1, .int .i64 c.2]) (Value.int .i64) (fun key kl hk => by obtain ⟨c, hc, _⟩ := key_inv hk; exact ⟨c, hc⟩) (fun v y hv => by obtain ⟨c, rfl, _⟩ := plainElem_int_inv Try.underlying3 hv; exact ⟨c, rfl⟩) b r n _ _ _ rfl HRG.out ?_ ?_)
    · intro _ hl0
      have HL0 := hid hl0
      clear hl0
      have HSRT := hid (c_sortOwn w.heap.size g cap ks wr HOO.out (by omega))
      go_wp2_with fail
      refine HSRT.out.mono ?_
      rintro e w3 ⟨rfl, l', hperm, hsrt, hO3, hg3, hll⟩
      have hll' := hid hll
      rw [hll] at hO3
      clear hll
      go_wp2
      go_ret
      have hgb := (HOO.out.lt g rfl).1
      refine ⟨_, l', rfl, hO3, nodup_sorted_ris hsrt (hperm.symm.nodup HGOT.out.1), fun c => ?_, by have := hll'.out; omega, HB.out.grown hg3 HB.out.size (fun k e => by cases e; exact hgb)⟩
      rw [hperm.mem_iff]
      constructor
      · intro hm
        obtain ⟨f1, f2, _⟩ := HGOT.out.2.1 c hm
        exact ⟨f1, by rw [← HDOM.out c f1]; exact f2⟩
      · rintro ⟨f1, f2⟩
        exact HGOT.out.2.2 c f1 (by rw [HDOM.out c f1]; exact f2) (HL0.out _)
    · intro x1 x2 c kl yd yp w3 cn2 hkey hlk hv hat hrg2 hlt hg2 hs2 hen
      obtain ⟨x, hxe, hxf, rfl⟩ := key_inv hkey
      simp only [Value.agg.injEq, Array.mk.injEq, List.cons.injEq, Value.int.injEq, true_and, and_true] at hxe
      obtain ⟨rfl, rfl⟩ := hxe
      have HXF := hid hxf
      have hD : Maps.has D (kap x) = true := Maps.has_true_of_atKey (y := yd) (fun z => hat z)
      have HG' := hid (HGOT.out.step hxf hD hlk)
      have HRG3 := hid hrg2
      have HO3 := hid (own_keep HOO.out hg2 (fun k hk e => by cases e; simp [Value.ownBlock] at hk; exact HGN.out.1 hk))
      have HB3 := hid (HB.out.grown hg2 HB.out.size (fun k e => by cases e; have := HR.out; omega))
      have HCN := hid hlt
      have HZ3 : Hid (r < w3.heap.size) := by show _ < _; rw [hs2]; exact hz
      clear hs2 hg2 hrg2 hlt hat hv hlk hkey hD hxf
      have HO4 := hid ((HO3.out.below ((Below.refl w3.heap.size w3).alloc (Nat.le_refl _) (.cells #[.int .i64 x.1, .int .i64 x.2] 36))).below ((Below.refl _ _).alloc (Nat.le_refl _) (.cells #[.int .i64 x.1, .int .i64 x.2] 36)))
      have HB4 := hid ((HB3.out.alloc HB3.out.size (.cells #[.int .i64 x.1, .int .i64 x.2] 36)).alloc (by have := HB3.out.size; simp; omega) (.cells #[.int .i64 x.1, .int .i64 x.2] 36))
      have hs4 : (w3.alloc (.cells #[.int .i64 x.1, .int .i64 x.2] 36)).heap.size = w3.heap.size + 1 := by simp
      have HSeg := (seg_block (c := x) (heap_alloc_new (w3.alloc (.cells #[.int .i64 x.1, .int .i64 x.2] 36)) (.cells #[.int .i64 x.1, .int .i64 x.2] 36)))
      rw [hs4] at HSeg
      have HSg := hid HSeg
      clear HSeg hs4
      go_wp2_with (at_builtin; refine wpList_app rfl _ _ rfl w.heap.size (.slice (some ⟨g, 0, none⟩) ks.length cap) ks [x] _ 1 rfl HO4.out rfl HSg.out (by intro h; cases h) (by simp; omega) HB4.out.size ?_; intro v' w5 hO5 hG5)
      have HRG5 := hid (((HRG3.out.alloc (.cells #[.int .i64 x.1, .int .i64 x.2] 36)).alloc (.cells #[.int .i64 x.1, .int .i64 x.2] 36)).kept hG5 (fun e => HGN.out.2 (by simp [Value.ownBlock] at e; exact e.symm)) (fun e => HGN.out.1 (by simp [Value.ownBlock] at e; exact e.symm)))
      have HB5 := hid (below_grown HB4.out HO4.out hG5)
      have hz5 := hG5.size
      obtain ⟨g5, cap5, hv5⟩ := own_snoc_form hO5
      have HV5 := hid hv5
      have HO5 := hid hO5
      clear hv5 hO5 hG5
      go_roundw
      case rel => exact ⟨_, cn2, ks ++ [x], g5, cap5, HV5.out, HRG5.out, HG'.out, by rw [List.length_append]; have := HCN.out; simp; omega, HO5.out, by have := HZ3.out; simp at hz5; omega, HB5.out⟩
      case measure => rw [HRG5.out.left_eq, HRG.out.left_eq]; exact HCN.out
end Go.Proofs.Ytgfdkolhldbehaa

namespace Go.Proofs.Ytgfdkolhldbehaa
open Go.RowKit
set_option linter.unusedVariables false

/-- Is x near c, and not c itself? -/
def nearB (c x : Cl) : Bool := decide (x ≠ c) && (decide (-1 ≤ x.1 - c.1) && decide (x.1 - c.1 ≤ 1)) && (decide (-1 ≤ x.2 - c.2) && decide (x.2 - c.2 ≤ 1))
/-- How many of the first k are near c. -/
def nearTo (l : List Cl) (c : Cl) (k : Nat) : Nat := (l.take k).countP (nearB c)
/-- How many are near c. -/
def near (l : List Cl) (c : Cl) : Nat := l.countP (nearB c)
/-- The eight places about c. -/
def about (c : Cl) : List Cl := [(c.1 - 1, c.2 - 1), (c.1, c.2 - 1), (c.1 + 1, c.2 - 1), (c.1 - 1, c.2), (c.1 + 1, c.2), (c.1 - 1, c.2 + 1), (c.1, c.2 + 1), (c.1 + 1, c.2 + 1)]

theorem nearTo_succ {l : List Cl} {c : Cl} {k : Nat} (h : k < l.length) : nearTo l c (k + 1) = nearTo l c k + if nearB c (at_ l k) then 1 else 0 := by
  unfold nearTo
  rw [List.take_succ_eq_append_getElem h, List.countP_append]
  simp [at_, h, List.countP_cons]
theorem nearTo_le (l : List Cl) (c : Cl) (k : Nat) : nearTo l c k ≤ k := by
  have h1 := List.countP_le_length (p := nearB c) (l := l.take k)
  have h2 := List.length_take_le k l
  unfold nearTo; omega
theorem nearTo_all (l : List Cl) (c : Cl) : nearTo l c l.length = near l c := by simp [nearTo, near]
theorem mem_about (c x : Cl) : x ∈ about c ↔ nearB c x = true := by
  obtain ⟨a, b⟩ := c
  obtain ⟨u, v⟩ := x
  simp [about, nearB]
  omega
theorem about_nodup (c : Cl) : (about c).Nodup := by
  obtain ⟨a, b⟩ := c
  simp [about]
  omega
theorem countP_or (A : List Cl) (x : Cl) (q : Cl → Bool) (h : q x = false) : A.countP (fun a => decide (a = x) || q a) = A.countP (fun a => decide (a = x)) + A.countP q := by
  induction A with
  | nil => rfl
  | cons a r ih =>
    rw [List.countP_cons, List.countP_cons, List.countP_cons, ih]
    by_cases e : a = x
    · subst e; simp [h]; omega
    · simp [e]; omega
theorem countP_is (A : List Cl) (x : Cl) (hA : A.Nodup) : A.countP (fun a => decide (a = x)) = if x ∈ A then 1 else 0 := by
  induction A with
  | nil => rfl
  | cons a r ih =>
    rw [List.nodup_cons] at hA
    rw [List.countP_cons, ih hA.2]
    by_cases e : a = x
    · subst e; simp [hA.1]
    · have e' : x ≠ a := fun h => e h.symm
      simp [e, e']
/-- Two lists without anything twice: as many of the one are in the other. -/
theorem countP_swap (l A : List Cl) (hl : l.Nodup) (hA : A.Nodup) : l.countP (fun x => decide (x ∈ A)) = A.countP (fun a => decide (a ∈ l)) := by
  induction l with
  | nil => simp
  | cons x r ih =>
    rw [List.nodup_cons] at hl
    have e : (fun a => decide (a ∈ x :: r)) = (fun a => decide (a = x) || decide (a ∈ r)) := by
      funext a; simp
    rw [List.countP_cons, ih hl.2, e, countP_or A x _ (by simp [hl.1]), countP_is A x hA]
    simp; omega
theorem ris_nodup {l : List Cl} (h : risTo l l.length = true) : l.Nodup := by
  rw [List.nodup_iff_pairwise_ne, List.pairwise_iff_getElem]
  intro i j hi hj hij e
  have := ris_lt h j hij hj
  simp only [at_, List.getD_eq_getElem?_getD, List.getElem?_eq_getElem hi, List.getElem?_eq_getElem hj, Option.getD_some] at this
  rw [e, ltC_irr] at this
  cases this
/-- The two ways of counting come to the same. -/
theorem near_about {l : List Cl} (h : risTo l l.length = true) (c : Cl) : near l c = (about c).countP (fun a => decide (a ∈ l)) := by
  rw [← countP_swap l (about c) (ris_nodup h) (about_nodup c)]
  unfold near
  congr 1
  funext x
  rw [Bool.eq_iff_iff]
  simp [mem_about]


set_option maxHeartbeats 400000 in
theorem c_l1Near (a : Option Addr) (l : List Cl) (ca : Nat) (c : Cl) (w : World) (ha : Seg w a l) (hl : l.length ≤ 1048576) (hin : ∀ i, i < l.length → inR (at_ l i) = true) (hc : -41 ≤ c.1 ∧ c.1 ≤ 41 ∧ -41 ≤ c.2 ∧ c.2 ≤ 41) :
    Calls Try.prog 138 #[.slice a l.length ca, .agg #[.int .i64 c.1, .int .i64 c.2]] w fun e w' => e = .returned (.int .i64 (near l c)) ∧ Below w.heap.size w w' := by
  obtain ⟨c1, c2, c3, c4⟩ := hc
  have HIN := hid hin
  clear hin
  go_enter Try.func138, Try.ntmps138
  go_wp2
  go_loopw [5, 10] (fun n i wr => ∃ k : Nat, k ≤ l.length ∧ i = .int .i64 k ∧ n = .int .i64 (nearTo l c k) ∧ BoxIn w wr c) (fun _ i _ => l.length - (intOf i).toNat)
  case atStart => exact ⟨0, Nat.zero_le _, rfl, rfl, BoxIn.new w c _⟩
  case round =>
    obtain ⟨k, hk, rfl, rfl, hX⟩ := hrel
    have hB := hX.below
    have g3 := hX.1
    have g4 := hX.2.1
    have hsz := hX.2.2.1
    have HX := hid hX
    clear hX
    by_cases hlt : k < l.length
    · obtain ⟨b1, o1, rfl, hb1, p1, p2⟩ := ha k hlt
      have g1 := (hB.cell (p := ⟨b1, o1 + k * 2, none⟩) hb1).trans p1
      have g2 := (hB.cell (p := ⟨b1, o1 + k * 2 + 1, none⟩) hb1).trans p2
      change _ = some (Value.int .i64 (at_ l k).1) at g1
      change _ = some (Value.int .i64 (at_ l k).2) at g2
      clear p1 p2
      have hbx : b1 < wr.heap.size := Nat.lt_of_lt_of_le hb1 hB.size
      have k0 : (0 : Int) ≤ (k : Int) := by omega
      have k1 : (k : Int) < (l.length : Int) := by omega
      have hr := HIN.out k hlt
      simp only [inR, Bool.and_eq_true, decide_eq_true_eq] at hr
      obtain ⟨⟨⟨x1, x2⟩, x3⟩, x4⟩ := hr
      have HS := hid (nearTo_succ (c := c) hlt)
      have hnl := nearTo_le l c k
      generalize at_ l k = x at *
      generalize nearTo l c k = n at *
      have hnb : nearB c x = (decide (x ≠ c) && (decide (-1 ≤ x.1 - c.1) && decide (x.1 - c.1 ≤ 1)) && (decide (-1 ≤ x.2 - c.2) && decide (x.2 - c.2 ≤ 1))) := rfl
      have HNB := hid hnb
      clear hnb
      by_cases h1 : x.1 = c.1
      · by_cases h2 : x.2 = c.2
        · have HN : Hid (nearTo l c (k + 1) = n) := by
            show _ = _
            rw [HS.out, HNB.out, Prod.ext h1 h2]; simp
          go_wp2
          go_roundw
          case rel => exact ⟨k + 1, by omega, by go_num, by rw [HN.out], HX.out.step ((Below.refl _ _).alloc (Nat.le_refl _) _)⟩
          case measure => simp [intOf]; omega
        · by_cases h3 : -1 ≤ x.2 - c.2 ∧ x.2 - c.2 ≤ 1
          · have hb : (decide (-1 ≤ x.2 - c.2) && decide (x.2 - c.2 ≤ 1)) = true := by simp; omega
            have hn : x ≠ c := fun e => h2 (by rw [e])
            have HN : Hid (nearTo l c (k + 1) = n + 1) := by
              show _ = _
              rw [HS.out, HNB.out, hb]; simp [hn, h1]
            clear hn
            go_wp2_with (go_at_call 102; refine (c_l1In _ _ _ _).mono ?_; rintro e w' ⟨rfl, rfl⟩)
            go_roundw
            case rel => exact ⟨k + 1, by omega, by go_num, by rw [HN.out]; go_num, HX.out.step ((Below.refl _ _).alloc (Nat.le_refl _) _)⟩
            case measure => simp [intOf]; omega
          · have hb : (decide (-1 ≤ x.2 - c.2) && decide (x.2 - c.2 ≤ 1)) = false := by simp; omega
            have HN : Hid (nearTo l c (k + 1) = n) := by
              show _ = _
              rw [HS.out, HNB.out, hb]; simp
            go_wp2_with (go_at_call 102; refine (c_l1In _ _ _ _).mono ?_; rintro e w' ⟨rfl, rfl⟩)
            go_roundw
            case rel => exact ⟨k + 1, by omega, by go_num, by rw [HN.out], HX.out.step ((Below.refl _ _).alloc (Nat.le_refl _) _)⟩
            case measure => simp [intOf]; omega
      · have hn : x ≠ c := fun e => h1 (by rw [e])
        by_cases h4 : -1 ≤ x.1 - c.1 ∧ x.1 - c.1 ≤ 1
        · have hb4 : (decide (-1 ≤ x.1 - c.1) && decide (x.1 - c.1 ≤ 1)) = true := by simp; omega
          by_cases h3 : -1 ≤ x.2 - c.2 ∧ x.2 - c.2 ≤ 1
          · have hb : (decide (-1 ≤ x.2 - c.2) && decide (x.2 - c.2 ≤ 1)) = true := by simp; omega
            have HN : Hid (nearTo l c (k + 1) = n + 1) := by
              show _ = _
              rw [HS.out, HNB.out, hb, hb4]; simp [hn]
            clear hn
            go_wp2_with (go_at_call 102; refine (c_l1In _ _ _ _).mono ?_; rintro e w' ⟨rfl, rfl⟩)
            go_roundw
            case rel => exact ⟨k + 1, by omega, by go_num, by rw [HN.out]; go_num, HX.out.step ((Below.refl _ _).alloc (Nat.le_refl _) _)⟩
            case measure => simp [intOf]; omega
          · have hb : (decide (-1 ≤ x.2 - c.2) && decide (x.2 - c.2 ≤ 1)) = false := by simp; omega
            have HN : Hid (nearTo l c (k + 1) = n) := by
              show _ = _
              rw [HS.out, HNB.out, hb]; simp
            clear hn
            go_wp2_with (go_at_call 102; refine (c_l1In _ _ _ _).mono ?_; rintro e w' ⟨rfl, rfl⟩)
            go_roundw
            case rel => exact ⟨k + 1, by omega, by go_num, by rw [HN.out], HX.out.step ((Below.refl _ _).alloc (Nat.le_refl _) _)⟩
            case measure => simp [intOf]; omega
        · have hb4 : (decide (-1 ≤ x.1 - c.1) && decide (x.1 - c.1 ≤ 1)) = false := by simp; omega
          have HN : Hid (nearTo l c (k + 1) = n) := by
            show _ = _
            rw [HS.out, HNB.out, hb4]; simp
          clear hn
          go_wp2_with (go_at_call 102; refine (c_l1In _ _ _ _).mono ?_; rintro e w' ⟨rfl, rfl⟩)
          go_roundw
          case rel => exact ⟨k + 1, by omega, by go_num, by rw [HN.out], HX.out.step ((Below.refl _ _).alloc (Nat.le_refl _) _)⟩
          case measure => simp [intOf]; omega
    · go_wp2
      go_ret
      have : k = l.length := by omega
      subst this
      exact ⟨ret_int (by rw [nearTo_all]), hB⟩

/-- The eight places, as a value. -/
def aboutV (c : Cl) : Value := .agg #[.int .i64 (c.1 - 1), .int .i64 (c.2 - 1), .int .i64 c.1, .int .i64 (c.2 - 1), .int .i64 (c.1 + 1), .int .i64 (c.2 - 1), .int .i64 (c.1 - 1), .int .i64 c.2, .int .i64 (c.1 + 1), .int .i64 c.2, .int .i64 (c.1 - 1), .int .i64 (c.2 + 1), .int .i64 c.1, .int .i64 (c.2 + 1), .int .i64 (c.1 + 1), .int .i64 (c.2 + 1)]

set_option maxHeartbeats 1000000 in
theorem c_around (c : Cl) (w : World) (hc : -41 ≤ c.1 ∧ c.1 ≤ 41 ∧ -41 ≤ c.2 ∧ c.2 ≤ 41) :
    Calls Try.prog 143 #[.agg #[.int .i64 c.1, .int .i64 c.2]] w fun e w' => e = .returned (aboutV c) ∧ Below w.heap.size w w' := by
  obtain ⟨c1, c2, c3, c4⟩ := hc
  go_enter Try.func143, Try.ntmps143
  go_wp2
  exact bodyPost_ret (v := aboutV c) (by simp [results, Try.results143, go_sem, aboutV]) rfl ⟨rfl, ((Below.refl _ _).alloc (Nat.le_refl _) _).alloc (by simp) _⟩

theorem about_index (c : Cl) (k : Nat) (hk : k < 8) (w : World) : (Instr.index 139 (aboutV c) (.int .i64 (k : Int))).run Try.prog w = .ok (.agg #[.int .i64 (at_ (about c) k).1, .int .i64 (at_ (about c) k).2]) w := by
  rcases (show k = 0 ∨ k = 1 ∨ k = 2 ∨ k = 3 ∨ k = 4 ∨ k = 5 ∨ k = 6 ∨ k = 7 by omega) with h | h | h | h | h | h | h | h
  all_goals
    subst h
    kernel_rfl

/-- How many of the first k of some places are among cells. -/
def hitsTo (m l : List Cl) (k : Nat) : Nat := (m.take k).countP (fun a => decide (a ∈ l))
theorem hitsTo_succ {m l : List Cl} {k : Nat} (h : k < m.length) : hitsTo m l (k + 1) = hitsTo m l k + if decide (at_ m k ∈ l) then 1 else 0 := by
  unfold hitsTo
  rw [List.take_succ_eq_append_getElem h, List.countP_append]
  simp [at_, h, List.countP_cons]
theorem hitsTo_le (m l : List Cl) (k : Nat) : hitsTo m l k ≤ k := by
  have h1 := List.countP_le_length (p := fun a => decide (a ∈ l)) (l := m.take k)
  have h2 := List.length_take_le k m
  unfold hitsTo; omega

theorem c_hasCell' (a : Option Addr) (l : List Cl) (ca : Nat) (c : Cl) (v : Bool) (h : decide (c ∈ l) = v) (w : World) (ha : Seg w a l) (hl : l.length ≤ 1048576) (hr : risTo l l.length = true) :
    Calls Try.prog 144 #[.slice a l.length ca, .agg #[.int .i64 c.1, .int .i64 c.2]] w fun e w' => e = .returned (.bool v) ∧ Below w.heap.size w w' := by
  rw [← h]; exact c_hasCell a l ca c w ha hl hr

/-- What NearOf answers. -/
def nearV (l : List Cl) (c : Cl) : Int × Bool := if good l && inR c then ((near l c : Int), true) else (0, false)

end Go.Proofs.Ytgfdkolhldbehaa

namespace Go.Proofs.Ytgfdkolhldbehaa
open Go.RowKit Go.Maps
set_option linter.unusedVariables false
theorem about_fits {x y : Cl} (hx : -41 ≤ x.1 ∧ x.1 ≤ 41 ∧ -41 ≤ x.2 ∧ x.2 ≤ 41) {j : Nat} (hj : j < 8) (h : at_ (about x) j = y) : fits y := by
  rcases (show j = 0 ∨ j = 1 ∨ j = 2 ∨ j = 3 ∨ j = 4 ∨ j = 5 ∨ j = 6 ∨ j = 7 by omega) with e | e | e | e | e | e | e | e
  all_goals
    subst e
    simp [at_, about] at h
    subst h
    unfold fits
    simp only
    omega
set_option maxHeartbeats 1000000 in
theorem c_nearCounts (a : Option Addr) (l : List Cl) (ca : Nat) (w : World) (ha : Seg w a l) (hl : l.length ≤ 1048576) (hin : ∀ i, i < l.length → inR (at_ l i) = true) :
    Calls Try.prog 127 #[.slice a l.length ca] w fun e w' => e = .returned (.map (some w.heap.size)) ∧ CntIs w' w.heap.size (l.flatMap about) ∧ Below w.heap.size w w' := by
  have hmm := @run_makeMap Try.prog
  have HIN := hid hin
  clear hin
  go_enter Try.func127, Try.ntmps127
  go_wp2
  go_loopw [11] (fun i wr => ∃ k : Nat, k ≤ l.length ∧ i = .int .i64 k ∧ CntIs wr w.heap.size ((l.take k).flatMap about) ∧ Below w.heap.size w wr) (fun i _ => l.length - (intOf i).toNat)
  case atStart => exact ⟨0, Nat.zero_le _, rfl, CntIs.made w, (Below.refl _ _).alloc (Nat.le_refl _) _⟩
  case round =>
    clear hmm
    obtain ⟨k, hk, rfl, hC, hbel⟩ := hrel
    have HC := hid hC
    have HB := hid hbel
    by_cases hlt : k < l.length
    · obtain ⟨b1, o1, rfl, hb1, p1, p2⟩ := ha k hlt
      have g1 := (hbel.cell (p := ⟨b1, o1 + k * 2, none⟩) hb1).trans p1
      have g2 := (hbel.cell (p := ⟨b1, o1 + k * 2 + 1, none⟩) hb1).trans p2
      change _ = some (Value.int .i64 (at_ l k).1) at g1
      change _ = some (Value.int .i64 (at_ l k).2) at g2
      have hbx := inR_bd (HIN.out k hlt)
      have HBX := hid hbx
      have HT := hid (take_snoc' hlt)
      have HLN : Hid (((l.take k).flatMap about).length = k * 8) := by
        have : ∀ m : List Cl, (m.flatMap about).length = m.length * 8 := by
          intro m
          induction m with
          | nil => rfl
          | cons c r ih => rw [List.flatMap_cons, List.length_append, ih]; simp [about]; omega
        show _ = _
        rw [this, List.length_take]; congr 1; omega
      generalize at_ l k = x at *
      clear p1 p2 hbel hC hbx
      have HB1 := hid (HB.out.alloc HB.out.size (.cells #[.int .i64 x.1, .int .i64 x.2] 36))
      have HC1 := hid (HC.out.below ((Below.refl wr.heap.size wr).alloc (Nat.le_refl _) (.cells #[.int .i64 x.1, .int .i64 x.2] 36)))
      go_wp2_with fail
      refine (c_around x _ HBX.out).mono ?_
      rintro e w3 ⟨rfl, hb3⟩
      have HB3 := hid (HB1.out.trans (hb3.mono HB1.out.size))
      have HC3 := hid (HC1.out.below hb3)
      clear hb3 HB1 HC1 g1 g2
      go_wp2_with fail
      go_loopw [17] (fun i wr => ∃ j : Nat, j ≤ 8 ∧ i = .int .i64 j ∧ CntIs wr w.heap.size ((l.take k).flatMap about ++ (about x).take j) ∧ Below w.heap.size w wr) (fun i _ => 8 - (intOf i).toNat)
      case atStart => exact ⟨0, Nat.zero_le _, rfl, by simpa using HC3.out, HB3.out⟩
      case round =>
        clear HC3 HB3 HC HB
        obtain ⟨j, hj, rfl, hC, hbel⟩ := hrel
        have HB := hid hbel
        have HC := hid hC
        clear hC hbel
        by_cases hjt : j < 8
        · have hidx := about_index x j hjt
          have HF := hid (about_fits HBX.out hjt rfl)
          have HS := hid (take_snoc' (m := about x) (j := j) (by simpa [about] using hjt))
          have HL : Hid (((l.take k).flatMap about ++ (about x).take j).length ≤ 67108864) := by
            show _ ≤ _
            rw [List.length_append, HLN.out, List.length_take]; simp [about]; omega
          generalize at_ (about x) j = y at *
          generalize hLL : (l.take k).flatMap about ++ (about x).take j = L at *
          have HLL := hid hLL
          clear hLL
          have j0 : (0 : Int) ≤ (j : Int) := by omega
          have j1 : (j : Int) < 8 := by omega
          have hbd : Below wr.heap.size wr (wr.alloc (.cells #[.int .i64 y.1, .int .i64 y.2] 36)).drew := ((Below.refl wr.heap.size wr).alloc (Nat.le_refl _) _).drew
          have HB1 := hid (HB.out.trans (hbd.mono HB.out.size))
          obtain ⟨v0, st, W1, W2, e1, e2, e3, e4, hC2, hg2, hz2⟩ := (HC.out.below hbd).step HF.out HL.out
          have q0 := cell_new0 wr (.int .i64 y.1) (.int .i64 y.2) 36
          have q1 := cell_new1 wr (.int .i64 y.1) (.int .i64 y.2) 36
          have hc1 := (cnt_le L y).1
          have hc2 : cnt L y ≤ 67108864 := by have := (cnt_le L y).2; have := HL.out; omega
          have HC2 := hid hC2
          have HG2 := hid hg2
          clear hC2 hg2 hz2 hbd
          go_wp2
          go_region
          all_goals (try go_wp2)
          go_roundw
          case rel => exact ⟨j + 1, by omega, by go_num, by rw [HS.out, ← List.append_assoc, HLL.out]; exact HC2.out, HB1.out.grown HG2.out HB1.out.size (fun k e => by cases e; exact Nat.le_refl _)⟩
          case measure => simp [intOf]; omega
        · obtain rfl : j = 8 := by omega
          go_wp2
          go_roundw
          case rel => exact ⟨k + 1, by omega, by go_num, by rw [HT.out, List.flatMap_append, List.flatMap_singleton]; exact HC.out, HB.out⟩
          case measure => simp [intOf]; omega
    · go_wp2
      go_ret
      have : k = l.length := by omega
      subst this
      exact ⟨rfl, by simpa using HC.out, HB.out⟩
end Go.Proofs.Ytgfdkolhldbehaa

namespace Go.Proofs.Ytgfdkolhldbehaa
open Go.RowKit
set_option linter.unusedVariables false

/-- Cells moved. -/
def mv (l : List Cl) (x y : Int) : List Cl := l.map fun c => (c.1 + x, c.2 + y)
theorem mv_length (l : List Cl) (x y : Int) : (mv l x y).length = l.length := by simp [mv]
theorem mv_take_succ {l : List Cl} {x y : Int} {k : Nat} (h : k < l.length) : mv (l.take (k + 1)) x y = mv (l.take k) x y ++ [((at_ l k).1 + x, (at_ l k).2 + y)] := by
  rw [List.take_succ_eq_append_getElem h]
  unfold mv
  rw [List.map_append]
  simp [at_, h]
theorem mv_at {l : List Cl} {x y : Int} {k : Nat} (h : k < l.length) : at_ (mv l x y) k = ((at_ l k).1 + x, (at_ l k).2 + y) := by simp [at_, mv, h]

set_option maxHeartbeats 400000 in
theorem c_l1Move (a : Option Addr) (l : List Cl) (ca : Nat) (x y : Int) (w : World) (ha : Seg w a l) (hl : l.length ≤ 1048576) (hin : ∀ i, i < l.length → inR (at_ l i) = true) (hx : -100 ≤ x ∧ x ≤ 100) (hy : -100 ≤ y ∧ y ≤ 100) :
    Calls Try.prog 115 #[.slice a l.length ca, .int .i64 x, .int .i64 y] w fun e w' => ∃ v, e = .returned v ∧ OwnS w' w.heap.size v (mv l x y) ∧ Below w.heap.size w w' := by
  obtain ⟨x1, x2⟩ := hx
  obtain ⟨y1, y2⟩ := hy
  have HIN := hid hin
  clear hin
  go_enter Try.func115, Try.ntmps115
  go_wp2
  go_loopw [7, 12] (fun v i wr => ∃ k : Nat, k ≤ l.length ∧ i = .int .i64 k ∧ OwnS wr w.heap.size v (mv (l.take k) x y) ∧ Below w.heap.size w wr) (fun _ i _ => l.length - (intOf i).toNat)
  case atStart => exact ⟨0, Nat.zero_le _, rfl, OwnS.nil _ _, Below.refl _ _⟩
  case round =>
    obtain ⟨k, hk, rfl, hO, hB⟩ := hrel
    have HO := hid hO
    have HB := hid hB
    by_cases hlt : k < l.length
    · obtain ⟨b1, o1, rfl, hb1, p1, p2⟩ := ha k hlt
      have g1 := (hB.cell (p := ⟨b1, o1 + k * 2, none⟩) hb1).trans p1
      have g2 := (hB.cell (p := ⟨b1, o1 + k * 2 + 1, none⟩) hb1).trans p2
      change _ = some (Value.int .i64 (at_ l k).1) at g1
      change _ = some (Value.int .i64 (at_ l k).2) at g2
      clear p1 p2 hO hB
      have k0 : (0 : Int) ≤ (k : Int) := by omega
      have k1 : (k : Int) < (l.length : Int) := by omega
      have hr := HIN.out k hlt
      simp only [inR, Bool.and_eq_true, decide_eq_true_eq] at hr
      obtain ⟨⟨⟨r1, r2⟩, r3⟩, r4⟩ := hr
      have HS := hid (mv_take_succ (x := x) (y := y) hlt)
      have hll : (mv (l.take k) x y).length ≤ 1048576 := by rw [mv_length, List.length_take]; omega
      generalize at_ l k = c at *
      generalize mv (l.take k) x y = lm at *
      have HO1 := hid ((HO.out.below ((Below.refl wr.heap.size wr).alloc (Nat.le_refl _) (.cells #[.int .i64 c.1, .int .i64 c.2] 36))).below ((Below.refl _ _).alloc (Nat.le_refl _) (.cells #[.int .i64 (c.1 + x), .int .i64 (c.2 + y)] 36)))
      have HB1 := hid ((HB.out.alloc HB.out.size (.cells #[.int .i64 c.1, .int .i64 c.2] 36)).alloc (by have := HB.out.size; simp; omega) (.cells #[.int .i64 (c.1 + x), .int .i64 (c.2 + y)] 36))
      have hs2 : (wr.alloc (.cells #[.int .i64 c.1, .int .i64 c.2] 36)).heap.size = wr.heap.size + 1 := by simp
      have HSeg := (seg_block (c := (c.1 + x, c.2 + y)) (heap_alloc_new (wr.alloc (.cells #[.int .i64 c.1, .int .i64 c.2] 36)) (.cells #[.int .i64 (c.1 + x), .int .i64 (c.2 + y)] 36)))
      rw [hs2] at HSeg
      have HSg := hid HSeg
      clear HSeg hs2
      go_wp2_with (at_builtin; refine wpList_app rfl _ _ rfl w.heap.size _ lm [(c.1 + x, c.2 + y)] _ 1 rfl HO1.out rfl HSg.out (by intro h; cases h) (by simp; omega) HB1.out.size ?_; intro v' w2 hO2 hG2)
      go_roundw
      case rel => exact ⟨k + 1, by omega, by go_num, by rw [HS.out]; exact hO2, below_grown HB1.out HO1.out hG2⟩
      case measure => simp [intOf]; omega
    · go_wp2
      go_ret
      have : k = l.length := by omega
      subst this
      exact ⟨_, rfl, by simpa using hO, hB⟩


set_option maxHeartbeats 400000 in
theorem c_moveFreely (a : Option Addr) (l : List Cl) (ca : Nat) (x y : Int) (w : World) (ha : Seg w a l) (hl : l.length ≤ 1048576) (hin : ∀ i, i < l.length → inR (at_ l i) = true) (hx : -100 ≤ x ∧ x ≤ 100) (hy : -100 ≤ y ∧ y ≤ 100) :
    Calls Try.prog 69 #[.slice a l.length ca, .int .i64 x, .int .i64 y] w fun e w' => e = .returned (.slice (some ⟨w.heap.size, 0, none⟩) l.length l.length) ∧ Row w' w.heap.size (mv l x y) ∧ Below w.heap.size w w' := by
  obtain ⟨x1, x2⟩ := hx
  obtain ⟨y1, y2⟩ := hy
  have HIN := hid hin
  clear hin
  have hmk := make_Cells l.length hl
  have hml := mv_length l x y
  have R0 := made_row w (mv l x y)
  rw [hml] at R0
  have HR0 := hid R0
  have HML := hid hml
  clear R0 hml
  go_enter Try.func69, Try.ntmps69
  go_wp2
  go_loopw [15] (fun i wr => ∃ k : Nat, k ≤ l.length ∧ i = .int .i64 k ∧ wr.rowIs w.heap.size 36 (l.length * 2) (cellTo (mv l x y) k) ∧ Below w.heap.size w wr) (fun i _ => l.length - (intOf i).toNat)
  case atStart => exact ⟨0, Nat.zero_le _, rfl, HR0.out, (Below.refl _ _).alloc (Nat.le_refl _) _⟩
  case round =>
    clear HR0 hmk
    obtain ⟨k, hk, rfl, hR, hbel⟩ := hrel
    by_cases hlt : k < l.length
    · obtain ⟨b1, o1, rfl, hb1, p1, p2⟩ := ha k hlt
      have g1 := (hbel.cell (p := ⟨b1, o1 + k * 2, none⟩) hb1).trans p1
      have g2 := (hbel.cell (p := ⟨b1, o1 + k * 2 + 1, none⟩) hb1).trans p2
      change _ = some (Value.int .i64 (at_ l k).1) at g1
      change _ = some (Value.int .i64 (at_ l k).2) at g2
      clear p1 p2
      have k0 : (0 : Int) ≤ (k : Int) := by omega
      have k1 : (k : Int) < (l.length : Int) := by omega
      have hr := HIN.out k hlt
      simp only [inR, Bool.and_eq_true, decide_eq_true_eq] at hr
      obtain ⟨⟨⟨r1, r2⟩, r3⟩, r4⟩ := hr
      have hat := mv_at (x := x) (y := y) hlt
      have c1 := hR.cell (i := k * 2) (by omega)
      have c2 := hR.cell (i := k * 2 + 1) (by omega)
      have f1 := hR.frozen (k * 2)
      have f2 := hR.frozen (k * 2 + 1)
      have hlm : k < (mv l x y).length := by rw [HML.out]; exact hlt
      have RS := row_step (l := mv l x y) (g := w.heap.size) (k := k) (w := wr) (by rw [HML.out]; exact hR) hlm
      rw [hat, HML.out] at RS
      have HRS := hid (RS.alloc (.cells #[.int .i64 (at_ l k).1, .int .i64 (at_ l k).2] 36))
      have HBL := hid (((hbel.setCell (p := ⟨w.heap.size, k * 2, none⟩) (Nat.le_refl _) (.int .i64 ((at_ l k).1 + x))).setCell (p := ⟨w.heap.size, k * 2 + 1, none⟩) (Nat.le_refl _) (.int .i64 ((at_ l k).2 + y))).alloc (by have := hbel.size; simpa using this) (.cells #[.int .i64 (at_ l k).1, .int .i64 (at_ l k).2] 36))
      have hgw := hR.lt
      clear RS hR hat hlm hbel
      generalize at_ l k = c at *
      go_wp2
      go_roundw
      case rel => exact ⟨k + 1, by omega, by go_num, HRS.out, HBL.out⟩
      case measure => simp [intOf]; omega
    · go_wp2
      go_ret
      have : k = l.length := by omega
      subst this
      refine ⟨rfl, ?_, hbel⟩
      have e := HML.out
      rw [← e] at hR
      exact row_done hR

/-- May cells be moved so far? -/
def inM (n : Int) : Bool := decide (-100 ≤ n) && decide (n ≤ 100)

set_option maxHeartbeats 400000 in
theorem c_isMove (n : Int) (w : World) : Calls Try.prog 67 #[.int .i64 n] w fun e w' => e = .returned (.bool (inM n)) ∧ w' = w := by
  by_cases h1 : -100 ≤ n <;> by_cases h2 : n ≤ 100
  all_goals
    go_enter Try.func67, Try.ntmps67
    go_wp2
    go_ret
    exact ⟨ret_bool (by simp [inM, h1, h2] <;> omega), rfl⟩
theorem c_isMove' (n : Int) (v : Bool) (h : inM n = v) (w : World) : Calls Try.prog 67 #[.int .i64 n] w fun e w' => e = .returned (.bool v) ∧ w' = w := by
  rw [← h]; exact c_isMove n w
theorem c_l1In100 (n : Int) (v : Bool) (h : inM n = v) (w : World) : Calls Try.prog 102 #[.int .i64 n, .int .i64 (-100), .int .i64 100] w fun e w' => e = .returned (.bool v) ∧ w' = w := by
  rw [← h]; exact c_l1In n (-100) 100 w

set_option maxHeartbeats 400000 in
theorem c_onlyGood (a : Option Addr) (l : List Cl) (ca base : Nat) (w : World) (ho : OwnS w base (.slice a l.length ca) l) (ha : Seg w a l) (hl : l.length ≤ 1048576) :
    Calls Try.prog 68 #[.slice a l.length ca] w fun e w' => ∃ v, e = .returned (.tuple #[v, .bool (good l)]) ∧ OwnS w' base v (tellV l) ∧ Below w.heap.size w w' := by
  cases hg : good l
  · have HC := hid (c_iGood' a l ca false hg _ ha hl)
    have HV : Hid (tellV l = []) := by simp [Hid, tellV, hg]
    clear ha ho
    go_enter Try.func68, Try.ntmps68
    go_wp2_with fail
    refine HC.out.mono ?_
    rintro e w1 ⟨rfl, hb1⟩
    go_wp2
    go_ret2
    exact ⟨_, rfl, by rw [HV.out]; exact OwnS.nil _ _, hb1⟩
  · have HC := hid (c_iGood' a l ca true hg _ ha hl)
    have HV : Hid (tellV l = l) := by simp [Hid, tellV, hg]
    have HO := hid ho
    clear ha ho
    go_enter Try.func68, Try.ntmps68
    go_wp2_with fail
    refine HC.out.mono ?_
    rintro e w1 ⟨rfl, hb1⟩
    go_wp2
    go_ret2
    exact ⟨_, rfl, by rw [HV.out]; exact HO.out.below hb1, hb1⟩

/-- What MoveCells answers. -/
def moveOk (l : List Cl) (x y : Int) : Bool := good l && inM x && inM y && good (mv l x y)
def moveL (l : List Cl) (x y : Int) : List Cl := if good l && inM x && inM y then tellV (mv l x y) else []
theorem inM_bd {n : Int} (h : inM n = true) : -100 ≤ n ∧ n ≤ 100 := by simp [inM] at h; exact h
theorem tellV_le (l : List Cl) : (tellV l).length ≤ 120 := by
  unfold tellV; split
  · rename_i h; exact good_le h
  · simp
theorem moveL_le (l : List Cl) (x y : Int) : (moveL l x y).length ≤ 120 := by
  unfold moveL; split
  · exact tellV_le _
  · simp

set_option maxHeartbeats 1000000 in
theorem c_iMoveCells (a : Option Addr) (l : List Cl) (ca : Nat) (x y : Int) (w : World) (ha : Seg w a l) (hl : l.length ≤ 1048576) :
    Calls Try.prog 17 #[.slice a l.length ca, .int .i64 x, .int .i64 y] w fun e w' => ∃ v, e = .returned (.tuple #[v, .bool (moveOk l x y)]) ∧ OwnS w' w.heap.size v (moveL l x y) ∧ Below w.heap.size w w' := by
  cases hg : good l
  · have HC := hid (c_iGood' a l ca false hg _ ha hl)
    have HV : Hid (moveL l x y = [] ∧ moveOk l x y = false) := by simp [Hid, moveL, moveOk, hg]
    clear ha
    go_enter Try.func17, Try.ntmps17
    go_wp2_with fail
    refine HC.out.mono ?_
    rintro e w1 ⟨rfl, hb1⟩
    go_wp2
    go_ret2
    exact ⟨_, by rw [HV.out.2]; rfl, by rw [HV.out.1]; exact OwnS.nil _ _, hb1⟩
  · have HC := hid (c_iGood' a l ca true hg _ ha hl)
    cases hx : inM x
    · have HV : Hid (moveL l x y = [] ∧ moveOk l x y = false) := by simp [Hid, moveL, moveOk, hg, hx]
      have HI := hid (c_isMove' x false hx)
      clear ha
      go_enter Try.func17, Try.ntmps17
      go_wp2_with fail
      refine HC.out.mono ?_
      rintro e w1 ⟨rfl, hb1⟩
      go_wp2_with fail
      refine (HI.out _).mono ?_
      rintro e w2 ⟨rfl, rfl⟩
      go_wp2
      go_ret2
      exact ⟨_, by rw [HV.out.2]; rfl, by rw [HV.out.1]; exact OwnS.nil _ _, hb1⟩
    · have HI := hid (c_isMove' x true hx)
      cases hy : inM y
      · have HV : Hid (moveL l x y = [] ∧ moveOk l x y = false) := by simp [Hid, moveL, moveOk, hg, hx, hy]
        have HJ := hid (c_isMove' y false hy)
        clear ha
        go_enter Try.func17, Try.ntmps17
        go_wp2_with fail
        refine HC.out.mono ?_
        rintro e w1 ⟨rfl, hb1⟩
        go_wp2_with fail
        refine (HI.out _).mono ?_
        rintro e w2 ⟨rfl, rfl⟩
        go_wp2_with fail
        refine (HJ.out _).mono ?_
        rintro e w3 ⟨rfl, rfl⟩
        go_wp2
        go_ret2
        exact ⟨_, by rw [HV.out.2]; rfl, by rw [HV.out.1]; exact OwnS.nil _ _, hb1⟩
      · have HV : Hid (moveL l x y = tellV (mv l x y) ∧ moveOk l x y = good (mv l x y)) := by simp [Hid, moveL, moveOk, hg, hx, hy]
        have HJ := hid (c_isMove' y true hy)
        go_enter Try.func17, Try.ntmps17
        go_wp2_with fail
        refine HC.out.mono ?_
        rintro e w1 ⟨rfl, hb1⟩
        have HB1 := hid hb1
        clear hb1
        go_wp2_with fail
        refine (HI.out _).mono ?_
        rintro e w2 ⟨rfl, rfl⟩
        go_wp2_with fail
        refine (HJ.out _).mono ?_
        rintro e w3 ⟨rfl, rfl⟩
        go_wp2_with fail
        refine (c_moveFreely a l ca x y _ (ha.below HB1.out) hl (good_in hg) (inM_bd hx) (inM_bd hy)).mono ?_
        rintro e w4 ⟨rfl, hR, hB⟩
        have hml := mv_length l x y
        have HO := hR.own (by rw [hml]; exact hl)
        have HSv := hid hR.seg
        have HB2 := hid (HB1.out.trans (hB.mono HB1.out.size))
        have HT := hid (c_onlyGood _ (mv l x y) _ _ w4 HO HSv.out (by rw [hml]; exact hl))
        rw [hml] at HT
        clear hR hB HO hml
        go_wp2_with fail
        refine HT.out.mono ?_
        rintro e w5 ⟨v, rfl, hO5, hB5⟩
        go_wp2
        go_ret2
        exact ⟨_, by rw [HV.out.2]; rfl, by rw [HV.out.1]; exact hO5.mono HB1.out.size, HB2.out.trans (hB5.mono HB2.out.size)⟩

end Go.Proofs.Ytgfdkolhldbehaa

namespace Go.Proofs.Ytgfdkolhldbehaa
open Go.RowKit
set_option linter.unusedVariables false

/-- The slice v holds the cells l. -/
def SL (w : World) (v : Value) (l : List Cl) : Prop :=
  (v = .slice none 0 0 ∧ l = []) ∨ ∃ g o ca, v = .slice (some ⟨g, o, none⟩) l.length ca ∧ l.length ≤ ca ∧ ca ≤ maxLen ∧ Seg w (some ⟨g, o, none⟩) l
theorem SL.below {w w' : World} {v : Value} {l : List Cl} (h : SL w v l) (hb : Below w.heap.size w w') : SL w' v l := by
  rcases h with h | ⟨g, o, ca, h1, h2, h3, h4⟩
  · exact .inl h
  · exact .inr ⟨g, o, ca, h1, h2, h3, h4.below hb⟩
theorem OwnS.sl {w : World} {base : Nat} {v : Value} {l : List Cl} (h : OwnS w base v l) : SL w v l := by
  have h0 := h
  rcases h.2 with ⟨e, hn⟩ | ⟨g, cap, cur, e, _, _, hc, hm, _⟩
  · exact .inl ⟨e, List.eq_nil_of_length_eq_zero hn⟩
  · subst e
    exact .inr ⟨g, 0, cap, rfl, hc, hm, h0.seg⟩
theorem Seg.take {w : World} {a : Option Addr} {l : List Cl} (h : Seg w a l) (k : Nat) : Seg w a (l.take k) := by
  intro i hi
  rw [List.length_take] at hi
  obtain ⟨b, o, e, hb, h1, h2⟩ := h i (by omega)
  refine ⟨b, o, e, hb, ?_, ?_⟩
  · rw [h1, List.getD_eq_getElem?_getD, List.getD_eq_getElem?_getD, List.getElem?_take_of_lt (by omega)]
  · rw [h2, List.getD_eq_getElem?_getD, List.getD_eq_getElem?_getD, List.getElem?_take_of_lt (by omega)]
theorem Seg.drop {w : World} {g o : Nat} {l : List Cl} (h : Seg w (some ⟨g, o, none⟩) l) (k : Nat) : Seg w (some ⟨g, o + k * 2, none⟩) (l.drop k) := by
  intro i hi
  rw [List.length_drop] at hi
  obtain ⟨b, o', e, hb, h1, h2⟩ := h (k + i) (by omega)
  simp only [Option.some.injEq, Addr.mk.injEq, and_true] at e
  obtain ⟨rfl, rfl⟩ := e
  refine ⟨g, o + k * 2, rfl, hb, ?_, ?_⟩
  · rw [show o + k * 2 + i * 2 = o + (k + i) * 2 by omega, h1, List.getD_eq_getElem?_getD, List.getD_eq_getElem?_getD, List.getElem?_drop]
  · rw [show o + k * 2 + i * 2 + 1 = o + (k + i) * 2 + 1 by omega, h2, List.getD_eq_getElem?_getD, List.getD_eq_getElem?_getD, List.getElem?_drop]

/-- l' is l with c, each once, in order. -/
def With (l : List Cl) (c : Cl) (l' : List Cl) : Prop := risTo l' l'.length = true ∧ (∀ d, d ∈ l' ↔ d = c ∨ d ∈ l) ∧ l'.length ≤ l.length + 1

theorem ris_of {l : List Cl} (h : ∀ i, i + 1 < l.length → ltC (at_ l i) (at_ l (i + 1)) = true) : risTo l l.length = true := by
  simp only [risTo, List.all_eq_true, List.mem_range]
  intro i hi
  by_cases h0 : i = 0
  · simp [h0]
  · have := h (i - 1) (by omega)
    rw [show i - 1 + 1 = i by omega] at this
    simp [this]
theorem ltC_irr2 {a b : Cl} (h : ltC a b = true) : ltC b a = false := by
  obtain ⟨x, y⟩ := a
  obtain ⟨u, v⟩ := b
  simp [ltC] at h ⊢
  omega
theorem ltC_total {a b : Cl} (h1 : ltC a b = false) (h2 : a ≠ b) : ltC b a = true := by
  obtain ⟨x, y⟩ := a
  obtain ⟨u, v⟩ := b
  simp [ltC] at h1 h2 ⊢
  omega
theorem with_same {l : List Cl} {c : Cl} (hr : risTo l l.length = true) (hm : c ∈ l) : With l c l :=
  ⟨hr, fun d => ⟨fun h => .inr h, fun h => h.elim (fun e => by rw [e]; exact hm) id⟩, by omega⟩
theorem with_new {l : List Cl} {c : Cl} {k : Nat} (hr : risTo l l.length = true) (hk : k ≤ l.length) (h1 : ∀ i, i < k → ltC (at_ l i) c = true) (h2 : k < l.length → ltC (at_ l k) c = false ∧ at_ l k ≠ c) : With l c (l.take k ++ [c] ++ l.drop k) := by
  refine ⟨?_, ?_, ?_⟩
  · have hlen : (l.take k ++ [c] ++ l.drop k).length = l.length + 1 := by simp; omega
    have hat : ∀ i, i < l.length + 1 → at_ (l.take k ++ [c] ++ l.drop k) i = if i < k then at_ l i else if i = k then c else at_ l (i - 1) := by
      intro i hi
      unfold at_
      simp only [List.getD_eq_getElem?_getD]
      by_cases a : i < k
      · rw [if_pos a, List.append_assoc, List.getElem?_append_left (by simp; omega), List.getElem?_take_of_lt a]
      · rw [if_neg a]
        by_cases b : i = k
        · subst b
          rw [if_pos rfl, List.append_assoc, List.getElem?_append_right (by simp; omega)]
          simp [List.length_take, Nat.min_eq_left hk]
        · rw [if_neg b, List.getElem?_append_right (by simp; omega), List.getElem?_drop]
          congr 2
          simp [List.length_take, Nat.min_eq_left hk]
          omega
    refine ris_of fun i hi => ?_
    rw [hlen] at hi
    rw [hat i (by omega), hat (i + 1) hi]
    by_cases a : i + 1 < k
    · rw [if_pos (by omega), if_pos a]; exact ris_next hr (by omega)
    · rw [if_neg a]
      by_cases b : i + 1 = k
      · rw [if_pos (by omega), if_pos b]; exact h1 i (by omega)
      · rw [if_neg b, if_neg (by omega)]
        by_cases e : i = k
        · rw [if_pos e, show i + 1 - 1 = i by omega, e]
          obtain ⟨q1, q2⟩ := h2 (by omega)
          exact ltC_total q1 q2
        · rw [if_neg e]
          have := ris_next hr (i := i - 1) (by omega)
          rw [show i - 1 + 1 = i by omega] at this
          rw [show i + 1 - 1 = i by omega]; exact this
  · intro d
    simp only [List.mem_append, List.mem_singleton]
    constructor
    · rintro ((h | h) | h)
      · exact .inr (List.mem_of_mem_take h)
      · exact .inl h
      · exact .inr (List.mem_of_mem_drop h)
    · rintro (h | h)
      · exact .inl (.inr h)
      · have := List.take_append_drop k l
        rw [← this, List.mem_append] at h
        rcases h with h | h
        · exact .inl (.inl h)
        · exact .inr h
  · simp; omega

theorem tail_ne {w z : World} {c : Cl} (h : BoxIn w z c) : some w.heap.size ≠ (Value.slice (some ⟨z.heap.size, 0, none⟩) 0 0).ownBlock := by
  have := h.2.2.1
  simp [Value.ownBlock]; omega

/-- Appending nothing, whatever the address. -/
theorem wpList_app0 {w : World} {ops : Array Oper} {rest : List Oper} {o : Oper} {a : Act} {Q : Exit → Act → World → Prop} (hgd : o.guard = none) (s x : Operand)
    (ho : o.op = .call { callee := .builtin .append, args := #[s, x], argTypes := #[23, 23] })
    (base : Nat) (v : Value) (l : List Cl) (hs : a.eval s = v) (hown : OwnS w base v l) (hx : ∃ ad n k, a.eval x = .slice ad n k ∧ n = 0 ∧ (ad = none → k = 0)) (hlen : l.length ≤ 4194304) (hbase : base ≤ w.heap.size)
    (h : ∀ v' w', OwnS w' base v' l → w.grownBy w' v.ownBlock → wpList Try.prog ops Q rest (a.put o.dst v') w') : wpList Try.prog ops Q (o :: rest) a w := by
  obtain ⟨ad, n, k, h1, h2, h3⟩ := hx
  subst h2
  exact wpList_app' hgd s x ho base v l [] ad 0 k hs hown h1 rfl (fun i hi => absurd hi (Nat.not_lt_zero _)) h3 (by simpa using hlen) hbase (by simpa using h)

set_option maxHeartbeats 1000000 in
theorem c_l1Add_some (g o ca : Nat) (l : List Cl) (c : Cl) (w : World) (ha : Seg w (some ⟨g, o, none⟩) l) (hl : l.length ≤ 1048576) (hca : l.length ≤ ca) (hcm : ca ≤ maxLen) (hr : risTo l l.length = true) :
    Calls Try.prog 126 #[.slice (some ⟨g, o, none⟩) l.length ca, .agg #[.int .i64 c.1, .int .i64 c.2]] w fun e w' => ∃ v l', e = .returned v ∧ SL w' v l' ∧ With l c l' ∧ Below w.heap.size w w' ∧ (OwnS w' w.heap.size v l' ∨ (v = .slice (some ⟨g, o, none⟩) l.length ca ∧ l' = l)) := by
  have HR := hid hr
  have hcm' : ca ≤ 9223372036854775807 := by unfold maxLen at hcm; omega
  clear hr
  go_enter Try.func126, Try.ntmps126
  go_wp2
  go_loopw [5] (fun i wr => ∃ k : Nat, k ≤ l.length ∧ i = .int .i64 k ∧ Hid (∀ i, i < k → ltC (at_ l i) c = true) ∧ BoxIn w wr c) (fun i _ => l.length - (intOf i).toNat)
  case atStart => exact ⟨0, Nat.zero_le _, rfl, (fun i hi => absurd hi (Nat.not_lt_zero _)), BoxIn.new w c _⟩
  case round =>
    obtain ⟨k, hk, rfl, hT, hX⟩ := hrel
    have HX := hid hX
    have g3 := fun x : Gr wr => x.cell HX.out.1 HX.out.2.2.1
    have g4 := fun x : Gr wr => x.cell HX.out.2.1 HX.out.2.2.1
    have hne := Gr.ne wr
    clear hX
    by_cases hlt : k < l.length
    · obtain ⟨b1, o1, e1, hb1, p1, p2⟩ := ha k hlt
      simp only [Option.some.injEq, Addr.mk.injEq, and_true] at e1
      obtain ⟨rfl, rfl⟩ := e1
      have hbx : g < wr.heap.size := Nat.lt_of_lt_of_le hb1 HX.out.below.size
      have g1 := fun x : Gr wr => x.cell ((HX.out.below.cell (p := ⟨g, o + k * 2, none⟩) hb1).trans p1) hbx
      have g2 := fun x : Gr wr => x.cell ((HX.out.below.cell (p := ⟨g, o + k * 2 + 1, none⟩) hb1).trans p2) hbx
      change ∀ x : Gr wr, _ = some (Value.int .i64 (at_ l k).1) at g1
      change ∀ x : Gr wr, _ = some (Value.int .i64 (at_ l k).2) at g2
      clear p1 p2
      have k0 : (0 : Int) ≤ (k : Int) := by omega
      have k1 : (k : Int) < (l.length : Int) := by omega
      have HN := hid (show ltC (at_ l k) c = true → ∀ i, i < k + 1 → ltC (at_ l i) c = true from fun hn t ht => by
        by_cases e : t = k
        · rw [e]; exact hn
        · exact hT.out t (by omega))
      have HM := hid (fun e : at_ l k = c => with_same HR.out (mem_at.2 ⟨k, hlt, e⟩))
      have HW := hid (fun (h1 : ltC (at_ l k) c = false) (h2 : at_ l k ≠ c) => with_new HR.out hk hT.out (fun _ => ⟨h1, h2⟩))
      generalize at_ l k = x at *
      cases hin : ltC x c
      · go_wp2
        refine wp_region_gr (by kernel_rfl) (by kernel_rfl) ?_
        repeat (go_big_quiet_step (first | (go_at_call 120; exact Calls.gr _ (c_l1Less' x c false hin _))))
        refine wpQuiet_nil ?_
        rintro _ ⟨q, rfl⟩
        have HQ := hid (HX.out.step q.below)
        have g1' := g1 q
        have g2' := g2 q
        have g3' := g3 q
        have g4' := g4 q
        have hbq : g < q.val.heap.size := Nat.lt_of_lt_of_le hbx q.below.size
        clear g1 g2 g3 g4 hne
        have n1 := fun z : Gr q.val => z.cell g1' hbq
        have n2 := fun z : Gr q.val => z.cell g2' hbq
        have n3 := fun z : Gr q.val => z.cell g3' HQ.out.2.2.1
        have n4 := fun z : Gr q.val => z.cell g4' HQ.out.2.2.1
        have hne := Gr.ne q.val
        by_cases h1 : x.1 = c.1
        · by_cases h2 : x.2 = c.2
          · have HW' := hid (HM.out (Prod.ext h1 h2))
            go_wp2
            refine wp_region_gr (by kernel_rfl) (by kernel_rfl) ?_
            repeat (go_big_quiet_step (fail))
            refine wpQuiet_nil ?_
            rintro _ ⟨z, rfl⟩
            have HZ := hid (HQ.out.step z.below)
            clear n1 n2 n3 n4 hne g1' g2' g3' g4'
            go_wp2
            go_ret
            exact ⟨_, l, rfl, .inr ⟨g, o, ca, rfl, hca, hcm, ha.below HZ.out.below⟩, HW'.out, HZ.out.below, .inr ⟨rfl, rfl⟩⟩
          · have HW' := hid (HW.out hin (fun e => h2 (by rw [e])))
            go_wp2
            refine wp_region_gr (by kernel_rfl) (by kernel_rfl) ?_
            repeat (go_big_quiet_step (fail))
            refine wpQuiet_nil ?_
            rintro _ ⟨z, rfl⟩
            have HZ := hid (HQ.out.step z.below)
            clear n1 n2 n3 n4 hne g1' g2' g3' g4' h1 h2
            have HB6 := hid (HZ.out.below.alloc HZ.out.below.size (.cells #[] 36))
            have HO6 := hid ((slice_empty_build z.val).mono HZ.out.below.size)
            have HX6 := hid (HZ.out.step ((Below.refl z.val.heap.size z.val).alloc (Nat.le_refl _) (.cells #[] 36)))
            have HS6 := hid ((ha.take k).below HX6.out.below)
            have kk0 : (0 : Int) ≤ (k : Int) := by omega
            have kk1 : (k : Int) ≤ (l.length : Int) := by omega
            have kk2 : (k : Int) ≤ (ca : Int) := by omega
            have kk3 : (l.length : Int) ≤ (ca : Int) := by omega
            go_wp2_with (first | (at_builtin; refine wpList_app' rfl (.tmp 34) (.tmp 37) rfl w.heap.size _ [] (l.take k) (some ⟨g, o, none⟩) k ca rfl HO6.out rfl (by rw [List.length_take]; omega) HS6.out (by intro h; cases h) (by simp; omega) HB6.out.size ?_; intro v6 w6 hO6 hG6; have HB7 := hid (below_grown HB6.out HO6.out hG6); have y0 := hG6.cell HX6.out.1 (tail_ne HZ.out); have y1 := hG6.cell HX6.out.2.1 (tail_ne HZ.out); have HO7 := hid hO6; clear hO6 hG6) | (at_builtin; refine wpList_app' rfl (.tmp 39) (.tmp 41) rfl w.heap.size v6 ([] ++ l.take k) [c] (some ⟨w6.heap.size, 0, none⟩) 1 1 rfl (HO7.out.below ((Below.refl w6.heap.size w6).alloc (Nat.le_refl _) (.cells #[.int .i64 c.1, .int .i64 c.2] 36))) rfl rfl (seg_block (heap_alloc_new w6 _)) (by intro h; cases h) (by simp; omega) (HB7.out.alloc HB7.out.size _).size ?_; intro v7 w7 hO7 hG7; have HB8 := hid (below_grown (HB7.out.alloc HB7.out.size _) (HO7.out.below ((Below.refl w6.heap.size w6).alloc (Nat.le_refl _) (.cells #[.int .i64 c.1, .int .i64 c.2] 36))) hG7); have HO8 := hid hO7; clear hO7 hG7) | (at_builtin; refine wpList_app' rfl (.tmp 43) (.tmp 46) rfl w.heap.size v7 ([] ++ l.take k ++ [c]) (l.drop k) (some ⟨g, o + k * 2, none⟩) (l.length - k) (ca - k) rfl HO8.out rfl (by simp) ((ha.drop k).below HB8.out) (by intro h; cases h) (by simp; omega) HB8.out.size ?_; intro v8 w8 hO9 hG9))
            go_ret
            exact ⟨_, _, rfl, hO9.sl, by simpa using HW'.out, below_grown HB8.out HO8.out hG9, .inl hO9⟩
        · have HW' := hid (HW.out hin (fun e => h1 (by rw [e])))
          go_wp2
          refine wp_region_gr (by kernel_rfl) (by kernel_rfl) ?_
          repeat (go_big_quiet_step (fail))
          refine wpQuiet_nil ?_
          rintro _ ⟨z, rfl⟩
          have HZ := hid (HQ.out.step z.below)
          clear n1 n2 n3 n4 hne g1' g2' g3' g4' h1
          have HB6 := hid (HZ.out.below.alloc HZ.out.below.size (.cells #[] 36))
          have HO6 := hid ((slice_empty_build z.val).mono HZ.out.below.size)
          have HX6 := hid (HZ.out.step ((Below.refl z.val.heap.size z.val).alloc (Nat.le_refl _) (.cells #[] 36)))
          have HS6 := hid ((ha.take k).below HX6.out.below)
          have kk0 : (0 : Int) ≤ (k : Int) := by omega
          have kk1 : (k : Int) ≤ (l.length : Int) := by omega
          have kk2 : (k : Int) ≤ (ca : Int) := by omega
          have kk3 : (l.length : Int) ≤ (ca : Int) := by omega
          go_wp2_with (first | (at_builtin; refine wpList_app' rfl (.tmp 34) (.tmp 37) rfl w.heap.size _ [] (l.take k) (some ⟨g, o, none⟩) k ca rfl HO6.out rfl (by rw [List.length_take]; omega) HS6.out (by intro h; cases h) (by simp; omega) HB6.out.size ?_; intro v6 w6 hO6 hG6; have HB7 := hid (below_grown HB6.out HO6.out hG6); have y0 := hG6.cell HX6.out.1 (tail_ne HZ.out); have y1 := hG6.cell HX6.out.2.1 (tail_ne HZ.out); have HO7 := hid hO6; clear hO6 hG6) | (at_builtin; refine wpList_app' rfl (.tmp 39) (.tmp 41) rfl w.heap.size v6 ([] ++ l.take k) [c] (some ⟨w6.heap.size, 0, none⟩) 1 1 rfl (HO7.out.below ((Below.refl w6.heap.size w6).alloc (Nat.le_refl _) (.cells #[.int .i64 c.1, .int .i64 c.2] 36))) rfl rfl (seg_block (heap_alloc_new w6 _)) (by intro h; cases h) (by simp; omega) (HB7.out.alloc HB7.out.size _).size ?_; intro v7 w7 hO7 hG7; have HB8 := hid (below_grown (HB7.out.alloc HB7.out.size _) (HO7.out.below ((Below.refl w6.heap.size w6).alloc (Nat.le_refl _) (.cells #[.int .i64 c.1, .int .i64 c.2] 36))) hG7); have HO8 := hid hO7; clear hO7 hG7) | (at_builtin; refine wpList_app' rfl (.tmp 43) (.tmp 46) rfl w.heap.size v7 ([] ++ l.take k ++ [c]) (l.drop k) (some ⟨g, o + k * 2, none⟩) (l.length - k) (ca - k) rfl HO8.out rfl (by simp) ((ha.drop k).below HB8.out) (by intro h; cases h) (by simp; omega) HB8.out.size ?_; intro v8 w8 hO9 hG9))
          go_ret
          exact ⟨_, _, rfl, hO9.sl, by simpa using HW'.out, below_grown HB8.out HO8.out hG9, .inl hO9⟩
      · go_wp2
        refine wp_region_gr (by kernel_rfl) (by kernel_rfl) ?_
        repeat (go_big_quiet_step (first | (go_at_call 120; exact Calls.gr _ (c_l1Less' x c true hin _))))
        refine wpQuiet_nil ?_
        rintro _ ⟨q, rfl⟩
        have HQ := hid (HX.out.step q.below)
        clear g1 g2 g3 g4
        go_wp2
        go_roundw
        case rel => exact ⟨k + 1, by omega, by go_num, HN.out hin, HQ.out⟩
        case measure => simp [intOf]; omega
    · have hkl : decide ((k : Int) < (l.length : Int)) = false := by simp; omega
      have HW' := hid (with_new HR.out hk hT.out (fun h => absurd h hlt))
      go_wp2
      refine wp_region_gr (by kernel_rfl) (by kernel_rfl) ?_
      repeat (go_big_quiet_step (fail))
      refine wpQuiet_nil ?_
      rintro _ ⟨q, rfl⟩
      have HQ := hid (HX.out.step q.below)
      clear g3 g4 hne
      have hne := Gr.ne q.val
      go_wp2
      refine wp_region_gr (by kernel_rfl) (by kernel_rfl) ?_
      repeat (go_big_quiet_step (fail))
      refine wpQuiet_nil ?_
      rintro _ ⟨z, rfl⟩
      have HZ := hid (HQ.out.step z.below)
      have hle : l.length ≤ k := by omega
      have HWW : Hid (With l c ([] ++ l.take k ++ [c])) := hid (by have := HW'.out; rw [List.drop_eq_nil_of_le hle, List.append_nil] at this; exact this)
      clear hne hkl hlt
      have HB6 := hid (HZ.out.below.alloc HZ.out.below.size (.cells #[] 36))
      have HO6 := hid ((slice_empty_build z.val).mono HZ.out.below.size)
      have HX6 := hid (HZ.out.step ((Below.refl z.val.heap.size z.val).alloc (Nat.le_refl _) (.cells #[] 36)))
      have HS6 := hid ((ha.take k).below HX6.out.below)
      have kk0 : (0 : Int) ≤ (k : Int) := by omega
      have kk1 : (k : Int) ≤ (l.length : Int) := by omega
      have kk2 : (k : Int) ≤ (ca : Int) := by omega
      have kk3 : (l.length : Int) ≤ (ca : Int) := by omega
      go_wp2_with (first | (at_builtin; refine wpList_app' rfl (.tmp 34) (.tmp 37) rfl w.heap.size _ [] (l.take k) (some ⟨g, o, none⟩) k ca rfl HO6.out rfl (by rw [List.length_take]; omega) HS6.out (by intro h; cases h) (by simp; omega) HB6.out.size ?_; intro v6 w6 hO6 hG6; have HB7 := hid (below_grown HB6.out HO6.out hG6); have y0 := hG6.cell HX6.out.1 (tail_ne HZ.out); have y1 := hG6.cell HX6.out.2.1 (tail_ne HZ.out); have HO7 := hid hO6; clear hO6 hG6) | (at_builtin; refine wpList_app' rfl (.tmp 39) (.tmp 41) rfl w.heap.size v6 ([] ++ l.take k) [c] (some ⟨w6.heap.size, 0, none⟩) 1 1 rfl (HO7.out.below ((Below.refl w6.heap.size w6).alloc (Nat.le_refl _) (.cells #[.int .i64 c.1, .int .i64 c.2] 36))) rfl rfl (seg_block (heap_alloc_new w6 _)) (by intro h; cases h) (by simp; omega) (HB7.out.alloc HB7.out.size _).size ?_; intro v7 w7 hO7 hG7; have HB8 := hid (below_grown (HB7.out.alloc HB7.out.size _) (HO7.out.below ((Below.refl w6.heap.size w6).alloc (Nat.le_refl _) (.cells #[.int .i64 c.1, .int .i64 c.2] 36))) hG7); have HO8 := hid hO7; clear hO7 hG7) | (at_builtin; refine wpList_app0 rfl (.tmp 43) (.tmp 46) rfl w.heap.size v7 ([] ++ l.take k ++ [c]) rfl HO8.out ⟨_, _, _, rfl, by omega, by intro h; split at h <;> cases h⟩ (by simp; omega) HB8.out.size ?_; intro v8 w8 hO9 hG9))
      all_goals go_ret
      all_goals first
        | exact ⟨_, _, rfl, hO9.sl, HWW.out, below_grown HB8.out HO8.out hG9, .inl hO9⟩
        | exact ⟨_, rfl, _, hO9.sl, HWW.out, below_grown HB8.out HO8.out hG9, .inl hO9⟩

theorem one_with (c : Cl) : With [] c [c] := by
  refine ⟨rfl, fun d => by simp, by simp⟩

set_option maxHeartbeats 1000000 in
theorem c_l1Add_nil (c : Cl) (w : World) :
    Calls Try.prog 126 #[.slice none 0 0, .agg #[.int .i64 c.1, .int .i64 c.2]] w fun e w' => ∃ v l', e = .returned v ∧ SL w' v l' ∧ With [] c l' ∧ Below w.heap.size w w' ∧ OwnS w' w.heap.size v l' := by
  have HX := hid (BoxIn.new w c 36)
  go_enter Try.func126, Try.ntmps126
  go_wp2
  refine wp_loop_rounds 1 ?_
  rw [rounds_succ]
  go_wp2
  have hne := Gr.ne (w.alloc (.cells #[.int .i64 c.1, .int .i64 c.2] 36))
  refine wp_region_gr (by kernel_rfl) (by kernel_rfl) ?_
  repeat (go_big_quiet_step (fail))
  refine wpQuiet_nil ?_
  rintro _ ⟨q, rfl⟩
  have HQ := hid (HX.out.step q.below)
  clear hne
  have hne := Gr.ne q.val
  go_wp2
  refine wp_region_gr (by kernel_rfl) (by kernel_rfl) ?_
  repeat (go_big_quiet_step (fail))
  refine wpQuiet_nil ?_
  rintro _ ⟨z, rfl⟩
  have HZ := hid (HQ.out.step z.below)
  clear hne
  have HB6 := hid (HZ.out.below.alloc HZ.out.below.size (.cells #[] 36))
  have HO6 := hid ((slice_empty_build z.val).mono HZ.out.below.size)
  have HX6 := hid (HZ.out.step ((Below.refl z.val.heap.size z.val).alloc (Nat.le_refl _) (.cells #[] 36)))
  have HN : ∀ W : World, Hid (Seg W none []) := fun W i hi => by simp at hi
  go_wp2_with (first | (at_builtin; refine wpList_app' rfl (.tmp 34) (.tmp 37) rfl w.heap.size _ [] [] none 0 0 rfl HO6.out rfl rfl (HN _).out (fun _ => rfl) (by simp) HB6.out.size ?_; intro v6 w6 hO6 hG6; have HB7 := hid (below_grown HB6.out HO6.out hG6); have y0 := hG6.cell HX6.out.1 (tail_ne HZ.out); have y1 := hG6.cell HX6.out.2.1 (tail_ne HZ.out); have HO7 := hid hO6; clear hO6 hG6) | (at_builtin; refine wpList_app' rfl (.tmp 39) (.tmp 41) rfl w.heap.size v6 ([] ++ []) [c] (some ⟨w6.heap.size, 0, none⟩) 1 1 rfl (HO7.out.below ((Below.refl w6.heap.size w6).alloc (Nat.le_refl _) (.cells #[.int .i64 c.1, .int .i64 c.2] 36))) rfl rfl (seg_block (heap_alloc_new w6 _)) (by intro h; cases h) (by simp) (HB7.out.alloc HB7.out.size _).size ?_; intro v7 w7 hO7 hG7; have HB8 := hid (below_grown (HB7.out.alloc HB7.out.size _) (HO7.out.below ((Below.refl w6.heap.size w6).alloc (Nat.le_refl _) (.cells #[.int .i64 c.1, .int .i64 c.2] 36))) hG7); have HO8 := hid hO7; clear hO7 hG7) | (at_builtin; refine wpList_app' rfl (.tmp 43) (.tmp 46) rfl w.heap.size v7 ([] ++ [] ++ [c]) [] none 0 0 rfl HO8.out rfl rfl (HN _).out (fun _ => rfl) (by simp) HB8.out.size ?_; intro v8 w8 hO9 hG9))
  go_ret
  exact ⟨_, _, rfl, hO9.sl, by simpa using one_with c, below_grown HB8.out HO8.out hG9, hO9⟩

/-- Putting a cell to its place, whatever the slice: what comes of it owns its memory, or is the slice itself. -/
theorem c_l1AddO (v : Value) (l : List Cl) (c : Cl) (w : World) (h : SL w v l) (hl : l.length ≤ 1048576) (hr : risTo l l.length = true) :
    Calls Try.prog 126 #[v, .agg #[.int .i64 c.1, .int .i64 c.2]] w fun e w' => ∃ v' l', e = .returned v' ∧ SL w' v' l' ∧ With l c l' ∧ Below w.heap.size w w' ∧ (OwnS w' w.heap.size v' l' ∨ (v' = v ∧ l' = l)) := by
  rcases h with ⟨rfl, rfl⟩ | ⟨g, o, ca, rfl, h1, h2, h3⟩
  · exact (c_l1Add_nil c w).mono fun e w' ⟨v', l', h1, h2, h3, h4, h5⟩ => ⟨v', l', h1, h2, h3, h4, .inl h5⟩
  · exact c_l1Add_some g o ca l c w h3 hl h1 h2 hr
theorem c_l1Add (v : Value) (l : List Cl) (c : Cl) (w : World) (h : SL w v l) (hl : l.length ≤ 1048576) (hr : risTo l l.length = true) :
    Calls Try.prog 126 #[v, .agg #[.int .i64 c.1, .int .i64 c.2]] w fun e w' => ∃ v l', e = .returned v ∧ SL w' v l' ∧ With l c l' ∧ Below w.heap.size w w' :=
  (c_l1AddO v l c w h hl hr).mono fun e w' ⟨v', l', h1, h2, h3, h4, _⟩ => ⟨v', l', h1, h2, h3, h4⟩

/-- Two lists in order with the same cells are one. -/
theorem ris_unique : ∀ {l m : List Cl}, risTo l l.length = true → risTo m m.length = true → (∀ c, c ∈ l ↔ c ∈ m) → l = m := by
  have key : ∀ {l : List Cl}, risTo l l.length = true → l.Pairwise (fun a b => ltC a b = true) := by
    intro l h
    rw [List.pairwise_iff_getElem]
    intro i j hi hj hij
    have := ris_lt h j hij hj
    simpa only [at_, List.getD_eq_getElem?_getD, List.getElem?_eq_getElem hi, List.getElem?_eq_getElem hj, Option.getD_some] using this
  intro l m hl hm h
  have hp : l.Perm m := (List.perm_ext_iff_of_nodup (ris_nodup hl) (ris_nodup hm)).2 h
  exact hp.eq_of_pairwise (fun a b _ _ h1 h2 => by rw [ltC_irr2 h1] at h2; cases h2) (key hl) (key hm)

end Go.Proofs.Ytgfdkolhldbehaa

namespace Go.Proofs.Ytgfdkolhldbehaa
open Go.RowKit
set_option linter.unusedVariables false

/-- The cells of l, each once, in order. -/
noncomputable def ordL (l : List Cl) : List Cl := open Classical in if h : ∃ l', risTo l' l'.length = true ∧ ∀ c, c ∈ l' ↔ c ∈ l then Classical.choose h else []
theorem ordL_eq {l l' : List Cl} (h1 : risTo l' l'.length = true) (h2 : ∀ c, c ∈ l' ↔ c ∈ l) : ordL l = l' := by
  unfold ordL
  have h : ∃ l', risTo l' l'.length = true ∧ ∀ c, c ∈ l' ↔ c ∈ l := ⟨l', h1, h2⟩
  rw [dif_pos h]
  exact ris_unique (Classical.choose_spec h).1 h1 (fun c => ((Classical.choose_spec h).2 c).trans (h2 c).symm)

set_option maxHeartbeats 1000000 in
theorem c_l1Sort (a : Option Addr) (l : List Cl) (ca : Nat) (w : World) (ha : Seg w a l) (hl : l.length ≤ 524288) :
    Calls Try.prog 77 #[.slice a l.length ca] w fun e w' => ∃ v l', e = .returned v ∧ OwnS w' w.heap.size v l' ∧ risTo l' l'.length = true ∧ (∀ c, c ∈ l' ↔ c ∈ l) ∧ l'.length ≤ l.length ∧ Below w.heap.size w w' := by
  go_enter Try.func77, Try.ntmps77
  go_wp2
  go_loopw [3, 8] (fun v i wr => ∃ (k : Nat) (m : List Cl), k ≤ l.length ∧ i = .int .i64 k ∧ OwnS wr w.heap.size v m ∧ risTo m m.length = true ∧ (∀ c, c ∈ m ↔ c ∈ l.take k) ∧ m.length ≤ k ∧ Below w.heap.size w wr) (fun _ i _ => l.length - (intOf i).toNat)
  case atStart => exact ⟨0, [], Nat.zero_le _, rfl, OwnS.nil _ _, rfl, fun c => by simp, by simp, Below.refl _ _⟩
  case round =>
    obtain ⟨k, m, hk, rfl, hSL, hris, hmem, hml, hbel⟩ := hrel
    have HR := hid hris
    have HM := hid hmem
    have HB := hid hbel
    have HSL := hid hSL
    clear hris hmem hSL
    by_cases hlt : k < l.length
    · obtain ⟨b1, o1, rfl, hb1, p1, p2⟩ := ha k hlt
      have g1 := (hbel.cell (p := ⟨b1, o1 + k * 2, none⟩) hb1).trans p1
      have g2 := (hbel.cell (p := ⟨b1, o1 + k * 2 + 1, none⟩) hb1).trans p2
      change _ = some (Value.int .i64 (at_ l k).1) at g1
      change _ = some (Value.int .i64 (at_ l k).2) at g2
      have HT := hid (take_snoc' hlt)
      generalize at_ l k = x at *
      clear p1 p2 hbel
      have q0 := cell_new0 wr (.int .i64 x.1) (.int .i64 x.2) 36
      have q1 := cell_new1 wr (.int .i64 x.1) (.int .i64 x.2) 36
      have HB1 := hid (HB.out.alloc HB.out.size (.cells #[.int .i64 x.1, .int .i64 x.2] 36))
      have HS1 := hid (HSL.out.below ((Below.refl wr.heap.size wr).alloc (Nat.le_refl _) (.cells #[.int .i64 x.1, .int .i64 x.2] 36)))
      go_wp2_with fail
      refine (c_l1AddO _ m x _ HS1.out.sl (by omega) HR.out).mono ?_
      rintro e w3 ⟨v3, m3, rfl, hS3, hW3, hb3, hO3⟩
      have HB3 := hid (HB1.out.trans (hb3.mono HB1.out.size))
      have HS3 : Hid (OwnS w3 w.heap.size v3 m3) := by
        rcases hO3 with h | ⟨rfl, rfl⟩
        · exact h.mono HB1.out.size
        · exact HS1.out.below hb3
      have HW3 := hid hW3
      clear hS3 hW3 hb3 hO3
      go_wp2
      go_roundw
      case rel => exact ⟨k + 1, m3, by omega, by go_num, HS3.out, HW3.out.1, fun c => by rw [HW3.out.2.1, HM.out, HT.out, List.mem_append, List.mem_singleton]; exact Or.comm, by have := HW3.out.2.2; omega, HB3.out⟩
      case measure => simp [intOf]; omega
    · clear hbel
      go_wp2
      go_ret
      have : k = l.length := by omega
      subst this
      exact ⟨_, m, rfl, HSL.out, HR.out, fun c => by rw [HM.out, List.take_length], hml, HB.out⟩

theorem SL.form {w : World} {v : Value} {l : List Cl} (h : SL w v l) : ∃ a ca, v = .slice a l.length ca ∧ Seg w a l ∧ (a = none → ca = 0) := by
  rcases h with ⟨rfl, rfl⟩ | ⟨g, o, ca, rfl, _, _, hs⟩
  · exact ⟨none, 0, rfl, fun i hi => by simp at hi, fun _ => rfl⟩
  · exact ⟨_, ca, rfl, hs, fun h => by cases h⟩

end Go.Proofs.Ytgfdkolhldbehaa
