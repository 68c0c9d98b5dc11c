/- Texts of this seat, one behind the other: Sort, SortN, Add, SortS, CellK, Put, Shr, ShrI, NewF, TrG, Jq, SJq, IJq, Move. -/
import Derived.Test.YtmapbkefndbnnaaKa
import Derived.Test.YtmapbkefndbnnaaLay
import Derived.Shelf.SlSortCmp.WholeK
import Derived.Test.YtmapbkefndbnnaaKe
import Derived.Test.YtmapbkefndbnnaaKc
import Derived.Test.YtmapbkefndbnnaaKd
import Derived.Test.YtmapbkefndbnnaaKb
import Derived.Deep.RegionHeld3
namespace Go.Proofs.Ytmapbkefndbnnaa
open Go.RowKit Go.Shelf Go.Lib Go.Sort
set_option linter.unusedVariables false

/-- A cell's two values. -/
def encC (c : Cl) : List Value := [.int .i64 c.1, .int .i64 c.2]

theorem grow_two (W : World) (o1 o2 : Obj) : (W.alloc o1).alloc o2 = grow (W.drewN 0) #[o1, o2] := by
  rw [alloc_eq_grow, alloc_eq_grow, grow_grow]; rfl

set_option maxHeartbeats 400000 in
/-- compareCells, its world written out. -/
theorem c_compareLays (c d : Cl) (w : World) :
    Calls Try.prog 135 #[.agg #[.int .i64 c.1, .int .i64 c.2], .agg #[.int .i64 d.1, .int .i64 d.2]] w fun e w' => e = .returned (.int .i64 (cmpC c d)) ∧ ∃ q os', w' = grow (w.drewN q) os' := by
  obtain ⟨x, y⟩ := c
  obtain ⟨u, v⟩ := d
  dsimp only
  by_cases h : y = v
  · have hb : (y != v) = false := by simp [h]
    have H : Hid (y = v) := h
    clear h
    go_enter Try.func135, Try.ntmps135
    go_wp2_with (go_at_call 152; refine (c_Compare _ _ _).mono ?_; rintro e w' ⟨rfl, rfl⟩)
    go_ret
    exact ⟨ret_int (by simp [cmpC, H.out]), 0, _, grow_two _ _ _⟩
  · have hb : (y != v) = true := by simp [h]
    go_enter Try.func135, Try.ntmps135
    go_wp2_with (go_at_call 152; refine (c_Compare _ _ _).mono ?_; rintro e w' ⟨rfl, rfl⟩)
    go_ret
    exact ⟨ret_int (by simp [cmpC, h]), 0, _, grow_two _ _ _⟩

theorem ltOf_cmp (a b : Cl) : ltOf cmpC a b = ltC a b := by
  have := cmpC_neg a b
  unfold ltOf
  cases h : ltC a b
  · rw [h] at this; simp at this; simp; omega
  · rw [h] at this; simp at this; simp; omega
theorem swoC : SWO (ltOf cmpC) where
  irrefl x := by rw [ltOf_cmp]; exact ltC_irr x
  trans x y z h1 h2 := by rw [ltOf_cmp] at *; exact ltC_trans h1 h2
  ntrans x y z h1 h2 := by rw [ltOf_cmp] at *; simp [ltC] at *; omega

theorem sizeAgg : ∀ w, (isAgg 39).run Try.prog w = .ok true w := fun w => by kernel_rfl
theorem sizeCell : ∀ w, (Go.sizeOf 39).run Try.prog w = .ok 2 w := fun w => by kernel_rfl

set_option maxHeartbeats 1000000 in
theorem c_sort (blk off cap : Nat) (d : Array Cl) (w : World) (hH : HoldsK encC 2 w blk off d) (hblk : blk < w.heap.size) (hsz : d.size < 4611686018427387904) :
    Calls Try.prog 134 #[.slice (some ⟨blk, off, none⟩) d.size cap, .func (.func 135) #[] #[]] w fun e w' => e = .returned (.tuple #[]) ∧ ∃ d' n os, PermIn 0 d.size d d' ∧ SortedIn (ltOf cmpC) 0 d.size d' ∧ w' = sortWorldK encC 2 w blk off n d' os := by
  have eg : ∀ args w, (callFunc 135 args).run Try.prog w = .ok (.enter 135 args) w := enters_of Try.func135 (by kernel_rfl) rfl
  have hcon := AnyQ.slices_SortFunc Try.sortCell 2 sizeAgg sizeCell encC (fun _ => rfl) (fun x v hv => by simp [encC] at hv; rcases hv with rfl | rfl <;> rfl) cmpC swoC 135 #[] blk off cap d w eg (fun _ _ _ _ x y => c_compareLays x y _) hH hblk hsz
  exact hcon


theorem holds_own {w : World} {base g cap : Nat} {l : List Cl} (h : OwnS w base (.slice (some ⟨g, 0, none⟩) l.length cap) l) : HoldsK encC 2 w g 0 l.toArray := by
  intro j hj
  have hj' : j < l.length * 2 := by simpa using hj
  have hi : j / 2 < l.length := by omega
  rw [get_flatK _ _ _ _ (by simpa using hj')]
  have hget : l.toArray[j / 2]! = at_ l (j / 2) := by
    rw [getElem!_pos l.toArray (j / 2) (by simpa using hi)]
    simp [at_, hi]
  rw [hget]
  have c := World.ownsRow.cellAt h j hj'
  have f := World.ownsRow.frozenAt h j
  rw [Nat.zero_add]
  refine ⟨?_, f⟩
  rw [c]
  rcases (show j % 2 = 0 ∨ j % 2 = 1 by omega) with e | e
  · rw [e]
    have := flat_even hi
    rw [show j / 2 * 2 = j by omega] at this
    rw [this]; rfl
  · rw [e]
    have := flat_odd hi
    rw [show j / 2 * 2 + 1 = j by omega] at this
    rw [this]; rfl

theorem own_sorted {w : World} {base g cap n : Nat} {l : List Cl} {d : Array Cl} {os : Array Obj} (h : OwnS w base (.slice (some ⟨g, 0, none⟩) l.length cap) l) (hd : d.size = l.length) :
    OwnS (sortWorldK encC 2 w g 0 n d os) base (.slice (some ⟨g, 0, none⟩) l.length cap) d.toList ∧ w.grownBy (sortWorldK encC 2 w g 0 n d os) (some g) := by
  rcases h.2 with ⟨e0, _⟩ | ⟨g', cap', cur, e0, hb, hg, hn, hm, hs, ht⟩
  · cases e0
  · injection e0 with e1 _ e3
    injection e1 with e1
    injection e1 with e1
    subst e1; subst e3
    have hlt : g < w.heap.size := (Array.getElem?_eq_some_iff.1 hg).1
    have hblk : (sortWorldK encC 2 w g 0 n d os).heap[g]? = some (.cells (putCells id 0 (flatK encC 2 d) cur) 39 (0, 0)) := by
      unfold sortWorldK grow putRowK
      show ((putRow id (Sort.ahead w n) g 0 (flatK encC 2 d)).heap ++ os)[g]? = _
      rw [Array.getElem?_append_left (by simpa [putRow, mapBlock, Sort.ahead] using hlt)]
      simp [putRow, mapBlock, Sort.ahead, Array.getElem?_modify, hg, onCells]
    have hlen : d.toList.length = l.length := by simpa using hd
    refine ⟨⟨by rw [hlen, flat_length, hlen], .inr ⟨g, cap, putCells id 0 (flatK encC 2 d) cur, by rw [hlen], hb, hblk, by rw [hlen]; exact hn, hm, by simpa [putCells] using hs, ?_⟩⟩, ⟨rfl, rfl, rfl, ?_, ?_⟩⟩
    · have hcs : (putCells id 0 (flatK encC 2 d) cur).size = cap * 2 := by simpa [putCells] using hs
      have hcl : (putCells id 0 (flatK encC 2 d) cur).toList.length = cap * 2 := by simpa using hcs
      refine flat_ext (by rw [List.length_take, hcl, hlen]; omega) fun i hi => ?_
      rw [hlen] at hi
      have hp : ∀ j, j < l.length * 2 → (putCells id 0 (flatK encC 2 d) cur)[j]? = some (encC d[j / 2]!)[j % 2]! := by
        intro j hj
        have hjc : j < cur.size := by omega
        simp only [putCells, Array.getElem?_mapIdx, Array.getElem?_eq_getElem hjc, Option.map_some]
        rw [if_pos (by simp; omega)]
        simp only [Nat.sub_zero, id]
        rw [get_flatK _ _ _ _ (by omega)]
      rw [hlen, List.getElem?_take_of_lt (by omega), List.getElem?_take_of_lt (by omega), Array.getElem?_toList, Array.getElem?_toList, hp _ (by omega), hp _ (by omega)]
      have hda : d[i]! = at_ d.toList i := by
        rw [getElem!_pos d i (by omega)]
        simp [at_, show i < d.size by omega]
      rw [show i * 2 / 2 = i by omega, show (i * 2 + 1) / 2 = i by omega, show i * 2 % 2 = 0 by omega, show (i * 2 + 1) % 2 = 1 by omega, hda]
      exact ⟨rfl, rfl⟩
    · show w.heap.size ≤ ((putRow id (Sort.ahead w n) g 0 (flatK encC 2 d)).heap ++ os).size
      simp [putRow, mapBlock, Sort.ahead]
    · intro k hk hne
      show ((putRow id (Sort.ahead w n) g 0 (flatK encC 2 d)).heap ++ os)[k]? = _
      rw [Array.getElem?_append_left (by simpa [putRow, mapBlock, Sort.ahead] using hk)]
      have : g ≠ k := fun e => hne (by rw [e])
      simp [putRow, mapBlock, Sort.ahead, Array.getElem?_modify, this]

/-- Cells in order, none behind a greater one. -/
def Sorted (l : List Cl) : Prop := ∀ i j, i < j → j < l.length → ltC (at_ l j) (at_ l i) = false

theorem c_sortOwn (base g cap : Nat) (l : List Cl) (w : World) (h : OwnS w base (.slice (some ⟨g, 0, none⟩) l.length cap) l) (hl : l.length ≤ 4194304) :
    Calls Try.prog 134 #[.slice (some ⟨g, 0, none⟩) l.length cap, .func (.func 135) #[] #[]] w fun e w' =>
      e = .returned (.tuple #[]) ∧ ∃ l' : List Cl, l'.Perm l ∧ Sorted l' ∧ OwnS w' base (.slice (some ⟨g, 0, none⟩) l'.length cap) l' ∧ w.grownBy w' (some g) ∧ l'.length = l.length := by
  have hlt : g < w.heap.size := (h.lt g rfl).2
  have hc := c_sort g 0 cap l.toArray w (holds_own h) hlt (by simp; omega)
  simp only [List.size_toArray] at hc
  refine hc.mono fun e w' ⟨he, d, n, os, hp, hs, hw⟩ => ⟨he, d.toList, ?_, ?_, ?_⟩
  · have h3 := hp.2.2
    have e1 : d.extract 0 l.length = d := by
      have : d.size = l.length := by simpa using hp.1
      rw [← this]; simp
    have e2 : l.toArray.extract 0 l.length = l.toArray := by simp
    rw [e1, e2] at h3
    simpa using h3
  · have hds : d.size = l.length := by simpa using hp.1
    intro i j hij hj
    have hj' : j < d.size := by simpa using hj
    have := hs i j (Nat.zero_le _) hij (by omega)
    rw [ltOf_cmp, getElem!_pos d j hj', getElem!_pos d i (by omega)] at this
    simpa [at_, hj', show i < d.size by omega] using this
  · have hds : d.size = l.length := by simpa using hp.1
    have hlen : d.toList.length = l.length := by simpa using hds
    rw [hlen, hw]
    obtain ⟨h1, h2⟩ := own_sorted (n := n) (os := os) h hds
    exact ⟨h1, h2, rfl⟩

end Go.Proofs.Ytmapbkefndbnnaa

namespace Go.Proofs.Ytmapbkefndbnnaa
open Go.RowKit
set_option linter.unusedVariables false
attribute [local go_sem ↓] Go.wp_at_zero Go.wp_at_succ

set_option maxHeartbeats 1000000 in
theorem c_insNil (f : Value) (w : World) : Calls Try.prog 156 #[.slice none 0 0, .int .i64 0, .int .i64 0, f] w fun e w' => e = .returned (.tuple #[]) ∧ w' = w := by
  go_enter Try.func156, Try.ntmps156
  go_wp2_with fail
  go_loopw [8] (fun i wr => i = .int .i64 1 ∧ wr = w) (fun _ _ => 0)
  case atStart => exact ⟨rfl, rfl⟩
  case round =>
    obtain ⟨rfl, rfl⟩ := hrel
    go_wp2_with fail
    go_end0
    exact ⟨rfl, rfl⟩
set_option maxHeartbeats 1000000 in
theorem c_bitsLen0 (w : World) : Calls Try.prog 151 #[.int .u64 0] w fun e w' => e = .returned (.int .i64 0) ∧ w' = w := by
  go_enter Try.func151, Try.ntmps151
  go_wp2
  go_ret
  exact ⟨by kernel_rfl, rfl⟩
set_option maxHeartbeats 1000000 in
theorem c_pdqNil (f : Value) (w : World) : Calls Try.prog 150 #[.slice none 0 0, .int .i64 0, .int .i64 0, .int .i64 0, f] w fun e w' => e = .returned (.tuple #[]) ∧ w' = w := by
  go_enter Try.func150, Try.ntmps150
  go_wp2_with fail
  go_loopw [1, 2] (fun i j wr => i = .int .i64 0 ∧ j = .int .i64 0 ∧ wr = w) (fun _ _ _ => 0)
  case atStart => exact ⟨rfl, rfl, rfl⟩
  case round =>
    obtain ⟨rfl, rfl, rfl⟩ := hrel
    go_wp2_with fail
    refine (c_insNil _ _).mono ?_
    rintro e w' ⟨rfl, rfl⟩
    go_wp2_with fail
    refine bodyPost_ret (results_none rfl _ _ _) rfl ?_
    exact ⟨rfl, rfl⟩
set_option maxHeartbeats 1000000 in
theorem c_sortNil (f : Value) (w : World) : Calls Try.prog 134 #[.slice none 0 0, f] w fun e w' => e = .returned (.tuple #[]) ∧ w' = w := by
  go_enter Try.func134, Try.ntmps134
  go_wp2_with (first | (go_at_call 151; refine (c_bitsLen0 _).mono ?_; rintro e w' ⟨rfl, rfl⟩) | (go_at_call 150; refine (c_pdqNil _ _).mono ?_; rintro e w' ⟨rfl, rfl⟩))
  go_end0
  exact ⟨rfl, rfl⟩

end Go.Proofs.Ytmapbkefndbnnaa

namespace Go.Proofs.Ytmapbkefndbnnaa
open Go.RowKit
set_option linter.unusedVariables false

/-- The slice v holds the cells l. -/
def SL (w : World) (v : Value) (l : List Cl) : Prop :=
  (v = .slice none 0 0 ∧ l = []) ∨ ∃ g o ca, v = .slice (some ⟨g, o, none⟩) l.length ca ∧ l.length ≤ ca ∧ ca ≤ maxLen ∧ Seg w (some ⟨g, o, none⟩) l
theorem SL.below {w w' : World} {v : Value} {l : List Cl} (h : SL w v l) (hb : Below w.heap.size w w') : SL w' v l := by
  rcases h with h | ⟨g, o, ca, h1, h2, h3, h4⟩
  · exact .inl h
  · exact .inr ⟨g, o, ca, h1, h2, h3, h4.below hb⟩
theorem OwnS.sl {w : World} {base : Nat} {v : Value} {l : List Cl} (h : OwnS w base v l) : SL w v l := by
  have h0 := h
  rcases h.2 with ⟨e, hn⟩ | ⟨g, cap, cur, e, _, _, hc, hm, _⟩
  · exact .inl ⟨e, List.eq_nil_of_length_eq_zero hn⟩
  · subst e
    exact .inr ⟨g, 0, cap, rfl, hc, hm, h0.seg⟩
theorem Seg.take {w : World} {a : Option Addr} {l : List Cl} (h : Seg w a l) (k : Nat) : Seg w a (l.take k) := by
  intro i hi
  rw [List.length_take] at hi
  obtain ⟨b, o, e, hb, h1, h2⟩ := h i (by omega)
  refine ⟨b, o, e, hb, ?_, ?_⟩
  · rw [h1, List.getD_eq_getElem?_getD, List.getD_eq_getElem?_getD, List.getElem?_take_of_lt (by omega)]
  · rw [h2, List.getD_eq_getElem?_getD, List.getD_eq_getElem?_getD, List.getElem?_take_of_lt (by omega)]
theorem Seg.drop {w : World} {g o : Nat} {l : List Cl} (h : Seg w (some ⟨g, o, none⟩) l) (k : Nat) : Seg w (some ⟨g, o + k * 2, none⟩) (l.drop k) := by
  intro i hi
  rw [List.length_drop] at hi
  obtain ⟨b, o', e, hb, h1, h2⟩ := h (k + i) (by omega)
  simp only [Option.some.injEq, Addr.mk.injEq, and_true] at e
  obtain ⟨rfl, rfl⟩ := e
  refine ⟨g, o + k * 2, rfl, hb, ?_, ?_⟩
  · rw [show o + k * 2 + i * 2 = o + (k + i) * 2 by omega, h1, List.getD_eq_getElem?_getD, List.getD_eq_getElem?_getD, List.getElem?_drop]
  · rw [show o + k * 2 + i * 2 + 1 = o + (k + i) * 2 + 1 by omega, h2, List.getD_eq_getElem?_getD, List.getD_eq_getElem?_getD, List.getElem?_drop]

/-- l' is l with c, each once, in order. -/
def With (l : List Cl) (c : Cl) (l' : List Cl) : Prop := risTo l' l'.length = true ∧ (∀ d, d ∈ l' ↔ d = c ∨ d ∈ l) ∧ l'.length ≤ l.length + 1

theorem ris_of {l : List Cl} (h : ∀ i, i + 1 < l.length → ltC (at_ l i) (at_ l (i + 1)) = true) : risTo l l.length = true := by
  simp only [risTo, List.all_eq_true, List.mem_range]
  intro i hi
  by_cases h0 : i = 0
  · simp [h0]
  · have := h (i - 1) (by omega)
    rw [show i - 1 + 1 = i by omega] at this
    simp [this]
theorem ltC_irr2 {a b : Cl} (h : ltC a b = true) : ltC b a = false := by
  obtain ⟨x, y⟩ := a
  obtain ⟨u, v⟩ := b
  simp [ltC] at h ⊢
  omega
theorem ltC_total {a b : Cl} (h1 : ltC a b = false) (h2 : a ≠ b) : ltC b a = true := by
  obtain ⟨x, y⟩ := a
  obtain ⟨u, v⟩ := b
  simp [ltC] at h1 h2 ⊢
  omega
theorem with_same {l : List Cl} {c : Cl} (hr : risTo l l.length = true) (hm : c ∈ l) : With l c l :=
  ⟨hr, fun d => ⟨fun h => .inr h, fun h => h.elim (fun e => by rw [e]; exact hm) id⟩, by omega⟩
theorem with_new {l : List Cl} {c : Cl} {k : Nat} (hr : risTo l l.length = true) (hk : k ≤ l.length) (h1 : ∀ i, i < k → ltC (at_ l i) c = true) (h2 : k < l.length → ltC (at_ l k) c = false ∧ at_ l k ≠ c) : With l c (l.take k ++ [c] ++ l.drop k) := by
  refine ⟨?_, ?_, ?_⟩
  · have hlen : (l.take k ++ [c] ++ l.drop k).length = l.length + 1 := by simp; omega
    have hat : ∀ i, i < l.length + 1 → at_ (l.take k ++ [c] ++ l.drop k) i = if i < k then at_ l i else if i = k then c else at_ l (i - 1) := by
      intro i hi
      unfold at_
      simp only [List.getD_eq_getElem?_getD]
      by_cases a : i < k
      · rw [if_pos a, List.append_assoc, List.getElem?_append_left (by simp; omega), List.getElem?_take_of_lt a]
      · rw [if_neg a]
        by_cases b : i = k
        · subst b
          rw [if_pos rfl, List.append_assoc, List.getElem?_append_right (by simp; omega)]
          simp [List.length_take, Nat.min_eq_left hk]
        · rw [if_neg b, List.getElem?_append_right (by simp; omega), List.getElem?_drop]
          congr 2
          simp [List.length_take, Nat.min_eq_left hk]
          omega
    refine ris_of fun i hi => ?_
    rw [hlen] at hi
    rw [hat i (by omega), hat (i + 1) hi]
    by_cases a : i + 1 < k
    · rw [if_pos (by omega), if_pos a]; exact ris_next hr (by omega)
    · rw [if_neg a]
      by_cases b : i + 1 = k
      · rw [if_pos (by omega), if_pos b]; exact h1 i (by omega)
      · rw [if_neg b, if_neg (by omega)]
        by_cases e : i = k
        · rw [if_pos e, show i + 1 - 1 = i by omega, e]
          obtain ⟨q1, q2⟩ := h2 (by omega)
          exact ltC_total q1 q2
        · rw [if_neg e]
          have := ris_next hr (i := i - 1) (by omega)
          rw [show i - 1 + 1 = i by omega] at this
          rw [show i + 1 - 1 = i by omega]; exact this
  · intro d
    simp only [List.mem_append, List.mem_singleton]
    constructor
    · rintro ((h | h) | h)
      · exact .inr (List.mem_of_mem_take h)
      · exact .inl h
      · exact .inr (List.mem_of_mem_drop h)
    · rintro (h | h)
      · exact .inl (.inr h)
      · have := List.take_append_drop k l
        rw [← this, List.mem_append] at h
        rcases h with h | h
        · exact .inl (.inl h)
        · exact .inr h
  · simp; omega

theorem tail_ne {w z : World} {c : Cl} (h : BoxIn w z c) : some w.heap.size ≠ (Value.slice (some ⟨z.heap.size, 0, none⟩) 0 0).ownBlock := by
  have := h.2.2.1
  simp [Value.ownBlock]; omega

/-- Appending nothing, whatever the address. -/
theorem wpList_app0 {w : World} {ops : Array Oper} {rest : List Oper} {o : Oper} {a : Act} {Q : Exit → Act → World → Prop} (hgd : o.guard = none) (s x : Operand)
    (ho : o.op = .call { callee := .builtin .append, args := #[s, x], argTypes := #[26, 26] })
    (base : Nat) (v : Value) (l : List Cl) (hs : a.eval s = v) (hown : OwnS w base v l) (hx : ∃ ad n k, a.eval x = .slice ad n k ∧ n = 0 ∧ (ad = none → k = 0)) (hlen : l.length ≤ 4194304) (hbase : base ≤ w.heap.size)
    (h : ∀ v' w', OwnS w' base v' l → w.grownBy w' v.ownBlock → wpList Try.prog ops Q rest (a.put o.dst v') w') : wpList Try.prog ops Q (o :: rest) a w := by
  obtain ⟨ad, n, k, h1, h2, h3⟩ := hx
  subst h2
  exact wpList_app' hgd s x ho base v l [] ad 0 k hs hown h1 rfl (fun i hi => absurd hi (Nat.not_lt_zero _)) h3 (by simpa using hlen) hbase (by simpa using h)

set_option maxHeartbeats 1000000 in
theorem c_l1Add_some (g o ca : Nat) (l : List Cl) (c : Cl) (w : World) (ha : Seg w (some ⟨g, o, none⟩) l) (hl : l.length ≤ 1048576) (hca : l.length ≤ ca) (hcm : ca ≤ maxLen) (hr : risTo l l.length = true) :
    Calls Try.prog 137 #[.slice (some ⟨g, o, none⟩) l.length ca, .agg #[.int .i64 c.1, .int .i64 c.2]] w fun e w' => ∃ v l', e = .returned v ∧ SL w' v l' ∧ With l c l' ∧ Below w.heap.size w w' ∧ (OwnS w' w.heap.size v l' ∨ (v = .slice (some ⟨g, o, none⟩) l.length ca ∧ l' = l)) := by
  have HR := hid hr
  have hcm' : ca ≤ 9223372036854775807 := by unfold maxLen at hcm; omega
  clear hr
  go_enter Try.func137, Try.ntmps137
  go_wp2
  go_loopw [5] (fun i wr => ∃ k : Nat, k ≤ l.length ∧ i = .int .i64 k ∧ Hid (∀ i, i < k → ltC (at_ l i) c = true) ∧ BoxIn w wr c) (fun i _ => l.length - (intOf i).toNat)
  case atStart => exact ⟨0, Nat.zero_le _, rfl, (fun i hi => absurd hi (Nat.not_lt_zero _)), BoxIn.new w c _⟩
  case round =>
    obtain ⟨k, hk, rfl, hT, hX⟩ := hrel
    have HX := hid hX
    have g3 := fun x : Gr wr => x.cell HX.out.1 HX.out.2.2.1
    have g4 := fun x : Gr wr => x.cell HX.out.2.1 HX.out.2.2.1
    have hne := Gr.ne wr
    clear hX
    by_cases hlt : k < l.length
    · obtain ⟨b1, o1, e1, hb1, p1, p2⟩ := ha k hlt
      simp only [Option.some.injEq, Addr.mk.injEq, and_true] at e1
      obtain ⟨rfl, rfl⟩ := e1
      have hbx : g < wr.heap.size := Nat.lt_of_lt_of_le hb1 HX.out.below.size
      have g1 := fun x : Gr wr => x.cell ((HX.out.below.cell (p := ⟨g, o + k * 2, none⟩) hb1).trans p1) hbx
      have g2 := fun x : Gr wr => x.cell ((HX.out.below.cell (p := ⟨g, o + k * 2 + 1, none⟩) hb1).trans p2) hbx
      change ∀ x : Gr wr, _ = some (Value.int .i64 (at_ l k).1) at g1
      change ∀ x : Gr wr, _ = some (Value.int .i64 (at_ l k).2) at g2
      clear p1 p2
      have k0 : (0 : Int) ≤ (k : Int) := by omega
      have k1 : (k : Int) < (l.length : Int) := by omega
      have HN := hid (show ltC (at_ l k) c = true → ∀ i, i < k + 1 → ltC (at_ l i) c = true from fun hn t ht => by
        by_cases e : t = k
        · rw [e]; exact hn
        · exact hT.out t (by omega))
      have HM := hid (fun e : at_ l k = c => with_same HR.out (mem_at.2 ⟨k, hlt, e⟩))
      have HW := hid (fun (h1 : ltC (at_ l k) c = false) (h2 : at_ l k ≠ c) => with_new HR.out hk hT.out (fun _ => ⟨h1, h2⟩))
      generalize at_ l k = x at *
      cases hin : ltC x c
      · go_wp2
        refine wp_region_gr (by kernel_rfl) (by kernel_rfl) ?_
        repeat (go_big_quiet_step (first | (go_at_call 132; exact Calls.gr _ (c_l1Less' x c false hin _))))
        refine wpQuiet_nil ?_
        rintro _ ⟨q, rfl⟩
        have HQ := hid (HX.out.step q.below)
        have g1' := g1 q
        have g2' := g2 q
        have g3' := g3 q
        have g4' := g4 q
        have hbq : g < q.val.heap.size := Nat.lt_of_lt_of_le hbx q.below.size
        clear g1 g2 g3 g4 hne
        have n1 := fun z : Gr q.val => z.cell g1' hbq
        have n2 := fun z : Gr q.val => z.cell g2' hbq
        have n3 := fun z : Gr q.val => z.cell g3' HQ.out.2.2.1
        have n4 := fun z : Gr q.val => z.cell g4' HQ.out.2.2.1
        have hne := Gr.ne q.val
        by_cases h1 : x.1 = c.1
        · by_cases h2 : x.2 = c.2
          · have HW' := hid (HM.out (Prod.ext h1 h2))
            go_wp2
            refine wp_region_gr (by kernel_rfl) (by kernel_rfl) ?_
            repeat (go_big_quiet_step (fail))
            refine wpQuiet_nil ?_
            rintro _ ⟨z, rfl⟩
            have HZ := hid (HQ.out.step z.below)
            clear n1 n2 n3 n4 hne g1' g2' g3' g4'
            go_wp2
            go_ret
            exact ⟨_, l, rfl, .inr ⟨g, o, ca, rfl, hca, hcm, ha.below HZ.out.below⟩, HW'.out, HZ.out.below, .inr ⟨rfl, rfl⟩⟩
          · have HW' := hid (HW.out hin (fun e => h2 (by rw [e])))
            go_wp2
            refine wp_region_gr (by kernel_rfl) (by kernel_rfl) ?_
            repeat (go_big_quiet_step (fail))
            refine wpQuiet_nil ?_
            rintro _ ⟨z, rfl⟩
            have HZ := hid (HQ.out.step z.below)
            clear n1 n2 n3 n4 hne g1' g2' g3' g4' h1 h2
            have HB6 := hid (HZ.out.below.alloc HZ.out.below.size (.cells #[] 39))
            have HO6 := hid ((slice_empty_build z.val).mono HZ.out.below.size)
            have HX6 := hid (HZ.out.step ((Below.refl z.val.heap.size z.val).alloc (Nat.le_refl _) (.cells #[] 39)))
            have HS6 := hid ((ha.take k).below HX6.out.below)
            have kk0 : (0 : Int) ≤ (k : Int) := by omega
            have kk1 : (k : Int) ≤ (l.length : Int) := by omega
            have kk2 : (k : Int) ≤ (ca : Int) := by omega
            have kk3 : (l.length : Int) ≤ (ca : Int) := by omega
            go_wp2_with (first | (at_builtin; refine wpList_app' rfl (.tmp 34) (.tmp 37) rfl w.heap.size _ [] (l.take k) (some ⟨g, o, none⟩) k ca rfl HO6.out rfl (by rw [List.length_take]; omega) HS6.out (by intro h; cases h) (by simp; omega) HB6.out.size ?_; intro v6 w6 hO6 hG6; have HB7 := hid (below_grown HB6.out HO6.out hG6); have y0 := hG6.cell HX6.out.1 (tail_ne HZ.out); have y1 := hG6.cell HX6.out.2.1 (tail_ne HZ.out); have HO7 := hid hO6; clear hO6 hG6) | (at_builtin; refine wpList_app' rfl (.tmp 39) (.tmp 41) rfl w.heap.size v6 ([] ++ l.take k) [c] (some ⟨w6.heap.size, 0, none⟩) 1 1 rfl (HO7.out.below ((Below.refl w6.heap.size w6).alloc (Nat.le_refl _) (.cells #[.int .i64 c.1, .int .i64 c.2] 39))) rfl rfl (seg_block (heap_alloc_new w6 _)) (by intro h; cases h) (by simp; omega) (HB7.out.alloc HB7.out.size _).size ?_; intro v7 w7 hO7 hG7; have HB8 := hid (below_grown (HB7.out.alloc HB7.out.size _) (HO7.out.below ((Below.refl w6.heap.size w6).alloc (Nat.le_refl _) (.cells #[.int .i64 c.1, .int .i64 c.2] 39))) hG7); have HO8 := hid hO7; clear hO7 hG7) | (at_builtin; refine wpList_app' rfl (.tmp 43) (.tmp 46) rfl w.heap.size v7 ([] ++ l.take k ++ [c]) (l.drop k) (some ⟨g, o + k * 2, none⟩) (l.length - k) (ca - k) rfl HO8.out rfl (by simp) ((ha.drop k).below HB8.out) (by intro h; cases h) (by simp; omega) HB8.out.size ?_; intro v8 w8 hO9 hG9))
            go_ret
            exact ⟨_, _, rfl, hO9.sl, by simpa using HW'.out, below_grown HB8.out HO8.out hG9, .inl hO9⟩
        · have HW' := hid (HW.out hin (fun e => h1 (by rw [e])))
          go_wp2
          refine wp_region_gr (by kernel_rfl) (by kernel_rfl) ?_
          repeat (go_big_quiet_step (fail))
          refine wpQuiet_nil ?_
          rintro _ ⟨z, rfl⟩
          have HZ := hid (HQ.out.step z.below)
          clear n1 n2 n3 n4 hne g1' g2' g3' g4' h1
          have HB6 := hid (HZ.out.below.alloc HZ.out.below.size (.cells #[] 39))
          have HO6 := hid ((slice_empty_build z.val).mono HZ.out.below.size)
          have HX6 := hid (HZ.out.step ((Below.refl z.val.heap.size z.val).alloc (Nat.le_refl _) (.cells #[] 39)))
          have HS6 := hid ((ha.take k).below HX6.out.below)
          have kk0 : (0 : Int) ≤ (k : Int) := by omega
          have kk1 : (k : Int) ≤ (l.length : Int) := by omega
          have kk2 : (k : Int) ≤ (ca : Int) := by omega
          have kk3 : (l.length : Int) ≤ (ca : Int) := by omega
          go_wp2_with (first | (at_builtin; refine wpList_app' rfl (.tmp 34) (.tmp 37) rfl w.heap.size _ [] (l.take k) (some ⟨g, o, none⟩) k ca rfl HO6.out rfl (by rw [List.length_take]; omega) HS6.out (by intro h; cases h) (by simp; omega) HB6.out.size ?_; intro v6 w6 hO6 hG6; have HB7 := hid (below_grown HB6.out HO6.out hG6); have y0 := hG6.cell HX6.out.1 (tail_ne HZ.out); have y1 := hG6.cell HX6.out.2.1 (tail_ne HZ.out); have HO7 := hid hO6; clear hO6 hG6) | (at_builtin; refine wpList_app' rfl (.tmp 39) (.tmp 41) rfl w.heap.size v6 ([] ++ l.take k) [c] (some ⟨w6.heap.size, 0, none⟩) 1 1 rfl (HO7.out.below ((Below.refl w6.heap.size w6).alloc (Nat.le_refl _) (.cells #[.int .i64 c.1, .int .i64 c.2] 39))) rfl rfl (seg_block (heap_alloc_new w6 _)) (by intro h; cases h) (by simp; omega) (HB7.out.alloc HB7.out.size _).size ?_; intro v7 w7 hO7 hG7; have HB8 := hid (below_grown (HB7.out.alloc HB7.out.size _) (HO7.out.below ((Below.refl w6.heap.size w6).alloc (Nat.le_refl _) (.cells #[.int .i64 c.1, .int .i64 c.2] 39))) hG7); have HO8 := hid hO7; clear hO7 hG7) | (at_builtin; refine wpList_app' rfl (.tmp 43) (.tmp 46) rfl w.heap.size v7 ([] ++ l.take k ++ [c]) (l.drop k) (some ⟨g, o + k * 2, none⟩) (l.length - k) (ca - k) rfl HO8.out rfl (by simp) ((ha.drop k).below HB8.out) (by intro h; cases h) (by simp; omega) HB8.out.size ?_; intro v8 w8 hO9 hG9))
          go_ret
          exact ⟨_, _, rfl, hO9.sl, by simpa using HW'.out, below_grown HB8.out HO8.out hG9, .inl hO9⟩
      · go_wp2
        refine wp_region_gr (by kernel_rfl) (by kernel_rfl) ?_
        repeat (go_big_quiet_step (first | (go_at_call 132; exact Calls.gr _ (c_l1Less' x c true hin _))))
        refine wpQuiet_nil ?_
        rintro _ ⟨q, rfl⟩
        have HQ := hid (HX.out.step q.below)
        clear g1 g2 g3 g4
        go_wp2
        go_roundw
        case rel => exact ⟨k + 1, by omega, by go_num, HN.out hin, HQ.out⟩
        case measure => simp [intOf]; omega
    · have hkl : decide ((k : Int) < (l.length : Int)) = false := by simp; omega
      have HW' := hid (with_new HR.out hk hT.out (fun h => absurd h hlt))
      go_wp2
      refine wp_region_gr (by kernel_rfl) (by kernel_rfl) ?_
      repeat (go_big_quiet_step (fail))
      refine wpQuiet_nil ?_
      rintro _ ⟨q, rfl⟩
      have HQ := hid (HX.out.step q.below)
      clear g3 g4 hne
      have hne := Gr.ne q.val
      go_wp2
      refine wp_region_gr (by kernel_rfl) (by kernel_rfl) ?_
      repeat (go_big_quiet_step (fail))
      refine wpQuiet_nil ?_
      rintro _ ⟨z, rfl⟩
      have HZ := hid (HQ.out.step z.below)
      have hle : l.length ≤ k := by omega
      have HWW : Hid (With l c ([] ++ l.take k ++ [c])) := hid (by have := HW'.out; rw [List.drop_eq_nil_of_le hle, List.append_nil] at this; exact this)
      clear hne hkl hlt
      have HB6 := hid (HZ.out.below.alloc HZ.out.below.size (.cells #[] 39))
      have HO6 := hid ((slice_empty_build z.val).mono HZ.out.below.size)
      have HX6 := hid (HZ.out.step ((Below.refl z.val.heap.size z.val).alloc (Nat.le_refl _) (.cells #[] 39)))
      have HS6 := hid ((ha.take k).below HX6.out.below)
      have kk0 : (0 : Int) ≤ (k : Int) := by omega
      have kk1 : (k : Int) ≤ (l.length : Int) := by omega
      have kk2 : (k : Int) ≤ (ca : Int) := by omega
      have kk3 : (l.length : Int) ≤ (ca : Int) := by omega
      go_wp2_with (first | (at_builtin; refine wpList_app' rfl (.tmp 34) (.tmp 37) rfl w.heap.size _ [] (l.take k) (some ⟨g, o, none⟩) k ca rfl HO6.out rfl (by rw [List.length_take]; omega) HS6.out (by intro h; cases h) (by simp; omega) HB6.out.size ?_; intro v6 w6 hO6 hG6; have HB7 := hid (below_grown HB6.out HO6.out hG6); have y0 := hG6.cell HX6.out.1 (tail_ne HZ.out); have y1 := hG6.cell HX6.out.2.1 (tail_ne HZ.out); have HO7 := hid hO6; clear hO6 hG6) | (at_builtin; refine wpList_app' rfl (.tmp 39) (.tmp 41) rfl w.heap.size v6 ([] ++ l.take k) [c] (some ⟨w6.heap.size, 0, none⟩) 1 1 rfl (HO7.out.below ((Below.refl w6.heap.size w6).alloc (Nat.le_refl _) (.cells #[.int .i64 c.1, .int .i64 c.2] 39))) rfl rfl (seg_block (heap_alloc_new w6 _)) (by intro h; cases h) (by simp; omega) (HB7.out.alloc HB7.out.size _).size ?_; intro v7 w7 hO7 hG7; have HB8 := hid (below_grown (HB7.out.alloc HB7.out.size _) (HO7.out.below ((Below.refl w6.heap.size w6).alloc (Nat.le_refl _) (.cells #[.int .i64 c.1, .int .i64 c.2] 39))) hG7); have HO8 := hid hO7; clear hO7 hG7) | (at_builtin; refine wpList_app0 rfl (.tmp 43) (.tmp 46) rfl w.heap.size v7 ([] ++ l.take k ++ [c]) rfl HO8.out ⟨_, _, _, rfl, by omega, by intro h; split at h <;> cases h⟩ (by simp; omega) HB8.out.size ?_; intro v8 w8 hO9 hG9))
      all_goals go_ret
      all_goals first
        | exact ⟨_, _, rfl, hO9.sl, HWW.out, below_grown HB8.out HO8.out hG9, .inl hO9⟩
        | exact ⟨_, rfl, _, hO9.sl, HWW.out, below_grown HB8.out HO8.out hG9, .inl hO9⟩

theorem one_with (c : Cl) : With [] c [c] := by
  refine ⟨rfl, fun d => by simp, by simp⟩

set_option maxHeartbeats 1000000 in
theorem c_l1Add_nil (c : Cl) (w : World) :
    Calls Try.prog 137 #[.slice none 0 0, .agg #[.int .i64 c.1, .int .i64 c.2]] w fun e w' => ∃ v l', e = .returned v ∧ SL w' v l' ∧ With [] c l' ∧ Below w.heap.size w w' ∧ OwnS w' w.heap.size v l' := by
  have HX := hid (BoxIn.new w c 39)
  go_enter Try.func137, Try.ntmps137
  go_wp2
  refine wp_loop_rounds 1 ?_
  rw [rounds_succ]
  go_wp2
  have hne := Gr.ne (w.alloc (.cells #[.int .i64 c.1, .int .i64 c.2] 39))
  refine wp_region_gr (by kernel_rfl) (by kernel_rfl) ?_
  repeat (go_big_quiet_step (fail))
  refine wpQuiet_nil ?_
  rintro _ ⟨q, rfl⟩
  have HQ := hid (HX.out.step q.below)
  clear hne
  have hne := Gr.ne q.val
  go_wp2
  refine wp_region_gr (by kernel_rfl) (by kernel_rfl) ?_
  repeat (go_big_quiet_step (fail))
  refine wpQuiet_nil ?_
  rintro _ ⟨z, rfl⟩
  have HZ := hid (HQ.out.step z.below)
  clear hne
  have HB6 := hid (HZ.out.below.alloc HZ.out.below.size (.cells #[] 39))
  have HO6 := hid ((slice_empty_build z.val).mono HZ.out.below.size)
  have HX6 := hid (HZ.out.step ((Below.refl z.val.heap.size z.val).alloc (Nat.le_refl _) (.cells #[] 39)))
  have HN : ∀ W : World, Hid (Seg W none []) := fun W i hi => by simp at hi
  go_wp2_with (first | (at_builtin; refine wpList_app' rfl (.tmp 34) (.tmp 37) rfl w.heap.size _ [] [] none 0 0 rfl HO6.out rfl rfl (HN _).out (fun _ => rfl) (by simp) HB6.out.size ?_; intro v6 w6 hO6 hG6; have HB7 := hid (below_grown HB6.out HO6.out hG6); have y0 := hG6.cell HX6.out.1 (tail_ne HZ.out); have y1 := hG6.cell HX6.out.2.1 (tail_ne HZ.out); have HO7 := hid hO6; clear hO6 hG6) | (at_builtin; refine wpList_app' rfl (.tmp 39) (.tmp 41) rfl w.heap.size v6 ([] ++ []) [c] (some ⟨w6.heap.size, 0, none⟩) 1 1 rfl (HO7.out.below ((Below.refl w6.heap.size w6).alloc (Nat.le_refl _) (.cells #[.int .i64 c.1, .int .i64 c.2] 39))) rfl rfl (seg_block (heap_alloc_new w6 _)) (by intro h; cases h) (by simp) (HB7.out.alloc HB7.out.size _).size ?_; intro v7 w7 hO7 hG7; have HB8 := hid (below_grown (HB7.out.alloc HB7.out.size _) (HO7.out.below ((Below.refl w6.heap.size w6).alloc (Nat.le_refl _) (.cells #[.int .i64 c.1, .int .i64 c.2] 39))) hG7); have HO8 := hid hO7; clear hO7 hG7) | (at_builtin; refine wpList_app' rfl (.tmp 43) (.tmp 46) rfl w.heap.size v7 ([] ++ [] ++ [c]) [] none 0 0 rfl HO8.out rfl rfl (HN _).out (fun _ => rfl) (by simp) HB8.out.size ?_; intro v8 w8 hO9 hG9))
  go_ret
  exact ⟨_, _, rfl, hO9.sl, by simpa using one_with c, below_grown HB8.out HO8.out hG9, hO9⟩

/-- Putting a cell to its place, whatever the slice: what comes of it owns its memory, or is the slice itself. -/
theorem c_l1AddO (v : Value) (l : List Cl) (c : Cl) (w : World) (h : SL w v l) (hl : l.length ≤ 1048576) (hr : risTo l l.length = true) :
    Calls Try.prog 137 #[v, .agg #[.int .i64 c.1, .int .i64 c.2]] w fun e w' => ∃ v' l', e = .returned v' ∧ SL w' v' l' ∧ With l c l' ∧ Below w.heap.size w w' ∧ (OwnS w' w.heap.size v' l' ∨ (v' = v ∧ l' = l)) := by
  rcases h with ⟨rfl, rfl⟩ | ⟨g, o, ca, rfl, h1, h2, h3⟩
  · exact (c_l1Add_nil c w).mono fun e w' ⟨v', l', h1, h2, h3, h4, h5⟩ => ⟨v', l', h1, h2, h3, h4, .inl h5⟩
  · exact c_l1Add_some g o ca l c w h3 hl h1 h2 hr
theorem c_l1Add (v : Value) (l : List Cl) (c : Cl) (w : World) (h : SL w v l) (hl : l.length ≤ 1048576) (hr : risTo l l.length = true) :
    Calls Try.prog 137 #[v, .agg #[.int .i64 c.1, .int .i64 c.2]] w fun e w' => ∃ v l', e = .returned v ∧ SL w' v l' ∧ With l c l' ∧ Below w.heap.size w w' :=
  (c_l1AddO v l c w h hl hr).mono fun e w' ⟨v', l', h1, h2, h3, h4, _⟩ => ⟨v', l', h1, h2, h3, h4⟩

/-- Two lists in order with the same cells are one. -/
theorem ris_unique : ∀ {l m : List Cl}, risTo l l.length = true → risTo m m.length = true → (∀ c, c ∈ l ↔ c ∈ m) → l = m := by
  have key : ∀ {l : List Cl}, risTo l l.length = true → l.Pairwise (fun a b => ltC a b = true) := by
    intro l h
    rw [List.pairwise_iff_getElem]
    intro i j hi hj hij
    have := ris_lt h j hij hj
    simpa only [at_, List.getD_eq_getElem?_getD, List.getElem?_eq_getElem hi, List.getElem?_eq_getElem hj, Option.getD_some] using this
  intro l m hl hm h
  have hp : l.Perm m := (List.perm_ext_iff_of_nodup (ris_nodup hl) (ris_nodup hm)).2 h
  exact hp.eq_of_pairwise (fun a b _ _ h1 h2 => by rw [ltC_irr2 h1] at h2; cases h2) (key hl) (key hm)

end Go.Proofs.Ytmapbkefndbnnaa

namespace Go.Proofs.Ytmapbkefndbnnaa
open Go.RowKit
set_option linter.unusedVariables false

/-- The cells of l, each once, in order. -/
noncomputable def ordL (l : List Cl) : List Cl := open Classical in if h : ∃ l', risTo l' l'.length = true ∧ ∀ c, c ∈ l' ↔ c ∈ l then Classical.choose h else []
theorem ordL_eq {l l' : List Cl} (h1 : risTo l' l'.length = true) (h2 : ∀ c, c ∈ l' ↔ c ∈ l) : ordL l = l' := by
  unfold ordL
  have h : ∃ l', risTo l' l'.length = true ∧ ∀ c, c ∈ l' ↔ c ∈ l := ⟨l', h1, h2⟩
  rw [dif_pos h]
  exact ris_unique (Classical.choose_spec h).1 h1 (fun c => ((Classical.choose_spec h).2 c).trans (h2 c).symm)

set_option maxHeartbeats 1000000 in
theorem c_l1Sort (a : Option Addr) (l : List Cl) (ca : Nat) (w : World) (ha : Seg w a l) (hl : l.length ≤ 524288) :
    Calls Try.prog 93 #[.slice a l.length ca] w fun e w' => ∃ v l', e = .returned v ∧ OwnS w' w.heap.size v l' ∧ risTo l' l'.length = true ∧ (∀ c, c ∈ l' ↔ c ∈ l) ∧ l'.length ≤ l.length ∧ Below w.heap.size w w' := by
  go_enter Try.func93, Try.ntmps93
  go_wp2
  go_loopw [3, 8] (fun v i wr => ∃ (k : Nat) (m : List Cl), k ≤ l.length ∧ i = .int .i64 k ∧ OwnS wr w.heap.size v m ∧ risTo m m.length = true ∧ (∀ c, c ∈ m ↔ c ∈ l.take k) ∧ m.length ≤ k ∧ Below w.heap.size w wr) (fun _ i _ => l.length - (intOf i).toNat)
  case atStart => exact ⟨0, [], Nat.zero_le _, rfl, OwnS.nil _ _, rfl, fun c => by simp, by simp, Below.refl _ _⟩
  case round =>
    obtain ⟨k, m, hk, rfl, hSL, hris, hmem, hml, hbel⟩ := hrel
    have HR := hid hris
    have HM := hid hmem
    have HB := hid hbel
    have HSL := hid hSL
    clear hris hmem hSL
    by_cases hlt : k < l.length
    · obtain ⟨b1, o1, rfl, hb1, p1, p2⟩ := ha k hlt
      have g1 := (hbel.cell (p := ⟨b1, o1 + k * 2, none⟩) hb1).trans p1
      have g2 := (hbel.cell (p := ⟨b1, o1 + k * 2 + 1, none⟩) hb1).trans p2
      change _ = some (Value.int .i64 (at_ l k).1) at g1
      change _ = some (Value.int .i64 (at_ l k).2) at g2
      have HT := hid (take_snoc' hlt)
      generalize at_ l k = x at *
      clear p1 p2 hbel
      have q0 := cell_new0 wr (.int .i64 x.1) (.int .i64 x.2) 39
      have q1 := cell_new1 wr (.int .i64 x.1) (.int .i64 x.2) 39
      have HB1 := hid (HB.out.alloc HB.out.size (.cells #[.int .i64 x.1, .int .i64 x.2] 39))
      have HS1 := hid (HSL.out.below ((Below.refl wr.heap.size wr).alloc (Nat.le_refl _) (.cells #[.int .i64 x.1, .int .i64 x.2] 39)))
      go_wp2_with fail
      refine (c_l1AddO _ m x _ HS1.out.sl (by omega) HR.out).mono ?_
      rintro e w3 ⟨v3, m3, rfl, hS3, hW3, hb3, hO3⟩
      have HB3 := hid (HB1.out.trans (hb3.mono HB1.out.size))
      have HS3 : Hid (OwnS w3 w.heap.size v3 m3) := by
        rcases hO3 with h | ⟨rfl, rfl⟩
        · exact h.mono HB1.out.size
        · exact HS1.out.below hb3
      have HW3 := hid hW3
      clear hS3 hW3 hb3 hO3
      go_wp2
      go_roundw
      case rel => exact ⟨k + 1, m3, by omega, by go_num, HS3.out, HW3.out.1, fun c => by rw [HW3.out.2.1, HM.out, HT.out, List.mem_append, List.mem_singleton]; exact Or.comm, by have := HW3.out.2.2; omega, HB3.out⟩
      case measure => simp [intOf]; omega
    · clear hbel
      go_wp2
      go_ret
      have : k = l.length := by omega
      subst this
      exact ⟨_, m, rfl, HSL.out, HR.out, fun c => by rw [HM.out, List.take_length], hml, HB.out⟩

theorem SL.form {w : World} {v : Value} {l : List Cl} (h : SL w v l) : ∃ a ca, v = .slice a l.length ca ∧ Seg w a l ∧ (a = none → ca = 0) := by
  rcases h with ⟨rfl, rfl⟩ | ⟨g, o, ca, rfl, _, _, hs⟩
  · exact ⟨none, 0, rfl, fun i hi => by simp at hi, fun _ => rfl⟩
  · exact ⟨_, ca, rfl, hs, fun h => by cases h⟩

end Go.Proofs.Ytmapbkefndbnnaa

namespace Go.Proofs.Ytmapbkefndbnnaa
open Go.RowKit Go.Maps
set_option linter.unusedVariables false
set_option linter.unusedSimpArgs false
attribute [local go_sem ↓] Go.wp_at_zero Go.wp_at_succ

theorem ris_of_sorted {l : List Cl} (hs : Sorted l) (hn : l.Nodup) : risTo l l.length = true := by
  refine ris_of fun i hi => ?_
  have h1 := hs i (i + 1) (by omega) hi
  have hne : at_ l i ≠ at_ l (i + 1) := by
    intro e
    rw [List.nodup_iff_pairwise_ne, List.pairwise_iff_getElem] at hn
    have := hn i (i + 1) (by omega) hi (by omega)
    simp only [at_, List.getD_eq_getElem?_getD, List.getElem?_eq_getElem hi, List.getElem?_eq_getElem (show i < l.length by omega), Option.getD_some] at e
    exact this e
  exact ltC_total h1 (Ne.symm hne)

theorem cellsOfQ_len {F : List Qd} (hg : goodF F = true) {q : Nat} (hq : q < F.length) : (cellsOfQ F q).length ≤ 1024 := by
  have h1 := cellsL_len F (levN F q) q 0 0
  have h2 := lev_nonneg hg hq
  have h3 : levN F q ≤ 5 := by unfold levN; omega
  have h4 : 4 ^ levN F q ≤ 4 ^ 5 := Nat.pow_le_pow_right (by omega) h3
  unfold cellsOfQ
  omega
theorem pow_le_32 {n : Nat} (h : n ≤ 5) : (2 : Int) ^ n ≤ 32 := by
  rcases (show n = 0 ∨ n = 1 ∨ n = 2 ∨ n = 3 ∨ n = 4 ∨ n = 5 by omega) with rfl | rfl | rfl | rfl | rfl | rfl <;> decide
theorem pow4_le {n : Nat} (h : n ≤ 5) : (4 : Nat) ^ n ≤ 1024 := by
  rcases (show n = 0 ∨ n = 1 ∨ n = 2 ∨ n = 3 ∨ n = 4 ∨ n = 5 by omega) with rfl | rfl | rfl | rfl | rfl | rfl <;> decide
theorem levN_eq {F : List Qd} (hg : goodF F = true) {q : Int} (h0 : 0 ≤ q) (h1 : q < (F.length : Int)) : (qa F q.toNat).1 = (levN F q.toNat : Int) ∧ levN F q.toNat ≤ 5 := by
  have := lev_nonneg hg (q := q.toNat) (by omega)
  unfold levN
  omega

/-- All of a quad's cells, from the first corner on, put behind none. -/
theorem c_l3CellsAll {F : List Qd} (hg : goodF F = true) (a : Option Addr) (ca : Nat) (q : Int) (w : World) (ha : QSeg w a F) (h0 : 0 ≤ q) (h1 : q < (F.length : Int)) :
    Calls Try.prog 94 #[.agg #[.slice a F.length ca], .int .i64 q, .int .i64 0, .int .i64 0, .slice none 0 0] w fun e w' => ∃ v', e = .returned v' ∧ OwnS w' w.heap.size v' (cellsOfQ F q.toNat) ∧ Below w.heap.size w w' := by
  obtain ⟨e1, e2⟩ := levN_eq hg h0 h1
  have p1 := pow_le_32 e2
  have p2 := pow4_le e2
  refine (c_l3Cells hg a ca w ha (levN F q.toNat) q 0 0 (.slice none 0 0) [] w w.heap.size h0 h1 e1 (by omega) (by omega) (by omega) (by omega) (Below.refl _ _) (Nat.le_refl _) (Nat.le_refl _) (OwnS.nil _ _) (by simp; omega)).mono ?_
  rintro e w' ⟨v', he, hO, hG, _⟩
  exact ⟨v', he, by simpa [cellsOfQ] using hO, ⟨hG.os, hG.tape, hG.output, hG.size, fun k hk => hG.block k hk (by simp [Value.ownBlock])⟩⟩
theorem c_appendCellsAll {F : List Qd} (hg : goodF F = true) (q : Int) (w : World) {b0 p g cap mb : Nat} (hG : Grv w b0 p g cap mb F) (h0 : 0 ≤ q) (h1 : q < (F.length : Int)) :
    Calls Try.prog 133 #[.pointer (some ⟨p, 0, none⟩), .slice none 0 0, .int .i64 q, .agg #[.int .i64 0, .int .i64 0]] w fun e w' => ∃ v', e = .returned v' ∧ OwnS w' w.heap.size v' (cellsOfQ F q.toNat) ∧ Below w.heap.size w w' := by
  obtain ⟨e1, e2⟩ := levN_eq hg h0 h1
  have p1 := pow_le_32 e2
  have p2 := pow4_le e2
  refine (c_appendCells hg hG (levN F q.toNat) q 0 0 (.slice none 0 0) [] w w.heap.size h0 h1 e1 (by omega) (by omega) (by omega) (by omega) (Below.refl _ _) (Nat.le_refl _) (Nat.le_refl _) (OwnS.nil _ _) (by simp; omega)).mono ?_
  rintro e w' ⟨v', he, hO, hG, _⟩
  exact ⟨v', he, by simpa [cellsOfQ] using hO, ⟨hG.os, hG.tape, hG.output, hG.size, fun k hk => hG.block k hk (by simp [Value.ownBlock])⟩⟩

/-- Sorting cells that lie in memory of the call's own. -/
theorem c_sortAny (base : Nat) (v : Value) (l : List Cl) (w : World) (h : OwnS w base v l) (hl : l.length ≤ 4194304) (hn : l.Nodup) :
    Calls Try.prog 134 #[v, .func (.func 135) #[] #[]] w fun e w' =>
      e = .returned (.tuple #[]) ∧ OwnS w' base v (ordL l) ∧ w.grownBy w' v.ownBlock := by
  rcases h.2 with ⟨rfl, hz⟩ | ⟨g, cap, cur, rfl, _⟩
  · have hl0 : l = [] := List.eq_nil_of_length_eq_zero hz
    subst hl0
    refine (c_sortNil _ w).mono ?_
    rintro e w' ⟨rfl, rfl⟩
    have e0 : ordL ([] : List Cl) = [] := ordL_eq rfl (fun c => by simp)
    rw [e0]
    exact ⟨rfl, h, grown_refl _ _⟩
  · refine (c_sortOwn base g cap l w h hl).mono ?_
    rintro e w' ⟨rfl, l', hp, hs, hO, hG, hlen⟩
    have e0 : ordL l = l' := ordL_eq (ris_of_sorted hs (hp.nodup_iff.2 hn)) (fun c => hp.mem_iff)
    rw [e0]
    rw [hlen] at hO
    exact ⟨rfl, hO, hG⟩

set_option maxHeartbeats 1000000 in
theorem c_iCells {F : List Qd} (hg : goodF F = true) (q : Int) (w : World) {b0 p g cap mb : Nat} (hG : Grv w b0 p g cap mb F) (h0 : 0 ≤ q) (h1 : q < (F.length : Int)) :
    Calls Try.prog 89 #[.pointer (some ⟨p, 0, none⟩), .int .i64 q] w fun e w' => ∃ v', e = .returned v' ∧ OwnS w' w.heap.size v' (ordL (cellsOfQ F q.toNat)) ∧ Below w.heap.size w w' := by
  have HC := hid (c_appendCellsAll hg q w hG h0 h1)
  have hln := cellsOfQ_len hg (q := q.toNat) (by omega)
  have HND := hid (show (cellsOfQ F q.toNat).Nodup from cellsL_nodup _ _ _ _ _)
  clear hG
  go_enter Try.func89, Try.ntmps89
  go_wp2_with fail
  refine HC.out.mono ?_
  rintro e w1 ⟨v1, rfl, hO, hB⟩
  have HB := hid hB
  have HO := hid hO
  clear HC hO hB
  go_wp2_with fail
  refine (c_sortAny w.heap.size v1 _ w1 HO.out (by omega) HND.out).mono ?_
  rintro e w2 ⟨rfl, hO2, hG2⟩
  have HO2 := hid hO2
  have HB2 := hid (HB.out.grown hG2 HB.out.size fun k hk => (HO.out.lt k hk).1)
  clear hO2 hG2
  go_wp2_with fail
  go_ret
  exact ⟨_, rfl, HO2.out, HB2.out⟩

/-- The cells that CellsIn tells. -/
noncomputable def cinV (F : List Qd) (q : Int) : List Cl := if thereB F q then ordL (cellsOfQ F q.toNat) else []
/-- The number that CountOf tells. -/
def cntV (F : List Qd) (q : Int) : Int := if thereB F q then ((cellsOfQ F q.toNat).length : Int) else 0
theorem ordL_facts {l : List Cl} (h : ∃ l', risTo l' l'.length = true ∧ ∀ c, c ∈ l' ↔ c ∈ l) : risTo (ordL l) (ordL l).length = true ∧ ∀ c, c ∈ ordL l ↔ c ∈ l := by
  obtain ⟨l', h1, h2⟩ := h
  rw [ordL_eq h1 h2]
  exact ⟨h1, h2⟩

set_option maxHeartbeats 1000000 in
theorem c_sCellsIn (a : Option Addr) (F : List Qd) (ca : Nat) (q : Int) (w : World) (ha : QSeg w a F) (hl : F.length ≤ 1048576) (hk : KidsLe F) (hca : F.length ≤ ca) (hcm : ca ≤ 9223372036854775807) :
    Calls Try.prog 29 #[.agg #[.slice a F.length ca], .int .i64 q] w fun e w' => ∃ v, e = .returned (.tuple #[v, .bool (thereB F q)]) ∧ OwnS w' w.heap.size v (cinV F q) ∧ Below w.heap.size w w' := by
  have BX := hid (Box1.new w (.slice a F.length ca) 25)
  cases ht : thereB F q
  · have HC := hid (c_l3There' a F ca q false ht _ (ha.below BX.out.2.2) hl hk hca hcm)
    have HV : Hid (cinV F q = []) := by simp [Hid, cinV, ht]
    clear ha ht
    go_enter Try.func29, Try.ntmps29
    go_wp2_with fail
    refine HC.out.mono ?_
    rintro e w1 ⟨rfl, hb⟩
    clear HC
    go_wp2
    go_ret2
    exact ⟨_, rfl, by rw [HV.out]; exact OwnS.nil _ _, (BX.out.step hb).2.2⟩
  · have HC := hid (c_l3There' a F ca q true ht _ (ha.below BX.out.2.2) hl hk hca hcm)
    have HV : Hid (cinV F q = ordL (cellsOfQ F q.toNat)) := by simp [Hid, cinV, ht]
    obtain ⟨hg, h0, h1⟩ := there_bd ht
    have hln := cellsOfQ_len hg (q := q.toNat) (by omega)
    have HA := hid ha
    clear ha ht
    go_enter Try.func29, Try.ntmps29
    go_wp2_with fail
    refine HC.out.mono ?_
    rintro e w1 ⟨rfl, hb⟩
    have X1 := hid (BX.out.step hb)
    have x := X1.out.1
    clear HC BX hb
    go_wp2_with fail
    refine (c_l3CellsAll hg a ca q w1 (HA.out.below X1.out.2.2) h0 h1).mono ?_
    rintro e w2 ⟨v2, rfl, hO, hB⟩
    obtain ⟨a2, ca2, rfl, hS⟩ := hO.form
    have HS := hid hS
    have HB := hid (X1.out.2.2.trans (hB.mono X1.out.2.2.size))
    clear hO hB hS x
    go_wp2_with fail
    refine (c_l1Sort a2 _ ca2 w2 HS.out (by omega)).mono ?_
    rintro e w3 ⟨v3, l3, rfl, hO3, hr, hm, _, hB3⟩
    have HO3 := hid hO3
    have HB3 := hid (HB.out.trans (hB3.mono HB.out.size))
    have HE := hid (ordL_eq hr hm)
    have HSZ := hid HB.out.size
    clear hO3 hr hm hB3
    go_wp2_with fail
    go_ret2
    exact ⟨_, rfl, by rw [HV.out, HE.out]; exact HO3.out.mono HSZ.out, HB3.out⟩

set_option maxHeartbeats 1000000 in
theorem c_sCountOf (a : Option Addr) (F : List Qd) (ca : Nat) (q : Int) (w : World) (ha : QSeg w a F) (hl : F.length ≤ 1048576) (hk : KidsLe F) (hca : F.length ≤ ca) (hcm : ca ≤ 9223372036854775807) :
    Calls Try.prog 39 #[.agg #[.slice a F.length ca], .int .i64 q] w fun e w' => e = .returned (.tuple #[.int .i64 (cntV F q), .bool (thereB F q)]) ∧ Below w.heap.size w w' := by
  have BX := hid (Box1.new w (.slice a F.length ca) 25)
  cases ht : thereB F q
  · have HC := hid (c_l3There' a F ca q false ht _ (ha.below BX.out.2.2) hl hk hca hcm)
    have HV : Hid (cntV F q = 0) := by simp [Hid, cntV, ht]
    clear ha ht
    go_enter Try.func39, Try.ntmps39
    go_wp2_with fail
    refine HC.out.mono ?_
    rintro e w1 ⟨rfl, hb⟩
    clear HC
    go_wp2
    go_ret2
    exact ⟨by rw [HV.out]; rfl, (BX.out.step hb).2.2⟩
  · have HC := hid (c_l3There' a F ca q true ht _ (ha.below BX.out.2.2) hl hk hca hcm)
    have HV : Hid (cntV F q = ((cellsOfQ F q.toNat).length : Int)) := by simp [Hid, cntV, ht]
    obtain ⟨hg, h0, h1⟩ := there_bd ht
    have HA := hid ha
    clear ha ht
    go_enter Try.func39, Try.ntmps39
    go_wp2_with fail
    refine HC.out.mono ?_
    rintro e w1 ⟨rfl, hb⟩
    have X1 := hid (BX.out.step hb)
    have x := X1.out.1
    clear HC BX hb
    go_wp2_with fail
    refine (c_l3CellsAll hg a ca q w1 (HA.out.below X1.out.2.2) h0 h1).mono ?_
    rintro e w2 ⟨v2, rfl, hO, hB⟩
    obtain ⟨a2, ca2, rfl, hS⟩ := hO.form
    have HB := hid (X1.out.2.2.trans (hB.mono X1.out.2.2.size))
    clear hO hB hS x
    go_wp2_with fail
    go_ret2
    exact ⟨by rw [HV.out]; rfl, HB.out⟩

set_option maxHeartbeats 1000000 in
theorem c_iCellsIn (a : Option Addr) (F : List Qd) (ca : Nat) (q : Int) (w : World) (ha : QSeg w a F) (hl : F.length ≤ 1048576) (hk : KidsLe F) (hca : F.length ≤ ca) (hcm : ca ≤ 9223372036854775807) :
    Calls Try.prog 21 #[.agg #[.slice a F.length ca], .int .i64 q] w fun e w' => ∃ v, e = .returned (.tuple #[v, .bool (thereB F q)]) ∧ OwnS w' w.heap.size v (cinV F q) ∧ Below w.heap.size w w' := by
  have BX := hid (Box1.new w (.slice a F.length ca) 25)
  have HC := hid (c_groveOf a F ca _ (ha.below BX.out.2.2) hl hk hca hcm)
  clear ha
  cases hg : goodF F
  · have HT : Hid (thereB F q = false) := by simp [Hid, thereB, hg]
    have HV : Hid (cinV F q = []) := by simp [Hid, cinV, HT.out]
    rw [hg] at HC
    go_enter Try.func21, Try.ntmps21
    go_wp2_with fail
    refine HC.out.mono ?_
    rintro e w1 ⟨pv, rfl, ho, hb⟩
    clear HC ho
    go_wp2
    go_ret2
    exact ⟨_, by rw [HT.out]; rfl, by rw [HV.out]; exact OwnS.nil _ _, (BX.out.step hb).2.2⟩
  · rw [hg] at HC
    have HG := hid hg
    go_enter Try.func21, Try.ntmps21
    go_wp2_with fail
    refine HC.out.mono ?_
    rintro e w1 ⟨pv, rfl, ho, hb⟩
    have X1 := hid (BX.out.step hb)
    clear HC hb BX
    rcases ho with ⟨_, p, g, cap, mb, base, _, rfl, hGr⟩ | ⟨e, _⟩
    · have H1 := hid hGr
      cases hin : inB 0 ((F.length : Int) - 1) q
      · have HT : Hid (thereB F q = false) := by simp [Hid, thereB, hin]
        have HV : Hid (cinV F q = []) := by simp [Hid, cinV, HT.out]
        have HH := hid (c_has' q false w1 hin H1.out)
        clear hGr hin hg
        go_wp2_with fail
        refine HH.out.mono ?_
        rintro e w2 ⟨rfl, hb⟩
        go_wp2
        go_ret2
        exact ⟨_, by rw [HT.out]; rfl, by rw [HV.out]; exact OwnS.nil _ _, (X1.out.step hb).2.2⟩
      · have HT : Hid (thereB F q = true) := by simp [Hid, thereB, hin, hg]
        have HV : Hid (cinV F q = ordL (cellsOfQ F q.toNat)) := by simp [Hid, cinV, HT.out]
        have HH := hid (c_has' q true w1 hin H1.out)
        have hbd := inB_bd hin
        clear hGr hin hg
        go_wp2_with fail
        refine HH.out.mono ?_
        rintro e w2 ⟨rfl, hb⟩
        have H2 := hid (H1.out.below hb)
        have X2 := hid (X1.out.step hb)
        clear HH H1 X1 hb
        go_wp2_with fail
        refine (c_iCells HG.out q w2 H2.out (by omega) (by omega)).mono ?_
        rintro e w3 ⟨v3, rfl, hO3, hB3⟩
        have HO3 := hid hO3
        have X3 := hid (X2.out.step hB3)
        have HSZ := hid X2.out.2.2.size
        clear hO3 hB3
        go_wp2_with fail
        go_ret2
        exact ⟨_, by rw [HT.out]; rfl, by rw [HV.out]; exact HO3.out.mono HSZ.out, X3.out.2.2⟩
    · rw [HG.out] at e; cases e

theorem first_no (p : Nat → Bool) : ∀ n, ∃ k, k ≤ n ∧ (∀ i, i < k → p i = true) ∧ (k < n → p k = false)
  | 0 => ⟨0, Nat.le_refl _, fun i hi => by omega, fun h => by omega⟩
  | n + 1 => by
    obtain ⟨k, h1, h2, h3⟩ := first_no p n
    by_cases h : k < n
    · exact ⟨k, by omega, h2, fun _ => h3 h⟩
    · obtain rfl : k = n := by omega
      cases hp : p k
      · exact ⟨k, by omega, h2, fun _ => hp⟩
      · refine ⟨k + 1, by omega, fun i hi => ?_, fun h => by omega⟩
        by_cases e : i = k
        · rw [e]; exact hp
        · exact h2 i (by omega)
theorem ord_exists : ∀ l : List Cl, ∃ l' : List Cl, risTo l' l'.length = true ∧ ∀ c, c ∈ l' ↔ c ∈ l
  | [] => ⟨[], rfl, fun c => by simp⟩
  | x :: r => by
    obtain ⟨m, h1, h2⟩ := ord_exists r
    by_cases hx : x ∈ m
    · refine ⟨m, h1, fun c => ?_⟩
      rw [h2 c, List.mem_cons]
      constructor
      · exact .inr
      · rintro (rfl | h)
        · exact (h2 _).1 hx
        · exact h
    · obtain ⟨k, k1, k2, k3⟩ := first_no (fun i => ltC (at_ m i) x) m.length
      have hw := with_new (c := x) h1 k1 k2 (fun h => ⟨k3 h, fun e => hx (by rw [← e]; simp [at_, h])⟩)
      exact ⟨_, hw.1, fun c => by rw [hw.2.1 c, h2 c, List.mem_cons]⟩
theorem ordL_len {l : List Cl} (hn : l.Nodup) : (ordL l).length = l.length := by
  obtain ⟨h1, h2⟩ := ordL_facts (ord_exists l)
  exact ((List.perm_ext_iff_of_nodup (ris_nodup h1) hn).2 h2).length_eq
theorem cin_len (F : List Qd) (q : Int) : ((cinV F q).length : Int) = cntV F q := by
  cases ht : thereB F q
  · simp [cinV, cntV, ht]
  · simp only [cinV, cntV, ht, if_true]
    rw [ordL_len (l := cellsOfQ F q.toNat) (cellsL_nodup _ _ _ _ _)]

set_option maxHeartbeats 1000000 in
theorem c_iCountOf (a : Option Addr) (F : List Qd) (ca : Nat) (q : Int) (w : World) (ha : QSeg w a F) (hl : F.length ≤ 1048576) (hk : KidsLe F) (hca : F.length ≤ ca) (hcm : ca ≤ 9223372036854775807) :
    Calls Try.prog 22 #[.agg #[.slice a F.length ca], .int .i64 q] w fun e w' => e = .returned (.tuple #[.int .i64 (cntV F q), .bool (thereB F q)]) ∧ Below w.heap.size w w' := by
  have BX := hid (Box1.new w (.slice a F.length ca) 25)
  have HC := hid (c_iCellsIn a F ca q _ (ha.below BX.out.2.2) hl hk hca hcm)
  have HN := hid (cin_len F q)
  clear ha
  generalize thereB F q = tb at *
  go_enter Try.func22, Try.ntmps22
  go_wp2_with fail
  refine HC.out.mono ?_
  rintro e w1 ⟨v1, rfl, hO, hb⟩
  obtain ⟨a1, ca1, rfl, _⟩ := hO.form
  clear HC hO
  go_wp2_with fail
  go_ret2
  exact ⟨by rw [← HN.out]; rfl, (BX.out.step hb).2.2⟩

theorem cinV_le (F : List Qd) (q : Int) : (cinV F q).length ≤ 1048576 := by
  have h := cin_len F q
  cases ht : thereB F q
  · simp [cinV, ht]
  · obtain ⟨hg, h0, h1⟩ := there_bd ht
    have h2 := cellsOfQ_len hg (q := q.toNat) (by omega)
    simp only [cntV, ht, if_true] at h
    omega

end Go.Proofs.Ytmapbkefndbnnaa

namespace Go.Proofs.Ytmapbkefndbnnaa
open Go.RowKit
set_option linter.unusedVariables false
set_option linter.unusedSimpArgs false
attribute [local go_sem ↓] Go.wp_at_zero Go.wp_at_succ

theorem mem_take_ia {l : List Int} {k : Nat} {n : Int} (h : ¬ n ∈ l.take k) (hk : k < l.length) (h2 : ¬ ia l k = n) : ¬ n ∈ l.take (k + 1) := by
  rw [List.take_succ_eq_append_getElem hk, List.mem_append]
  rintro (h1 | h1)
  · exact h h1
  · simp at h1
    exact h2 (by simp [ia, hk, h1])

set_option maxHeartbeats 400000 in
theorem c_l1Has (a : Option Addr) (l : List Int) (ca : Nat) (n : Int) (w : World) (ha : ISeg w a l) (hl : l.length ≤ 1048576) :
    Calls Try.prog 140 #[.slice a l.length ca, .int .i64 n] w fun e w' => e = .returned (.bool (decide (n ∈ l))) ∧ w' = w := by
  go_enter Try.func140, Try.ntmps140
  go_wp2
  go_loopw [9] (fun i wr => ∃ k : Nat, k ≤ l.length ∧ i = .int .i64 k ∧ Hid (¬ n ∈ l.take k) ∧ wr = w) (fun i _ => l.length - (intOf i).toNat)
  case atStart => exact ⟨0, Nat.zero_le _, rfl, (by show ¬ _; simp), rfl⟩
  case round =>
    obtain ⟨k, hk, rfl, HT, rfl⟩ := hrel
    by_cases hlt : k < l.length
    · obtain ⟨b1, o1, rfl, hb1, p1⟩ := ha k hlt
      have k0 : (0 : Int) ≤ (k : Int) := by omega
      have k1 : (k : Int) < (l.length : Int) := by omega
      have HM := hid (fun e : ia l k = n => (mem_ia.2 ⟨k, hlt, e⟩ : n ∈ l))
      have HN := hid (fun e : ¬ ia l k = n => mem_take_ia HT.out hlt e)
      generalize ia l k = x at *
      by_cases e : x = n
      · have d : (x == n) = true := by simp [e]
        have HV := hid (HM.out e)
        clear e
        go_wp2
        go_ret
        exact ⟨ret_bool (by simp [HV.out]), rfl⟩
      · have d : (x == n) = false := by simp [e]
        have HV := hid (HN.out e)
        clear e
        go_wp2
        go_roundw
        case rel => exact ⟨k + 1, by omega, by go_num, HV.out, by first | rfl | trivial⟩
        case measure => simp [intOf]; omega
    · go_wp2
      go_ret
      have : l.take k = l := List.take_of_length_le (by omega)
      have h := HT.out
      rw [this] at h
      exact ⟨ret_bool (by simp [h]), rfl⟩

set_option maxHeartbeats 2000000 in
theorem c_l1Put_some (g ca : Nat) (l : List Int) (n : Int) (w : World) (ha : ISeg w (some ⟨g, 0, none⟩) l) (hl : l.length ≤ 1048576) (hca : l.length ≤ ca) (hcm : ca ≤ maxLen) (hr : Asc l) :
    Calls Try.prog 141 #[.slice (some ⟨g, 0, none⟩) l.length ca, .int .i64 n] w fun e w' => ∃ v l', e = .returned v ∧ WithI l n l' ∧ Below w.heap.size w w' ∧ (OwnI w' w.heap.size v l' ∨ (v = .slice (some ⟨g, 0, none⟩) l.length ca ∧ l' = l)) := by
  have HR := hid hr
  have hcm' : ca ≤ 9223372036854775807 := by unfold maxLen at hcm; omega
  clear hr
  go_enter Try.func141, Try.ntmps141
  go_wp2
  go_loopw [5] (fun i wr => ∃ k : Nat, k ≤ l.length ∧ i = .int .i64 k ∧ Hid (∀ i, i < k → ia l i < n) ∧ wr = w) (fun i _ => l.length - (intOf i).toNat)
  case atStart => exact ⟨0, Nat.zero_le _, rfl, (fun i hi => absurd hi (Nat.not_lt_zero _)), rfl⟩
  case round =>
    obtain ⟨k, hk, rfl, hT, rfl⟩ := hrel
    have kk0 : (0 : Int) ≤ (k : Int) := by omega
    have kk1 : (k : Int) ≤ (l.length : Int) := by omega
    have kk2 : (k : Int) ≤ (ca : Int) := by omega
    have kk3 : (l.length : Int) ≤ (ca : Int) := by omega
    have HB6 := hid ((Below.refl wr.heap.size wr).alloc (Nat.le_refl _) (.cells #[] 3))
    have HO6 := hid (slice_empty_int wr)
    have HS6 := hid ((ha.take k).below HB6.out)
    by_cases hlt : k < l.length
    · obtain ⟨b1, o1, e1, hb1, p1⟩ := ha k hlt
      simp only [Option.some.injEq, Addr.mk.injEq, and_true] at e1
      obtain ⟨rfl, rfl⟩ := e1
      rw [Nat.zero_add] at p1
      have k1 : (k : Int) < (l.length : Int) := by omega
      have hd : decide ((k : Int) < (l.length : Int)) = true := by simp; omega
      have HN := hid (show ia l k < n → ∀ i, i < k + 1 → ia l i < n from fun hn t ht => by
        by_cases e : t = k
        · rw [e]; exact hn
        · exact hT.out t (by omega))
      have HM := hid (fun e : ia l k = n => withI_same HR.out (mem_ia.2 ⟨k, hlt, e⟩))
      have HW := hid (fun (h1 : n < ia l k) => withI_new HR.out hk hT.out (fun _ => h1))
      generalize ia l k = x at *
      rcases (show x < n ∨ x = n ∨ n < x by omega) with h | h | h
      · have d1 : decide (x < n) = true := decide_eq_true h
        go_wp2
        go_roundw
        case rel => exact ⟨k + 1, by omega, by go_num, HN.out h, by first | rfl | trivial⟩
        case measure => simp [intOf]; omega
      · have d1 : decide (x < n) = false := decide_eq_false (by omega)
        have d2 : (x == n) = true := by simp [h]
        have HW' := hid (HM.out h)
        clear h HB6 HO6 HS6
        go_wp2
        go_ret
        exact ⟨_, l, rfl, HW'.out, Below.refl _ _, .inr ⟨rfl, rfl⟩⟩
      · have d1 : decide (x < n) = false := decide_eq_false (by omega)
        have d2 : (x == n) = false := by simp; omega
        have HW' := hid (HW.out h)
        clear h
        go_wp2_with (first
          | (at_builtin; refine wpList_appI rfl (.tmp 34) (.tmp 37) rfl wr.heap.size _ [] (l.take k) (some ⟨g, 0, none⟩) k ca rfl HO6.out rfl (by rw [List.length_take]; omega) HS6.out (by intro h; cases h) (by simp; omega) HB6.out.size ?_; intro v6 w6 hO6 hG6 _; have HB7 := hid (below_grownI HB6.out HO6.out hG6); have HO7 := hid hO6; clear hO6 hG6)
          | (at_builtin; refine wpList_appI rfl (.tmp 39) (.tmp 41) rfl wr.heap.size v6 ([] ++ l.take k) [n] (some ⟨w6.heap.size, 0, none⟩) 1 1 rfl (HO7.out.below ((Below.refl w6.heap.size w6).alloc (Nat.le_refl _) (.cells #[.int .i64 n] 3))) rfl rfl (iseg_block (heap_alloc_new w6 _)) (by intro h; cases h) (by simp; omega) (HB7.out.alloc HB7.out.size _).size ?_; intro v7 w7 hO7 hG7 _; have HB8 := hid (below_grownI (HB7.out.alloc HB7.out.size _) (HO7.out.below ((Below.refl w6.heap.size w6).alloc (Nat.le_refl _) (.cells #[.int .i64 n] 3))) hG7); have HO8 := hid hO7; clear hO7 hG7)
          | (at_builtin; refine wpList_appI rfl (.tmp 43) (.tmp 46) rfl wr.heap.size v7 ([] ++ l.take k ++ [n]) (l.drop k) (some ⟨g, 0 + k, none⟩) (l.length - k) (ca - k) rfl HO8.out (by first | rfl | (rw [Nat.zero_add]; rfl)) (by simp) ((ha.drop k).below HB8.out) (by intro h; cases h) (by simp; omega) HB8.out.size ?_; intro v8 w8 hO9 hG9 _))
        go_ret
        exact ⟨_, _, rfl, by simpa using HW'.out, below_grownI HB8.out HO8.out hG9, .inl hO9⟩
    · have hd : decide ((k : Int) < (l.length : Int)) = false := by simp; omega
      have hle : l.length ≤ k := by omega
      have HWW : Hid (WithI l n ([] ++ l.take k ++ [n])) := hid (by have := withI_new (n := n) HR.out hk hT.out (fun h => absurd h hlt); rw [List.drop_eq_nil_of_le hle, List.append_nil] at this; exact this)
      go_wp2_with (first
        | (at_builtin; refine wpList_appI rfl (.tmp 34) (.tmp 37) rfl wr.heap.size _ [] (l.take k) (some ⟨g, 0, none⟩) k ca rfl HO6.out rfl (by rw [List.length_take]; omega) HS6.out (by intro h; cases h) (by simp; omega) HB6.out.size ?_; intro v6 w6 hO6 hG6 _; have HB7 := hid (below_grownI HB6.out HO6.out hG6); have HO7 := hid hO6; clear hO6 hG6)
        | (at_builtin; refine wpList_appI rfl (.tmp 39) (.tmp 41) rfl wr.heap.size v6 ([] ++ l.take k) [n] (some ⟨w6.heap.size, 0, none⟩) 1 1 rfl (HO7.out.below ((Below.refl w6.heap.size w6).alloc (Nat.le_refl _) (.cells #[.int .i64 n] 3))) rfl rfl (iseg_block (heap_alloc_new w6 _)) (by intro h; cases h) (by simp; omega) (HB7.out.alloc HB7.out.size _).size ?_; intro v7 w7 hO7 hG7 _; have HB8 := hid (below_grownI (HB7.out.alloc HB7.out.size _) (HO7.out.below ((Below.refl w6.heap.size w6).alloc (Nat.le_refl _) (.cells #[.int .i64 n] 3))) hG7); have HO8 := hid hO7; clear hO7 hG7)
        | (at_builtin; refine wpList_appI0 rfl (.tmp 43) (.tmp 46) rfl wr.heap.size v7 ([] ++ l.take k ++ [n]) rfl HO8.out ⟨_, _, _, rfl, by omega, by intro h; split at h <;> cases h⟩ (by simp; omega) HB8.out.size ?_; intro v8 w8 hO9 hG9 _))
      all_goals go_ret
      all_goals first
        | exact ⟨_, _, rfl, HWW.out, below_grownI HB8.out HO8.out hG9, .inl hO9⟩
        | exact ⟨_, rfl, _, HWW.out, below_grownI HB8.out HO8.out hG9, .inl hO9⟩

set_option maxHeartbeats 1000000 in
theorem c_l1Put_nil (n : Int) (w : World) :
    Calls Try.prog 141 #[.slice none 0 0, .int .i64 n] w fun e w' => ∃ v, e = .returned v ∧ Below w.heap.size w w' ∧ OwnI w' w.heap.size v [n] := by
  have HB6 := hid ((Below.refl w.heap.size w).alloc (Nat.le_refl _) (.cells #[] 3))
  have HO6 := hid (slice_empty_int w)
  have HN : ∀ W : World, Hid (ISeg W none []) := fun W i hi => by simp at hi
  go_enter Try.func141, Try.ntmps141
  go_wp2
  go_loopw [5] (fun i wr => i = .int .i64 0 ∧ wr = w) (fun _ _ => 0)
  case atStart => exact ⟨rfl, rfl⟩
  case round =>
    obtain ⟨rfl, rfl⟩ := hrel
    go_wp2_with (first
      | (at_builtin; refine wpList_appI rfl (.tmp 34) (.tmp 37) rfl wr.heap.size _ [] [] none 0 0 rfl HO6.out rfl rfl (HN _).out (fun _ => rfl) (by simp) HB6.out.size ?_; intro v6 w6 hO6 hG6 _; have HB7 := hid (below_grownI HB6.out HO6.out hG6); have HO7 := hid hO6; clear hO6 hG6)
      | (at_builtin; refine wpList_appI rfl (.tmp 39) (.tmp 41) rfl wr.heap.size v6 ([] ++ []) [n] (some ⟨w6.heap.size, 0, none⟩) 1 1 rfl (HO7.out.below ((Below.refl w6.heap.size w6).alloc (Nat.le_refl _) (.cells #[.int .i64 n] 3))) rfl rfl (iseg_block (heap_alloc_new w6 _)) (by intro h; cases h) (by simp) (HB7.out.alloc HB7.out.size _).size ?_; intro v7 w7 hO7 hG7 _; have HB8 := hid (below_grownI (HB7.out.alloc HB7.out.size _) (HO7.out.below ((Below.refl w6.heap.size w6).alloc (Nat.le_refl _) (.cells #[.int .i64 n] 3))) hG7); have HO8 := hid hO7; clear hO7 hG7)
      | (at_builtin; refine wpList_appI rfl (.tmp 43) (.tmp 46) rfl wr.heap.size v7 ([] ++ [] ++ [n]) [] none 0 0 rfl HO8.out rfl rfl (HN _).out (fun _ => rfl) (by simp) HB8.out.size ?_; intro v8 w8 hO9 hG9 _))
    go_ret
    exact ⟨_, rfl, below_grownI HB8.out HO8.out hG9, by simpa using hO9⟩

/-- Putting a number to its place, in memory of the call's own. -/
theorem c_l1Put (base : Nat) (v : Value) (l : List Int) (n : Int) (w : World) (h : OwnI w base v l) (hb : base ≤ w.heap.size) (hl : l.length ≤ 1048576) (hr : Asc l) :
    Calls Try.prog 141 #[v, .int .i64 n] w fun e w' => ∃ v' l', e = .returned v' ∧ WithI l n l' ∧ Below w.heap.size w w' ∧ OwnI w' base v' l' := by
  rcases h.form with ⟨rfl, rfl⟩ | ⟨g, cap, rfl, h1, h2, h3⟩
  · refine (c_l1Put_nil n w).mono ?_
    rintro e w' ⟨v, rfl, hB, hO⟩
    exact ⟨v, [n], rfl, ⟨List.pairwise_singleton _ _, fun d => by simp, by simp⟩, hB, hO.mono hb⟩
  · refine (c_l1Put_some g cap l n w h3 hl h1 h2 hr).mono ?_
    rintro e w' ⟨v, l', rfl, hW, hB, hO | ⟨rfl, rfl⟩⟩
    · exact ⟨v, l', rfl, hW, hB, hO.mono hb⟩
    · exact ⟨_, _, rfl, hW, hB, h.below hB⟩

end Go.Proofs.Ytmapbkefndbnnaa

namespace Go.Proofs.Ytmapbkefndbnnaa
open Go.RowKit Go.Maps
set_option linter.unusedVariables false
set_option linter.unusedSimpArgs false
attribute [local go_sem ↓] Go.wp_at_zero Go.wp_at_succ

/-- The quads that q is made of. -/
inductive Reach (F : List Qd) (q : Nat) : Nat → Prop
  | self : Reach F q q
  | kid {x i : Nat} : Reach F q x → 2 ≤ x → i < 4 → Reach F q (kidq F x i)
theorem Reach.trans {F : List Qd} {a b c : Nat} (h : Reach F a b) (k : Reach F b c) : Reach F a c := by
  induction k with
  | self => exact h
  | kid _ h2 hi ih => exact .kid ih h2 hi
theorem Reach.le {F : List Qd} (hg : goodF F = true) {q x : Nat} (h : Reach F q x) (hq : q < F.length) : x ≤ q := by
  induction h with
  | self => exact Nat.le_refl _
  | kid _ h2 hi ih => have := kid_lt hg (Nat.lt_of_le_of_lt ih hq) h2 hi; omega
theorem Reach.low {F : List Qd} (hg : goodF F = true) {q x : Nat} (hq : q < 2) (h : Reach F q x) : x = q := by
  induction h with
  | self => rfl
  | kid _ h2 hi ih => omega
/-- From q on: q itself, or what comes of a kid. -/
theorem reach_cases {F : List Qd} {q x : Nat} (h : Reach F q x) : x = q ∨ (2 ≤ q ∧ ∃ i, i < 4 ∧ Reach F (kidq F q i) x) := by
  induction h with
  | self => exact .inl rfl
  | kid hr h2 hi ih =>
    rename_i y j
    rcases ih with rfl | ⟨hq, i, hi', hr'⟩
    · exact .inr ⟨h2, j, hi, .self⟩
    · exact .inr ⟨hq, i, hi', .kid hr' h2 hi⟩
theorem reach_kid {F : List Qd} {q i x : Nat} (h2 : 2 ≤ q) (hi : i < 4) (h : Reach F (kidq F q i) x) : Reach F q x := (Reach.kid .self h2 hi).trans h

/-- The numbers of the quads that q is made of, rising. -/
noncomputable def shrL (F : List Qd) (q : Nat) : List Int := open Classical in if h : ∃ l, Asc l ∧ ∀ x, x ∈ l ↔ ∃ n : Nat, x = n ∧ Reach F q n then Classical.choose h else []
theorem shrL_eq {F : List Qd} {q : Nat} {l : List Int} (h1 : Asc l) (h2 : ∀ x, x ∈ l ↔ ∃ n : Nat, x = n ∧ Reach F q n) : shrL F q = l := by
  unfold shrL
  have h : ∃ l, Asc l ∧ ∀ x, x ∈ l ↔ ∃ n : Nat, x = n ∧ Reach F q n := ⟨l, h1, h2⟩
  rw [dif_pos h]
  exact asc_unique (Classical.choose_spec h).1 h1 (fun c => ((Classical.choose_spec h).2 c).trans (h2 c).symm)
/-- The numbers that SharedIn tells. -/
noncomputable def shrV (F : List Qd) (q : Int) : List Int := if thereB F q then shrL F q.toNat else []

set_option maxHeartbeats 2000000 in
set_option maxRecDepth 100000 in
theorem c_l3Shared {F : List Qd} (hg : goodF F = true) (a : Option Addr) (ca : Nat) (base : Nat) : ∀ (m : Nat) (q : Int) (v : Value) (out : List Int) (w : World),
    q.toNat < m → 0 ≤ q → q < (F.length : Int) → QSeg w a F → OwnI w base v out → base ≤ w.heap.size → Asc out → (∀ x ∈ out, 0 ≤ x ∧ x < (F.length : Int)) →
    (∀ x : Nat, (x : Int) ∈ out → x ≤ q.toNat → ∀ n, Reach F x n → (n : Int) ∈ out) →
    Calls Try.prog 101 #[.agg #[.slice a F.length ca], .int .i64 q, v] w fun e w' => ∃ v' out', e = .returned v' ∧ OwnI w' base v' out' ∧ Asc out' ∧ (∀ x, x ∈ out' ↔ x ∈ out ∨ ∃ n : Nat, x = n ∧ Reach F q.toNat n) ∧ Below w.heap.size w w' := by
  intro m
  induction m with
  | zero => intro q v out w hm; omega
  | succ m ih =>
    intro q v out w hm h0 h1 hQ hO hbase hA hin hinv
    have hlen := asc_len hA hin
    have h400 := good_len2 hg
    have BX := hid (Box1.new w (.slice a F.length ca) 25)
    have HO := hid hO
    have HQ := hid hQ
    have HA := hid hA
    have HI := hid hin
    have HINV := hid hinv
    obtain ⟨va, vca, hv, hvs⟩ := hO.seg
    have HVS := hid (hvs.below BX.out.2.2)
    by_cases hmem : q ∈ out
    · have HM := hid hmem
      have HC := hid (c_l1Has va out vca q _ HVS.out (by omega))
      rw [show decide (q ∈ out) = true by simp [hmem]] at HC
      subst hv
      clear hO hQ hA hin hinv hvs hmem
      go_enter Try.func101, Try.ntmps101
      go_wp2_with fail
      refine HC.out.mono ?_
      rintro e w1 ⟨rfl, rfl⟩
      go_wp2_with fail
      go_ret
      refine ⟨_, out, rfl, HO.out.below BX.out.2.2, HA.out, fun x => ⟨.inl, ?_⟩, BX.out.2.2⟩
      rintro (h | ⟨n, rfl, hn⟩)
      · exact h
      · exact HINV.out q.toNat (by rw [Int.toNat_of_nonneg h0]; exact HM.out) (Nat.le_refl _) n hn
    · have HC := hid (c_l1Has va out vca q _ HVS.out (by omega))
      rw [show decide (q ∈ out) = false by simp [hmem]] at HC
      have HP := hid (c_l1Put base v out q _ (HO.out.below BX.out.2.2) (Nat.le_trans hbase BX.out.2.2.size) (by omega) hA)
      subst hv
      obtain ⟨b1, o1, ak, ck, rfl, hb1, p1, p2, p3, p4⟩ := hQ q.toNat (by omega)
      have P3 := hid p3
      have P2 := hid p2
      have hk4 : (qa F q.toNat).2.length ≤ 4 := by
        by_cases h2 : q.toNat < 2
        · have := (good_zero hg (q := q.toNat) (by omega) h2).2; omega
        · have := (good_quad hg (q := q.toNat) (by omega) (by omega)).1; omega
      have HIH := hid ih
      have HB0 := hid hbase
      clear hO hQ hA hin hinv hvs hmem ih p1 p2 p3 p4
      go_enter Try.func101, Try.ntmps101
      go_wp2_with fail
      refine HC.out.mono ?_
      rintro e w1 ⟨rfl, rfl⟩
      clear HC
      go_wp2_with fail
      refine HP.out.mono ?_
      rintro e w2 ⟨v2, l2, rfl, hW2, hB2, hO2⟩
      have X2 := hid (BX.out.step hB2)
      have HO2 := hid hO2
      have HW2 := hid hW2
      clear HP hW2 hO2 hB2 BX HVS
      have x0 := X2.out.1
      have c2 := (X2.out.2.2.cell (p := ⟨b1, o1 + q.toNat * 2 + 1, none⟩) hb1).trans P2.out
      go_wp2_with fail
      go_loopw [23, 2] (fun i vi wr => ∃ (k : Nat) (l : List Int), k ≤ (qa F q.toNat).2.length ∧ i = .int .i64 k ∧ Hid (OwnI wr base vi l) ∧ Hid (Asc l) ∧ Hid (∀ x, x ∈ l ↔ x ∈ out ∨ x = q ∨ ∃ j n : Nat, j < k ∧ x = n ∧ Reach F (kidq F q.toNat j) n) ∧ Hid (Box1 w wr (.slice (some ⟨b1, o1, none⟩) F.length ca))) (fun i _ _ => (qa F q.toNat).2.length - (intOf i).toNat)
      case atStart =>
        refine ⟨0, l2, Nat.zero_le _, rfl, HO2.out, HW2.out.1, ?_, X2.out⟩
        intro x
        rw [HW2.out.2.1 x]
        constructor
        · rintro (h | h)
          · exact .inr (.inl h)
          · exact .inl h
        · rintro (h | h | ⟨j, n, hj, _⟩)
          · exact .inr h
          · exact .inl h
          · omega
      case round =>
        clear HO2 HW2 X2 x0 c2
        obtain ⟨k, l, hk, rfl, HOl, HAl, HMl, HX⟩ := hrel
        have h2q : k < (qa F q.toNat).2.length → 2 ≤ q.toNat := fun h => by
          by_cases h2 : q.toNat < 2
          · have := (good_zero hg (q := q.toNat) (by omega) h2).2; omega
          · omega
        by_cases hlt : k < (qa F q.toNat).2.length
        · have h2 := h2q hlt
          have hgk := (good_quad hg (q := q.toNat) (by omega) h2).2.2.2.1 k (by omega)
          have hkq : kidq F q.toNat k = (ia (qa F q.toNat).2 k).toNat := rfl
          have hl400 : ∀ x ∈ l, 0 ≤ x ∧ x < (F.length : Int) := by
            intro x hx
            rcases (HMl.out x).1 hx with h | rfl | ⟨j, n, hj, rfl, hr⟩
            · exact HI.out x h
            · omega
            · have e1 := kid_lt hg (q := q.toNat) (by omega) h2 (i := j) (by omega)
              have e2 := hr.le hg (by omega)
              omega
          have HL4 := hid hl400
          have HNV : Hid (∀ x : Nat, (x : Int) ∈ l → x ≤ (ia (qa F q.toNat).2 k).toNat → ∀ n, Reach F x n → (n : Int) ∈ l) := by
            intro x hx hxk n hn
            rcases (HMl.out x).1 hx with h | h | ⟨j, y, hj, hy, hr⟩
            · exact (HMl.out n).2 (.inl (HINV.out x h (by omega) n hn))
            · omega
            · have : x = y := by omega
              subst this
              exact (HMl.out n).2 (.inr (.inr ⟨j, n, hj, rfl, hr.trans hn⟩))
          obtain ⟨bk, ok, rfl, hbk, pk⟩ := P3.out k hlt
          have k0 : (0 : Int) ≤ (k : Int) := by omega
          have k1 : (k : Int) < ((qa F q.toNat).2.length : Int) := by omega
          have x0 := HX.out.1
          have ck0 := (HX.out.2.2.cell (p := ⟨bk, ok + k, none⟩) hbk).trans pk
          clear pk h2q
          go_wp2_with fail
          refine (HIH.out (ia (qa F q.toNat).2 k) _ l wr (by omega) (by omega) (by omega) (HQ.out.below HX.out.2.2) HOl.out (Nat.le_trans HB0.out HX.out.2.2.size) HAl.out HL4.out HNV.out).mono ?_
          rintro e w3 ⟨v3, l3, rfl, hO3, hA3, hM3, hB3⟩
          have HO3 := hid hO3
          have HA3 := hid hA3
          have X3 := hid (HX.out.step hB3)
          have HM3 : Hid (∀ x, x ∈ l3 ↔ x ∈ out ∨ x = q ∨ ∃ j n : Nat, j < k + 1 ∧ x = n ∧ Reach F (kidq F q.toNat j) n) := by
            intro x
            rw [hM3 x, HMl.out x]
            constructor
            · rintro ((h | h | ⟨j, n, hj, hx, hr⟩) | ⟨n, hx, hr⟩)
              · exact .inl h
              · exact .inr (.inl h)
              · exact .inr (.inr ⟨j, n, by omega, hx, hr⟩)
              · exact .inr (.inr ⟨k, n, by omega, hx, hr⟩)
            · rintro (h | h | ⟨j, n, hj, hx, hr⟩)
              · exact .inl (.inl h)
              · exact .inl (.inr (.inl h))
              · by_cases e : j = k
                · subst e; exact .inr ⟨n, hx, hr⟩
                · exact .inl (.inr (.inr ⟨j, n, by omega, hx, hr⟩))
          clear hO3 hA3 hM3 hB3 x0 ck0 HOl HAl HMl HNV HL4 hl400
          go_wp2_with fail
          go_roundw
          case rel => exact ⟨k + 1, l3, by omega, by go_num, HO3.out, HA3.out, HM3.out, X3.out⟩
          case measure => simp [intOf]; omega
        · go_wp2_with fail
          go_ret
          refine ⟨_, l, rfl, HOl.out, HAl.out, fun x => ?_, HX.out.2.2⟩
          rw [HMl.out x]
          constructor
          · rintro (h | rfl | ⟨j, n, hj, rfl, hr⟩)
            · exact .inl h
            · exact .inr ⟨x.toNat, by omega, .self⟩
            · have h2 : 2 ≤ q.toNat := by
                by_cases h2 : q.toNat < 2
                · have := (good_zero hg (q := q.toNat) (by omega) h2).2; omega
                · omega
              exact .inr ⟨n, rfl, reach_kid h2 (by omega) hr⟩
          · rintro (h | ⟨n, rfl, hr⟩)
            · exact .inl h
            · rcases reach_cases hr with rfl | ⟨h2, i, hi, hr'⟩
              · exact .inr (.inl (by omega))
              · have := (good_quad hg (q := q.toNat) (by omega) h2).1
                exact .inr (.inr ⟨i, n, by omega, rfl, hr'⟩)

set_option maxHeartbeats 1000000 in
theorem c_sSharedIn (a : Option Addr) (F : List Qd) (ca : Nat) (q : Int) (w : World) (ha : QSeg w a F) (hl : F.length ≤ 1048576) (hk : KidsLe F) (hca : F.length ≤ ca) (hcm : ca ≤ 9223372036854775807) :
    Calls Try.prog 38 #[.agg #[.slice a F.length ca], .int .i64 q] w fun e w' => ∃ v, e = .returned (.tuple #[v, .bool (thereB F q)]) ∧ OwnI w' w.heap.size v (shrV F q) ∧ Below w.heap.size w w' := by
  have BX := hid (Box1.new w (.slice a F.length ca) 25)
  cases ht : thereB F q
  · have HC := hid (c_l3There' a F ca q false ht _ (ha.below BX.out.2.2) hl hk hca hcm)
    have HV : Hid (shrV F q = []) := by simp [Hid, shrV, ht]
    clear ha ht
    go_enter Try.func38, Try.ntmps38
    go_wp2_with fail
    refine HC.out.mono ?_
    rintro e w1 ⟨rfl, hb⟩
    clear HC
    go_wp2
    go_ret2
    exact ⟨_, rfl, by rw [HV.out]; exact OwnI.nil _ _, (BX.out.step hb).2.2⟩
  · have HC := hid (c_l3There' a F ca q true ht _ (ha.below BX.out.2.2) hl hk hca hcm)
    have HV : Hid (shrV F q = shrL F q.toNat) := by simp [Hid, shrV, ht]
    obtain ⟨hg, h0, h1⟩ := there_bd ht
    have HA := hid ha
    clear ha ht
    go_enter Try.func38, Try.ntmps38
    go_wp2_with fail
    refine HC.out.mono ?_
    rintro e w1 ⟨rfl, hb⟩
    have X1 := hid (BX.out.step hb)
    have x := X1.out.1
    clear HC BX hb
    go_wp2_with fail
    refine (c_l3Shared hg a ca w.heap.size (q.toNat + 1) q (.slice none 0 0) [] w1 (by omega) h0 h1 (HA.out.below X1.out.2.2) (OwnI.nil _ _) X1.out.2.2.size List.Pairwise.nil (fun x hx => by simp at hx) (fun x hx => by simp at hx)).mono ?_
    rintro e w2 ⟨v2, l2, rfl, hO, hA2, hM, hB⟩
    have HE := hid (shrL_eq (F := F) (q := q.toNat) hA2 (fun x => by rw [hM x]; simp))
    have HO := hid hO
    have HB := hid (X1.out.2.2.trans (hB.mono X1.out.2.2.size))
    clear hO hB hA2 hM x
    go_wp2_with fail
    go_ret2
    exact ⟨_, rfl, by rw [HV.out, HE.out]; exact HO.out, HB.out⟩

/-- Marks while the program goes down: all that is marked is reached, q is marked, and of what lies behind n each marked quad's kids are marked. -/
structure Down (F : List Qd) (q n : Nat) (u : Nat → Bool) : Prop where
  reach : ∀ x, x ≤ q → u x = true → Reach F q x
  self : u q = true
  kids : ∀ y, n < y → y ≤ q → 2 ≤ y → u y = true → ∀ i, i < 4 → u (kidq F y i) = true
theorem Down.done {F : List Qd} (hg : goodF F = true) {q : Nat} (hq : q < F.length) {u : Nat → Bool} (h : Down F q 1 u) : ∀ x, x ≤ q → (u x = true ↔ Reach F q x) := by
  intro x hx
  refine ⟨h.reach x hx, fun hr => ?_⟩
  induction hr with
  | self => exact h.self
  | kid hr h2 hi ih =>
    have hle := hr.le hg hq
    exact h.kids _ (by omega) hle h2 (ih hle) _ hi
/-- Those of the first k numbers that are marked. -/
def gotTo (u : Nat → Bool) : Nat → List Int
  | 0 => []
  | k + 1 => if u k then gotTo u k ++ [(k : Int)] else gotTo u k
theorem gotTo_mem (u : Nat → Bool) : ∀ (k : Nat) (x : Int), x ∈ gotTo u k ↔ ∃ n : Nat, x = n ∧ n < k ∧ u n = true
  | 0, x => by simp [gotTo]
  | k + 1, x => by
    have ih := gotTo_mem u k x
    simp only [gotTo]
    by_cases h : u k = true
    · rw [if_pos h, List.mem_append, ih]
      constructor
      · rintro (⟨n, h1, h2, h3⟩ | h1)
        · exact ⟨n, h1, by omega, h3⟩
        · simp at h1; exact ⟨k, h1, by omega, h⟩
      · rintro ⟨n, h1, h2, h3⟩
        by_cases e : n = k
        · subst e; right; simp [h1]
        · exact .inl ⟨n, h1, by omega, h3⟩
    · rw [if_neg h, ih]
      constructor
      · rintro ⟨n, h1, h2, h3⟩; exact ⟨n, h1, by omega, h3⟩
      · rintro ⟨n, h1, h2, h3⟩
        by_cases e : n = k
        · subst e; exact absurd h3 h
        · exact ⟨n, h1, by omega, h3⟩
theorem gotTo_asc (u : Nat → Bool) : ∀ k, Asc (gotTo u k)
  | 0 => List.Pairwise.nil
  | k + 1 => by
    simp only [gotTo]
    split
    · show List.Pairwise _ _
      rw [List.pairwise_append]
      refine ⟨gotTo_asc u k, List.pairwise_singleton _ _, fun x hx y hy => ?_⟩
      obtain ⟨n, rfl, hn, _⟩ := (gotTo_mem u k x).1 hx
      simp at hy; omega
    · exact gotTo_asc u k
theorem gotTo_len (u : Nat → Bool) : ∀ k, (gotTo u k).length ≤ k
  | 0 => by simp [gotTo]
  | k + 1 => by
    have := gotTo_len u k
    simp only [gotTo]
    split
    · simp; omega
    · omega

theorem info_bool : (Try.prog.info? 4).map (fun i => (i.zero, i.size, i.bytes)) = some (some (.bool false), 1, 1) := by kernel_rfl
theorem make_Bools (n : Nat) (hn : n ≤ 1048576) (w : World) :
    (Instr.makeSlice 155 (.int .i64 (n : Int)) (.int .i64 (n : Int))).run Try.prog w = .ok (.slice (some ⟨w.heap.size, 0, none⟩) n n) (w.alloc (.cells (madeCells #[.bool false] n) 4)) := by
  obtain ⟨i, hi, hz, hs, hb⟩ := info_parts info_bool
  have := run_make (P := Try.prog) w 155 4 i _ Try.underlying155 hi hz .i64 .i64 n n (by omega) (Int.le_refl _) (by rw [hb]; omega) (by omega)
  simpa [hs, Value.cells] using this
/-- Marks, all of block g. -/
def BRow (w : World) (g n : Nat) (u : Nat → Bool) : Prop := w.rowIs g 4 n (fun j => .bool (u j))
theorem BRow.put {w : World} {g n : Nat} {u : Nat → Bool} (h : BRow w g n u) (i : Nat) : BRow (w.setCell ⟨g, i, none⟩ (.bool true)) g n (fun j => if j = i then true else u j) := by
  refine (World.rowIs.set h i (.bool true)).congr fun j hj => ?_
  by_cases e : j = i <;> simp [e]

end Go.Proofs.Ytmapbkefndbnnaa

namespace Go.Proofs.Ytmapbkefndbnnaa
open Go.RowKit Go.Maps
set_option linter.unusedVariables false
set_option linter.unusedSimpArgs false
attribute [local go_sem ↓] Go.wp_at_zero Go.wp_at_succ

/-- Down, while the kids of k are marked: the first j are. -/
structure Down4 (F : List Qd) (q k j : Nat) (u : Nat → Bool) : Prop where
  down : Down F q k u
  at_ : u k = true
  first : ∀ i, i < j → u (kidq F k i) = true
theorem Down4.step {F : List Qd} {q k j : Nat} {u : Nat → Bool} (h : Down4 F q k j u) (h2 : 2 ≤ k) (hk : k ≤ q) (hj : j < 4) (hlt : kidq F k j < k) : Down4 F q k (j + 1) (fun x => if x = kidq F k j then true else u x) := by
  refine ⟨⟨fun x hx hu => ?_, ?_, fun y h1 h2' h3 hu i hi => ?_⟩, ?_, fun i hi => ?_⟩
  · by_cases e : x = kidq F k j
    · rw [e]; exact .kid (h.down.reach k hk h.at_) h2 hj
    · rw [if_neg e] at hu; exact h.down.reach x hx hu
  · by_cases e : q = kidq F k j
    · rw [if_pos e]
    · rw [if_neg e]; exact h.down.self
  · by_cases e : kidq F y i = kidq F k j
    · rw [if_pos e]
    · rw [if_neg e]
      by_cases e2 : y = kidq F k j
      · omega
      · rw [if_neg e2] at hu
        exact h.down.kids y h1 h2' h3 hu i hi
  · by_cases e : k = kidq F k j
    · rw [if_pos e]
    · rw [if_neg e]; exact h.at_
  · by_cases e : kidq F k i = kidq F k j
    · rw [if_pos e]
    · rw [if_neg e]
      by_cases e2 : i = j
      · rw [e2] at e; exact absurd rfl e
      · exact h.first i (by omega)
theorem Down4.done {F : List Qd} {q k : Nat} {u : Nat → Bool} (h : Down4 F q k 4 u) : Down F q (k - 1) u := by
  refine ⟨h.down.reach, h.down.self, fun y h1 h2 h3 hu i hi => ?_⟩
  by_cases e : y = k
  · subst e; exact h.first i hi
  · exact h.down.kids y (by omega) h2 h3 hu i hi
theorem Down.skip {F : List Qd} {q k : Nat} {u : Nat → Bool} (h : Down F q k u) (hu : u k = false) : Down F q (k - 1) u := by
  refine ⟨h.reach, h.self, fun y h1 h2 h3 hy i hi => ?_⟩
  by_cases e : y = k
  · subst e; rw [hu] at hy; cases hy
  · exact h.kids y (by omega) h2 h3 hy i hi
theorem BRow.below {w w' : World} {g n : Nat} {u : Nat → Bool} (h : BRow w g n u) (hb : Below w.heap.size w w') : BRow w' g n u := World.rowIs.of_block h (hb.block _ (World.rowIs.lt h))

theorem down_first (F : List Qd) (n0 : Nat) : Down F n0 n0 (fun j => if j = n0 then true else false) := by
  refine ⟨fun x hx hu => ?_, by simp, fun y h1 h2 => by omega⟩
  by_cases e : x = n0
  · rw [e]; exact .self
  · rw [if_neg e] at hu; cases hu
theorem brow_first (w : World) (n0 : Nat) : BRow (w.alloc (.cells ((madeCells #[.bool false] (n0 + 1)).setIfInBounds n0 (.bool true)) 4)) w.heap.size (n0 + 1) (fun j => if j = n0 then true else false) := by
  refine ⟨_, heap_alloc_new _ _, by simp [madeCells], fun i hi => ?_⟩
  rw [Array.getElem?_setIfInBounds]
  by_cases e : n0 = i
  · subst e; simp [madeCells]
  · have e2 : ¬ i = n0 := fun h => e h.symm
    simp [madeCells, hi, e, e2, Nat.mod_one]

set_option maxHeartbeats 2000000 in
set_option maxRecDepth 100000 in
theorem c_shared {F : List Qd} (hg : goodF F = true) (n0 : Nat) (w : World) {b0 p g cap mb : Nat} (hG : Grv w b0 p g cap mb F) (h1 : n0 < F.length) :
    Calls Try.prog 100 #[.pointer (some ⟨p, 0, none⟩), .int .i64 (n0 : Int)] w fun e w' => ∃ v', e = .returned v' ∧ OwnI w' (w.heap.size + 1) v' (shrL F n0) ∧ Below w.heap.size w w' := by
  have h400 := good_len2 hg
  have hmk : ∀ w : World, (Instr.makeSlice 155 (.int .i64 ((n0 : Int) + 1)) (.int .i64 ((n0 : Int) + 1))).run Try.prog w = .ok (.slice (some ⟨w.heap.size, 0, none⟩) (n0 + 1) (n0 + 1)) (w.alloc (.cells (madeCells #[.bool false] (n0 + 1)) 4)) := by
    intro w
    have := make_Bools (n0 + 1) (by omega) w
    rw [show ((n0 + 1 : Nat) : Int) = (n0 : Int) + 1 by omega] at this
    exact this
  have R0 := hid (show BRow (w.alloc (.cells (madeCells #[.bool false] (n0 + 1)) 4)) w.heap.size (n0 + 1) (fun _ => false) from (World.rowIs_made w (.bool false) (n0 + 1) 4))
  have c0 := World.rowIs.cell R0.out (i := n0) (by omega)
  have f0 := World.rowIs.frozen R0.out n0
  have R1 := hid (brow_first w n0)
  have B1 := hid ((Below.refl w.heap.size w).alloc (Nat.le_refl _) (.cells ((madeCells #[.bool false] (n0 + 1)).setIfInBounds n0 (.bool true)) 4))
  have D1 := hid (down_first F n0)
  have HG := hid hG
  clear hG R0
  go_enter Try.func100, Try.ntmps100
  go_wp2_with fail
  go_loopw [6] (fun i wr => ∃ (k : Nat) (u : Nat → Bool), k ≤ n0 ∧ i = .int .i64 k ∧ Hid (BRow wr w.heap.size (n0 + 1) u) ∧ Hid (Down F n0 k u) ∧ Hid (Below w.heap.size w wr)) (fun i _ => (intOf i).toNat)
  case atStart => exact ⟨n0, _, Nat.le_refl _, rfl, R1.out, D1.out, B1.out⟩
  case round =>
    clear R1 D1 B1 hmk c0 f0
    obtain ⟨k, u, hk, rfl, HR, HD, HB⟩ := hrel
    by_cases h2 : 2 ≤ k
    · have i2 : (2 : Int) ≤ (k : Int) := by omega
      have k0 : (0 : Int) ≤ (k : Int) := by omega
      have k1 : (k : Int) < ((n0 + 1 : Nat) : Int) := by omega
      have ck := World.rowIs.cell HR.out (i := k) (by omega)
      cases hu : u k
      · rw [hu] at ck
        have HD2 := hid (HD.out.skip hu)
        go_wp2_with fail
        go_roundw
        case rel => exact ⟨k - 1, u, by omega, by go_num, HR.out, HD2.out, HB.out⟩
        case measure => simp [intOf]; omega
      · rw [hu] at ck
        have G1 := HG.out.below HB.out
        have g0 := G1.c0
        have e0 := G1.kidAt (i := k) (by omega) (j := 0) (by omega)
        have e1 := G1.kidAt (i := k) (by omega) (j := 1) (by omega)
        have e2 := G1.kidAt (i := k) (by omega) (j := 2) (by omega)
        have e3 := G1.kidAt (i := k) (by omega) (j := 3) (by omega)
        rw [Nat.add_zero] at e0
        have l1 : (k : Int) < (F.length : Int) := by omega
        have D4 := hid (show Down4 F n0 k 0 u from ⟨HD.out, hu, fun i hi => by omega⟩)
        clear G1
        go_wp2_with fail
        go_loopw [35] (fun i wt => ∃ (j : Nat) (u' : Nat → Bool), j ≤ 4 ∧ i = .int .i64 j ∧ Hid (BRow wt w.heap.size (n0 + 1) u') ∧ Hid (Down4 F n0 k j u') ∧ Hid (Below w.heap.size w wt)) (fun i _ => 4 - (intOf i).toNat)
        case atStart => exact ⟨0, u, by omega, rfl, HR.out, D4.out, HB.out⟩
        case round =>
          clear HR HD HB D4 ck g0 e0 e1 e2 e3
          rename World => wt
          obtain ⟨j, u', hj, rfl, HR, HD, HB⟩ := hrel
          by_cases hlt : j < 4
          · have hidx := four_index (qa F k).2 j hlt
            unfold kv at hidx
            have j0 : (0 : Int) ≤ (j : Int) := by omega
            have j1 : (j : Int) < 4 := by omega
            have hki := (good_quad hg (q := k) (by omega) h2).2.2.2.1 j hlt
            have hkl := kid_lt hg (q := k) (by omega) h2 hlt
            have HD2 := hid (HD.out.step h2 hk hlt hkl)
            have hkk : kidq F k j = (ia (qa F k).2 j).toNat := rfl
            rw [hkk] at HD2 hkl
            clear hkk
            generalize ia (qa F k).2 j = x at *
            have x0 : 0 ≤ x := hki.1
            have x1 : x < ((n0 + 1 : Nat) : Int) := by omega
            have cx := World.rowIs.cell HR.out (i := x.toNat) (by omega)
            have fx := World.rowIs.frozen HR.out x.toNat
            have HR2 := hid (HR.out.put x.toNat)
            have HB2 := hid (HB.out.setCell (p := ⟨w.heap.size, x.toNat, none⟩) (Nat.le_refl _) (.bool true))
            go_wp2_with fail
            go_roundw
            case rel => exact ⟨j + 1, _, by omega, by go_num, HR2.out, HD2.out, HB2.out⟩
            case measure => simp [intOf]; omega
          · obtain rfl : j = 4 := by omega
            have HD2 := hid HD.out.done
            go_wp2_with fail
            go_roundw
            case rel => exact ⟨k - 1, u', by omega, by go_num, HR.out, HD2.out, HB.out⟩
            case measure => simp [intOf]; omega
    · have i2 : (k : Int) < 2 := by omega
      have HDN := hid (show Down F n0 1 u from ⟨HD.out.reach, HD.out.self, fun y h1 => HD.out.kids y (by omega)⟩)
      have HX := hid (fun x hx => HDN.out.done hg h1 x hx)
      have HLT := hid (World.rowIs.lt HR.out)
      go_wp2_with fail
      go_loopw [44, 9] (fun i v wt => ∃ j : Nat, j ≤ n0 + 1 ∧ i = .int .i64 j ∧ Hid (BRow wt w.heap.size (n0 + 1) u) ∧ Hid (OwnI wt (w.heap.size + 1) v (gotTo u j)) ∧ Hid (Below w.heap.size w wt)) (fun i _ _ => n0 + 1 - (intOf i).toNat)
      case atStart => exact ⟨0, by omega, rfl, HR.out, OwnI.nil _ _, HB.out⟩
      case round =>
        clear HR HB HD
        rename World => wt
        obtain ⟨j, hj, rfl, HR, HO, HB⟩ := hrel
        by_cases hlt : j < n0 + 1
        · have j0 : (0 : Int) ≤ (j : Int) := by omega
          have j1 : (j : Int) < ((n0 + 1 : Nat) : Int) := by omega
          have j2 : (j : Int) < (n0 : Int) + 1 := by omega
          have cj := World.rowIs.cell HR.out (i := j) (by omega)
          have HGS := hid (show gotTo u (j + 1) = if u j then gotTo u j ++ [(j : Int)] else gotTo u j from rfl)
          have hgl := gotTo_len u j
          cases hu : u j
          · rw [hu] at cj HGS
            go_wp2_with fail
            go_roundw
            case rel => exact ⟨j + 1, by omega, by go_num, HR.out, by (show OwnI _ _ _ _; rw [HGS.out]; exact HO.out), HB.out⟩
            case measure => simp [intOf]; omega
          · rw [hu] at cj HGS
            have HBA := hid ((Below.refl wt.heap.size wt).alloc (Nat.le_refl _) (.cells #[.int .i64 (j : Int)] 3))
            have HOA := hid (HO.out.below HBA.out)
            have HRA := hid (HR.out.below HBA.out)
            have HB2 := hid (HB.out.trans (HBA.out.mono HB.out.size))
            have HSZ := hid (show w.heap.size + 1 ≤ wt.heap.size from World.rowIs.lt HR.out)
            go_wp2_with (at_builtin; refine wpList_appI rfl (.tmp 50) (.tmp 52) rfl (w.heap.size + 1) _ (gotTo u j) [(j : Int)] (some ⟨wt.heap.size, 0, none⟩) 1 1 rfl HOA.out rfl rfl (iseg_block (heap_alloc_new wt _)) (by intro h; cases h) (by simp; omega) (Nat.le_trans HSZ.out HBA.out.size) ?_; intro v6 w6 hO6 hG6 _)
            have HR6 := hid (World.rowIs.of_block HRA.out (hG6.block _ (World.rowIs.lt HRA.out) (by intro e; have := (HOA.out.lt _ e.symm).1; omega)))
            have HB6 := hid (HB2.out.grown hG6 HB2.out.size fun k hk => by have := (HOA.out.lt k hk).1; omega)
            have HO6 := hid hO6
            clear hO6 hG6
            go_roundw
            case rel => exact ⟨j + 1, by omega, by go_num, HR6.out, by (show OwnI _ _ _ _; rw [HGS.out]; exact HO6.out), HB6.out⟩
            case measure => simp [intOf]; omega
        · obtain rfl : j = n0 + 1 := by omega
          have HE := hid (show shrL F n0 = gotTo u (n0 + 1) from shrL_eq (gotTo_asc u _) (fun x => by
            rw [gotTo_mem]
            constructor
            · rintro ⟨n, h1, h2, h3⟩; exact ⟨n, h1, (HX.out n (by omega)).1 h3⟩
            · rintro ⟨n, h1', h2⟩
              have := h2.le hg h1
              exact ⟨n, h1', by omega, (HX.out n this).2 h2⟩))
          go_wp2_with fail
          go_ret
          exact ⟨_, rfl, by rw [HE.out]; exact HO.out, HB.out⟩

theorem OwnI.iown {w : World} {base : Nat} {v : Value} {l : List Int} (h : OwnI w base v l) : IOwn w base w.heap.size v l := by
  have h0 := h
  rcases h.2 with ⟨rfl, hn⟩ | ⟨g, cap, cur, rfl, hb, hg, hcap, hm, hs, ht⟩
  · exact .inl ⟨rfl, List.eq_nil_of_length_eq_zero hn⟩
  · have hlt := (Array.getElem?_eq_some_iff.1 hg).1
    refine .inr ⟨g, cap, rfl, hcap, hb, hlt, Nat.le_refl _, fun j hj => ⟨?_, World.ownsRow.frozenAt h0 j, hlt⟩⟩
    have := World.ownsRow.cellAt h0 j (by omega)
    rw [iv_at hj] at this
    exact this
theorem shrV_le (F : List Qd) (q : Int) : (shrV F q).length ≤ 1048576 := by
  cases ht : thereB F q
  · simp [shrV, ht]
  · obtain ⟨hg, h0, h1⟩ := there_bd ht
    have h4 := good_len2 hg
    simp only [shrV, ht, if_true]
    unfold shrL
    split
    · rename_i h
      have hs := Classical.choose_spec h
      have := asc_len (N := F.length) hs.1 (fun x hx => by
        obtain ⟨n, rfl, hr⟩ := (hs.2 x).1 hx
        have := hr.le hg (by omega)
        omega)
      omega
    · simp

set_option maxHeartbeats 1000000 in
theorem c_iSharedIn' (a : Option Addr) (F : List Qd) (ca : Nat) (q : Int) (w : World) (ha : QSeg w a F) (hl : F.length ≤ 1048576) (hk : KidsLe F) (hca : F.length ≤ ca) (hcm : ca ≤ 9223372036854775807) :
    Calls Try.prog 37 #[.agg #[.slice a F.length ca], .int .i64 q] w fun e w' => ∃ v, e = .returned (.tuple #[v, .bool (thereB F q)]) ∧ OwnI w' w.heap.size v (shrV F q) ∧ Below w.heap.size w w' := by
  have BX := hid (Box1.new w (.slice a F.length ca) 25)
  have HC := hid (c_groveOf a F ca _ (ha.below BX.out.2.2) hl hk hca hcm)
  clear ha
  cases hg : goodF F
  · have HT : Hid (thereB F q = false) := by simp [Hid, thereB, hg]
    have HV : Hid (shrV F q = []) := by simp [Hid, shrV, HT.out]
    rw [hg] at HC
    go_enter Try.func37, Try.ntmps37
    go_wp2_with fail
    refine HC.out.mono ?_
    rintro e w1 ⟨pv, rfl, ho, hb⟩
    clear HC ho
    go_wp2
    go_ret2
    exact ⟨_, by rw [HT.out]; rfl, by rw [HV.out]; exact OwnI.nil _ _, (BX.out.step hb).2.2⟩
  · rw [hg] at HC
    have HG := hid hg
    go_enter Try.func37, Try.ntmps37
    go_wp2_with fail
    refine HC.out.mono ?_
    rintro e w1 ⟨pv, rfl, ho, hb⟩
    have X1 := hid (BX.out.step hb)
    clear HC hb BX
    rcases ho with ⟨_, p, g, cap, mb, base, _, rfl, hGr⟩ | ⟨e, _⟩
    · have H1 := hid hGr
      cases hin : inB 0 ((F.length : Int) - 1) q
      · have HT : Hid (thereB F q = false) := by simp [Hid, thereB, hin]
        have HV : Hid (shrV F q = []) := by simp [Hid, shrV, HT.out]
        have HH := hid (c_has' q false w1 hin H1.out)
        clear hGr hin hg
        go_wp2_with fail
        refine HH.out.mono ?_
        rintro e w2 ⟨rfl, hb⟩
        go_wp2
        go_ret2
        exact ⟨_, by rw [HT.out]; rfl, by rw [HV.out]; exact OwnI.nil _ _, (X1.out.step hb).2.2⟩
      · have HT : Hid (thereB F q = true) := by simp [Hid, thereB, hin, hg]
        have HV : Hid (shrV F q = shrL F q.toNat) := by simp [Hid, shrV, HT.out]
        have HH := hid (c_has' q true w1 hin H1.out)
        have hbd := inB_bd hin
        clear hGr hin hg
        go_wp2_with fail
        refine HH.out.mono ?_
        rintro e w2 ⟨rfl, hb⟩
        have H2 := hid (H1.out.below hb)
        have X2 := hid (X1.out.step hb)
        clear HH H1 X1 hb
        have HSH := hid (c_shared HG.out q.toNat w2 H2.out (by omega))
        rw [show ((q.toNat : Nat) : Int) = q by omega] at HSH
        go_wp2_with fail
        refine HSH.out.mono ?_
        rintro e w3 ⟨v3, rfl, hO3, hB3⟩
        have HO3 := hid hO3
        have X3 := hid (X2.out.step hB3)
        have HSZ := hid X2.out.2.2.size
        clear hO3 hB3
        go_wp2_with fail
        go_ret2
        exact ⟨_, by rw [HT.out]; rfl, by rw [HV.out]; exact HO3.out.mono (by have := HSZ.out; omega), X3.out.2.2⟩
    · rw [HG.out] at e; cases e
theorem c_iSharedIn (a : Option Addr) (F : List Qd) (ca : Nat) (q : Int) (w : World) (ha : QSeg w a F) (hl : F.length ≤ 1048576) (hk : KidsLe F) (hca : F.length ≤ ca) (hcm : ca ≤ 9223372036854775807) :
    Calls Try.prog 37 #[.agg #[.slice a F.length ca], .int .i64 q] w fun e w' => ∃ v, e = .returned (.tuple #[v, .bool (thereB F q)]) ∧ IOwn w' w.heap.size w'.heap.size v (shrV F q) ∧ Below w.heap.size w w' :=
  (c_iSharedIn' a F ca q w ha hl hk hca hcm).mono fun e w' ⟨v, h1, h2, h3⟩ => ⟨v, h1, h2.iown, h3⟩
theorem c_sSharedInI (a : Option Addr) (F : List Qd) (ca : Nat) (q : Int) (w : World) (ha : QSeg w a F) (hl : F.length ≤ 1048576) (hk : KidsLe F) (hca : F.length ≤ ca) (hcm : ca ≤ 9223372036854775807) :
    Calls Try.prog 38 #[.agg #[.slice a F.length ca], .int .i64 q] w fun e w' => ∃ v, e = .returned (.tuple #[v, .bool (thereB F q)]) ∧ IOwn w' w.heap.size w'.heap.size v (shrV F q) ∧ Below w.heap.size w w' :=
  (c_sSharedIn a F ca q w ha hl hk hca hcm).mono fun e w' ⟨v, h1, h2, h3⟩ => ⟨v, h1, h2.iown, h3⟩

end Go.Proofs.Ytmapbkefndbnnaa

namespace Go.Proofs.Ytmapbkefndbnnaa
open Go.RowKit Go.Maps
set_option linter.unusedVariables false
set_option linter.unusedSimpArgs false
attribute [local go_sem ↓] Go.wp_at_zero Go.wp_at_succ

def qn (f : Nat → Int) (j : Nat) : Value := if j % 2 = 0 then .int .i64 (f (j / 2)) else .slice none 0 0
/-- Two quads without kids are all of block g. -/
def NwRow (w : World) (g : Nat) (f : Nat → Int) : Prop := w.rowIs g 56 4 (qn f)
def two' (f : Nat → Int) : List Qd := [(f 0, []), (f 1, [])]
theorem NwRow.lev {w : World} {g : Nat} {f : Nat → Int} (h : NwRow w g f) {i : Nat} (hi : i < 2) : w.cell? ⟨g, i * 2, none⟩ = some (.int .i64 (f i)) := by
  have := World.rowIs.cell h (i := i * 2) (by omega)
  have e1 : i * 2 % 2 = 0 := by omega
  have e2 : i * 2 / 2 = i := by omega
  simpa [qn, e1, e2] using this
theorem NwRow.kid {w : World} {g : Nat} {f : Nat → Int} (h : NwRow w g f) {i : Nat} (hi : i < 2) : w.cell? ⟨g, i * 2 + 1, none⟩ = some (.slice none 0 0) := by
  have := World.rowIs.cell h (i := i * 2 + 1) (by omega)
  have e1 : (i * 2 + 1) % 2 = 1 := by omega
  simpa [qn, e1] using this
theorem NwRow.seg {w : World} {g : Nat} {f : Nat → Int} (h : NwRow w g f) : QSeg w (some ⟨g, 0, none⟩) (two' f) := by
  intro i hi
  have hi' : i < 2 := by simpa [two'] using hi
  have e : qa (two' f) i = (f i, []) := by
    rcases (show i = 0 ∨ i = 1 by omega) with rfl | rfl <;> rfl
  rw [e]
  exact ⟨g, 0, none, 0, rfl, World.rowIs.lt h, by simpa using h.lev hi', by simpa using h.kid hi', fun j hj => by simp at hj, by simp⟩
theorem NwRow.below {w w' : World} {g : Nat} {f : Nat → Int} (h : NwRow w g f) (hb : Below w.heap.size w w') : NwRow w' g f := World.rowIs.of_block h (hb.block _ (World.rowIs.lt h))
theorem NwRow.put {w : World} {g : Nat} {f : Nat → Int} (h : NwRow w g f) (i : Nat) (hi : i < 2) (v : Int) : NwRow (w.setCell ⟨g, i * 2, none⟩ (.int .i64 v)) g (fun j => if j = i then v else f j) := by
  refine (World.rowIs.set h (i * 2) (.int .i64 v)).congr fun j hj => ?_
  rcases (show j = 0 ∨ j = 1 ∨ j = 2 ∨ j = 3 by omega) with rfl | rfl | rfl | rfl <;> rcases (show i = 0 ∨ i = 1 by omega) with rfl | rfl <;> simp [qn]
theorem NwRow.fun_eq {w : World} {g : Nat} {f f' : Nat → Int} (h : NwRow w g f) (e : ∀ i, i < 2 → f i = f' i) : NwRow w g f' := by
  refine World.rowIs.congr h fun j hj => ?_
  unfold qn
  rw [e (j / 2) (by omega)]

set_option maxHeartbeats 400000 in
theorem c_markNil (k : Int) (w : World) : Calls Try.prog 147 #[.slice none 0 0, .int .i64 k] w fun e w' => e = .returned (.int .i64 k) ∧ w' = w := by
  go_enter Try.func147, Try.ntmps147
  go_wp2
  go_loopw [1, 5] (fun s i wr => s = .int .i64 k ∧ i = .int .i64 0 ∧ wr = w) (fun _ _ _ => 0)
  case atStart => exact ⟨rfl, rfl, rfl⟩
  case round =>
    obtain ⟨rfl, rfl, rfl⟩ := hrel
    go_wp2
    go_ret
    exact ⟨rfl, rfl⟩
set_option maxHeartbeats 400000 in
theorem c_heldNil (k : Int) (w : World) : Calls Try.prog 148 #[.slice none 0 0, .int .i64 k] w fun e w' => e = .returned (.int .i64 k) ∧ w' = w := by
  go_enter Try.func148, Try.ntmps148
  go_wp2
  go_loopw [1, 5] (fun s i wr => s = .int .i64 k ∧ i = .int .i64 0 ∧ wr = w) (fun _ _ _ => 0)
  case atStart => exact ⟨rfl, rfl, rfl⟩
  case round =>
    obtain ⟨rfl, rfl, rfl⟩ := hrel
    go_wp2
    go_ret
    exact ⟨rfl, rfl⟩
theorem grown_set {w W : World} {g i : Nat} (h : w.grownBy W (some g)) (v : Value) : w.grownBy (W.setCell ⟨g, i, none⟩ v) (some g) :=
  ⟨h.os, h.tape, h.output, by simpa using h.size, fun k hk hne => (Below.heap_setCell W ⟨g, i, none⟩ v k (fun e => hne (by rw [e]))).trans (h.block k hk hne)⟩
theorem grown_sameN (w : World) (r : Option Nat) : w.grownBy w r := ⟨rfl, rfl, rfl, Nat.le_refl _, fun _ _ _ => rfl⟩

set_option maxHeartbeats 1000000 in
theorem c_markTwo (g : Nat) (f : Nat → Int) (w : World) (h : NwRow w g f) :
    Calls Try.prog 125 #[.slice (some ⟨g, 0, none⟩) 2 2, .int .i64 1] w fun e w' => e = .returned (.int .i64 3) ∧ NwRow w' g (fun i => (i : Int) + 1) ∧ w.grownBy w' (some g) := by
  have H0 := hid h
  clear h
  go_enter Try.func125, Try.ntmps125
  go_wp2
  go_loopw [1, 5] (fun s i wr => ∃ j : Nat, j ≤ 2 ∧ s = .int .i64 ((j : Int) + 1) ∧ i = .int .i64 j ∧ Hid (NwRow wr g (fun i => if i < j then (i : Int) + 1 else f i)) ∧ Hid (w.grownBy wr (some g))) (fun _ i _ => 2 - (intOf i).toNat)
  case atStart => exact ⟨0, by omega, rfl, rfl, (H0.out.fun_eq fun i hi => by simp : NwRow _ _ _), grown_sameN _ _⟩
  case round =>
    clear H0
    obtain ⟨j, hj, rfl, rfl, HR, HG⟩ := hrel
    by_cases hlt : j < 2
    · have k0 : (0 : Int) ≤ (j : Int) := by omega
      have k1 : (j : Int) < 2 := by omega
      have c0 := HR.out.lev hlt
      have f0 := World.rowIs.frozen HR.out (j * 2)
      have HR2 := hid ((HR.out.put j hlt ((j : Int) + 1)).fun_eq (f' := fun i => if i < j + 1 then (i : Int) + 1 else f i) (fun i hi => by
        by_cases e : i = j
        · subst e; simp
        · have e2 : (i < j + 1) = (i < j) := by apply propext; omega
          simp [e, e2]))
      have HG2 := hid (grown_set (i := j * 2) HG.out (.int .i64 ((j : Int) + 1)))
      have c1 := HR2.out.kid hlt
      go_wp2_with fail
      refine (c_markNil _ _).mono ?_
      rintro e w2 ⟨rfl, rfl⟩
      go_wp2
      go_roundw
      case rel => exact ⟨j + 1, by omega, by go_num, by go_num, HR2.out, HG2.out⟩
      case measure => simp [intOf]; omega
    · go_wp2
      go_ret
      obtain rfl : j = 2 := by omega
      exact ⟨rfl, HR.out.fun_eq fun i hi => by simp [hi], HG.out⟩

set_option maxHeartbeats 1000000 in
theorem c_heldTwo (g : Nat) (w : World) (h : NwRow w g (fun i => (i : Int) + 1)) :
    Calls Try.prog 126 #[.slice (some ⟨g, 0, none⟩) 2 2, .int .i64 1] w fun e w' => e = .returned (.int .i64 3) ∧ w' = w := by
  have H0 := hid h
  clear h
  go_enter Try.func126, Try.ntmps126
  go_wp2
  go_loopw [1, 5] (fun s i wr => ∃ j : Nat, j ≤ 2 ∧ s = .int .i64 ((j : Int) + 1) ∧ i = .int .i64 j ∧ wr = w) (fun _ i _ => 2 - (intOf i).toNat)
  case atStart => exact ⟨0, by omega, rfl, rfl, rfl⟩
  case round =>
    obtain ⟨j, hj, rfl, rfl, rfl⟩ := hrel
    by_cases hlt : j < 2
    · have k0 : (0 : Int) ≤ (j : Int) := by omega
      have k1 : (j : Int) < 2 := by omega
      have c0 := H0.out.lev hlt
      have c1 := H0.out.kid hlt
      have d0 : ((j : Int) + 1 != (j : Int) + 1) = false := by simp
      have d1 : ¬ (j : Int) + 1 + 1 < 0 := by omega
      go_wp2_with fail
      refine (c_heldNil _ _).mono ?_
      rintro e w2 ⟨rfl, rfl⟩
      go_wp2
      go_roundw
      case rel => exact ⟨j + 1, by omega, by go_num, by go_num, by first | rfl | trivial⟩
      case measure => simp [intOf]; omega
    · go_wp2
      go_ret
      obtain rfl : j = 2 := by omega
      exact ⟨rfl, rfl⟩

set_option maxHeartbeats 400000 in
theorem c_markForest2 (g : Nat) (f : Nat → Int) (w : World) (h : NwRow w g f) :
    Calls Try.prog 70 #[.agg #[.slice (some ⟨g, 0, none⟩) 2 2], .int .i64 1] w fun e w' => e = .returned (.int .i64 3) ∧ NwRow w' g (fun i => (i : Int) + 1) ∧ w.grownBy w' (some g) := by
  have B := hid ((Below.refl w.heap.size w).alloc (Nat.le_refl _) (.cells #[.slice (some ⟨g, 0, none⟩) 2 2] 25))
  have HC := hid (c_markTwo g f _ (h.below B.out))
  clear h
  go_enter Try.func70, Try.ntmps70
  go_wp2_with fail
  refine HC.out.mono ?_
  rintro e w1 ⟨rfl, hR, hg⟩
  clear HC
  go_wp2
  go_ret
  refine ⟨rfl, hR, hg.os.trans B.out.os, hg.tape.trans B.out.tape, hg.output.trans B.out.output, Nat.le_trans B.out.size hg.size, fun k hk hne => (hg.block k (Nat.lt_of_lt_of_le hk B.out.size) hne).trans (B.out.block k hk)⟩
set_option maxHeartbeats 400000 in
theorem c_heldForest2 (g : Nat) (w : World) (h : NwRow w g (fun i => (i : Int) + 1)) :
    Calls Try.prog 71 #[.agg #[.slice (some ⟨g, 0, none⟩) 2 2], .int .i64 1] w fun e w' => e = .returned (.int .i64 3) ∧ Below w.heap.size w w' := by
  have B := hid ((Below.refl w.heap.size w).alloc (Nat.le_refl _) (.cells #[.slice (some ⟨g, 0, none⟩) 2 2] 25))
  have HC := hid (c_heldTwo g _ (h.below B.out))
  clear h
  go_enter Try.func71, Try.ntmps71
  go_wp2_with fail
  refine HC.out.mono ?_
  rintro e w1 ⟨rfl, rfl⟩
  clear HC
  go_wp2
  go_ret
  exact ⟨rfl, B.out⟩

theorem nrow_of {w : World} {g : Nat} (h : w.heap[g]? = some (.cells #[.int .i64 0, .slice none 0 0, .int .i64 0, .slice none 0 0] 56)) : NwRow w g (fun _ => 0) := by
  refine ⟨_, h, rfl, fun i hi => ?_⟩
  rcases (show i = 0 ∨ i = 1 ∨ i = 2 ∨ i = 3 by omega) with rfl | rfl | rfl | rfl <;> rfl
set_option maxHeartbeats 400000 in
theorem c_sNewForest (w : World) :
    Calls Try.prog 32 #[] w fun e w' => e = .returned (.agg #[.slice (some ⟨w.heap.size + 1, 0, none⟩) 2 2]) ∧ NwRow w' (w.heap.size + 1) (fun _ => 0) ∧ Below w.heap.size w w' := by
  go_enter Try.func32, Try.ntmps32
  go_wp2
  refine bodyPost_ret (v := .agg #[.slice (some ⟨w.heap.size + 1, 0, none⟩) 2 2]) (by simp [results, Try.results32, go_sem]) rfl ⟨rfl, ?_, ?_⟩
  · refine nrow_of ?_
    have := heap_alloc_new (w.alloc (.cells #[.slice (some ⟨w.heap.size + 1, 0, none⟩) 2 2] 25)) (.cells #[.int .i64 0, .slice none 0 0, .int .i64 0, .slice none 0 0] 56)
    rw [show (w.alloc (.cells #[.slice (some ⟨w.heap.size + 1, 0, none⟩) 2 2] 25)).heap.size = w.heap.size + 1 by simp] at this
    exact this
  · exact ((Below.refl _ _).alloc (Nat.le_refl _) _).alloc (by simp) _

theorem two_lev {w : World} {base p g cap mb : Nat} (h : Grv w base p g cap mb two) {i : Nat} (hi : i < 2) : ∀ j, j < 5 → w.cell? ⟨g, i * 5 + j, none⟩ = some (.int .i64 0) := by
  intro j hj
  have h1 := World.ownsRow.cellAt h.own (i * 5 + j) (by have : two.length = 2 := rfl; omega)
  have e := nflat_at (G := two) (i := i) (j := j) (by have : two.length = 2 := rfl; omega) hj
  rw [h1, e]
  rcases (show i = 0 ∨ i = 1 by omega) with rfl | rfl <;> rcases (show j = 0 ∨ j = 1 ∨ j = 2 ∨ j = 3 ∨ j = 4 by omega) with rfl | rfl | rfl | rfl | rfl <;> rfl
theorem nrow_made (w : World) : NwRow (w.alloc (.cells (madeCells #[.int .i64 0, .slice none 0 0] (2 * 2)) 56)) w.heap.size (fun _ => 0) := by
  refine ⟨_, heap_alloc_new _ _, size_madeCells _ _, fun i hi => ?_⟩
  rcases (show i = 0 ∨ i = 1 ∨ i = 2 ∨ i = 3 by omega) with rfl | rfl | rfl | rfl <;> simp [madeCells, qn]

set_option maxHeartbeats 1000000 in
set_option maxRecDepth 100000 in
theorem c_forest2 (w : World) {base p g cap mb : Nat} (h : Grv w base p g cap mb two) :
    Calls Try.prog 96 #[.pointer (some ⟨p, 0, none⟩)] w fun e w' => e = .returned (.agg #[.slice (some ⟨w.heap.size + 1, 0, none⟩) 2 2]) ∧ NwRow w' (w.heap.size + 1) (fun _ => 0) ∧ Below w.heap.size w w' := by
  have hmk : ∀ w : World, (Instr.makeSlice 23 (.int .i64 2) (.int .i64 2)).run Try.prog w = .ok (.slice (some ⟨w.heap.size, 0, none⟩) 2 2) (w.alloc (.cells (madeCells #[.int .i64 0, .slice none 0 0] (2 * 2)) 56)) := fun w => make_Quads 2 (by omega) w
  have c0 := h.c0
  rw [show two.length = 2 from rfl] at c0
  have HL := hid h.box.lt
  have hpl := h.box.lt
  have B1 := hid ((Below.refl w.heap.size w).alloc (Nat.le_refl _) (.cells #[.slice none 0 0] 25))
  have B2 := hid (B1.out.alloc (by simp) (.cells (madeCells #[.int .i64 0, .slice none 0 0] (2 * 2)) 56))
  have R2 := nrow_made (w.alloc (.cells #[.slice none 0 0] 25))
  rw [show (w.alloc (.cells #[.slice none 0 0] 25)).heap.size = w.heap.size + 1 by simp] at R2
  have RR2 := hid R2
  have X1 := Box1.new w (.slice none 0 0) 25
  have HG := hid h
  clear h R2
  go_enter Try.func96, Try.ntmps96
  go_wp2
  go_loopw [17] (fun i wr => ∃ k : Nat, k ≤ 2 ∧ i = .int .i64 k ∧ Hid (NwRow wr (w.heap.size + 1) (fun _ => 0)) ∧ Hid (wr.rowIs w.heap.size 25 1 (fun _ => .slice none 0 0)) ∧ Hid (Below w.heap.size w wr)) (fun i _ => 2 - (intOf i).toNat)
  case atStart => exact ⟨0, by omega, rfl, RR2.out, ((one_row (heap_alloc_new _ _) : World.rowIs _ _ _ _ _).alloc _ : World.rowIs _ _ _ _ _), B2.out⟩
  case round =>
    clear RR2 B1 B2 hmk c0 X1
    obtain ⟨k, hk, rfl, HR, HX, HB⟩ := hrel
    have HGw := hid (HG.out.below HB.out)
    by_cases hlt : k < 2
    · have k0 : (0 : Int) ≤ (k : Int) := by omega
      have k1 : (k : Int) < 2 := by omega
      have hk2 : ¬ (2 : Int) ≤ (k : Int) := by omega
      have hcell := two_lev HGw.out hlt
      have n0 := hcell 0 (by omega)
      rw [Nat.add_zero] at n0
      have n1 := hcell 1 (by omega)
      have n2 := hcell 2 (by omega)
      have n3 := hcell 3 (by omega)
      have n4 := hcell 4 (by omega)
      have hgl := HGw.out.lt.2
      have hrl := World.rowIs.lt HR.out
      have r0 := HR.out.lev hlt
      have f0 := World.rowIs.frozen HR.out (k * 2)
      have HR2 := hid (((HR.out.put k hlt 0).fun_eq (f' := fun _ => 0) (fun i hi => by simp)).below ((Below.refl _ _).alloc (Nat.le_refl _) (.cells #[.int .i64 0, .int .i64 0, .int .i64 0, .int .i64 0, .int .i64 0] 109)))
      have HX2 := hid ((HX.out.setOther (a := ⟨w.heap.size + 1, k * 2, none⟩) (by dsimp only; omega) (.int .i64 0)).alloc (.cells #[.int .i64 0, .int .i64 0, .int .i64 0, .int .i64 0, .int .i64 0] 109))
      have HBz := HB.out.setCell (p := ⟨w.heap.size + 1, k * 2, none⟩) (by dsimp only; omega) (.int .i64 0)
      have HB2 := hid (HBz.alloc HBz.size (.cells #[.int .i64 0, .int .i64 0, .int .i64 0, .int .i64 0, .int .i64 0] 109))
      clear HBz
      clear hcell HR HX HB HGw
      go_wp2
      go_roundw
      case rel => exact ⟨k + 1, by omega, by go_num, HR2.out, HX2.out, HB2.out⟩
      case measure => simp [intOf]; omega
    · obtain rfl : k = 2 := by omega
      have x0 := HX.out.cell (i := 0) (by omega)
      have f0 := HX.out.frozen 0
      have e0 := (HX.out.set 0 (.slice (some ⟨w.heap.size + 1, 0, none⟩) 2 2)).cell (i := 0) (by omega)
      simp only [if_true] at e0
      have E0 := hid e0
      have HRS := hid (World.rowIs.setOther HR.out (a := ⟨w.heap.size, 0, none⟩) (by dsimp only; omega) (.slice (some ⟨w.heap.size + 1, 0, none⟩) 2 2))
      have HBS := hid (HB.out.setCell (p := ⟨w.heap.size, 0, none⟩) (Nat.le_refl _) (.slice (some ⟨w.heap.size + 1, 0, none⟩) 2 2))
      clear e0 HR HX HB HGw
      go_wp2
      refine bodyPost_ret (v := .agg #[.slice (some ⟨w.heap.size + 1, 0, none⟩) 2 2]) (by simp [results, Try.results96, go_sem, E0.out]) rfl ⟨rfl, HRS.out, HBS.out⟩

set_option maxHeartbeats 1000000 in
theorem c_iNewForest (w : World) :
    Calls Try.prog 30 #[] w fun e w' => ∃ g, e = .returned (.agg #[.slice (some ⟨g, 0, none⟩) 2 2]) ∧ NwRow w' g (fun _ => 0) ∧ w.heap.size < g ∧ Below w.heap.size w w' := by
  have X1 := hid (show (w.alloc (.cells #[.slice none 0 0] 25)).rowIs w.heap.size 25 1 (fun _ => .slice none 0 0) from one_row (heap_alloc_new _ _))
  have B1 := hid ((Below.refl w.heap.size w).alloc (Nat.le_refl _) (.cells #[.slice none 0 0] 25))
  have HC := hid (c_newGrove (w.alloc (.cells #[.slice none 0 0] 25)))
  have hs1 : (w.alloc (.cells #[.slice none 0 0] 25)).heap.size = w.heap.size + 1 := by simp
  have HS1 := hid hs1
  rw [hs1] at HC
  clear hs1
  go_enter Try.func30, Try.ntmps30
  go_wp2_with fail
  refine HC.out.mono ?_
  rintro e w1 ⟨rfl, hG, hb⟩
  have hb' : Below (w.alloc (.cells #[.slice none 0 0] 25)).heap.size (w.alloc (.cells #[.slice none 0 0] 25)) w1 := by rw [HS1.out]; exact hb
  have X2 := hid (X1.out.of_block (hb'.block _ X1.out.lt))
  have B2 := hid (Below.then B1.out hb' (by simp))
  have HG := hid hG
  clear HC X1 B1 hG hb hb'
  have hw1 := X2.out.lt
  go_wp2_with fail
  refine (c_forest2 w1 HG.out).mono ?_
  rintro e w2 ⟨rfl, hR, hb⟩
  have X3 := hid (X2.out.of_block (hb.block _ X2.out.lt))
  have B3 := hid (B2.out.trans (hb.mono B2.out.size))
  have HR := hid hR
  clear X2 B2 HG hR hb
  have x0 := X3.out.cell (i := 0) (by omega)
  have f0 := X3.out.frozen 0
  have e0 := (X3.out.set 0 (.slice (some ⟨w1.heap.size + 1, 0, none⟩) 2 2)).cell (i := 0) (by omega)
  simp only [if_true] at e0
  have E0 := hid e0
  have HRS := hid (World.rowIs.setOther HR.out (a := ⟨w.heap.size, 0, none⟩) (by dsimp only; omega) (.slice (some ⟨w1.heap.size + 1, 0, none⟩) 2 2))
  have HBS := hid (B3.out.setCell (p := ⟨w.heap.size, 0, none⟩) (Nat.le_refl _) (.slice (some ⟨w1.heap.size + 1, 0, none⟩) 2 2))
  clear e0 X3 B3 HR
  go_wp2
  exact bodyPost_ret (v := .agg #[.slice (some ⟨w1.heap.size + 1, 0, none⟩) 2 2]) (by simp [results, Try.results30, go_sem, E0.out]) rfl ⟨w1.heap.size + 1, rfl, HRS.out, by omega, HBS.out⟩

end Go.Proofs.Ytmapbkefndbnnaa

namespace Go.Proofs.Ytmapbkefndbnnaa
set_option linter.unusedVariables false

/-- A good forest, but for its greatest length. -/
def FineF (F : List Qd) : Prop := 2 ≤ F.length ∧ ∀ i, i < F.length → fineQ F i = true
theorem good_fineF {F : List Qd} (h : goodF F = true) : FineF F := ⟨(good_len2 h).1, fun i hi => good_fine h hi⟩
theorem FineF.good {F : List Qd} (h : FineF F) (hl : F.length ≤ 400) : goodF F = true := by
  have h2 := h.1
  simp only [goodF, Bool.and_eq_true, inB, decide_eq_true_eq]
  exact ⟨⟨by omega, by omega⟩, allB_iff.2 h.2⟩
theorem fineQ_old {F G : List Qd} {i : Nat} (ho : ∀ j, j ≤ i → qa G j = qa F j) (h : fineQ F i = true) : fineQ G i = true := by
  unfold fineQ at h ⊢
  rw [ho i (Nat.le_refl _)]
  split
  · rename_i h2
    rw [if_pos h2] at h
    exact h
  · rename_i h2
    rw [if_neg h2] at h
    simp only [Bool.and_eq_true] at h ⊢
    obtain ⟨⟨⟨⟨h1, h3⟩, h4⟩, h5⟩, h6⟩ := h
    refine ⟨⟨⟨⟨h1, h3⟩, h4⟩, allB_iff.2 fun j hj => ?_⟩, allB_iff.2 fun j hj => ?_⟩
    · have a := inB_bd (allB_iff.1 h3 j hj)
      rw [ho _ (by omega)]
      exact allB_iff.1 h5 j hj
    · rw [ho j (by omega), ho i (Nat.le_refl _)]
      exact allB_iff.1 h6 j hj
theorem joinF_fine {F : List Qd} (h : FineF F) {l : List Int} {v : Int} (hl : l.length = 4) (hk : ∀ j, j < 4 → 0 ≤ ia l j ∧ ia l j < (F.length : Int)) (hv : ∀ j, j < 4 → (qa F (ia l j).toNat).1 = v) (v0 : 0 ≤ v) (v5 : v < 5) : FineF (joinF F l).1 := by
  have h2 := h.1
  unfold joinF
  split
  · exact h
  · rename_i hn
    have new : ∀ q : Qd, qa (F ++ [q]) F.length = q := fun q => by simp [qa]
    have old : ∀ (q : Qd) i, i < F.length → qa (F ++ [q]) i = qa F i := fun q i hi => by simp [qa, List.getElem?_append_left hi]
    refine ⟨by simp; omega, fun i hi => ?_⟩
    simp only [List.length_append, List.length_singleton] at hi
    by_cases e : i < F.length
    · exact fineQ_old (fun j hj => old _ j (by omega)) (h.2 i e)
    · have e : i = F.length := by omega
      subst e
      unfold fineQ
      rw [if_neg (by omega), new]
      simp only [Bool.and_eq_true]
      have v1 := hv 0 (by omega)
      refine ⟨⟨⟨⟨by simpa using hl, allB_iff.2 fun j hj => ?_⟩, ?_⟩, allB_iff.2 fun j hj => ?_⟩, allB_iff.2 fun j hj => ?_⟩
      · have := hk j (by omega)
        simp only [inB, Bool.and_eq_true, decide_eq_true_eq]
        omega
      · simp only [inB, Bool.and_eq_true, decide_eq_true_eq]
        omega
      · have a := hk j (by omega)
        have b := hv j (by omega)
        rw [old _ _ (by omega)]
        simp only [decide_eq_true_eq]
        omega
      · rw [old _ j hj, new]
        simp only [Bool.not_eq_true', decide_eq_false_iff_not]
        by_cases h3 : j < 2
        · have a := h.2 j hj
          unfold fineQ at a
          rw [if_pos h3] at a
          simp only [Bool.and_eq_true, decide_eq_true_eq] at a
          intro z
          rw [z] at a
          omega
        · exact findF_none hn j (by omega) hj
theorem treeL_fine (L : List Cl) : ∀ (n : Nat) (x y : Int) (F : List Qd), n ≤ 5 → Grows F → FineF F → FineF (treeL L n x y F).1
  | 0, x, y, F, hn, h, hf => hf
  | n + 1, x, y, F, hn, h, hf => by
    have t0 := treeL_tr L n x y F (by omega) h
    have f0 := treeL_fine L n x y F (by omega) h hf
    have t1 := treeL_tr L n (x + 2 ^ n) y _ (by omega) t0.grows
    have f1 := treeL_fine L n (x + 2 ^ n) y _ (by omega) t0.grows f0
    have t2 := treeL_tr L n x (y + 2 ^ n) _ (by omega) t1.grows
    have f2 := treeL_fine L n x (y + 2 ^ n) _ (by omega) t1.grows f1
    have t3 := treeL_tr L n (x + 2 ^ n) (y + 2 ^ n) _ (by omega) t2.grows
    have f3 := treeL_fine L n (x + 2 ^ n) (y + 2 ^ n) _ (by omega) t2.grows f2
    have z := (tr_join (by omega) t0 t1 t2 t3).2.1
    refine joinF_fine f3 (v := (n : Int)) rfl z (fun j hj => ?_) (by omega) (by omega)
    have a0 := t0.lt
    have a1 := t1.lt
    have a2 := t2.lt
    have m1 := t1.more
    have m2 := t2.more
    rcases (show j = 0 ∨ j = 1 ∨ j = 2 ∨ j = 3 by omega) with rfl | rfl | rfl | rfl
    · simp only [ia, List.getD_cons_zero, Int.toNat_natCast]
      rw [t3.old _ (by omega), t2.old _ (by omega), t1.old _ (by omega)]
      exact t0.lev
    · simp only [ia, List.getD_cons_zero, List.getD_cons_succ, Int.toNat_natCast]
      rw [t3.old _ (by omega), t2.old _ (by omega)]
      exact t1.lev
    · simp only [ia, List.getD_cons_zero, List.getD_cons_succ, Int.toNat_natCast]
      rw [t3.old _ (by omega)]
      exact t2.lev
    · simp only [ia, List.getD_cons_zero, List.getD_cons_succ, Int.toNat_natCast]
      exact t3.lev

/-- How many cells there are does not hang on the corner. -/
theorem cellsL_len_at (F : List Qd) : ∀ (n q : Nat) (x y u v : Int), (cellsL F n q x y).length = (cellsL F n q u v).length
  | 0, q, x, y, u, v => by simp only [cellsL]; split <;> rfl
  | n + 1, q, x, y, u, v => by
    simp only [cellsL, List.length_append]
    rw [cellsL_len_at F n (kidq F q 0) x y u v, cellsL_len_at F n (kidq F q 1) _ _ (u + 2 ^ n) v, cellsL_len_at F n (kidq F q 2) _ _ u (v + 2 ^ n), cellsL_len_at F n (kidq F q 3) _ _ (u + 2 ^ n) (v + 2 ^ n)]
/-- A quad's count is its kids' counts together. -/
theorem count_kids {F : List Qd} {q n : Nat} (hq : levN F q = n + 1) (hk : ∀ j, j < 4 → levN F (kidq F q j) = n) :
    (cellsOfQ F q).length = (cellsOfQ F (kidq F q 0)).length + (cellsOfQ F (kidq F q 1)).length + (cellsOfQ F (kidq F q 2)).length + (cellsOfQ F (kidq F q 3)).length := by
  unfold cellsOfQ
  rw [hq, hk 0 (by omega), hk 1 (by omega), hk 2 (by omega), hk 3 (by omega)]
  simp only [cellsL, List.length_append]
  rw [cellsL_len_at F n (kidq F q 1) _ _ 0 0, cellsL_len_at F n (kidq F q 2) _ _ 0 0, cellsL_len_at F n (kidq F q 3) _ _ 0 0]

/-- How many squares a tree of a level has. -/
def sqs : Nat → Nat
  | 0 => 1
  | n + 1 => 1 + 4 * sqs n
theorem sqs_up : ∀ n, sqs (n + 1) = sqs n + 4 ^ (n + 1)
  | 0 => rfl
  | n + 1 => by
    have := sqs_up n
    show 1 + 4 * sqs (n + 1) = sqs (n + 1) + 4 ^ (n + 1 + 1)
    rw [Nat.pow_succ 4 (n + 1)]
    have e : sqs (n + 1) = 1 + 4 * sqs n := rfl
    omega
/-- The quads of all its squares. -/
def allQ (F : List Qd) : Nat → Nat → List Nat
  | 0, q => [q]
  | n + 1, q => q :: (allQ F n (kidq F q 0) ++ (allQ F n (kidq F q 1) ++ (allQ F n (kidq F q 2) ++ allQ F n (kidq F q 3))))
theorem allQ_len (F : List Qd) : ∀ n q, (allQ F n q).length = sqs n
  | 0, q => rfl
  | n + 1, q => by
    simp only [allQ, List.length_cons, List.length_append, allQ_len F n, sqs]
    omega
theorem reach_allQ {F : List Qd} (hg : goodF F = true) : ∀ (n q x : Nat), q < F.length → levN F q = n → Reach F q x → x ∈ allQ F n q
  | 0, q, x, hq, hn, h => by
    have b := lev_nonneg hg hq
    have := (lev_two hg hq).1 (by unfold levN at hn; omega)
    rw [h.low hg this]
    simp [allQ]
  | n + 1, q, x, hq, hn, h => by
    rcases reach_cases h with rfl | ⟨h2, i, hi, hr⟩
    · simp [allQ]
    · have k := kid_lt hg hq h2 hi
      have g := good_quad hg hq h2
      have z := reach_allQ hg n (kidq F q i) x (by omega) (by have := g.2.2.2.2 i hi; unfold levN at *; omega) hr
      simp only [allQ, List.mem_cons, List.mem_append]
      rcases (show i = 0 ∨ i = 1 ∨ i = 2 ∨ i = 3 by omega) with rfl | rfl | rfl | rfl <;> simp [z]
theorem len_le_of_sub : ∀ {l m : List Int}, l.Nodup → (∀ x ∈ l, x ∈ m) → l.length ≤ m.length
  | [], m, _, _ => by simp
  | a :: t, m, hd, hs => by
    rw [List.nodup_cons] at hd
    have hm := hs a (by simp)
    have := len_le_of_sub (m := m.erase a) hd.2 (fun x hx => by
      have hne : x ≠ a := fun e => hd.1 (by rw [← e]; exact hx)
      exact (List.mem_erase_of_ne hne).2 (hs x (by simp [hx])))
    rw [List.length_erase_of_mem hm] at this
    have := List.length_pos_of_mem hm
    simp only [List.length_cons]
    omega
theorem shrL_spec {F : List Qd} (hg : goodF F = true) {q : Nat} (hq : q < F.length) : Asc (shrL F q) ∧ ∀ x, x ∈ shrL F q ↔ ∃ n : Nat, x = n ∧ Reach F q n := by
  classical
  have h1 := gotTo_asc (fun x => decide (Reach F q x)) (q + 1)
  have h2 : ∀ x, x ∈ gotTo (fun x => decide (Reach F q x)) (q + 1) ↔ ∃ n : Nat, x = n ∧ Reach F q n := by
    intro x
    rw [gotTo_mem]
    constructor
    · rintro ⟨n, e, _, h⟩
      exact ⟨n, e, by simpa using h⟩
    · rintro ⟨n, e, h⟩
      have := h.le hg hq
      exact ⟨n, e, by omega, by simpa using h⟩
  rw [shrL_eq h1 h2]
  exact ⟨h1, h2⟩
/-- A tree is made of no more quads than it has squares. -/
theorem shrL_len {F : List Qd} (hg : goodF F = true) {q : Nat} (hq : q < F.length) : (shrL F q).length ≤ sqs (levN F q) := by
  obtain ⟨h1, h2⟩ := shrL_spec hg hq
  have := len_le_of_sub (m := (allQ F (levN F q) q).map (fun n : Nat => (n : Int))) (asc_nodup h1) (fun x hx => by
    obtain ⟨n, rfl, hr⟩ := (h2 x).1 hx
    exact List.mem_map.2 ⟨n, reach_allQ hg _ q n hq rfl hr, rfl⟩)
  rw [List.length_map, allQ_len] at this
  exact this
theorem shrL_self {F : List Qd} (hg : goodF F = true) {q : Nat} (hq : q < F.length) : (q : Int) ∈ shrL F q := ((shrL_spec hg hq).2 _).2 ⟨q, rfl, .self⟩
/-- .. and of their kids. -/
theorem shrL_kid {F : List Qd} (hg : goodF F = true) {q x j : Nat} (hq : q < F.length) (hx : (x : Int) ∈ shrL F q) (hj : j < (qa F x).2.length) : x < F.length ∧ ia (qa F x).2 j ∈ shrL F q := by
  obtain ⟨n, e, hr⟩ := ((shrL_spec hg hq).2 _).1 hx
  obtain rfl : x = n := by omega
  have hl := hr.le hg hq
  refine ⟨by omega, ?_⟩
  by_cases h2 : x < 2
  · have := (good_zero hg (show x < F.length by omega) h2).2
    omega
  · have g := good_quad hg (show x < F.length by omega) (by omega)
    have a := g.2.2.2.1 j (by omega)
    exact ((shrL_spec hg hq).2 _).2 ⟨kidq F x j, by unfold kidq; omega, .kid hr (by omega) (by omega)⟩

end Go.Proofs.Ytmapbkefndbnnaa

namespace Go.Proofs.Ytmapbkefndbnnaa
open Go.RowKit Go.Maps
set_option linter.unusedVariables false
set_option linter.unusedSimpArgs false
attribute [local go_sem ↓] Go.wp_at_zero Go.wp_at_succ

/-- May these be joined? -/
def jqOK (F : List Qd) (l : List Int) : Bool := goodF F && decide (l.length = 4) && canJ F l
def jqF (F : List Qd) (l : List Int) : List Qd := if jqOK F l then tellF (joinF F l).1 else []
def jqQ (F : List Qd) (l : List Int) : Int := if jqOK F l then tellQ (joinF F l).1 ((joinF F l).2 : Int) else 0
def jqB (F : List Qd) (l : List Int) : Bool := jqOK F l && tellB (joinF F l).1
theorem canJ_all {F : List Qd} {l : List Int} (hl : l.length = 4) (h : canJ F l = true) : allIn l 0 ((F.length : Int) - 1) = true := by
  simp only [canJ, Bool.and_eq_true] at h
  refine allB_iff.2 fun i hi => ?_
  have := allB_iff.1 h.1 i (by omega)
  simp only [kidB, Bool.and_eq_true] at this
  exact this.1
theorem canJ_lev {F : List Qd} {l : List Int} (h : canJ F l = true) : ∀ i, i < 4 → (0 ≤ ia l i ∧ ia l i < (F.length : Int)) ∧ (qa F (ia l i).toNat).1 = (qa F (ia l 0).toNat).1 ∧ (qa F (ia l i).toNat).1 < 5 := by
  simp only [canJ, Bool.and_eq_true, decide_eq_true_eq] at h
  intro i hi
  have := allB_iff.1 h.1 i hi
  simp only [kidB, Bool.and_eq_true, decide_eq_true_eq] at this
  have b := inB_bd this.1
  exact ⟨⟨by omega, by omega⟩, this.2, by omega⟩
/-- Is kid i of the first one's level, and not too high? -/
def okK (F : List Qd) (l : List Int) (i : Nat) : Bool := decide ((qa F (ia l i).toNat).1 = (qa F (ia l 0).toNat).1) && decide ((qa F (ia l i).toNat).1 < 5)
theorem canJ_of {F : List Qd} {l : List Int} (hl : l.length = 4) (h1 : allIn l 0 ((F.length : Int) - 1) = true) (h2 : allB (okK F l) 4 = true) : canJ F l = true := by
  simp only [canJ, Bool.and_eq_true, decide_eq_true_eq]
  have h0 := allB_iff.1 h2 0 (by omega)
  simp only [okK, Bool.and_eq_true, decide_eq_true_eq] at h0
  refine ⟨allB_iff.2 fun i hi => ?_, h0.2⟩
  have a := allB_iff.1 h1 i (by omega)
  have b := allB_iff.1 h2 i hi
  simp only [okK, Bool.and_eq_true, decide_eq_true_eq] at b
  simp only [kidB, Bool.and_eq_true, decide_eq_true_eq]
  exact ⟨a, b.1⟩
theorem canJ_no_all {F : List Qd} {l : List Int} (hl : l.length = 4) (h1 : allIn l 0 ((F.length : Int) - 1) = false) : canJ F l = false := by
  cases h : canJ F l
  · rfl
  · rw [canJ_all hl h] at h1; cases h1
theorem canJ_no_ok {F : List Qd} {l : List Int} {k : Nat} (hk : k < 4) (h1 : okK F l k = false) : canJ F l = false := by
  cases h : canJ F l
  · rfl
  · have := canJ_lev h k hk
    simp only [okK, this.2.1, decide_true, Bool.true_and, decide_eq_false_iff_not] at h1
    rw [this.2.1] at this
    omega

theorem jq_small (F : List Qd) (l : List Int) : (jqF F l).length ≤ 1048576 ∧ KidsLe (jqF F l) ∧ posF (nsF (jqF F l)) (jqF F l).length ≤ 8388608 := by
  unfold jqF
  split
  · rename_i hok
    unfold tellF
    split
    · rename_i h4
      simp only [jqOK, Bool.and_eq_true, decide_eq_true_eq] at hok
      have hlv := canJ_lev hok.2
      have hG := joinF_grows (good_grows hok.1.1) hok.1.2 (fun j hj => (hlv j hj).1) (hlv 0 (by omega)).2.2
      refine ⟨by omega, hG.kidsLe, ?_⟩
      have hp : ∀ G : List Qd, Grows G → ∀ k, k ≤ G.length → posF (nsF G) k ≤ 1 + 5 * k := by
        intro G hG k
        induction k with
        | zero => intro _; simp [posF]
        | succ k ih =>
          intro hk
          have := ih (by omega)
          have : nsF G k ≤ 4 := by
            unfold nsF
            by_cases h2 : k < 2
            · rw [hG.low k h2]; simp
            · have := hG.len k (by omega) (by omega); omega
          simp only [posF]; omega
      have := hp _ hG (joinF F l).1.length (Nat.le_refl _)
      omega
    · exact ⟨by simp, fun i hi => by simp at hi, by simp [posF]⟩
  · exact ⟨by simp, fun i hi => by simp at hi, by simp [posF]⟩

end Go.Proofs.Ytmapbkefndbnnaa

namespace Go.Proofs.Ytmapbkefndbnnaa
open Go.RowKit Go.Maps
set_option linter.unusedVariables false
set_option linter.unusedSimpArgs false
attribute [local go_sem ↓] Go.wp_at_zero Go.wp_at_succ

set_option maxHeartbeats 4000000 in
set_option maxRecDepth 100000 in
theorem c_sJoinQuads (a : Option Addr) (F : List Qd) (ca : Nat) (la : Option Addr) (l : List Int) (lca : Nat) (w : World) (ha : QSeg w a F) (hl : F.length ≤ 1048576) (hk : KidsLe F) (hca : F.length ≤ ca) (hcm : ca ≤ 9223372036854775807) (hnc : NoneCap w a F) (hL : ISeg w la l) (hLl : l.length ≤ 1048576) :
    Calls Try.prog 35 #[.agg #[.slice a F.length ca], .slice la l.length lca] w fun e w' => ∃ u, e = .returned (.tuple #[.agg #[u], .int .i64 (jqQ F l), .bool (jqB F l)]) ∧ GF w' w.heap.size u (jqF F l) ∧ Below w.heap.size w w' := by
  obtain ⟨W1, hW1⟩ : ∃ W1, W1 = w.alloc (.cells #[.slice a F.length ca] 25) := ⟨_, rfl⟩
  have X1 := Box1.new w (.slice a F.length ca) 25
  rw [← hW1] at X1
  have hb2 := (Below.refl W1.heap.size W1).alloc (Nat.le_refl _) (.cells #[.slice none 0 0] 25)
  have X2 := X1.step hb2
  have R2 := one_row (heap_alloc_new W1 (.cells #[.slice none 0 0] 25))
  have s1 : W1.heap.size = w.heap.size + 1 := by rw [hW1]; simp
  rw [s1] at R2
  have s2 : (W1.alloc (.cells #[.slice none 0 0] 25)).heap.size = w.heap.size + 1 + 1 := by simp [s1]
  rw [hW1] at X2 R2 s2
  have HX := hid X2
  have HR := hid R2
  have HSZ := hid s2
  clear X1 X2 R2 s1 s2 hb2 hW1
  clear W1
  have x0 := HX.out.1
  have HQ := hid (ha.below HX.out.2.2)
  have HL2 := hid (hL.below HX.out.2.2)
  have HNC := hid (hnc.below ha HX.out.2.2)
  have HQ0 := hid ha
  have HL0 := hid hL
  clear ha hL hnc
  have fin : ∀ W : World, Below w.heap.size w W → ∃ u, Ending.returned (.tuple #[.agg #[.slice none 0 0], .int .i64 0, .bool false]) = .returned (.tuple #[.agg #[u], .int .i64 0, .bool false]) ∧ GF W w.heap.size u [] ∧ Below w.heap.size w W := fun W h => ⟨_, rfl, GF.nil _ _, h⟩
  cases hg : goodF F
  · have HC := hid (c_sGoodForest' a F ca false hg _ HQ.out hl hk hca hcm)
    have HV : Hid (jqF F l = [] ∧ jqQ F l = 0 ∧ jqB F l = false) := by simp [Hid, jqF, jqQ, jqB, jqOK, hg]
    clear hg x0
    go_enter Try.func35, Try.ntmps35
    go_wp2_with fail
    refine HC.out.mono ?_
    rintro e w3 ⟨rfl, hb⟩
    have R3 := hid (HR.out.of_block (hb.block _ HR.out.lt))
    have X3 := hid (HX.out.step hb)
    have x0 := X3.out.1
    clear HC hb
    have HBB := hid (Below.refl w3.heap.size w3)
    have R9 := R3.out.of_block (HBB.out.block _ R3.out.lt)
    have r0 := R9.cell (i := 0) (by omega)
    have f0 := R9.frozen 0
    have E0 := hid ((R9.set 0 (.slice none 0 0)).cell (i := 0) (by omega))
    simp only [if_true] at E0
    have HB := hid ((X3.out.step HBB.out).2.2.setCell (p := ⟨w.heap.size + 1, 0, none⟩) (by dsimp only; omega) (.slice none 0 0))
    clear R9 R3 X3 HBB
    go_wp2_with fail
    rw [HV.out.1, HV.out.2.1, HV.out.2.2]
    exact bodyPost_ret (v := .tuple #[.agg #[.slice none 0 0], .int .i64 0, .bool false]) (by simp [results, Try.results35, go_sem, E0.out]) rfl (fin _ HB.out)
  · have HC := hid (c_sGoodForest' a F ca true hg _ HQ.out hl hk hca hcm)
    have HG := hid hg
    have hg2 := good_len2 hg
    by_cases h4 : l.length = 4
    · have d4 : ((l.length : Int) != 4) = false := by simp [h4]
      have H4 := hid h4
      cases hall : allIn l 0 ((F.length : Int) - 1)
      · have HV : Hid (jqF F l = [] ∧ jqQ F l = 0 ∧ jqB F l = false) := by simp [Hid, jqF, jqQ, jqB, jqOK, canJ_no_all h4 hall]
        have HE := hid (fun W h => c_l1All' la l lca 0 ((F.length : Int) - 1) false hall W h hLl)
        clear h4 hall x0
        go_enter Try.func35, Try.ntmps35
        go_wp2_with fail
        refine HC.out.mono ?_
        rintro e w3 ⟨rfl, hb⟩
        have R3 := hid (HR.out.of_block (hb.block _ HR.out.lt))
        have X3 := hid (HX.out.step hb)
        have x0 := X3.out.1
        have L3 := hid (HL2.out.below hb)
        clear HC hb
        go_wp2_with fail
        refine (HE.out _ L3.out).mono ?_
        rintro e w5 ⟨rfl, hb⟩
        have HBB := hid hb
        clear hb HE x0
        have R9 := R3.out.of_block (HBB.out.block _ R3.out.lt)
        have r0 := R9.cell (i := 0) (by omega)
        have f0 := R9.frozen 0
        have E0 := hid ((R9.set 0 (.slice none 0 0)).cell (i := 0) (by omega))
        simp only [if_true] at E0
        have HB := hid ((X3.out.step HBB.out).2.2.setCell (p := ⟨w.heap.size + 1, 0, none⟩) (by dsimp only; omega) (.slice none 0 0))
        clear R9 R3 X3 HBB
        go_wp2_with fail
        rw [HV.out.1, HV.out.2.1, HV.out.2.2]
        exact bodyPost_ret (v := .tuple #[.agg #[.slice none 0 0], .int .i64 0, .bool false]) (by simp [results, Try.results35, go_sem, E0.out]) rfl (fin _ HB.out)
      · have HE := hid (fun W h => c_l1All' la l lca 0 ((F.length : Int) - 1) true hall W h hLl)
        have HAL := hid hall
        obtain ⟨bk, ok, rfl, hbk, kc0⟩ := HL0.out 0 (by omega)
        rw [Nat.add_zero] at kc0
        have HKC := hid kc0
        clear h4 hall x0 kc0
        go_enter Try.func35, Try.ntmps35
        go_wp2_with fail
        refine HC.out.mono ?_
        rintro e w3 ⟨rfl, hb⟩
        have R3 := hid (HR.out.of_block (hb.block _ HR.out.lt))
        have X3 := hid (HX.out.step hb)
        have x0 := X3.out.1
        have L3 := hid (HL2.out.below hb)
        have Q3 := hid (HQ.out.below hb)
        have N3 := hid (HNC.out.below HQ.out hb)
        clear HC hb HX HR HL2 HQ HNC
        go_wp2_with fail
        refine (HE.out _ L3.out).mono ?_
        rintro e w5 ⟨rfl, hb⟩
        have R5 := hid (R3.out.of_block (hb.block _ R3.out.lt))
        have X5 := hid (X3.out.step hb)
        have Q5 := hid (Q3.out.below hb)
        have N5 := hid (N3.out.below Q3.out hb)
        clear hb R3 X3 L3 Q3 N3 x0 HE
        go_wp2_with fail
        go_loopw [30] (fun i wr => ∃ k : Nat, k ≤ l.length ∧ i = .int .i64 k ∧ Hid (allB (okK F l) k = true) ∧ Hid (Below w5.heap.size w5 wr)) (fun i _ => l.length - (intOf i).toNat)
        case atStart => exact ⟨0, Nat.zero_le _, rfl, (rfl : _ = _), Below.refl _ _⟩
        case round =>
          obtain ⟨k, hkk, rfl, HT, HBW⟩ := hrel
          have h4' := H4.out
          by_cases hlt : k < l.length
          · have hk4 : k < 4 := by omega
            clear h4'
            obtain ⟨bk2, ok2, e2, hbk2, kck⟩ := HL0.out k hlt
            simp only [Option.some.injEq, Addr.mk.injEq, and_true] at e2
            obtain ⟨rfl, rfl⟩ := e2
            have hbd := inB_bd (allB_iff.1 HAL.out k hlt)
            have hbd0 := inB_bd (allB_iff.1 HAL.out 0 (by omega))
            have BW := hid (X5.out.2.2.trans (HBW.out.mono X5.out.2.2.size))
            have kk := (BW.out.cell (p := ⟨bk, ok + k, none⟩) hbk).trans kck
            have kz := (BW.out.cell (p := ⟨bk, ok, none⟩) hbk).trans HKC.out
            have hbw : bk < wr.heap.size := Nat.lt_of_lt_of_le hbk BW.out.size
            obtain ⟨b1, o1, ak, ck, e1, hb1, p1, _⟩ := HQ0.out (ia l k).toNat (by omega)
            obtain ⟨b1', o1', ak', ck', e1', hb1', p1', _⟩ := HQ0.out (ia l 0).toNat (by omega)
            rw [e1] at e1'
            simp only [Option.some.injEq, Addr.mk.injEq, and_true] at e1'
            obtain ⟨rfl, rfl⟩ := e1'
            subst e1
            have hbq : b1 < wr.heap.size := Nat.lt_of_lt_of_le hb1 BW.out.size
            have q1 := (BW.out.cell (p := ⟨b1, o1 + (ia l k).toNat * 2, none⟩) hb1).trans p1
            have q2 := (BW.out.cell (p := ⟨b1, o1 + (ia l 0).toNat * 2, none⟩) hb1).trans p1'
            have x5 := (X5.out.step HBW.out).1
            have lx5 := (X5.out.step HBW.out).2.1
            have hne := Gr.ne wr
            have g0 := fun G' : Gr wr => G'.cell x5 lx5
            have g1 := fun G' : Gr wr => G'.cell kz hbw
            have g2 := fun G' : Gr wr => G'.cell q1 hbq
            have g3 := fun G' : Gr wr => G'.cell q2 hbq
            have k0 : (0 : Int) ≤ (k : Int) := by omega
            have k1 : (k : Int) < (l.length : Int) := by omega
            have kl0 : (0 : Int) < (l.length : Int) := by omega
            have i0 : 0 ≤ ia l k := hbd.1
            have i1 : ia l k < (F.length : Int) := by omega
            have i2 : 0 ≤ ia l 0 := hbd0.1
            have i3 : ia l 0 < (F.length : Int) := by omega
            have HS := hid (allB_succ (okK F l) k)
            have HNO := hid (fun h => canJ_no_ok (F := F) (l := l) hk4 h)
            have HOK := hid (show okK F l k = (decide ((qa F (ia l k).toNat).1 = (qa F (ia l 0).toNat).1) && decide ((qa F (ia l k).toNat).1 < 5)) from rfl)
            clear p1 p1' kck q1 q2 kz x5 hbd hbd0
            by_cases hv : (qa F (ia l k).toNat).1 = (qa F (ia l 0).toNat).1
            · have d1 : ((qa F (ia l k).toNat).1 != (qa F (ia l 0).toNat).1) = false := by simp [hv]
              by_cases hv5 : (qa F (ia l k).toNat).1 < 5
              · have d2 : decide (5 ≤ (qa F (ia l k).toNat).1) = false := decide_eq_false (by omega)
                have HV := hid (show allB (okK F l) (k + 1) = true by rw [HS.out, HT.out, HOK.out]; simp [hv, hv5]; omega)
                clear HS HNO HOK hv
                go_wp2_with fail
                refine wp_region_gr (by kernel_rfl) (by kernel_rfl) ?_
                repeat (go_big_quiet_step (fail))
                refine wpQuiet_nil ?_
                rintro _ ⟨G', rfl⟩
                clear g0 g1 g2 g3
                go_wp2_with fail
                go_roundw
                case rel => exact ⟨k + 1, by omega, by go_num, HV.out, HBW.out.trans (G'.below.mono HBW.out.size)⟩
                case measure => simp [intOf]; omega
              · have d2 : decide (5 ≤ (qa F (ia l k).toNat).1) = true := decide_eq_true (by omega)
                have HCN := hid (HNO.out (by rw [HOK.out, decide_eq_false hv5, Bool.and_false]))
                have HV : Hid (jqF F l = [] ∧ jqQ F l = 0 ∧ jqB F l = false) := by simp [Hid, jqF, jqQ, jqB, jqOK, HCN.out]
                clear HS HNO HOK hv
                go_wp2_with fail
                refine wp_region_gr (by kernel_rfl) (by kernel_rfl) ?_
                repeat (go_big_quiet_step (fail))
                refine wpQuiet_nil ?_
                rintro _ ⟨G', rfl⟩
                clear g0 g1 g2 g3
                have HBB := hid (HBW.out.trans (G'.below.mono HBW.out.size))
                have R3 := hid R5.out
                have X3 := hid X5.out
                have R9 := R3.out.of_block (HBB.out.block _ R3.out.lt)
                have r0 := R9.cell (i := 0) (by omega)
                have f0 := R9.frozen 0
                have E0 := hid ((R9.set 0 (.slice none 0 0)).cell (i := 0) (by omega))
                simp only [if_true] at E0
                have HB := hid ((X3.out.step HBB.out).2.2.setCell (p := ⟨w.heap.size + 1, 0, none⟩) (by dsimp only; omega) (.slice none 0 0))
                clear R9 R3 X3 HBB
                go_wp2_with fail
                rw [HV.out.1, HV.out.2.1, HV.out.2.2]
                exact bodyPost_ret (v := .tuple #[.agg #[.slice none 0 0], .int .i64 0, .bool false]) (by simp [results, Try.results35, go_sem, E0.out]) rfl (fin _ HB.out)
            · have d1 : ((qa F (ia l k).toNat).1 != (qa F (ia l 0).toNat).1) = true := by simp [hv]
              have HCN := hid (HNO.out (by rw [HOK.out, decide_eq_false hv, Bool.false_and]))
              have HV : Hid (jqF F l = [] ∧ jqQ F l = 0 ∧ jqB F l = false) := by simp [Hid, jqF, jqQ, jqB, jqOK, HCN.out]
              clear HS HNO HOK hv
              go_wp2_with fail
              refine wp_region_gr (by kernel_rfl) (by kernel_rfl) ?_
              repeat (go_big_quiet_step (fail))
              refine wpQuiet_nil ?_
              rintro _ ⟨G', rfl⟩
              clear g0 g1 g2 g3
              have HBB := hid (HBW.out.trans (G'.below.mono HBW.out.size))
              have R3 := hid R5.out
              have X3 := hid X5.out
              have R9 := R3.out.of_block (HBB.out.block _ R3.out.lt)
              have r0 := R9.cell (i := 0) (by omega)
              have f0 := R9.frozen 0
              have E0 := hid ((R9.set 0 (.slice none 0 0)).cell (i := 0) (by omega))
              simp only [if_true] at E0
              have HB := hid ((X3.out.step HBB.out).2.2.setCell (p := ⟨w.heap.size + 1, 0, none⟩) (by dsimp only; omega) (.slice none 0 0))
              clear R9 R3 X3 HBB
              go_wp2_with fail
              rw [HV.out.1, HV.out.2.1, HV.out.2.2]
              exact bodyPost_ret (v := .tuple #[.agg #[.slice none 0 0], .int .i64 0, .bool false]) (by simp [results, Try.results35, go_sem, E0.out]) rfl (fin _ HB.out)
          · have hk4 : k = 4 := by omega
            have hT4 : allB (okK F l) 4 = true := by rw [← hk4]; exact HT.out
            have HCA := hid (canJ_of h4' HAL.out hT4)
            have kge : ¬ (k : Int) < (l.length : Int) := by omega
            clear hk4 hT4
            have hlv := canJ_lev HCA.out
            have HV : Hid (jqF F l = tellF (joinF F l).1 ∧ jqQ F l = tellQ (joinF F l).1 ((joinF F l).2 : Int) ∧ jqB F l = tellB (joinF F l).1) := by simp [Hid, jqF, jqQ, jqB, jqOK, HCA.out, HG.out, h4']
            have HGR := hid (good_grows HG.out)
            have HKJ := hid (fun j hj => (hlv j hj).1)
            have hj0 := (hlv 0 (by omega)).1
            have hlv0 := lev_nonneg HG.out (q := (ia l 0).toNat) (by omega)
            have HJG := hid (joinF_grows (good_grows HG.out) h4' (fun j hj => (hlv j hj).1) (hlv 0 (by omega)).2.2)
            have HJL := hid (joinF_len F l)
            obtain ⟨_, _, e1, _, kc1⟩ := HL0.out 1 (by omega)
            obtain ⟨_, _, e2, _, kc2⟩ := HL0.out 2 (by omega)
            obtain ⟨_, _, e3, _, kc3⟩ := HL0.out 3 (by omega)
            simp only [Option.some.injEq, Addr.mk.injEq, and_true] at e1 e2 e3
            obtain ⟨rfl, rfl⟩ := e1
            obtain ⟨rfl, rfl⟩ := e2
            obtain ⟨rfl, rfl⟩ := e3
            have HKS := hid (fun (W : World) (h : Below w.heap.size w W) => (⟨(h.cell (p := ⟨bk, ok, none⟩) hbk).trans HKC.out, (h.cell (p := ⟨bk, ok + 1, none⟩) hbk).trans kc1, (h.cell (p := ⟨bk, ok + 2, none⟩) hbk).trans kc2, (h.cell (p := ⟨bk, ok + 3, none⟩) hbk).trans kc3⟩ : W.cell? ⟨bk, ok, none⟩ = some (.int .i64 (ia l 0)) ∧ W.cell? ⟨bk, ok + 1, none⟩ = some (.int .i64 (ia l 1)) ∧ W.cell? ⟨bk, ok + 2, none⟩ = some (.int .i64 (ia l 2)) ∧ W.cell? ⟨bk, ok + 3, none⟩ = some (.int .i64 (ia l 3))))
            have R6 := hid (R5.out.of_block (HBW.out.block _ R5.out.lt))
            have X6 := hid (X5.out.step HBW.out)
            have Q6 := hid (Q5.out.below HBW.out)
            have N6 := hid (N5.out.below Q5.out HBW.out)
            have kl0 : (0 : Int) < (l.length : Int) := by omega
            have kl1 : (1 : Int) < (l.length : Int) := by omega
            have kl2 : (2 : Int) < (l.length : Int) := by omega
            have kl3 : (3 : Int) < (l.length : Int) := by omega
            have H4L := hid h4'
            clear kc1 kc2 kc3 hlv HT HBW R5 X5 Q5 N5 h4' hlt
            have x0 := X6.out.1
            go_wp2_with fail
            refine (c_l3Own a F ca wr Q6.out hl hk N6.out).mono ?_
            rintro e w6 ⟨u, rfl, hG6, hb6⟩
            have HG6 := hid hG6
            obtain ⟨ua, uc, rfl, _⟩ := hG6.form
            have hb7 := (Below.refl w6.heap.size w6).alloc (Nat.le_refl _) (.cells #[.slice ua F.length uc, .bool false] 102)
            have hSF : SF (w6.alloc (.cells #[.slice ua F.length uc, .bool false] 102)) wr.heap.size w6.heap.size (.slice ua F.length uc) F := by
              refine ⟨HG6.out.below hb7, (two_row (heap_alloc_new _ _)).congr fun j hj => ?_, hb6.size⟩
              rcases (show j = 0 ∨ j = 1 by omega) with rfl | rfl
              · simp
              · simp; omega
            have HSF := hid hSF
            have B7 := hid (hb6.trans (hb7.mono hb6.size))
            clear hG6 HG6 hb6 hb7 hSF x0
            go_wp2_with fail
            generalize w6.alloc (.cells #[.slice ua F.length uc, .bool false] 102) = W7 at *
            have hbD := (Below.refl W7.heap.size W7).drew
            have HSD := hid (HSF.out.below hbD)
            have BD := hid (B7.out.trans (hbD.mono B7.out.size))
            have HBD := hid (X6.out.2.2.trans (BD.out.mono X6.out.2.2.size))
            have hS0 := HKS.out _ HBD.out
            clear hbD
            rw [H4L.out]
            go_region_held3 (fun W => W.cell? ⟨bk, ok, none⟩ = some (.int .i64 (ia l 0)) ∧ W.cell? ⟨bk, ok + 1, none⟩ = some (.int .i64 (ia l 1)) ∧ W.cell? ⟨bk, ok + 2, none⟩ = some (.int .i64 (ia l 2)) ∧ W.cell? ⟨bk, ok + 3, none⟩ = some (.int .i64 (ia l 3)))
              (first | exact HKS.out _ HBD.out | exact HKS.out _ HBS.out | exact HKS.out _ HBT.out | exact HKS.out _ HBJ.out | go_keep)
              (first
                | (go_at_call 99; refine (c_sjoin l H4L.out _ HSD.out (by omega) hk hj0.1 hj0.2 (by omega) (by omega)).mono ?_; rintro e w8 ⟨v8, rfl, hS8, hb8, _⟩; have HS8 := hid hS8; have B8 := hid (BD.out.trans hb8); have HBJ := hid (X6.out.2.2.trans (B8.out.mono X6.out.2.2.size)); clear hS8 hb8)
                | (go_at_call 84; refine (c_tell ((joinF F l).2 : Int) _ HS8.out (by have := HJL.out; omega) HJG.out.kidsLe).mono ?_; rintro e w9 ⟨u9, rfl, hG9, hb9⟩; have HG9 := hid hG9; obtain ⟨ua9, uc9, rfl, _⟩ := hG9.form; have B9 := hid (B8.out.trans (hb9.mono B8.out.size)); have HBT := hid (X6.out.2.2.trans (B9.out.mono X6.out.2.2.size)); have R9 := hid (R6.out.of_block (B9.out.block _ R6.out.lt)); have r0 := R9.out.cell (i := 0) (by omega); have f0 := R9.out.frozen 0; have HBS := hid (HBT.out.setCell (p := ⟨w.heap.size + 1, 0, none⟩) (by dsimp only; omega) (.slice ua9 (tellF (joinF F l).1).length uc9)); have HZ9 := hid hb9.size; clear hG9 hb9))
            have E0 := hid ((R9.out.set 0 (.slice ua9 (tellF (joinF F l).1).length uc9)).cell (i := 0) (by omega))
            simp only [if_true] at E0
            have HGF := hid ((HG9.out.setRow (o := 0) R9.out (by decide) (by decide) (.slice ua9 (tellF (joinF F l).1).length uc9)).mono (show w.heap.size ≤ _ from Nat.le_trans X6.out.2.2.size B8.out.size))
            clear HG9 R9 r0 f0 HBT
            go_wp2_with fail
            rw [HV.out.1, HV.out.2.1, HV.out.2.2]
            exact bodyPost_ret (v := .tuple #[.agg #[.slice ua9 (tellF (joinF F l).1).length uc9], .int .i64 (tellQ (joinF F l).1 ((joinF F l).2 : Int)), .bool (tellB (joinF F l).1)]) (by simp [results, Try.results35, go_sem, E0.out]) rfl ⟨_, rfl, HGF.out, HBS.out⟩
    · have d4 : ((l.length : Int) != 4) = true := by simp; omega
      have HV : Hid (jqF F l = [] ∧ jqQ F l = 0 ∧ jqB F l = false) := by simp [Hid, jqF, jqQ, jqB, jqOK, h4]
      clear x0
      go_enter Try.func35, Try.ntmps35
      go_wp2_with fail
      refine HC.out.mono ?_
      rintro e w3 ⟨rfl, hb⟩
      have R3 := hid (HR.out.of_block (hb.block _ HR.out.lt))
      have X3 := hid (HX.out.step hb)
      have x0 := X3.out.1
      clear HC hb
      have HBB := hid (Below.refl w3.heap.size w3)
      have R9 := R3.out.of_block (HBB.out.block _ R3.out.lt)
      have r0 := R9.cell (i := 0) (by omega)
      have f0 := R9.frozen 0
      have E0 := hid ((R9.set 0 (.slice none 0 0)).cell (i := 0) (by omega))
      simp only [if_true] at E0
      have HB := hid ((X3.out.step HBB.out).2.2.setCell (p := ⟨w.heap.size + 1, 0, none⟩) (by dsimp only; omega) (.slice none 0 0))
      clear R9 R3 X3 HBB
      go_wp2_with fail
      rw [HV.out.1, HV.out.2.1, HV.out.2.2]
      exact bodyPost_ret (v := .tuple #[.agg #[.slice none 0 0], .int .i64 0, .bool false]) (by simp [results, Try.results35, go_sem, E0.out]) rfl (fin _ HB.out)

end Go.Proofs.Ytmapbkefndbnnaa

namespace Go.Proofs.Ytmapbkefndbnnaa
open Go.RowKit Go.Maps
set_option linter.unusedVariables false
set_option linter.unusedSimpArgs false
attribute [local go_sem ↓] Go.wp_at_zero Go.wp_at_succ

set_option maxHeartbeats 2000000 in
set_option maxRecDepth 100000 in
theorem c_iJoinQuads (a : Option Addr) (F : List Qd) (ca : Nat) (la : Option Addr) (l : List Int) (lca : Nat) (w : World) (ha : QSeg w a F) (hl : F.length ≤ 1048576) (hk : KidsLe F) (hca : F.length ≤ ca) (hcm : ca ≤ 9223372036854775807) (hL : ISeg w la l) (hLl : l.length ≤ 1048576) :
    Calls Try.prog 34 #[.agg #[.slice a F.length ca], .slice la l.length lca] w fun e w' => ∃ u, e = .returned (.tuple #[.agg #[u], .int .i64 (jqQ F l), .bool (jqB F l)]) ∧ FOwn w' w.heap.size w'.heap.size u (jqF F l) ∧ Below w.heap.size w w' := by
  obtain ⟨W1, hW1⟩ : ∃ W1, W1 = w.alloc (.cells #[.slice a F.length ca] 25) := ⟨_, rfl⟩
  have X1 := Box1.new w (.slice a F.length ca) 25
  rw [← hW1] at X1
  have hb2 := (Below.refl W1.heap.size W1).alloc (Nat.le_refl _) (.cells #[.slice none 0 0] 25)
  have X2 := X1.step hb2
  have R2 := one_row (heap_alloc_new W1 (.cells #[.slice none 0 0] 25))
  have s1 : W1.heap.size = w.heap.size + 1 := by rw [hW1]; simp
  rw [s1] at R2
  have s2 : (W1.alloc (.cells #[.slice none 0 0] 25)).heap.size = w.heap.size + 1 + 1 := by simp [s1]
  rw [hW1] at X2 R2 s2
  have HX := hid X2
  have HR := hid R2
  have HSZ := hid s2
  clear X1 X2 R2 s1 s2 hb2 hW1
  clear W1
  have x0 := HX.out.1
  have HQ := hid (ha.below HX.out.2.2)
  have HL2 := hid (hL.below HX.out.2.2)
  clear ha hL
  have fin : ∀ W : World, Below w.heap.size w W → ∃ u, Ending.returned (.tuple #[.agg #[.slice none 0 0], .int .i64 0, .bool false]) = .returned (.tuple #[.agg #[u], .int .i64 0, .bool false]) ∧ FOwn W w.heap.size W.heap.size u [] ∧ Below w.heap.size w W := fun W h => ⟨_, rfl, .inl ⟨rfl, rfl⟩, h⟩
  have HC := hid (c_groveOf a F ca _ HQ.out hl hk hca hcm)
  cases hg : goodF F
  · rw [hg] at HC
    have HV : Hid (jqF F l = [] ∧ jqQ F l = 0 ∧ jqB F l = false) := by simp [Hid, jqF, jqQ, jqB, jqOK, hg]
    clear hg
    go_enter Try.func34, Try.ntmps34
    go_wp2_with fail
    refine HC.out.mono ?_
    rintro e w3 ⟨pv, rfl, ho, hb⟩
    have R3 := hid (HR.out.of_block (hb.block _ HR.out.lt))
    have X3 := hid (HX.out.step hb)
    have L3 := hid (HL2.out.below hb)
    clear ho HC hb
    have HBB := hid (Below.refl w3.heap.size w3)
    have R9 := R3.out.of_block (HBB.out.block _ R3.out.lt)
    have r0 := R9.cell (i := 0) (by omega)
    have f0 := R9.frozen 0
    have E0 := hid ((R9.set 0 (.slice none 0 0)).cell (i := 0) (by omega))
    simp only [if_true] at E0
    have HB := hid ((X3.out.step HBB.out).2.2.setCell (p := ⟨w.heap.size + 1, 0, none⟩) (by dsimp only; omega) (.slice none 0 0))
    clear R9 R3 X3 HBB
    go_wp2_with fail
    rw [HV.out.1, HV.out.2.1, HV.out.2.2]
    exact bodyPost_ret (v := .tuple #[.agg #[.slice none 0 0], .int .i64 0, .bool false]) (by simp [results, Try.results34, go_sem, E0.out]) rfl (fin _ HB.out)
  · rw [hg] at HC
    have HG := hid hg
    have hg2 := good_len2 hg
    by_cases h4 : l.length = 4
    · have d4 : ((l.length : Int) != 4) = false := by simp [h4]
      have n4 : 4 ≤ l.length := by omega
      have H4 := hid h4
      cases hcan : canJ F l
      · have HV : Hid (jqF F l = [] ∧ jqQ F l = 0 ∧ jqB F l = false) := by simp [Hid, jqF, jqQ, jqB, jqOK, hcan]
        clear h4
        go_enter Try.func34, Try.ntmps34
        go_wp2_with fail
        refine HC.out.mono ?_
        rintro e w3 ⟨pv, rfl, ho, hb⟩
        have R3 := hid (HR.out.of_block (hb.block _ HR.out.lt))
        have X3 := hid (HX.out.step hb)
        have L3 := hid (HL2.out.below hb)
        rcases ho with ⟨_, p, g, cap, mb, base, hbase, rfl, hGv⟩ | ⟨e, _⟩
        · have HCJ := hid (c_canJoin' l false hcan _ hGv (by omega))
          unfold kv at HCJ
          obtain ⟨bk, ok, rfl, hbk, kc0⟩ := L3.out 0 (by omega)
          obtain ⟨_, _, e1, _, kc1⟩ := L3.out 1 (by omega)
          obtain ⟨_, _, e2, _, kc2⟩ := L3.out 2 (by omega)
          obtain ⟨_, _, e3, _, kc3⟩ := L3.out 3 (by omega)
          simp only [Option.some.injEq, Addr.mk.injEq, and_true] at e1 e2 e3
          obtain ⟨rfl, rfl⟩ := e1
          obtain ⟨rfl, rfl⟩ := e2
          obtain ⟨rfl, rfl⟩ := e3
          rw [Nat.add_zero] at kc0
          have harr := arr_at (some ⟨bk, ok, none⟩) l.length lca n4
          clear HC hb hGv hbase
          go_wp2_with fail
          refine HCJ.out.mono ?_
          rintro e w5 ⟨rfl, hb⟩
          have HBB := hid hb
          clear hb HCJ
          have R9 := R3.out.of_block (HBB.out.block _ R3.out.lt)
          have r0 := R9.cell (i := 0) (by omega)
          have f0 := R9.frozen 0
          have E0 := hid ((R9.set 0 (.slice none 0 0)).cell (i := 0) (by omega))
          simp only [if_true] at E0
          have HB := hid ((X3.out.step HBB.out).2.2.setCell (p := ⟨w.heap.size + 1, 0, none⟩) (by dsimp only; omega) (.slice none 0 0))
          clear R9 R3 X3 HBB
          go_wp2_with fail
          rw [HV.out.1, HV.out.2.1, HV.out.2.2]
          exact bodyPost_ret (v := .tuple #[.agg #[.slice none 0 0], .int .i64 0, .bool false]) (by simp [results, Try.results34, go_sem, E0.out]) rfl (fin _ HB.out)
        · rw [HG.out] at e; cases e
      · have HV : Hid (jqF F l = tellF (joinF F l).1 ∧ jqQ F l = tellQ (joinF F l).1 ((joinF F l).2 : Int) ∧ jqB F l = tellB (joinF F l).1) := by simp [Hid, jqF, jqQ, jqB, jqOK, hcan, hg, h4]
        have hlv := canJ_lev hcan
        have HGR := hid (good_grows hg)
        have HKJ := hid (fun j hj => (hlv j hj).1)
        have HJG := hid (joinF_grows (good_grows hg) h4 (fun j hj => (hlv j hj).1) (hlv 0 (by omega)).2.2)
        have HJL := hid (joinF_len F l)
        clear h4 hlv
        go_enter Try.func34, Try.ntmps34
        go_wp2_with fail
        refine HC.out.mono ?_
        rintro e w3 ⟨pv, rfl, ho, hb⟩
        have R3 := hid (HR.out.of_block (hb.block _ HR.out.lt))
        have X3 := hid (HX.out.step hb)
        have L3 := hid (HL2.out.below hb)
        rcases ho with ⟨_, p, g, cap, mb, base, hbase, rfl, hGv⟩ | ⟨e, _⟩
        · have HCJ := hid (c_canJoin' l true hcan _ hGv (by omega))
          unfold kv at HCJ
          obtain ⟨bk, ok, rfl, hbk, kc0⟩ := L3.out 0 (by omega)
          obtain ⟨_, _, e1, _, kc1⟩ := L3.out 1 (by omega)
          obtain ⟨_, _, e2, _, kc2⟩ := L3.out 2 (by omega)
          obtain ⟨_, _, e3, _, kc3⟩ := L3.out 3 (by omega)
          simp only [Option.some.injEq, Addr.mk.injEq, and_true] at e1 e2 e3
          obtain ⟨rfl, rfl⟩ := e1
          obtain ⟨rfl, rfl⟩ := e2
          obtain ⟨rfl, rfl⟩ := e3
          rw [Nat.add_zero] at kc0
          have harr := arr_at (some ⟨bk, ok, none⟩) l.length lca n4
          have HGV := hid hGv
          have HBS := hid (show w.heap.size + 1 + 1 ≤ base by rw [HSZ.out] at hbase; exact hbase)
          clear HC hb hGv hbase hcan
          go_wp2_with fail
          refine HCJ.out.mono ?_
          rintro e w5 ⟨rfl, hb⟩
          have R5 := hid (R3.out.of_block (hb.block _ R3.out.lt))
          have X5 := hid (X3.out.step hb)
          have G5 := hid (HGV.out.below hb)
          have m0 := (hb.cell (p := ⟨bk, ok, none⟩) hbk).trans kc0
          have m1 := (hb.cell (p := ⟨bk, ok + 1, none⟩) hbk).trans kc1
          have m2 := (hb.cell (p := ⟨bk, ok + 2, none⟩) hbk).trans kc2
          have m3 := (hb.cell (p := ⟨bk, ok + 3, none⟩) hbk).trans kc3
          clear hb R3 X3 L3 HGV HCJ kc0 kc1 kc2 kc3
          have HJ := hid (c_ijoin l H4.out w5 G5.out HGR.out (by omega) HKJ.out)
          unfold kv at HJ
          go_wp2_with fail
          refine HJ.out.mono ?_
          rintro e w7 ⟨g7, cap7, rfl, hG7, hb7, _⟩
          have HG7 := hid hG7
          have R7 := hid (R5.out.of_block (hb7.block _ (show w.heap.size + 1 < base by have := HBS.out; omega)))
          have HB7 := hid (X5.out.2.2.trans (hb7.mono (show w.heap.size ≤ base by have := HBS.out; omega)))
          clear HJ hG7 hb7 m0 m1 m2 m3 harr
          have HTL := hid (c_told ((joinF F l).2 : Int) w7 HG7.out HJG.out (by have := HJL.out; omega))
          go_wp2_with fail
          refine HTL.out.mono ?_
          rintro e w8 ⟨u8, rfl, hO8, hb8⟩
          have HO8 := hid hO8
          obtain ⟨ua8, uc8, rfl, _⟩ := hO8.form
          have R9 := R7.out.of_block (hb8.block _ R7.out.lt)
          have hlt7 := R7.out.lt
          have r0 := R9.cell (i := 0) (by omega)
          have f0 := R9.frozen 0
          have E0 := hid ((R9.set 0 (.slice ua8 (tellF (joinF F l).1).length uc8)).cell (i := 0) (by omega))
          simp only [if_true] at E0
          have hs9 : (w8.setCell ⟨w.heap.size + 1, 0, none⟩ (.slice ua8 (tellF (joinF F l).1).length uc8)).heap.size = w8.heap.size := by simp
          have hGW : Grew w8 (w8.setCell ⟨w.heap.size + 1, 0, none⟩ (.slice ua8 (tellF (joinF F l).1).length uc8)) (w.heap.size + 1) (w.heap.size + 1 + 1) := (Grew.refl w8 _ _).set (Nat.le_refl _) (by omega) _
          have HO9 := hid ((HO8.out.kept hGW (by omega)).wide (lo' := w.heap.size) (hi' := w8.heap.size) (by omega) (Nat.le_refl _) (by rw [hs9]; exact Nat.le_refl _))
          have HB9 := hid ((HB7.out.trans (hb8.mono HB7.out.size)).setCell (p := ⟨w.heap.size + 1, 0, none⟩) (by dsimp only; omega) (.slice ua8 (tellF (joinF F l).1).length uc8))
          have HS9 := hid hs9
          clear HTL hO8 HO8 hb8 R9 hGW hs9 hlt7
          generalize hT : tellF (joinF F l).1 = TF at *
          generalize tellQ (joinF F l).1 ((joinF F l).2 : Int) = TQ at *
          generalize tellB (joinF F l).1 = TB at *
          clear hT
          go_wp2_with fail
          rw [HV.out.1, HV.out.2.1, HV.out.2.2]
          exact bodyPost_ret (v := .tuple #[.agg #[.slice ua8 TF.length uc8], .int .i64 TQ, .bool TB]) (by simp [results, Try.results34, go_sem, E0.out]) rfl ⟨.slice ua8 TF.length uc8, rfl, by rw [HS9.out]; exact HO9.out, HB9.out⟩
        · rw [HG.out] at e; cases e
    · have d4 : ((l.length : Int) != 4) = true := by simp; omega
      have HV : Hid (jqF F l = [] ∧ jqQ F l = 0 ∧ jqB F l = false) := by simp [Hid, jqF, jqQ, jqB, jqOK, h4]
      go_enter Try.func34, Try.ntmps34
      go_wp2_with fail
      refine HC.out.mono ?_
      rintro e w3 ⟨pv, rfl, ho, hb⟩
      have R3 := hid (HR.out.of_block (hb.block _ HR.out.lt))
      have X3 := hid (HX.out.step hb)
      have L3 := hid (HL2.out.below hb)
      clear ho HC hb
      have HBB := hid (Below.refl w3.heap.size w3)
      have R9 := R3.out.of_block (HBB.out.block _ R3.out.lt)
      have r0 := R9.cell (i := 0) (by omega)
      have f0 := R9.frozen 0
      have E0 := hid ((R9.set 0 (.slice none 0 0)).cell (i := 0) (by omega))
      simp only [if_true] at E0
      have HB := hid ((X3.out.step HBB.out).2.2.setCell (p := ⟨w.heap.size + 1, 0, none⟩) (by dsimp only; omega) (.slice none 0 0))
      clear R9 R3 X3 HBB
      go_wp2_with fail
      rw [HV.out.1, HV.out.2.1, HV.out.2.2]
      exact bodyPost_ret (v := .tuple #[.agg #[.slice none 0 0], .int .i64 0, .bool false]) (by simp [results, Try.results34, go_sem, E0.out]) rfl (fin _ HB.out)

end Go.Proofs.Ytmapbkefndbnnaa

namespace Go.Proofs.Ytmapbkefndbnnaa
open Go.RowKit
set_option linter.unusedVariables false

/-- Cells moved. -/
def mv (l : List Cl) (x y : Int) : List Cl := l.map fun c => (c.1 + x, c.2 + y)
theorem mv_length (l : List Cl) (x y : Int) : (mv l x y).length = l.length := by simp [mv]
theorem mv_take_succ {l : List Cl} {x y : Int} {k : Nat} (h : k < l.length) : mv (l.take (k + 1)) x y = mv (l.take k) x y ++ [((at_ l k).1 + x, (at_ l k).2 + y)] := by
  rw [List.take_succ_eq_append_getElem h]
  unfold mv
  rw [List.map_append]
  simp [at_, h]
theorem mv_at {l : List Cl} {x y : Int} {k : Nat} (h : k < l.length) : at_ (mv l x y) k = ((at_ l k).1 + x, (at_ l k).2 + y) := by simp [at_, mv, h]

set_option maxHeartbeats 400000 in
theorem c_l1Move (a : Option Addr) (l : List Cl) (ca : Nat) (x y : Int) (w : World) (ha : Seg w a l) (hl : l.length ≤ 1048576) (hin : ∀ i, i < l.length → inR (at_ l i) = true) (hx : -100 ≤ x ∧ x ≤ 100) (hy : -100 ≤ y ∧ y ≤ 100) :
    Calls Try.prog 119 #[.slice a l.length ca, .int .i64 x, .int .i64 y] w fun e w' => ∃ v, e = .returned v ∧ OwnS w' w.heap.size v (mv l x y) ∧ Below w.heap.size w w' := by
  obtain ⟨x1, x2⟩ := hx
  obtain ⟨y1, y2⟩ := hy
  have HIN := hid hin
  clear hin
  go_enter Try.func119, Try.ntmps119
  go_wp2
  go_loopw [7, 12] (fun v i wr => ∃ k : Nat, k ≤ l.length ∧ i = .int .i64 k ∧ OwnS wr w.heap.size v (mv (l.take k) x y) ∧ Below w.heap.size w wr) (fun _ i _ => l.length - (intOf i).toNat)
  case atStart => exact ⟨0, Nat.zero_le _, rfl, OwnS.nil _ _, Below.refl _ _⟩
  case round =>
    obtain ⟨k, hk, rfl, hO, hB⟩ := hrel
    have HO := hid hO
    have HB := hid hB
    by_cases hlt : k < l.length
    · obtain ⟨b1, o1, rfl, hb1, p1, p2⟩ := ha k hlt
      have g1 := (hB.cell (p := ⟨b1, o1 + k * 2, none⟩) hb1).trans p1
      have g2 := (hB.cell (p := ⟨b1, o1 + k * 2 + 1, none⟩) hb1).trans p2
      change _ = some (Value.int .i64 (at_ l k).1) at g1
      change _ = some (Value.int .i64 (at_ l k).2) at g2
      clear p1 p2 hO hB
      have k0 : (0 : Int) ≤ (k : Int) := by omega
      have k1 : (k : Int) < (l.length : Int) := by omega
      have hr := HIN.out k hlt
      simp only [inR, Bool.and_eq_true, decide_eq_true_eq] at hr
      obtain ⟨⟨⟨r1, r2⟩, r3⟩, r4⟩ := hr
      have HS := hid (mv_take_succ (x := x) (y := y) hlt)
      have hll : (mv (l.take k) x y).length ≤ 1048576 := by rw [mv_length, List.length_take]; omega
      generalize at_ l k = c at *
      generalize mv (l.take k) x y = lm at *
      have HO1 := hid ((HO.out.below ((Below.refl wr.heap.size wr).alloc (Nat.le_refl _) (.cells #[.int .i64 c.1, .int .i64 c.2] 39))).below ((Below.refl _ _).alloc (Nat.le_refl _) (.cells #[.int .i64 (c.1 + x), .int .i64 (c.2 + y)] 39)))
      have HB1 := hid ((HB.out.alloc HB.out.size (.cells #[.int .i64 c.1, .int .i64 c.2] 39)).alloc (by have := HB.out.size; simp; omega) (.cells #[.int .i64 (c.1 + x), .int .i64 (c.2 + y)] 39))
      have hs2 : (wr.alloc (.cells #[.int .i64 c.1, .int .i64 c.2] 39)).heap.size = wr.heap.size + 1 := by simp
      have HSeg := (seg_block (c := (c.1 + x, c.2 + y)) (heap_alloc_new (wr.alloc (.cells #[.int .i64 c.1, .int .i64 c.2] 39)) (.cells #[.int .i64 (c.1 + x), .int .i64 (c.2 + y)] 39)))
      rw [hs2] at HSeg
      have HSg := hid HSeg
      clear HSeg hs2
      go_wp2_with (at_builtin; refine wpList_app rfl _ _ rfl w.heap.size _ lm [(c.1 + x, c.2 + y)] _ 1 rfl HO1.out rfl HSg.out (by intro h; cases h) (by simp; omega) HB1.out.size ?_; intro v' w2 hO2 hG2)
      go_roundw
      case rel => exact ⟨k + 1, by omega, by go_num, by rw [HS.out]; exact hO2, below_grown HB1.out HO1.out hG2⟩
      case measure => simp [intOf]; omega
    · go_wp2
      go_ret
      have : k = l.length := by omega
      subst this
      exact ⟨_, rfl, by simpa using hO, hB⟩


/-- May cells be moved so far? -/
def inM (n : Int) : Bool := decide (-100 ≤ n) && decide (n ≤ 100)

theorem c_l1In100 (n : Int) (v : Bool) (h : inM n = v) (w : World) : Calls Try.prog 81 #[.int .i64 n, .int .i64 (-100), .int .i64 100] w fun e w' => e = .returned (.bool v) ∧ w' = w := by
  rw [← h]; exact c_l1In n (-100) 100 w

/-- What MoveCells answers. -/
def moveOk (l : List Cl) (x y : Int) : Bool := good l && inM x && inM y && good (mv l x y)
def moveL (l : List Cl) (x y : Int) : List Cl := if good l && inM x && inM y then tellV (mv l x y) else []
theorem inM_bd {n : Int} (h : inM n = true) : -100 ≤ n ∧ n ≤ 100 := by simp [inM] at h; exact h
theorem tellV_le (l : List Cl) : (tellV l).length ≤ 120 := by
  unfold tellV; split
  · rename_i h; exact good_le h
  · simp
theorem moveL_le (l : List Cl) (x y : Int) : (moveL l x y).length ≤ 120 := by
  unfold moveL; split
  · exact tellV_le _
  · simp

end Go.Proofs.Ytmapbkefndbnnaa
