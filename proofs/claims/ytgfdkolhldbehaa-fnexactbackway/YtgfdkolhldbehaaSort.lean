/- What slices.SortFunc makes of cells: the same cells, in order. -/
import Derived.Test.YtgfdkolhldbehaaApp
import Derived.Test.YtgfdkolhldbehaaLay
import Derived.Shelf.SlSortCmp.WholeK
namespace Go.Proofs.Ytgfdkolhldbehaa
open Go.RowKit Go.Shelf Go.Lib Go.Sort
set_option linter.unusedVariables false

/-- A cell's two values. -/
def encC (c : Cl) : List Value := [.int .i64 c.1, .int .i64 c.2]

theorem grow_two (W : World) (o1 o2 : Obj) : (W.alloc o1).alloc o2 = grow (W.drewN 0) #[o1, o2] := by
  rw [alloc_eq_grow, alloc_eq_grow, grow_grow]; rfl

set_option maxHeartbeats 400000 in
/-- compareCells, its world written out. -/
theorem c_compareLays (c d : Cl) (w : World) :
    Calls Try.prog 125 #[.agg #[.int .i64 c.1, .int .i64 c.2], .agg #[.int .i64 d.1, .int .i64 d.2]] w fun e w' => e = .returned (.int .i64 (cmpC c d)) ∧ ∃ q os', w' = grow (w.drewN q) os' := by
  obtain ⟨x, y⟩ := c
  obtain ⟨u, v⟩ := d
  dsimp only
  by_cases h : y = v
  · have hb : (y != v) = false := by simp [h]
    have H : Hid (y = v) := h
    clear h
    go_enter Try.func125, Try.ntmps125
    go_wp2_with (go_at_call 142; refine (c_Compare _ _ _).mono ?_; rintro e w' ⟨rfl, rfl⟩)
    go_ret
    exact ⟨ret_int (by simp [cmpC, H.out]), 0, _, grow_two _ _ _⟩
  · have hb : (y != v) = true := by simp [h]
    go_enter Try.func125, Try.ntmps125
    go_wp2_with (go_at_call 142; refine (c_Compare _ _ _).mono ?_; rintro e w' ⟨rfl, rfl⟩)
    go_ret
    exact ⟨ret_int (by simp [cmpC, h]), 0, _, grow_two _ _ _⟩

theorem ltOf_cmp (a b : Cl) : ltOf cmpC a b = ltC a b := by
  have := cmpC_neg a b
  unfold ltOf
  cases h : ltC a b
  · rw [h] at this; simp at this; simp; omega
  · rw [h] at this; simp at this; simp; omega
theorem swoC : SWO (ltOf cmpC) where
  irrefl x := by rw [ltOf_cmp]; exact ltC_irr x
  trans x y z h1 h2 := by rw [ltOf_cmp] at *; exact ltC_trans h1 h2
  ntrans x y z h1 h2 := by rw [ltOf_cmp] at *; simp [ltC] at *; omega

theorem sizeAgg : ∀ w, (isAgg 36).run Try.prog w = .ok true w := fun w => by kernel_rfl
theorem sizeCell : ∀ w, (Go.sizeOf 36).run Try.prog w = .ok 2 w := fun w => by kernel_rfl

set_option maxHeartbeats 1000000 in
theorem c_sort (blk off cap : Nat) (d : Array Cl) (w : World) (hH : HoldsK encC 2 w blk off d) (hblk : blk < w.heap.size) (hsz : d.size < 4611686018427387904) :
    Calls Try.prog 124 #[.slice (some ⟨blk, off, none⟩) d.size cap, .func (.func 125) #[] #[]] w fun e w' => e = .returned (.tuple #[]) ∧ ∃ d' n os, PermIn 0 d.size d d' ∧ SortedIn (ltOf cmpC) 0 d.size d' ∧ w' = sortWorldK encC 2 w blk off n d' os := by
  have eg : ∀ args w, (callFunc 125 args).run Try.prog w = .ok (.enter 125 args) w := enters_of Try.func125 (by kernel_rfl) rfl
  have hcon := AnyQ.slices_SortFunc Try.sortCell 2 sizeAgg sizeCell encC (fun _ => rfl) (fun x v hv => by simp [encC] at hv; rcases hv with rfl | rfl <;> rfl) cmpC swoC 125 #[] blk off cap d w eg (fun _ _ _ _ x y => c_compareLays x y _) hH hblk hsz
  exact hcon


theorem holds_own {w : World} {base g cap : Nat} {l : List Cl} (h : OwnS w base (.slice (some ⟨g, 0, none⟩) l.length cap) l) : HoldsK encC 2 w g 0 l.toArray := by
  intro j hj
  have hj' : j < l.length * 2 := by simpa using hj
  have hi : j / 2 < l.length := by omega
  rw [get_flatK _ _ _ _ (by simpa using hj')]
  have hget : l.toArray[j / 2]! = at_ l (j / 2) := by
    rw [getElem!_pos l.toArray (j / 2) (by simpa using hi)]
    simp [at_, hi]
  rw [hget]
  have c := World.ownsRow.cellAt h j hj'
  have f := World.ownsRow.frozenAt h j
  rw [Nat.zero_add]
  refine ⟨?_, f⟩
  rw [c]
  rcases (show j % 2 = 0 ∨ j % 2 = 1 by omega) with e | e
  · rw [e]
    have := flat_even hi
    rw [show j / 2 * 2 = j by omega] at this
    rw [this]; rfl
  · rw [e]
    have := flat_odd hi
    rw [show j / 2 * 2 + 1 = j by omega] at this
    rw [this]; rfl

theorem own_sorted {w : World} {base g cap n : Nat} {l : List Cl} {d : Array Cl} {os : Array Obj} (h : OwnS w base (.slice (some ⟨g, 0, none⟩) l.length cap) l) (hd : d.size = l.length) :
    OwnS (sortWorldK encC 2 w g 0 n d os) base (.slice (some ⟨g, 0, none⟩) l.length cap) d.toList ∧ w.grownBy (sortWorldK encC 2 w g 0 n d os) (some g) := by
  rcases h.2 with ⟨e0, _⟩ | ⟨g', cap', cur, e0, hb, hg, hn, hm, hs, ht⟩
  · cases e0
  · injection e0 with e1 _ e3
    injection e1 with e1
    injection e1 with e1
    subst e1; subst e3
    have hlt : g < w.heap.size := (Array.getElem?_eq_some_iff.1 hg).1
    have hblk : (sortWorldK encC 2 w g 0 n d os).heap[g]? = some (.cells (putCells id 0 (flatK encC 2 d) cur) 36 (0, 0)) := by
      unfold sortWorldK grow putRowK
      show ((putRow id (Sort.ahead w n) g 0 (flatK encC 2 d)).heap ++ os)[g]? = _
      rw [Array.getElem?_append_left (by simpa [putRow, mapBlock, Sort.ahead] using hlt)]
      simp [putRow, mapBlock, Sort.ahead, Array.getElem?_modify, hg, onCells]
    have hlen : d.toList.length = l.length := by simpa using hd
    refine ⟨⟨by rw [hlen, flat_length, hlen], .inr ⟨g, cap, putCells id 0 (flatK encC 2 d) cur, by rw [hlen], hb, hblk, by rw [hlen]; exact hn, hm, by simpa [putCells] using hs, ?_⟩⟩, ⟨rfl, rfl, rfl, ?_, ?_⟩⟩
    · have hcs : (putCells id 0 (flatK encC 2 d) cur).size = cap * 2 := by simpa [putCells] using hs
      have hcl : (putCells id 0 (flatK encC 2 d) cur).toList.length = cap * 2 := by simpa using hcs
      refine flat_ext (by rw [List.length_take, hcl, hlen]; omega) fun i hi => ?_
      rw [hlen] at hi
      have hp : ∀ j, j < l.length * 2 → (putCells id 0 (flatK encC 2 d) cur)[j]? = some (encC d[j / 2]!)[j % 2]! := by
        intro j hj
        have hjc : j < cur.size := by omega
        simp only [putCells, Array.getElem?_mapIdx, Array.getElem?_eq_getElem hjc, Option.map_some]
        rw [if_pos (by simp; omega)]
        simp only [Nat.sub_zero, id]
        rw [get_flatK _ _ _ _ (by omega)]
      rw [hlen, List.getElem?_take_of_lt (by omega), List.getElem?_take_of_lt (by omega), Array.getElem?_toList, Array.getElem?_toList, hp _ (by omega), hp _ (by omega)]
      have hda : d[i]! = at_ d.toList i := by
        rw [getElem!_pos d i (by omega)]
        simp [at_, show i < d.size by omega]
      rw [show i * 2 / 2 = i by omega, show (i * 2 + 1) / 2 = i by omega, show i * 2 % 2 = 0 by omega, show (i * 2 + 1) % 2 = 1 by omega, hda]
      exact ⟨rfl, rfl⟩
    · show w.heap.size ≤ ((putRow id (Sort.ahead w n) g 0 (flatK encC 2 d)).heap ++ os).size
      simp [putRow, mapBlock, Sort.ahead]
    · intro k hk hne
      show ((putRow id (Sort.ahead w n) g 0 (flatK encC 2 d)).heap ++ os)[k]? = _
      rw [Array.getElem?_append_left (by simpa [putRow, mapBlock, Sort.ahead] using hk)]
      have : g ≠ k := fun e => hne (by rw [e])
      simp [putRow, mapBlock, Sort.ahead, Array.getElem?_modify, this]

/-- Cells in order, none behind a greater one. -/
def Sorted (l : List Cl) : Prop := ∀ i j, i < j → j < l.length → ltC (at_ l j) (at_ l i) = false

theorem c_sortOwn (base g cap : Nat) (l : List Cl) (w : World) (h : OwnS w base (.slice (some ⟨g, 0, none⟩) l.length cap) l) (hl : l.length ≤ 4194304) :
    Calls Try.prog 124 #[.slice (some ⟨g, 0, none⟩) l.length cap, .func (.func 125) #[] #[]] w fun e w' =>
      e = .returned (.tuple #[]) ∧ ∃ l' : List Cl, l'.Perm l ∧ Sorted l' ∧ OwnS w' base (.slice (some ⟨g, 0, none⟩) l'.length cap) l' ∧ w.grownBy w' (some g) ∧ l'.length = l.length := by
  have hlt : g < w.heap.size := (h.lt g rfl).2
  have hc := c_sort g 0 cap l.toArray w (holds_own h) hlt (by simp; omega)
  simp only [List.size_toArray] at hc
  refine hc.mono fun e w' ⟨he, d, n, os, hp, hs, hw⟩ => ⟨he, d.toList, ?_, ?_, ?_⟩
  · have h3 := hp.2.2
    have e1 : d.extract 0 l.length = d := by
      have : d.size = l.length := by simpa using hp.1
      rw [← this]; simp
    have e2 : l.toArray.extract 0 l.length = l.toArray := by simp
    rw [e1, e2] at h3
    simpa using h3
  · have hds : d.size = l.length := by simpa using hp.1
    intro i j hij hj
    have hj' : j < d.size := by simpa using hj
    have := hs i j (Nat.zero_le _) hij (by omega)
    rw [ltOf_cmp, getElem!_pos d j hj', getElem!_pos d i (by omega)] at this
    simpa [at_, hj', show i < d.size by omega] using this
  · have hds : d.size = l.length := by simpa using hp.1
    have hlen : d.toList.length = l.length := by simpa using hds
    rw [hlen, hw]
    obtain ⟨h1, h2⟩ := own_sorted (n := n) (os := os) h hds
    exact ⟨h1, h2, rfl⟩

end Go.Proofs.Ytgfdkolhldbehaa
