/- Pictures: structs that hold a list of cells as one value; that two are equal just where the lists are one; pictureOf. -/
import Derived.Test.YtgppcocfnbalfaaApp
import Derived.Deep.WholeRow
import Derived.Laws.CopyRow
import Derived.ChangeKeysEq
namespace Go.Proofs.Ytgppcocfnbalfaa
open Go.RowKit
set_option linter.unusedVariables false
set_option linter.unusedSimpArgs false

/-- A picture of cells, as the values that it consists of. -/
def picL (l : List Cl) : List Value := .int .i64 (l.length : Int) :: (flat l ++ List.replicate (240 - l.length * 2) (.int .i64 0))
def pic (l : List Cl) : Array Value := (picL l).toArray
theorem picL_length {l : List Cl} (hl : l.length ≤ 120) : (picL l).length = 241 := by simp [picL, flat_length]; omega
theorem pic_size {l : List Cl} (hl : l.length ≤ 120) : (pic l).size = 241 := by simp [pic, picL_length hl]
theorem picL_one (l : List Cl) : ∀ u ∈ picL l, u.oneCell' = true := by
  intro u hu
  simp only [picL, List.mem_cons, List.mem_append, List.mem_replicate] at hu
  rcases hu with rfl | h | ⟨_, rfl⟩
  · rfl
  · exact flat_one l u h
  · rfl
theorem zero_pic : Try.zeroCells78.toList = List.replicate 241 (.int .i64 0) := by kernel_rfl

/-- The cell at a place of a picture; noughts behind the last. -/
def pad (l : List Cl) (i : Nat) : Cl := at_ l i
theorem picL_even (l : List Cl) {i : Nat} (hi : i < 120) (hl : l.length ≤ 120) : (picL l)[1 + i * 2]? = some (.int .i64 (at_ l i).1) := by
  rw [picL, show 1 + i * 2 = i * 2 + 1 by omega, List.getElem?_cons_succ]
  by_cases h : i < l.length
  · rw [List.getElem?_append_left (by rw [flat_length]; omega), flat_even h]
  · rw [List.getElem?_append_right (by rw [flat_length]; omega), flat_length, List.getElem?_replicate, if_pos (by omega)]
    simp [at_, h]
theorem picL_odd (l : List Cl) {i : Nat} (hi : i < 120) (hl : l.length ≤ 120) : (picL l)[1 + (i * 2 + 1)]? = some (.int .i64 (at_ l i).2) := by
  rw [picL, show 1 + (i * 2 + 1) = i * 2 + 1 + 1 by omega, List.getElem?_cons_succ]
  by_cases h : i < l.length
  · rw [List.getElem?_append_left (by rw [flat_length]; omega), flat_odd h]
  · rw [List.getElem?_append_right (by rw [flat_length]; omega), flat_length, List.getElem?_replicate, if_pos (by omega)]
    simp [at_, h]

theorem two_of {α β : Type} {l : List α} {f : α → β} {x y : β} (h : l.map f = [x, y]) : ∃ a b, l = [a, b] ∧ f a = x ∧ f b = y := by
  cases l with
  | nil => simp at h
  | cons a r =>
    cases r with
    | nil => simp at h
    | cons b r2 =>
      cases r2 with
      | nil => simp at h; exact ⟨a, b, rfl, h.1, h.2⟩
      | cons c r3 => simp at h

theorem eq_cell (d : Nat) (a b c e : Int) (w : World) : (Op.equalIn (d + 2) 44 (.agg #[.int .i64 a, .int .i64 b]) (.agg #[.int .i64 c, .int .i64 e])).run Try.prog w = .ok (decide (a = c) && decide (b = e)) w := by
  rw [run_equalIn_struct w (d + 1) 44 _ _ (by kernel_rfl) (by kernel_rfl)]
  have hf : (Try.prog.fieldsOf 44).toList.map (fun f => (f.name, f.type, f.offset)) = [("X", 3, 0), ("Y", 3, 1)] := by kernel_rfl
  obtain ⟨f, g, e1, q1, q2⟩ := two_of hf
  rw [e1]
  simp only [Prod.mk.injEq] at q1 q2
  obtain ⟨n1, t1, o1⟩ := q1
  obtain ⟨n2, t2, o2⟩ := q2
  have pt : ∀ (xs : Array Value) (o : Nat) (v : Value), xs[o]? = some v → (part 3 xs o).run Try.prog w = .ok v w := fun xs o v h => run_part_plain w (by kernel_rfl) h
  have eqi : ∀ x y : Int, (Op.equalIn (d + 1) 3 (.int .i64 x) (.int .i64 y)).run Try.prog w = .ok (x == y) w := fun x y => run_equalIn_int w d 3 .i64 .i64 x y (by kernel_rfl)
  simp only [Op.eqFields, n1, n2, t1, t2, o1, o2, ne_eq, show ¬ ("X" = "_") by decide, show ¬ ("Y" = "_") by decide, not_false_eq_true, if_true, Sem.run_bind,
    pt #[.int .i64 a, .int .i64 b] 0 (.int .i64 a) rfl, pt #[.int .i64 c, .int .i64 e] 0 (.int .i64 c) rfl, pt #[.int .i64 a, .int .i64 b] 1 (.int .i64 b) rfl, pt #[.int .i64 c, .int .i64 e] 1 (.int .i64 e) rfl, eqi, Result.andThen_ok]
  by_cases h1 : a = c
  · subst h1
    by_cases h2 : b = e
    · subst h2
      simp [pt #[.int .i64 a, .int .i64 b] 1 (.int .i64 b) rfl, eqi]
    · simp [pt #[.int .i64 a, .int .i64 b] 1 (.int .i64 b) rfl, pt #[.int .i64 a, .int .i64 e] 1 (.int .i64 e) rfl, eqi, h2]
  · simp [h1]

theorem part_cell (xs : Array Value) (o : Nat) (a b : Int) (h1 : xs[o]? = some (.int .i64 a)) (h2 : xs[o + 1]? = some (.int .i64 b)) (w : World) :
    (part 44 xs o).run Try.prog w = .ok (.agg #[.int .i64 a, .int .i64 b]) w := by
  have hx : xs.extract o (o + 2) = #[.int .i64 a, .int .i64 b] := by
    apply Array.ext_getElem?
    intro i
    obtain ⟨hlt, _⟩ := Array.getElem?_eq_some_iff.1 h2
    rw [Array.getElem?_extract]
    rcases (show i = 0 ∨ i = 1 ∨ 2 ≤ i by omega) with rfl | rfl | h
    · rw [if_pos (by omega)]; exact h1
    · rw [if_pos (by omega)]; exact h2
    · rw [if_neg (by omega)]; rw [Array.getElem?_eq_none (by simp; omega)]
  obtain ⟨i, hi, hz, hs, hb⟩ := info_parts info_Cell
  have hagg : (isAgg 44).run Try.prog w = .ok true w := by kernel_rfl
  simp only [part, Sem.run_bind, hagg, Result.andThen_ok, if_true, run_sizeOf w hi]
  rw [show Try.prog.cellsOf 44 = 2 by kernel_rfl, hx]; rfl

theorem eq_items (d : Nat) (X Y : Array Value) (f g : Nat → Cl) (w : World) : ∀ is : List Nat,
    (∀ i ∈ is, X[i * 2]? = some (.int .i64 (f i).1) ∧ X[i * 2 + 1]? = some (.int .i64 (f i).2)) → (∀ i ∈ is, Y[i * 2]? = some (.int .i64 (g i).1) ∧ Y[i * 2 + 1]? = some (.int .i64 (g i).2)) →
    (Op.eqItems (d + 2) 44 2 X Y is).run Try.prog w = .ok (is.all fun i => decide (f i = g i)) w
  | [], _, _ => rfl
  | i :: is, hX, hY => by
    have ih := eq_items d X Y f g w is (fun j hj => hX j (by simp [hj])) (fun j hj => hY j (by simp [hj]))
    obtain ⟨x1, x2⟩ := hX i (by simp)
    obtain ⟨y1, y2⟩ := hY i (by simp)
    simp only [Op.eqItems, Sem.run_bind, part_cell X _ _ _ x1 x2, part_cell Y _ _ _ y1 y2, eq_cell, Result.andThen_ok, List.all_cons]
    by_cases e : f i = g i
    · simp [e, ih]
    · have e' : (decide ((f i).1 = (g i).1) && decide ((f i).2 = (g i).2)) = false := by
        by_cases h1 : (f i).1 = (g i).1
        · by_cases h2 : (f i).2 = (g i).2
          · exact absurd (Prod.ext h1 h2) e
          · simp [h2]
        · simp [h1]
      simp [e', e]

theorem pic_same {l m : List Cl} (hl : l.length ≤ 120) (hm : m.length ≤ 120) : (decide (l.length = m.length) && (List.range 120).all fun i => decide (at_ l i = at_ m i)) = decide (l = m) := by
  by_cases e : l = m
  · subst e; simp
  · simp only [e, decide_false, Bool.and_eq_false_iff, decide_eq_false_iff_not, List.all_eq_false]
    by_cases h : l.length = m.length
    · refine .inr ?_
      refine Classical.byContradiction fun hn => e ?_
      apply List.ext_getElem h
      intro i h1 h2
      refine Classical.byContradiction fun h3 => hn ⟨i, List.mem_range.2 (by omega), ?_⟩
      simp [at_, h1, h2, h3]
    · exact .inl h

theorem run_iteq (q : Bool) (w : World) : (if (!q) = true then (pure false : Sem Bool) else pure true).run Try.prog w = .ok q w := by cases q <;> rfl
theorem eq_pic (d : Nat) (l m : List Cl) (hl : l.length ≤ 120) (hm : m.length ≤ 120) (w : World) : (Op.equalIn (d + 4) 78 (.agg (pic l)) (.agg (pic m))).run Try.prog w = .ok (decide (l = m)) w := by
  rw [run_equalIn_struct w (d + 3) 78 _ _ (by kernel_rfl) (by kernel_rfl)]
  have hf : (Try.prog.fieldsOf 78).toList.map (fun f => (f.name, f.type, f.offset)) = [("many", 3, 0), ("cells", 76, 1)] := by kernel_rfl
  obtain ⟨f, g, e1, q1, q2⟩ := two_of hf
  rw [e1]
  simp only [Prod.mk.injEq] at q1 q2
  obtain ⟨n1, t1, o1⟩ := q1
  obtain ⟨n2, t2, o2⟩ := q2
  have pt : ∀ (k : List Cl), (part 3 (pic k) 0).run Try.prog w = .ok (.int .i64 (k.length : Int)) w := fun k => run_part_plain w (by kernel_rfl) (by simp [pic, picL])
  have eqi : ∀ x y : Int, (Op.equalIn (d + 3) 3 (.int .i64 x) (.int .i64 y)).run Try.prog w = .ok (x == y) w := fun x y => run_equalIn_int w (d + 2) 3 .i64 .i64 x y (by kernel_rfl)
  have hia : (Try.prog.info? 76).map (·.size) = some 240 := by kernel_rfl
  obtain ⟨ia, hia1, hia2⟩ : ∃ i, Try.prog.info? 76 = some i ∧ i.size = 240 := by
    cases h : Try.prog.info? 76 with
    | none => rw [h] at hia; cases hia
    | some i => rw [h] at hia; exact ⟨i, rfl, by simpa using hia⟩
  have hagg : (isAgg 76).run Try.prog w = .ok true w := by kernel_rfl
  have pa : ∀ (k : List Cl), (part 76 (pic k) 1).run Try.prog w = .ok (.agg ((pic k).extract 1 241)) w := fun k => by
    simp only [part, Sem.run_bind, hagg, Result.andThen_ok, if_true, run_sizeOf w hia1]; rw [show Try.prog.cellsOf 76 = 240 by kernel_rfl, show (1 + 240 : Nat) = 241 from rfl, Sem.run_pure]
  obtain ⟨ic, hic, _, hics, _⟩ := info_parts info_Cell
  have hco : Try.prog.cellsOf 44 = 2 := by kernel_rfl
  have ge : ∀ (k : List Cl), k.length ≤ 120 → ∀ i ∈ List.range 120, ((pic k).extract 1 241)[i * 2]? = some (.int .i64 (at_ k i).1) ∧ ((pic k).extract 1 241)[i * 2 + 1]? = some (.int .i64 (at_ k i).2) := by
    intro k hk i hi
    have hi := List.mem_range.1 hi
    have hs := pic_size hk
    refine ⟨?_, ?_⟩
    · rw [Array.getElem?_extract, if_pos (by rw [hs]; omega)]
      simpa [pic] using picL_even k hi hk
    · rw [Array.getElem?_extract, if_pos (by rw [hs]; omega)]
      simpa [pic] using picL_odd k hi hk
  have ea : (Op.equalIn (d + 3) 76 (.agg ((pic l).extract 1 241)) (.agg ((pic m).extract 1 241))).run Try.prog w = .ok ((List.range 120).all fun i => decide (at_ l i = at_ m i)) w := by
    rw [run_equalIn_array w (d + 2) (n := 120) (e := 44) _ _ (by kernel_rfl) hic, hco]
    exact eq_items d _ _ _ _ w _ (ge l hl) (ge m hm)
  have hp := pic_same hl hm
  simp only [Op.eqFields, n1, n2, t1, t2, o1, o2, ne_eq, show ¬ ("many" = "_") by decide, show ¬ ("cells" = "_") by decide, not_false_eq_true, if_true, Sem.run_bind, pt, eqi, pa, ea, Result.andThen_ok]
  rw [← hp]
  by_cases h1 : l.length = m.length
  · have hb : ((l.length : Int) == (m.length : Int)) = true := by simp [h1]
    rw [decide_eq_true h1, Bool.true_and]
    rw [if_neg (by rw [hb]; decide)]
    rw [Sem.run_bind, pa l, Result.andThen_ok, Sem.run_bind, pa m, Result.andThen_ok, Sem.run_bind, ea, Result.andThen_ok]
    exact run_iteq _ w
  · have hb : ((l.length : Int) == (m.length : Int)) = false := by simp; omega
    rw [decide_eq_false h1, Bool.false_and]
    simp only [hb, Bool.not_false, if_true, Sem.run_pure]
theorem eql_pic (l m : List Cl) (hl : l.length ≤ 120) (hm : m.length ≤ 120) (w : World) : (binOp .eql 78 (.agg (pic l)) (.agg (pic m))).run Try.prog w = .ok (.bool (decide (l = m))) w := by
  rw [run_eql_struct, show (10000 : Nat) = 9996 + 4 from rfl, eq_pic 9996 l m hl hm]; rfl

/-- Cells are copied into a row of numbers. -/
theorem run_copyC (w : World) (ty : TypeId) (g ca : Nat) (a : Option Addr) (l : List Cl) (cur : Array Value) (t : TypeId) (hg : w.heap[g]? = some (.cells cur t (0, 0))) (hs : cur.size = 241) (ha : Seg w a l) (hl : l.length ≤ 120) :
    (Builtin.copy_ #[23, 23] ty #[.slice (some ⟨g, 1, none⟩) 120 120, .slice a l.length ca]).run Try.prog w =
      .ok (goInt l.length) (w.setRow g (cur.toList.take 1 ++ flat l ++ cur.toList.drop (1 + l.length * 2)).toArray) := by
  obtain ⟨i, hi, hz, hsz, hb⟩ := info_parts info_Cell
  have hmin : Nat.min l.length 120 = l.length := Nat.min_eq_left hl
  cases a with
  | none =>
    have e0 : l = [] := by
      cases l with
      | nil => rfl
      | cons c r => obtain ⟨b, o, e, _⟩ := ha 0 (by simp); cases e
    subst e0
    have hself : w.setRow g (cur.toList.take 1 ++ flat [] ++ cur.toList.drop (1 + ([] : List Cl).length * 2)).toArray = w := by
      simp only [flat, List.flatMap_nil, List.append_nil, List.length_nil, Nat.zero_mul, Nat.add_zero, List.take_append_drop, Array.toArray_toList]
      exact setRow_self w g cur t (0, 0) hg
    rw [hself]
    simp [Builtin.copy_, run_underlying Try.underlying23, Builtin.lenOf, Builtin.firstCells, sizeOf, typeInfo, hi, storeCells]
    try rfl
  | some ad =>
    have hld := run_loadCells_list (P := Try.prog) w ad (flat l) (seg_news ha)
    rw [flat_length] at hld
    have hst := run_storeCells_at Try.prog g 1 t (flat l) 0 cur w hg (by rw [flat_length, hs]; omega) (flat_one l)
    rw [flat_length, Nat.add_zero] at hst
    simp only [Builtin.copy_, Sem.run_bind]
    simp [run_underlying Try.underlying23, Builtin.lenOf, Builtin.firstCells, sizeOf, typeInfo, hi, hsz, hmin, hld, hst]

end Go.Proofs.Ytgppcocfnbalfaa
