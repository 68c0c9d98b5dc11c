/- pictureOf and isSame. -/
import Derived.Test.YtgppcocfnbalfaaPic
import Derived.Laws.CopyOwn
namespace Go.Proofs.Ytgppcocfnbalfaa
open Go.RowKit
set_option linter.unusedVariables false
set_option linter.unusedSimpArgs false

theorem zpic_size : Try.zeroCells78.size = 241 := by
  have := congrArg List.length zero_pic
  rw [List.length_replicate, Array.length_toList] at this
  exact this
theorem info_pic : (Try.prog.info? 78).map (·.size) = some 241 := by kernel_rfl
/-- A picture of which the number alone is laid. -/
noncomputable def pic1 (l : List Cl) : Array Value := Try.zeroCells78.setIfInBounds 0 (.int .i64 (l.length : Int))
theorem pic1_list (l : List Cl) : (pic1 l).toList = .int .i64 (l.length : Int) :: List.replicate 240 (.int .i64 0) := by
  rw [pic1, Array.toList_setIfInBounds, zero_pic]
  rw [List.replicate_succ (n := 240)]; rfl
theorem pic1_size (l : List Cl) : (pic1 l).size = 241 := by rw [pic1, Array.size_setIfInBounds, zpic_size]
theorem pic1_one (l : List Cl) : (pic1 l).all (·.oneCell') = true := by
  rw [← Array.all_toList, pic1_list, List.all_eq_true]
  intro u hu
  rw [List.mem_cons, List.mem_replicate] at hu
  rcases hu with rfl | ⟨_, rfl⟩ <;> rfl
theorem pic_one (l : List Cl) : (pic l).all (·.oneCell') = true := by
  rw [← Array.all_toList, List.all_eq_true]
  intro u hu
  exact picL_one l u (by simpa [pic] using hu)
theorem pic_done {l : List Cl} (hl : l.length ≤ 120) : ((pic1 l).toList.take 1 ++ flat l ++ (pic1 l).toList.drop (1 + l.length * 2)).toArray = pic l := by
  rw [pic1_list, pic, picL]
  congr 1
  rw [show 1 + l.length * 2 = l.length * 2 + 1 by omega, List.take_succ_cons, List.take_zero, List.drop_succ_cons, List.drop_replicate]
  rfl

/-- A row that was made is written whole. -/
theorem store_new (w : World) (o : Obj) (l : List Cl) (Z : World) (hZ : Z = w.alloc o) :
    (storeCells ⟨Z.heap.size, 0, none⟩ (Try.zeroCells78.toList.set 0 (.int .i64 (l.length : Int))) 0).run Try.prog (Z.alloc (.cells Try.zeroCells78 78)) =
      .ok () (Z.alloc (.cells (pic1 l) 78)) := by
  have := run_storeCells_new (P := Try.prog) Z 78 Try.zeroCells78 (pic1 l) (by rw [pic1_size]; exact info_pic) (by rw [pic1_size, zpic_size]) (pic1_one l)
  rw [show (pic1 l).toList = Try.zeroCells78.toList.set 0 (.int .i64 (l.length : Int)) by rw [pic1, Array.toList_setIfInBounds]] at this
  exact this

/-- A whole picture is laid into a row of its size. -/
theorem store_pic (w : World) (g : Nat) (c : Array Value) (l : List Cl) (hl : l.length ≤ 120) (hg : w.heap[g]? = some (.cells c 78 (0, 0))) (hc : c.size = 241) :
    (storeCells ⟨g, 0, none⟩ (pic l).toList 0).run Try.prog w = .ok () (w.setRow g (pic l)) := by
  have := run_storeCells_at Try.prog g 0 78 (pic l).toList 0 c w hg (by simp; rw [pic_size hl, hc]; exact Nat.le_refl _) (fun v hv => picL_one l v (by simpa [pic] using hv))
  rw [this]
  congr 2
  have e : (pic l).toList.length = 241 := by rw [Array.length_toList, pic_size hl]
  rw [e, Nat.zero_add, Nat.zero_add, List.take_zero, List.nil_append, List.drop_of_length_le (by rw [Array.length_toList, hc]; exact Nat.le_refl _), List.append_nil, Array.toArray_toList]

set_option maxHeartbeats 2000000 in
set_option maxRecDepth 100000 in
theorem c_pictureOf (a : Option Addr) (l : List Cl) (ca : Nat) (w : World) (ha : Seg w a l) (hl : l.length ≤ 120) :
    Calls Try.prog 81 #[.slice a l.length ca] w fun e w' => e = .returned (.agg (pic l)) ∧ Below w.heap.size w w' := by
  have hst := store_new w (.cells Try.zeroCells78 78) l _ rfl
  have h2 : Below w.heap.size w ((w.alloc (.cells Try.zeroCells78 78)).alloc (.cells (pic1 l) 78)) := ((Below.refl _ w).alloc (Nat.le_refl _) _).alloc (by simp) _
  have hcp := fun ty => run_copyC _ ty (w.alloc (.cells Try.zeroCells78 78)).heap.size ca a l (pic1 l) 78 (heap_alloc_last (w.alloc (.cells Try.zeroCells78 78)) (.cells (pic1 l) 78)) (pic1_size l) (ha.below h2) hl
  simp only [pic_done hl, World.setRow_alloc_new] at hcp
  have hld := run_loadCellsFrom_new (P := Try.prog) (w.alloc (.cells Try.zeroCells78 78)) 78 (pic l) 241 (pic_size hl)
  have hblk : ((w.alloc (.cells Try.zeroCells78 78)).alloc (.cells (pic l) 78)).heap[w.heap.size]? = some (.cells Try.zeroCells78 78 (0, 0)) :=
    (Below.heap_alloc _ _ _ (by simp)).trans (heap_alloc_last w _)
  have hsp := store_pic _ w.heap.size _ l hl hblk zpic_size
  have HW := hid hblk
  clear hblk
  have HB : Hid (Below w.heap.size w (((w.alloc (.cells Try.zeroCells78 78)).alloc (.cells (pic l) 78)).setRow w.heap.size (pic l))) :=
    hid (below_setRow (((Below.refl _ w).alloc (Nat.le_refl _) _).alloc (by simp) _) (Nat.le_refl _) _)
  have HR : Hid ((((w.alloc (.cells Try.zeroCells78 78)).alloc (.cells (pic l) 78)).setRow w.heap.size (pic l)).heap[w.heap.size]? = some (.cells (pic l) 78 (0, 0))) :=
    hid (setRow_heap _ _ _ _ _ _ HW.out)
  have HN := hid (heap_alloc_last (w.alloc (.cells Try.zeroCells78 78)) (.cells (pic l) 78))
  have hps := pic_size hl
  clear h2 ha
  simp only [World.size_alloc] at hst hcp hld HN
  generalize pic l = pl at *
  go_enter Try.func81, Try.ntmps81
  go_wp2_with fail
  refine wp_load_row _ _ rfl _ rfl _ _ _ _ HN.out Try.underlying78 rfl (by rw [hps]; exact info_pic) ?_
  go_wp2_with fail
  refine bodyPost_ret (v := .agg pl) ?_ rfl ⟨rfl, HB.out⟩
  exact results_cell_row rfl _ _ w.heap.size 78 pl (0, 0) _ rfl HR.out Try.underlying78 rfl (by rw [hps]; exact info_pic)

set_option maxHeartbeats 2000000 in
set_option maxRecDepth 100000 in
theorem c_isSame (a b : Option Addr) (l m : List Cl) (ca cb : Nat) (w : World) (ha : Seg w a l) (hb : Seg w b m) (hl : l.length ≤ 120) (hm : m.length ≤ 120) :
    Calls Try.prog 52 #[.slice a l.length ca, .slice b m.length cb] w fun e w' => e = .returned (.bool (decide (l = m))) ∧ Below w.heap.size w w' := by
  have HC := hid (c_pictureOf a l ca w ha hl)
  have HB := hid (hb)
  have HM := hid (fun W => c_pictureOf b m cb W)
  have hq : ∀ W, (Op.equalIn 10000 78 (.agg (pic l)) (.agg (pic m))).run Try.prog W = .ok (decide (l = m)) W := fun W => eq_pic 9996 l m hl hm W
  generalize pic l = pl at *
  generalize pic m = pm at *
  generalize decide (l = m) = q at *
  go_enter Try.func52, Try.ntmps52
  go_wp2_with fail
  refine HC.out.mono ?_
  rintro e w1 ⟨rfl, b1⟩
  have B1 := hid b1
  have HB1 := hid (HB.out.below b1)
  clear b1 ha hb
  go_wp2_with fail
  refine (HM.out _ HB1.out hm).mono ?_
  rintro e w2 ⟨rfl, b2⟩
  have B2 := hid (B1.out.trans (b2.mono B1.out.size))
  clear b2
  go_wp2_with fail
  go_ret
  exact ⟨rfl, B2.out⟩
end Go.Proofs.Ytgppcocfnbalfaa
