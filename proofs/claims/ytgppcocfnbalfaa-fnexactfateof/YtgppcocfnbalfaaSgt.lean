/- sightOf: a picture of cells from their least X and Y on, and where these are. -/
import Derived.Test.YtgppcocfnbalfaaHom
import Derived.Test.YtgppcocfnbalfaaPicO
namespace Go.Proofs.Ytgppcocfnbalfaa
open Go.RowKit
set_option linter.unusedVariables false
set_option linter.unusedSimpArgs false

/-- A sight, as the values that it consists of. -/
def sgt (l : List Cl) : Array Value := pic (home l) ++ #[.int .i64 (boxLo l).1, .int .i64 (boxLo l).2]
theorem sgt_size {l : List Cl} (hl : l.length ≤ 120) : (sgt l).size = 243 := by
  have := home_le l
  rw [sgt, Array.size_append, pic_size (by omega)]; rfl

theorem zsight_size : Try.zeroCells80.size = 243 := by
  have : Try.zeroCells80.toList = List.replicate 243 (.int .i64 0) := by kernel_rfl
  have := congrArg List.length this
  rw [List.length_replicate, Array.length_toList] at this
  exact this
theorem info_sight : (Try.prog.info? 80).map (·.size) = some 243 := by kernel_rfl
theorem sgt_one (l : List Cl) : ∀ v ∈ (sgt l).toList, v.oneCell' = true := by
  intro v hv
  simp only [sgt, Array.toList_append, List.mem_append, pic, List.mem_cons, List.not_mem_nil, or_false] at hv
  rcases hv with h | rfl | rfl
  · exact picL_one _ v h
  · rfl
  · rfl

/-- Values laid one behind another into a row. -/
theorem foldl_place (off : Nat) : ∀ (vs : List Value) (n : Nat) (cs : Array Value), off + n + vs.length ≤ cs.size →
    ((vs.zipIdx n).foldl (fun (c : Array Value) (p : Value × Nat) => c.setIfInBounds (off + p.2) p.1) cs).toList = cs.toList.take (off + n) ++ vs ++ cs.toList.drop (off + n + vs.length)
  | [], n, cs, _ => by simp
  | v :: vs, n, cs, h => by
    simp only [List.length_cons] at h
    have hc : off + n < cs.toList.length := by rw [Array.length_toList]; omega
    have ih := foldl_place off vs (n + 1) (cs.setIfInBounds (off + n) v) (by rw [Array.size_setIfInBounds]; omega)
    rw [List.zipIdx_cons, List.foldl_cons]
    dsimp only
    rw [ih, Array.toList_setIfInBounds, List.length_cons]
    have e1 : (cs.toList.set (off + n) v).take (off + (n + 1)) = cs.toList.take (off + n) ++ [v] := by
      rw [show off + (n + 1) = off + n + 1 by omega, List.take_set, List.take_add_one, List.getElem?_eq_getElem hc]
      apply List.ext_getElem?
      intro i
      rw [List.getElem?_set]
      by_cases hi : off + n = i
      · subst hi
        have hk : min (off + n) cs.toList.length = off + n := Nat.min_eq_left (Nat.le_of_lt hc)
        rw [if_pos rfl, if_pos (by rw [List.length_append, List.length_take, hk]; simp), List.getElem?_append_right (by rw [List.length_take, hk]; exact Nat.le_refl _), List.length_take, hk, Nat.sub_self]; rfl
      · rw [if_neg hi]
        by_cases h2 : i < off + n
        · rw [List.getElem?_append_left (by simp; omega), List.getElem?_append_left (by simp; omega)]
        · rw [List.getElem?_eq_none (by simp; omega), List.getElem?_eq_none (by simp; omega)]
    have e2 : (cs.toList.set (off + n) v).drop (off + (n + 1) + vs.length) = cs.toList.drop (off + n + (vs.length + 1)) := by
      rw [List.drop_set_of_lt (by omega)]
      congr 1; omega
    rw [e1, e2]; simp
theorem two_places (cs X Y : Array Value) (m : Nat) (h : cs.size = X.size + Y.size) (hm : X.size = m) :
    Y.zipIdx.foldl (fun c p => c.setIfInBounds (m + p.2) p.1) (X.zipIdx.foldl (fun c p => c.setIfInBounds (0 + p.2) p.1) cs) = X ++ Y := by
  apply Array.ext'
  have hx := foldl_place 0 X.toList 0 cs (by simp; omega)
  have hs : (X.zipIdx.foldl (fun c p => c.setIfInBounds (0 + p.2) p.1) cs).toList = X.toList ++ cs.toList.drop X.size := by
    rw [← Array.foldl_toList, Array.toList_zipIdx]
    simpa using hx
  generalize X.zipIdx.foldl (fun c p => c.setIfInBounds (0 + p.2) p.1) cs = Z at hs ⊢
  have hz : Z.size = cs.size := by rw [← Array.length_toList, hs]; simp; omega
  have hy := foldl_place m Y.toList 0 Z (by simp; omega)
  rw [← Array.foldl_toList, Array.toList_zipIdx, hy, hs]
  subst hm
  simp
  omega
theorem fill_two (place : Nat → Option (Nat × Nat)) (cs X Y : Array Value) (m k : Nat) (h0 : place 0 = some (0, m)) (h1 : place 1 = some (m, k)) (hX : X.size = m) (hY : Y.size = k) (hc : cs.size = m + k) :
    Instr.fill place cs [(0, .agg X), (1, .agg Y)] = some (X ++ Y) := by
  have hv := two_places cs X Y m (by omega) hX
  have hf : (X.zipIdx.foldl (fun c p => c.setIfInBounds (0 + p.2) p.1) cs).size = m + k := by
    have hx := foldl_place 0 X.toList 0 cs (by simp; omega)
    rw [← Array.foldl_toList, Array.toList_zipIdx, ← Array.length_toList, hx]
    simp; omega
  have c1 : (Value.agg X).cells = X := rfl
  have c2 : (Value.agg Y).cells = Y := rfl
  rw [Instr.fill, h0]
  dsimp only
  rw [c1, if_neg (by simp; omega), Instr.fill, h1]
  dsimp only
  rw [c2, if_neg (by rw [hf]; simp; omega), Instr.fill, hv]
set_option maxRecDepth 100000 in
theorem run_sgt (w : World) (l : List Cl) (hl : l.length ≤ 120) :
    (Instr.build 80 #[(0, .agg (pic (home l))), (1, .agg #[.int .i64 (boxLo l).1, .int .i64 (boxLo l).2])]).run Try.prog w = .ok (.agg (sgt l)) w := by
  refine run_build w _ _ _ ?_
  have hle := home_le l
  have hps : (pic (home l)).size = 241 := pic_size (by omega)
  have hi : (Try.prog.info? 80).map (fun i => i.zero.map (·.cells)) = some (some Try.zeroCells80) := by kernel_rfl
  obtain ⟨it, z, h1, h2, h3⟩ : ∃ it z, Try.prog.info? 80 = some it ∧ it.zero = some z ∧ z.cells = Try.zeroCells80 := by
    cases h : Try.prog.info? 80 with
    | none => rw [h] at hi; cases hi
    | some it =>
      rw [h] at hi
      simp only [Option.map_some, Option.some.injEq] at hi
      cases h' : it.zero with
      | none => rw [h'] at hi; cases hi
      | some z => rw [h'] at hi; exact ⟨it, z, rfl, h', by simpa using hi⟩
  have hu : (match Try.prog.underlying 80 with | some (.struct fs) => fs.toList.mapM (fun f => (Try.prog.info? f.type).map fun i => (f.offset, i.size)) | _ => none) = some [(0, 241), (241, 2)] := by kernel_rfl
  rw [Try.underlying80] at hu
  dsimp only at hu
  have hz := zsight_size
  unfold Program.built
  rw [h1, Try.underlying80]
  dsimp only
  rw [h2, hu]
  dsimp only
  rw [h3]
  rw [sgt]
  generalize Try.zeroCells80 = zc at *
  exact fill_two _ zc (pic (home l)) _ 241 2 rfl rfl hps rfl hz

attribute [-go_sem] Instr.build
/-- A whole sight is laid into a row of its size. -/
theorem store_sgt (w : World) (g : Nat) (c : Array Value) (l : List Cl) (hl : l.length ≤ 120) (hg : w.heap[g]? = some (.cells c 80 (0, 0))) (hc : c.size = 243) :
    (storeCells ⟨g, 0, none⟩ (sgt l).toList 0).run Try.prog w = .ok () (w.setRow g (sgt l)) := by
  have := run_storeCells_at Try.prog g 0 80 (sgt l).toList 0 c w hg (by simp; rw [sgt_size hl, hc]; exact Nat.le_refl _) (sgt_one l)
  rw [this]
  congr 2
  have e : (sgt l).toList.length = 243 := by rw [Array.length_toList, sgt_size hl]
  rw [e, Nat.zero_add, Nat.zero_add, List.take_zero, List.nil_append, List.drop_of_length_le (by rw [Array.length_toList, hc]; exact Nat.le_refl _), List.append_nil, Array.toArray_toList]

set_option maxHeartbeats 4000000 in
set_option maxRecDepth 100000 in
theorem c_sightOf (a : Option Addr) (l : List Cl) (ca : Nat) (w : World) (ha : Seg w a l) (hg : good l = true) :
    Calls Try.prog 61 #[.slice a l.length ca] w fun e w' => e = .returned (.agg (sgt l)) ∧ Below w.heap.size w w' := by
  have hl := good_le hg
  have hle := home_le l
  have k0 := (Below.refl w.heap.size w).alloc (Nat.le_refl _) (.cells Try.zeroCells80 80)
  have hb0 := heap_alloc_last w (.cells Try.zeroCells80 80)
  have hsz0 : w.heap.size < (w.alloc (.cells Try.zeroCells80 80)).heap.size := by simp
  have HW := hid (c_homeward a l ca _ (ha.below k0) (by omega) hg)
  have HE : Hid (sgt l = pic (home l) ++ #[.int .i64 (boxLo l).1, .int .i64 (boxLo l).2]) := rfl
  have HP := hid (fun (a2 : Option Addr) (c2 : Nat) (W : World) (h : Seg W a2 (home l)) => c_pictureOf a2 (home l) c2 W h (by omega))
  have HS := hid (fun W c h1 h2 => store_sgt W w.heap.size c l hl h1 h2)
  have HZ := hid (sgt_size hl)
  have hbd := fun W => run_sgt W l hl
  have K0 := hid k0
  have B0 := hid hb0
  clear ha hg k0 hb0
  generalize sgt l = sl at *
  generalize pic (home l) = pl at *
  generalize boxLo l = lo at *
  go_enter Try.func61, Try.ntmps61
  go_wp2_with fail
  generalize w.alloc (.cells Try.zeroCells80 80) = W0 at *
  refine HW.out.mono ?_
  rintro e w1 ⟨v1, rfl, o1, b1⟩
  obtain ⟨a1, c1, rfl, s1⟩ := o1.form
  have B1 := hid ((b1.block _ hsz0).trans B0.out)
  have k1 := (Below.refl w1.heap.size w1).alloc (Nat.le_refl _) (.cells #[.int .i64 lo.1, .int .i64 lo.2] 44)
  have L1 := hid (WRow.new w1 (.int .i64 lo.1) lo.2 44)
  have S1 := hid (s1.below k1)
  have hsz1 : w.heap.size < w1.heap.size := Nat.lt_of_lt_of_le hsz0 b1.size
  have B2 := hid ((k1.block _ hsz1).trans B1.out)
  have K2 := hid (K0.out.trans ((b1.trans (k1.mono b1.size)).mono K0.out.size))
  have Z2 := hid (show w1.heap.size + 1 = (w1.alloc (.cells #[.int .i64 lo.1, .int .i64 lo.2] 44)).heap.size by simp)
  clear o1 s1 b1 k1 B1 K0 B0
  go_wp2_with fail
  generalize w1.alloc (.cells #[.int .i64 lo.1, .int .i64 lo.2] 44) = w2 at *
  have D := hid ((Below.refl w2.heap.size w2).drew)
  have LD := hid (L1.out.below D.out)
  have hne1 : ¬ w1.heap.size = w.heap.size := by omega
  have hsz2 : w.heap.size < w2.heap.size := by have := Z2.out; omega
  have y0 := L1.out.c0
  have y1 := L1.out.c1
  have SD := hid (S1.out.below D.out)
  go_region_held3 (fun W => W.cell? ⟨w1.heap.size, 0, none⟩ = some (.int .i64 lo.1) ∧ W.cell? ⟨w1.heap.size, 1, none⟩ = some (.int .i64 lo.2))
    (first | exact ⟨y0, y1⟩ | exact ⟨(LD.out.below b3).c0, (LD.out.below b3).c1⟩ | exact ⟨LD.out.c0, LD.out.c1⟩ | exact ⟨(cell_setRow_other _ _ _ _ hne1).trans (LD.out.below b3).c0, (cell_setRow_other _ _ _ _ hne1).trans (LD.out.below b3).c1⟩ | go_keep)
    (first | (go_at_call 81; refine (HP.out a1 c1 w2.drew SD.out).mono ?_; rintro e w3 ⟨rfl, b3⟩; have B3 := hid ((b3.block _ hsz2).trans ((D.out.block _ hsz2).trans B2.out)); have hst := HS.out w3 _ B3.out zsight_size; have K3 := hid (K2.out.trans ((D.out.trans (b3.mono D.out.size)).mono K2.out.size))))
  have HR : Hid ((w3.setRow w.heap.size sl).heap[w.heap.size]? = some (.cells sl 80 (0, 0))) := hid (setRow_heap _ _ _ _ _ _ B3.out)
  have HB := hid (below_setRow K3.out (Nat.le_refl _) sl)
  go_wp2_with fail
  refine bodyPost_ret (v := .agg sl) ?_ rfl ⟨rfl, HB.out⟩
  exact results_cell_row rfl _ _ w.heap.size 80 sl (0, 0) _ rfl HR.out Try.underlying80 rfl (by rw [HZ.out]; exact info_sight)
end Go.Proofs.Ytgppcocfnbalfaa
