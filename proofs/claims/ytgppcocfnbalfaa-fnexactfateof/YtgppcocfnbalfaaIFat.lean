/- FateOf of the program. -/
import Derived.Test.YtgppcocfnbalfaaRgC
import Derived.Test.YtgppcocfnbalfaaSgt
import Derived.Test.YtgppcocfnbalfaaFatP
import Derived.Maps.AppendAt
import Derived.Deep.MidRow
import Derived.Great.BuildSlice
namespace Go.Proofs.Ytgppcocfnbalfaa
open Go.RowKit Go.Shelf
set_option linter.unusedVariables false
set_option linter.unusedSimpArgs false
attribute [local go_sem] Oper.semAt_some
attribute [-go_sem] Instr.buildSlice

/-- Sights that a slice of the maker's own holds. -/
def flatG (L : List (List Cl)) : List Value := L.flatMap fun l => (sgt l).toList
def OwnG (w : World) (base : Nat) (v : Value) (L : List (List Cl)) : Prop := w.ownsRow base 80 243 v L.length (flatG L)
theorem OwnG.nil (w : World) (base : Nat) : OwnG w base (.slice none 0 0) [] := World.ownsRow_nil w base 80 243
theorem OwnG.below {w w' : World} {base : Nat} {v : Value} {l : List (List Cl)} (h : OwnG w base v l) (hb : Below w.heap.size w w') : OwnG w' base v l :=
  World.ownsRow.kept h (grown_of_below hb none) (by cases v.ownBlock <;> simp)
theorem OwnG.other {w w' : World} {base : Nat} {v : Value} {l : List (List Cl)} {row : Option Nat} (h : OwnG w base v l) (hg : w.grownBy w' row) (hr : ∀ r, row = some r → ∃ o : Obj, w.heap[r]? = some o ∧ o.isCells = false) : OwnG w' base v l := by
  refine World.ownsRow.kept h hg ?_
  rcases h.2 with ⟨rfl, _⟩ | ⟨g, cap, cur, rfl, _, hgb, _⟩
  · exact .inl rfl
  · refine .inr fun e => ?_
    obtain ⟨o, ho, hc⟩ := hr g e.symm
    rw [hgb] at ho; cases ho; cases hc
theorem frow_other {W W' : World} {row : Option Nat} {B : Nat} {f : Nat → Int} (h : FRow W B f) (hg : W.grownBy W' row) (hr : ∀ r, row = some r → ∃ o : Obj, W.heap[r]? = some o ∧ o.isCells = false) : FRow W' B f :=
  World.rowIs.of_block h (hg.block _ h.lt (fun e => by
    obtain ⟨o, ho, hc⟩ := hr B e.symm
    obtain ⟨cs, h1, h2⟩ := h
    rw [h1] at ho; cases ho; cases hc))

theorem frow_new0 (w : World) : FRow (w.alloc (.cells #[.int .i64 0, .int .i64 0, .int .i64 0, .int .i64 0] 39)) w.heap.size (fun _ => 0) :=
  (FRow.new w 0 0 0 0).congr fun i hi => by
    rcases (show i = 0 ∨ i = 1 ∨ i = 2 ∨ i = 3 by omega) with rfl | rfl | rfl | rfl <;> rfl
theorem frow_set {W : World} {B b o : Nat} {f : Nat → Int} {v : Value} (h : FRow W B f) (hne : B ≠ b) : FRow (W.setCell ⟨b, o, none⟩ v) B f := World.rowIs.setOther h (a := ⟨b, o, none⟩) hne v
theorem boxed_at {W : World} {B b o : Nat} {t : TypeId} {v u : Value} (h : Boxed W B t v) (hne : B ≠ b) : Boxed (W.setCell ⟨b, o, none⟩ u) B t v := (Below.heap_setCell W ⟨b, o, none⟩ u B hne).trans h
theorem boxed_set4 {W : World} {B b : Nat} {t : TypeId} {v : Value} (h : Boxed W B t v) (hne : B ≠ b) (g : Nat → Int) :
    Boxed ((((W.setCell ⟨b, 0, none⟩ (.int .i64 (g 0))).setCell ⟨b, 1, none⟩ (.int .i64 (g 1))).setCell ⟨b, 2, none⟩ (.int .i64 (g 2))).setCell ⟨b, 3, none⟩ (.int .i64 (g 3))) B t v :=
  boxed_at (boxed_at (boxed_at (boxed_at h hne) hne) hne) hne

theorem flatG_len : ∀ (L : List (List Cl)), (∀ x ∈ L, x.length ≤ 120) → (flatG L).length = L.length * 243
  | [], _ => rfl
  | x :: L, h => by
    have ih := flatG_len L (fun y hy => h y (by simp [hy]))
    have hx : (sgt x).toList.length = 243 := by rw [Array.length_toList, sgt_size (h x (by simp))]
    show ((sgt x).toList ++ flatG L).length = _
    rw [List.length_append, hx, ih, List.length_cons]; omega
theorem flatG_at : ∀ (L : List (List Cl)), (∀ x ∈ L, x.length ≤ 120) → ∀ i, i < L.length → ∀ j, j < 243 → (flatG L)[i * 243 + j]? = (sgt (ht L i)).toList[j]?
  | [], _, i, hi, _, _ => absurd hi (Nat.not_lt_zero _)
  | x :: L, h, i, hi, j, hj => by
    have hx : (sgt x).toList.length = 243 := by rw [Array.length_toList, sgt_size (h x (by simp))]
    show ((sgt x).toList ++ flatG L)[i * 243 + j]? = _
    cases i with
    | zero =>
      rw [Nat.zero_mul, Nat.zero_add, List.getElem?_append_left (by omega)]; rfl
    | succ i =>
      rw [List.getElem?_append_right (by omega), hx, show (i + 1) * 243 + j - 243 = i * 243 + j by omega, flatG_at L (fun y hy => h y (by simp [hy])) i (by simpa using hi) j hj]
      rfl
theorem OwnG.form {w : World} {base : Nat} {v : Value} {L : List (List Cl)} (h : OwnG w base v L) (hL : ∀ x ∈ L, x.length ≤ 120) :
    ∃ aa c, v = .slice aa L.length c ∧ ∀ i, i < L.length → ∃ g, aa = some ⟨g, 0, none⟩ ∧ g < w.heap.size ∧ w.rangeAt g (i * 243) (sgt (ht L i)).toList := by
  rcases h.2 with ⟨rfl, h0⟩ | ⟨g, cap, cur, rfl, hb, hg, h1, h2, h3, h4⟩
  · exact ⟨none, 0, by rw [h0], fun i hi => by omega⟩
  · refine ⟨_, cap, rfl, fun i hi => ⟨g, rfl, (Array.getElem?_eq_some_iff.1 hg).1, fun j u hu => ?_⟩⟩
    have hs : (sgt (ht L i)).toList.length = 243 := by rw [Array.length_toList, sgt_size (hL _ (ht_in hi))]
    have hj : j < 243 := by have := (List.getElem?_eq_some_iff.1 hu).1; omega
    have hf := flatG_at L hL i hi j hj
    rw [hu, ← h4, List.getElem?_take_of_lt (by have : i * 243 + 243 ≤ L.length * 243 := by rw [← Nat.succ_mul]; exact Nat.mul_le_mul_right _ hi
                                               omega)] at hf
    show w.cell? _ = _
    rw [World.cell?, hg]
    simpa using hf
theorem OwnG.lt {w : World} {base : Nat} {v : Value} {L : List (List Cl)} (h : OwnG w base v L) : ∀ k, v.ownBlock = some k → base ≤ k ∧ k < w.heap.size := World.ownsRow.lt h

theorem sgt_list (m : List Cl) : (sgt m).toList = picL (home m) ++ [.int .i64 (boxLo m).1, .int .i64 (boxLo m).2] := by simp [sgt, pic]
/-- What lies in a row that is a sight. -/
theorem sgt_parts {W : World} {b : Nat} {m : List Cl} (hm : m.length ≤ 120) (hb : W.heap[b]? = some (.cells (sgt m) 80 (0, 0))) :
    (Instr.loadAt 80 (.pointer (some ⟨b, 0, none⟩))).run Try.prog W = .ok (.agg (sgt m)) W ∧
    (Instr.loadAt 78 (.pointer (some ⟨b, 0, none⟩))).run Try.prog W = .ok (.agg (pic (home m))) W ∧
    W.cell? ⟨b, 241, none⟩ = some (.int .i64 (boxLo m).1) ∧ W.cell? ⟨b, 242, none⟩ = some (.int .i64 (boxLo m).2) := by
  have hle := home_le m
  have hp : (picL (home m)).length = 241 := picL_length (by omega)
  have hc : ∀ j, W.cell? ⟨b, j, none⟩ = (picL (home m) ++ [.int .i64 (boxLo m).1, .int .i64 (boxLo m).2])[j]? := fun j => by
    rw [← sgt_list, World.cell?, hb]; simp
  refine ⟨?_, ?_, ?_, ?_⟩
  · have := run_loadAt_mid (P := Try.prog) W b 0 80 (sgt m).toList _ (fun j u hu => by rw [Nat.zero_add, hc, ← sgt_list]; exact hu) Try.underlying80 rfl (by rw [Array.length_toList, sgt_size hm]; exact info_sight)
    simpa using this
  · have := run_loadAt_mid (P := Try.prog) W b 0 78 (picL (home m)) _ (fun j u hu => by rw [Nat.zero_add, hc, List.getElem?_append_left (List.getElem?_eq_some_iff.1 hu).1]; exact hu) Try.underlying78 rfl (by rw [hp]; exact info_pic)
    exact this
  · rw [hc, List.getElem?_append_right (by omega), hp]; rfl
  · rw [hc, List.getElem?_append_right (by omega), hp]; rfl

theorem info_Sight : (Try.prog.info? 80).map (fun i => (i.zero, i.size, i.bytes)) = some (some (.agg Try.zeroCells80), 243, 1944) := by kernel_rfl
theorem fill_one (place : Nat → Option (Nat × Nat)) (cs X : Array Value) (m : Nat) (h0 : place 0 = some (0, m)) (hX : X.size = m) (hc : cs.size = m) : Instr.fill place cs [(0, .agg X)] = some X := by
  have c1 : (Value.agg X).cells = X := rfl
  rw [Instr.fill, h0]
  dsimp only
  rw [c1, if_neg (by simp; omega), Instr.fill]
  congr 1
  apply Array.ext'
  have hx := foldl_place 0 X.toList 0 cs (by simp; omega)
  rw [← Array.foldl_toList, Array.toList_zipIdx, hx]
  simp; omega
/-- A slice of one sight. -/
theorem run_one (W : World) (m : List Cl) (hm : m.length ≤ 120) : (Instr.buildSlice 75 1 #[(0, .agg (sgt m))]).run Try.prog W = .ok (.slice (some ⟨W.heap.size, 0, none⟩) 1 1) (W.alloc (.cells (sgt m) 80)) := by
  obtain ⟨ie, h1, h2, h3, h4⟩ := info_parts info_Sight
  have hs := sgt_size hm
  refine run_buildSlice W 75 80 1 _ (sgt m) ie _ Try.underlying75 h1 h2 (by rw [h3]; decide) (by rw [h3]; decide) ?_
  have c1 : (Value.agg (sgt m)).cells = sgt m := rfl
  rw [h3, fill_one _ _ _ 243 rfl hs (by simp)]

/-- A sight put behind those that a boxed variable holds: all that the round owes. -/
theorem appG {W w1 : World} {B base b c : Nat} {v v' : Value} {L : List (List Cl)} {m : List Cl} {tmp : Obj} (hx : Boxed W B 75 v) (hO : OwnG W base v L) (hBb : B < base) (hbb : b < base) (hcb : c < base) (hbB : b ≠ B) (hcB : c ≠ B) (hbz : b < W.heap.size) (hcz : c < W.heap.size)
    (hr : w1.ownsRow base 80 243 v' (L.length + 1) (flatG L ++ (sgt m).toList)) (hg : (W.alloc tmp).grownBy w1 v.ownBlock) :
    Boxed w1 B 75 v ∧ Boxed (w1.setCell ⟨B, 0, none⟩ v') B 75 v' ∧ OwnG (w1.setCell ⟨B, 0, none⟩ v') base v' (L ++ [m]) ∧ KeepsOthers W (w1.setCell ⟨B, 0, none⟩ v') ∧ hKp b c W (w1.setCell ⟨B, 0, none⟩ v') ∧
    (∀ n w, n ≤ B → n ≤ W.heap.size → Below n w W → Below n w (w1.setCell ⟨B, 0, none⟩ v')) ∧ (∀ k, k < base → k ≠ B → k < W.heap.size → (w1.setCell ⟨B, 0, none⟩ v').heap[k]? = W.heap[k]?) := by
  have hal : Below W.heap.size W (W.alloc tmp) := (Below.refl _ W).alloc (Nat.le_refl _) _
  have hlt := hO.lt
  have hrow : (W.alloc tmp).ownsRow base 80 243 v L.length (flatG L) := hO.below hal
  have z1 : Boxed w1 B 75 v := (hx.alloc tmp).kept hg (fun e => by have := hlt B e.symm; omega)
  have hs := grownBy_setCell' w1 B v'
  have hkk : ∀ k, k < base → k ≠ B → k < W.heap.size → (w1.setCell ⟨B, 0, none⟩ v').heap[k]? = W.heap[k]? := fun k h1 h2 h3 =>
    (Below.heap_setCell _ _ _ k h2).trans ((hg.block k (Nat.lt_of_lt_of_le h3 hal.size) (fun e => by have := hlt k e.symm; omega)).trans (hal.block k h3))
  refine ⟨z1, z1.set _, ?_, ?_, ?_, ?_, hkk⟩
  · have h2 : w1.ownsRow base 80 243 v' (L ++ [m]).length (flatG (L ++ [m])) := by
      rw [List.length_append, flatG, List.flatMap_append]; simpa [flatG] using hr
    exact World.ownsRow.kept h2 hs (.inr fun e => by have := (World.ownsRow.lt h2 B e).1; omega)
  · refine ((KeepsOthers.alloc W tmp).trans (KeepsOthers.of_grownBy hg fun j o ej hj => ?_)).trans (KeepsOthers.setCell _ _ _)
    rcases hrow.2 with ⟨rfl, _⟩ | ⟨g, cap, cur, rfl, _, hgb, _⟩
    · simp [Value.ownBlock] at ej
    · obtain rfl : g = j := by simpa [Value.ownBlock] using ej
      rw [hgb] at hj; cases hj; rfl
  · have hk1 : hKp b c W w1 := by
      refine ⟨Nat.le_trans hal.size hg.size, fun k cs f hk => ?_, ?_, ?_⟩
      · have hk2 : (W.alloc tmp).heap[k]? = some (Obj.cells cs 44 f) := (hal.block k (Array.getElem?_eq_some_iff.1 hk).1).trans hk
        refine (hg.block k (Array.getElem?_eq_some_iff.1 hk2).1 (fun e => ?_)).trans hk2
        rcases hrow.2 with ⟨rfl, _⟩ | ⟨g, cap, cur, rfl, _, hgb, _⟩
        · simp [Value.ownBlock] at e
        · obtain rfl : g = k := by simpa [Value.ownBlock] using e.symm
          rw [hgb] at hk2
          simp only [Option.some.injEq, Obj.cells.injEq] at hk2
          exact absurd hk2.2.1 (by decide)
      · exact (hg.block b (Nat.lt_of_lt_of_le hbz hal.size) (fun e => by have := hlt b e.symm; omega)).trans (hal.block b hbz)
      · exact (hg.block c (Nat.lt_of_lt_of_le hcz hal.size) (fun e => by have := hlt c e.symm; omega)).trans (hal.block c hcz)
    exact hk1.trans (hKp.set z1 (by decide) hbB hcB)
  · intro n w h1 h2 hB
    exact ((hB.trans (hal.mono h2)).grown hg (Nat.le_trans h2 hal.size) (fun k e => by have := hlt k e; omega)).setCell (p := ⟨B, 0, none⟩) h1 _

/-- A whole value is read. -/
theorem wpIn_load_at {F : Fence} {n : Nat} {P : Program} {o : Oper} {a : Act} {w : World} {K : Act → World → Prop} {Q : Exit → Act → World → Prop} {ty : TypeId} {x : Operand} (ho : o.op = .load ty x) {p v : Value} (hx : a.eval x = p)
    (h : (Instr.loadAt ty p).run P w = .ok v w) (hk : K (a.put o.dst v) w) : o.wpIn F n P a w K Q := by
  unfold Oper.wpIn
  refine ⟨by simp [Oper.about, ho], ?_⟩
  rw [Oper.semAt_plain F _ _ (by rw [ho]; intro c hc; cases hc)]
  simp [execOp, ho, hx, h, Result.andThen]
  exact hk

/-- A sight is laid into a variable that was made. -/
theorem st_sgt (W : World) (m : List Cl) (hm : m.length ≤ 120) :
    (storeCells ⟨W.heap.size, 0, none⟩ (sgt m).toList 0).run Try.prog (W.alloc (.cells Try.zeroCells80 80)) = .ok () (W.alloc (.cells (sgt m) 80)) :=
  run_storeCells_new (P := Try.prog) W 80 Try.zeroCells80 (sgt m) (by rw [sgt_size hm]; exact info_sight) (by rw [sgt_size hm, zsight_size]) (by rw [← Array.all_toList, List.all_eq_true]; exact fun v hv => sgt_one m v hv)

set_option maxHeartbeats 4000000 in
set_option maxRecDepth 100000 in
theorem c_iFateOf (a : Option Addr) (l : List Cl) (ca : Nat) (t : Int) (w : World) (ha : Seg w a l) (hca : a = none → ca = 0) (hl : l.length ≤ 1048576) :
    Calls Try.prog 27 #[.slice a l.length ca, .int .i64 t] w fun e w' => e = .returned (.tuple #[.agg #[.int .i64 (ftV (histG l t) 0), .int .i64 (ftV (histG l t) 1), .int .i64 (ftV (histG l t) 2), .int .i64 (ftV (histG l t) 3)], .bool (ftK (histG l t))]) ∧ Below w.heap.size w w' := by
  have HM := hid (fun W => c_isMost t W)
  have HS := hid (fun W => c_stepsOf a l.length ca t W)
  cases hm : inMo t
  · rw [hm] at HM
    have HV := hid (ft_none (H := histG l t) (fun b hb => by simp [histG, hm] at hb))
    have X2 := FRow.new w 0 0 0 0
    have X3 := Boxed.new (w.alloc (.cells #[.int .i64 0, .int .i64 0, .int .i64 0, .int .i64 0] 39)) 4 (.bool false)
    replace X2 := X2.below ((Below.refl _ _).alloc (Nat.le_refl _) (.cells #[.bool false] 4))
    have HB := ((Below.refl w.heap.size w).alloc (Nat.le_refl _) (.cells #[.int .i64 0, .int .i64 0, .int .i64 0, .int .i64 0] 39)).alloc (by simp) (.cells #[.bool false] 4)
    simp only [World.size_alloc] at X2 X3
    go_enter Try.func27, Try.ntmps27
    go_wp2_with fail
    refine (HM.out _).mono ?_
    rintro e w1 ⟨rfl, rfl⟩
    generalize (w.alloc (.cells #[.int .i64 0, .int .i64 0, .int .i64 0, .int .i64 0] 39)).alloc (.cells #[.bool false] 4) = W0 at *
    have x0 := X2.cell 0 (by omega)
    have x1 := X2.cell 1 (by omega)
    have x2 := X2.cell 2 (by omega)
    have x3 := X2.cell 3 (by omega)
    have f0 := X2.fr 0
    have f1 := X2.fr 1
    have f2 := X2.fr 2
    have f3 := X2.fr 3
    have hc3 := X3.cell
    have hf3 := X3.frozen
    go_wp2_with fail
    have RZ := frow_set (v := .bool false) (b := w.heap.size + 1) (o := 0) (X2.put (fun _ => 0)) (by omega)
    have v0 := RZ.cell 0 (by omega)
    have v1 := RZ.cell 1 (by omega)
    have v2 := RZ.cell 2 (by omega)
    have v3 := RZ.cell 3 (by omega)
    have X3' : Boxed ((((W0.setCell ⟨w.heap.size, 0, none⟩ (.int .i64 0)).setCell ⟨w.heap.size, 1, none⟩ (.int .i64 0)).setCell ⟨w.heap.size, 2, none⟩ (.int .i64 0)).setCell ⟨w.heap.size, 3, none⟩ (.int .i64 0)) (w.heap.size + 1) 4 (.bool false) := boxed_set4 X3 (by omega) (fun _ => 0)
    have v4 := (X3'.set (.bool false)).cell
    refine bodyPost_ret (v := .tuple #[.agg #[.int .i64 0, .int .i64 0, .int .i64 0, .int .i64 0], .bool false]) (by simp [results, Try.results27, go_sem, v0, v1, v2, v3, v4]) rfl ⟨by rw [HV.out.1, HV.out.2 0, HV.out.2 1, HV.out.2 2, HV.out.2 3], ?_⟩
    exact (below_set4 HB (Nat.le_refl _) (fun _ => 0)).setCell (p := ⟨w.heap.size + 1, 0, none⟩) (by simp) _
  · rw [hm] at HM
    have htb := inMo_bd hm
    obtain ⟨T, rfl⟩ : ∃ T : Nat, t = (T : Int) := ⟨t.toNat, by omega⟩
    have hT : T ≤ 20 := by omega
    refine (callsIn_wide (n := 5)).1 ?_
    refine callsIn_of_wp_marks Try.func27 rfl trivial ?_ rfl
    simp only [Try.ntmps27, List.size_toArray, List.length_cons, List.length_nil, Nat.reduceAdd, Nat.reduceSub, Array.replicate_succ, Array.replicate_zero, List.push_toArray, List.append_toArray, List.nil_append, List.cons_append]
    gi_wp2_with (first | (refine ⟨trivial, ?_⟩; gi_at_call 50; refine (callsIn_wide.2 (HM.out _)).mono ?_; rintro e w1 ⟨rfl, rfl⟩) | (refine ⟨trivial, ?_⟩; gi_at_call 51; refine (callsIn_wide.2 (HS.out _)).mono ?_; rintro e w1 ⟨rfl, rfl⟩))
    have X1 := frow_new0 w
    have X2 := Boxed.new (w.alloc (.cells #[.int .i64 0, .int .i64 0, .int .i64 0, .int .i64 0] 39)) 4 (.bool false)
    have X3 := Boxed.new ((w.alloc (.cells #[.int .i64 0, .int .i64 0, .int .i64 0, .int .i64 0] 39)).alloc (.cells #[.bool false] 4)) 75 (.slice none 0 0)
    have X4 := Boxed.new (((w.alloc (.cells #[.int .i64 0, .int .i64 0, .int .i64 0, .int .i64 0] 39)).alloc (.cells #[.bool false] 4)).alloc (.cells #[.slice none 0 0] 75)) 23 (.slice a l.length ca)
    have X5 := Boxed.new ((((w.alloc (.cells #[.int .i64 0, .int .i64 0, .int .i64 0, .int .i64 0] 39)).alloc (.cells #[.bool false] 4)).alloc (.cells #[.slice none 0 0] 75)).alloc (.cells #[.slice a l.length ca] 23)) 3 (.int .i64 (T : Int))
    replace X1 := (((X1.below ((Below.refl _ _).alloc (Nat.le_refl _) (.cells #[.bool false] 4))).below ((Below.refl _ _).alloc (Nat.le_refl _) (.cells #[.slice none 0 0] 75))).below ((Below.refl _ _).alloc (Nat.le_refl _) (.cells #[.slice a l.length ca] 23))).below ((Below.refl _ _).alloc (Nat.le_refl _) (.cells #[.int .i64 (T : Int)] 3))
    replace X2 := ((X2.alloc (.cells #[.slice none 0 0] 75)).alloc (.cells #[.slice a l.length ca] 23)).alloc (.cells #[.int .i64 (T : Int)] 3)
    replace X3 := (X3.alloc (.cells #[.slice a l.length ca] 23)).alloc (.cells #[.int .i64 (T : Int)] 3)
    replace X4 := X4.alloc (.cells #[.int .i64 (T : Int)] 3)
    have HB := ((((((Below.refl w.heap.size w).alloc (Nat.le_refl _) (.cells #[.int .i64 0, .int .i64 0, .int .i64 0, .int .i64 0] 39)).alloc (by simp) (.cells #[.bool false] 4)).alloc (by simp; omega) (.cells #[.slice none 0 0] 75)).alloc (by simp; omega) (.cells #[.slice a l.length ca] 23)).alloc (by simp; omega) (.cells #[.int .i64 (T : Int)] 3))
    simp only [World.size_alloc] at X2 X3 X4 X5
    have hsz : (((((w.alloc (.cells #[.int .i64 0, .int .i64 0, .int .i64 0, .int .i64 0] 39)).alloc (.cells #[.bool false] 4)).alloc (.cells #[.slice none 0 0] 75)).alloc (.cells #[.slice a l.length ca] 23)).alloc (.cells #[.int .i64 (T : Int)] 3)).heap.size = w.heap.size + 5 := by simp
    generalize ((((w.alloc (.cells #[.int .i64 0, .int .i64 0, .int .i64 0, .int .i64 0] 39)).alloc (.cells #[.bool false] 4)).alloc (.cells #[.slice none 0 0] 75)).alloc (.cells #[.slice a l.length ca] 23)).alloc (.cells #[.int .i64 (T : Int)] 3) = W0 at *
    have HA0 := hid (ha.below HB)
    have HN := hid (show (∀ b, b < (histG l (T : Int)).length → ∀ a, a < b → ¬ home (ht (histG l (T : Int)) a) = home (ht (histG l (T : Int)) b)) → _ from fun h => ft_none h)
    have HSM := hid (fun (a b : Nat) => ft_some (H := histG l (T : Int)) (a := a) (b := b))
    rw [← hFull_is hm] at HN HSM
    have HFI := hid (hFull_is (l := l) hm)
    have HFL := hid (show (hFull T l).length ≤ 21 by
      unfold hFull; split
      · have := hist_le T l; omega
      · simp)
    refine wpIn_rangeR rfl (by omega) (gf := 80) (lb := #[.pointer (some ⟨w.heap.size + 1 + 1 + 1, 0, none⟩), .pointer (some ⟨w.heap.size + 1 + 1 + 1 + 1, 0, none⟩)]) rfl trivial (enters_of Try.func80 (by kernel_rfl) rfl)
      (seq_steps 4 (w.heap.size + 1 + 1 + 1) (w.heap.size + 1 + 1 + 1 + 1) (by omega) a l ca T W0 hT HA0.out hca hl X4.cell (by omega) X5.cell (by omega))
      (fun h k => h.trans k) (hKp.other (by omega) (by omega)) (fun _ => rfl) (hIs.own _ _ _)
      (fun d W => (FRow W w.heap.size (fun _ => 0) ∧ Boxed W (w.heap.size + 1) 4 (.bool false) ∧ (∃ v, Boxed W (w.heap.size + 1 + 1) 75 v ∧ OwnG W W0.heap.size v (hLs d)) ∧ (∀ b, b < d.length → ∀ a, a < b → ¬ home (ht (hLs d) a) = home (ht (hLs d) b)) ∧ (∀ x ∈ hLs d, good x = true) ∧ w.heap.size + 5 ≤ W.heap.size) ∧ Below w.heap.size w W)
      (fun c d W => (c = .ret ∧ ftK (hFull T l) = true ∧ FRow W w.heap.size (ftV (hFull T l)) ∧ Boxed W (w.heap.size + 1) 4 (.bool true)) ∧ Below w.heap.size w W)
      (OwnFrom.and (fun s A B row hs hg hr => by obtain ⟨h1, h2, ⟨v, h3, h4⟩, h5, h6, h7⟩ := hs; exact ⟨frow_other h1 hg (fun r e => (hr r e).2), boxed_other h2 hg (fun r e => (hr r e).2), ⟨v, boxed_other h3 hg (fun r e => (hr r e).2), h4.other hg (fun r e => (hr r e).2)⟩, h5, h6, Nat.le_trans h7 hg.size⟩) (ownFrom_below (Nat.le_refl _) (by omega)))
      (fun c => OwnFrom.and (fun s A B row hs hg hr => by obtain ⟨e, k, h1, h2⟩ := hs; exact ⟨e, k, frow_other h1 hg (fun r e => (hr r e).2), boxed_other h2 hg (fun r e => (hr r e).2)⟩) (ownFrom_below (Nat.le_refl _) (by omega)))
      ⟨⟨X1, X2, ⟨_, X3, by simpa [hLs] using OwnG.nil W0 W0.heap.size⟩, (fun j hj => absurd hj (Nat.not_lt_zero _)), (fun x hx => by simp [hLs] at hx), by omega⟩, HB⟩
      (fun x => { tmps := #[.slice a l.length ca, .int .i64 (T : Int), undef, undef, .pointer (some ⟨w.heap.size, 0, none⟩), .pointer (some ⟨w.heap.size + 1, 0, none⟩), .pointer (some ⟨w.heap.size + 1 + 1, 0, none⟩), .int .i64 (x.1 : Int), x.2.1, undef, undef, undef, .int .i64 (T : Int), .bool true, .bool false, undef, .slice a l.length ca, .int .i64 (T : Int), .func (.func 80) #[] #[.pointer (some ⟨w.heap.size + 1 + 1 + 1, 0, none⟩), .pointer (some ⟨w.heap.size + 1 + 1 + 1 + 1, 0, none⟩)], .int .i64 (x.1 : Int), x.2.1, undef, undef, undef, undef, undef, undef, undef, undef, undef, undef, undef, undef, undef, undef, undef, undef, undef, undef, undef, undef, undef, undef, undef, undef, undef, undef, undef, undef, undef, undef, undef, undef, undef, undef, undef, undef, undef, undef, undef], defers := [] }) ?assign ?body ?done ?stop
    case assign =>
      intro L x W K hK
      simp only [hEnc]
      gi_wp2
      exact hK
    case body =>
      rintro L d ⟨k, v, m⟩ W ⟨⟨x1, x2, ⟨sv, x3, hO⟩, hN, hG, hz⟩, hB⟩ ⟨hk, hpre, hu, hgm, hap⟩
      simp only at hk hpre hu hgm
      subst hk
      obtain ⟨am, cm, rfl, sm⟩ := hu.form
      have SM := hid sm
      have CS := c_sightOf am m cm W SM.out hgm
      obtain ⟨sa, sc, rfl, hsv⟩ := hO.form (fun x hx => good_le (hG x hx))
      rw [hLs_length] at x3 hsv hO
      have hss := sgt_size (good_le hgm)
      have hlen := pre_le hpre
      rw [hLs_length, List.length_append] at hlen
      simp only [List.length_cons, List.length_nil] at hlen
      have hfl := HFL.out
      have hd21 : d.length ≤ 21 := by omega
      have HFd := hid (show ∀ j, j < d.length → ht (hFull T l) j = ht (hLs d) j from fun j hj => by
        rw [pre_ht hpre (by simp [hLs_length]; omega), hLs_snoc, pre_ht (List.prefix_append _ _) (by rw [hLs_length]; exact hj)])
      have HFm := hid (show ht (hFull T l) d.length = m by
        rw [pre_ht hpre (by simp [hLs_length]), hLs_snoc, ← hLs_length, ht_snoc _ (by omega), if_pos rfl])
      have HSD := hid (fun i (hi : i < d.length) => HSM.out i d.length (by omega) hi)
      have HNN := hid hN
      clear HSM hN hpre
      clear hap hu sm
      gi_wp2_with (refine ⟨trivial, ?_⟩; gi_at_call 61; refine (CallsIn.inRound L (callsIn_wide.2 CS)).mono ?_; rintro e w1 ⟨rfl, b1⟩; have hst := st_sgt w1 m (good_le hgm); have y3 := boxed_below (boxed_below x3 b1) ((Below.refl _ _).alloc (Nat.le_refl _) (.cells (sgt m) 80)); have hc3 := y3.cell)
      have k1 := (Below.refl w1.heap.size w1).alloc (Nat.le_refl _) (.cells (sgt m) 80)
      have hb1 := heap_alloc_last w1 (.cells (sgt m) 80)
      have hlt2 : w1.heap.size < (w1.alloc (.cells (sgt m) 80)).heap.size := by simp
      have K2 := hid (b1.trans (k1.mono b1.size))
      have hms := hid (good_le hgm)
      have HGM := hid hgm
      clear hst hc3 y3 k1 CS
      generalize w1.alloc (.cells (sgt m) 80) = w2 at *
      have HB1 := hid hb1
      have HSV := hid hsv
      have HO := hid hO
      clear hb1 hsv hO hgm
      gi_loopw [25] (fun iv wr => ∃ i : Nat, i ≤ d.length ∧ iv = .int .i64 (i : Int) ∧ Hid (∀ a, a < i → ¬ home (ht (hLs d) a) = home m) ∧ Hid (Below w2.heap.size w2 wr)) (fun iv _ => d.length - (intOf iv).toNat)
      case atStart => exact ⟨0, Nat.zero_le _, rfl, (fun b hb => absurd hb (Nat.not_lt_zero _)), Below.refl _ _⟩
      case round =>
        obtain ⟨i, hi, rfl, hJ, hbel⟩ := hrel
        by_cases hlt : i < d.length
        · have i0 : (0 : Int) ≤ (i : Int) := by omega
          have i1 : (i : Int) < (d.length : Int) := by omega
          obtain ⟨g, rfl, hg1, hg2⟩ := HSV.out i hlt
          have hxl := good_le (hG _ (ht_in (H := hLs d) (i := i) (by rw [hLs_length]; exact hlt)))
          have KR := hid (K2.out.trans (hbel.out.mono K2.out.size))
          have hxe : ∃ x, x = ht (hLs d) i := ⟨_, rfl⟩
          obtain ⟨x, hx⟩ := hxe
          rw [← hx] at hg2 hxl
          have HX := hid hx
          have hld1 : (Instr.loadAt 80 (.pointer (some ⟨g, i * 243, none⟩))).run Try.prog wr = .ok (.agg (sgt x)) wr := by
            have := run_loadAt_mid (P := Try.prog) wr g (i * 243) 80 (sgt x).toList _ (fun j u hu => (KR.out.cell hg1).trans (hg2 j u hu)) Try.underlying80 rfl (by rw [Array.length_toList, sgt_size hxl]; exact info_sight)
            simpa using this
          have hst2 := st_sgt wr x hxl
          have hsx := sgt_size hxl
          have hbx := heap_alloc_last wr (.cells (sgt x) 80)
          have kx := (Below.refl wr.heap.size wr).alloc (Nat.le_refl _) (.cells (sgt x) 80)
          have hlr : w1.heap.size < wr.heap.size := Nat.lt_of_lt_of_le hlt2 hbel.out.size
          have hb2 := (kx.block _ hlr).trans ((hbel.out.block _ hlt2).trans HB1.out)
          obtain ⟨-, p2, p3, p4⟩ := sgt_parts hxl hbx
          obtain ⟨-, q2, q3, q4⟩ := sgt_parts hms.out hb2
          have hhx := home_le x
          have hhm := home_le m
          have hmm := hms.out
          have hq : ∀ W, (Op.equalIn 10000 78 (.agg (pic (home x))) (.agg (pic (home m)))).run Try.prog W = .ok (decide (home x = home m)) W := fun W => eq_pic 9996 (home x) (home m) (by omega) (by omega) W
          have KX := hid (hbel.out.trans (kx.mono hbel.out.size))
          clear hg2 hbx hb2 hx
          cases he : decide (home x = home m)
          · rw [he] at hq
            have HE := hid he
            clear he
            gi_wp2_with (first | refine wpIn_load_at rfl rfl hld1 ?_ | refine wpIn_load_at rfl rfl p2 ?_ | refine wpIn_load_at rfl rfl q2 ?_)
            go_roundw
            case rel =>
              refine ⟨i + 1, by omega, by go_num, (fun a ha => ?_ : ∀ a, _ → _), KX.out⟩
              by_cases ej : a = i
              · subst ej; rw [← HX.out]; simpa using HE.out
              · exact hJ.out a (by omega)
            case measure => simp [intOf]; omega
          · rw [he] at hq
            have HE := hid he
            clear he
            have HFF := hid (HSD.out i hlt (by rw [HFd.out i hlt, HFm.out, ← HX.out]; simpa using HE.out) (fun b' hb a' ha => by rw [HFd.out b' hb, HFd.out a' (by omega)]; exact HNN.out b' hb a' ha) (fun a' ha => by rw [HFd.out a' (by omega), HFm.out]; exact hJ.out a' ha))
            rw [HFd.out i hlt, HFm.out, ← HX.out] at HFF
            have k3 := home_lo x
            have k4 := home_lo m
            have BA := hid (KR.out.trans (kx.mono KR.out.size))
            have RA := hid (x1.below BA.out)
            have XB := hid (boxed_below x2 BA.out)
            have BW := hid (hB.trans (BA.out.mono hB.size))
            have f0 := RA.out.fr 0
            have f1 := RA.out.fr 1
            have f2 := RA.out.fr 2
            have f3 := RA.out.fr 3
            have c0 := RA.out.cell 0 (by omega)
            have c1 := RA.out.cell 1 (by omega)
            have c2 := RA.out.cell 2 (by omega)
            have c3 := RA.out.cell 3 (by omega)
            have hcb := XB.out.cell
            have hfb := XB.out.frozen
            gi_wp2_with (first | refine wpIn_load_at rfl rfl hld1 ?_ | refine wpIn_load_at rfl rfl p2 ?_ | refine wpIn_load_at rfl rfl q2 ?_)
            have RZ := frow_set (v := .bool true) (b := w.heap.size + 1) (o := 0) (RA.out.put (fun k => if k = 0 then (i : Int) else if k = 1 then (d.length : Int) - (i : Int) else if k = 2 then (boxLo m).1 - (boxLo x).1 else (boxLo m).2 - (boxLo x).2)) (by omega)
            have XZ := (boxed_set4 XB.out (b := w.heap.size) (by omega) (fun k => if k = 0 then (i : Int) else if k = 1 then (d.length : Int) - (i : Int) else if k = 2 then (boxLo m).1 - (boxLo x).1 else (boxLo m).2 - (boxLo x).2)).set (.bool true)
            have BZ := (below_set4 BW.out (Nat.le_refl _) (fun k => if k = 0 then (i : Int) else if k = 1 then (d.length : Int) - (i : Int) else if k = 2 then (boxLo m).1 - (boxLo x).1 else (boxLo m).2 - (boxLo x).2)).setCell (p := ⟨w.heap.size + 1, 0, none⟩) (by simp) (.bool true)
            obtain ⟨e5, e0, e1, e2, e3⟩ := HFF.out
            have RY : FRow _ w.heap.size (ftV (hFull T l)) := RZ.congr fun k hk => by
              rcases (show k = 0 ∨ k = 1 ∨ k = 2 ∨ k = 3 by omega) with rfl | rfl | rfl | rfl
              · rw [e0]; rfl
              · rw [e1]; rfl
              · rw [e2]; rfl
              · rw [e3]; rfl
            have KZ := (keeps_below BA.out).trans ((((KeepsOthers.setCell (wr.alloc (.cells (sgt x) 80)) ⟨w.heap.size, 0, none⟩ (.int .i64 (i : Int))).trans (KeepsOthers.setCell _ ⟨w.heap.size, 1, none⟩ (.int .i64 ((d.length : Int) - (i : Int))))).trans (KeepsOthers.setCell _ ⟨w.heap.size, 2, none⟩ (.int .i64 ((boxLo m).1 - (boxLo x).1)))).trans (KeepsOthers.setCell _ ⟨w.heap.size, 3, none⟩ (.int .i64 ((boxLo m).2 - (boxLo x).2))) |>.trans (KeepsOthers.setCell _ ⟨w.heap.size + 1, 0, none⟩ (.bool true)))
            exact ⟨KZ, ⟨rfl, e5, RY, XZ⟩, BZ⟩
        · have hie : i = d.length := by omega
          subst hie
          have KR := hid (K2.out.trans (hbel.out.mono K2.out.size))
          have y3 := boxed_below x3 KR.out
          have hc3 := y3.cell
          have hmm := hms.out
          have hr1 := (sgt_parts hmm ((hbel.out.block _ hlt2).trans HB1.out)).1
          have hone := run_one wr m hmm
          have OR := hid (HO.out.below KR.out)
          have hnl : (sgt m).toList.length = 1 * 243 := by rw [Array.length_toList, hss]
          have hnc : ∀ j u, (sgt m).toList[j]? = some u → (wr.alloc (.cells (sgt m) 80)).cell? ((⟨wr.heap.size, 0, none⟩ : Addr).add j) = some u := fun j u hu => by
            rw [Addr.add_mid, World.cell?, Nat.zero_add, heap_alloc_last]; simpa using hu
          have hn1 := sgt_one m
          have kx := (Below.refl wr.heap.size wr).alloc (Nat.le_refl _) (.cells (sgt m) 80)
          have hows := OR.out.below kx
          obtain ⟨ix, hx0, hx1, hx2, hx3⟩ := info_parts info_Sight
          have hll := hLs_length d
          have hwr := hbel.out.size
          have hK2 := K2.out.size
          gi_wp2_with (first | refine wpIn_load_at rfl rfl hr1 ?_ | (gi_at_builtin; refine wpListIn_append_own _ rfl _ _ 75 rfl W0.heap.size 80 ix _ 243 1944 Try.underlying75 hx0 hx1 hx2 hx3 zsight_size (by decide) _ _ _ rfl hows ⟨wr.heap.size, 0, none⟩ 1 1 (sgt m).toList rfl hnl hnc hn1 (by rw [hll]; unfold maxLen; omega) (by rw [hll]; omega) (by simp; omega) ?_; intro v' w5 hown' hgrow _; have Q := hid (appG (b := w.heap.size + 1 + 1 + 1) (c := w.heap.size + 1 + 1 + 1 + 1) y3 OR.out (by omega) (by omega) (by omega) (by omega) (by omega) (by omega) (by omega) hown' hgrow); have q1 := Q.out.1; have hc2 := q1.cell; have hf2 := q1.frozen; obtain ⟨g', cap', rfl⟩ := ownsRow_succ hown'))
          obtain ⟨-, q2, q3, q4, q5, q6, q7⟩ := Q.out
          rw [hll] at q2 q3 q4 q5 q6 q7
          have HJ := hid hJ.out
          have hN' : ∀ b, b < (d ++ [(d.length, Value.slice am m.length cm, m)]).length → ∀ a, a < b → ¬ home (ht (hLs (d ++ [(d.length, Value.slice am m.length cm, m)])) a) = home (ht (hLs (d ++ [(d.length, Value.slice am m.length cm, m)])) b) := by
            intro b hb a hab
            simp only [List.length_append, List.length_cons, List.length_nil] at hb
            rw [hLs_snoc, ht_snoc a (by rw [hll]; omega), ht_snoc b (by rw [hll]; omega), hll, if_neg (by omega : ¬ a = d.length)]
            split
            · exact HJ.out a (by omega)
            · exact HNN.out b (by omega) a hab
          have hG' : ∀ x ∈ hLs (d ++ [(d.length, Value.slice am m.length cm, m)]), good x = true := by
            intro x hx
            rw [hLs_snoc, List.mem_append, List.mem_singleton] at hx
            rcases hx with h | rfl
            · exact hG x h
            · exact HGM.out
          have e1 := World.rowIs.of_block (x1.below KR.out) (q7 w.heap.size (by omega) (by omega) (by omega))
          have e2 := (q7 (w.heap.size + 1) (by omega) (by omega) (by omega)).trans (boxed_below x2 KR.out)
          have h9 := q4.size
          refine ⟨(keeps_below KR.out).trans q4, (hKp.below KR.out (by omega) (by omega)).trans q5, ⟨e1, e2, ⟨_, q2, ?_⟩, hN', hG', by omega⟩, q6 _ _ (by omega) (by omega) (hB.trans (KR.out.mono hB.size))⟩
          rw [hLs_snoc]
          exact q3
    case done =>
      rintro D ys W hD hS ⟨⟨x1, x2, ⟨sv, x3, hO⟩, hN, hG, hz⟩, hB⟩ hK
      have HV := hid (HN.out (by rw [← hS, hLs_length]; exact hN))
      rw [HFI.out] at HV
      have f0 := x1.fr 0
      have f1 := x1.fr 1
      have f2 := x1.fr 2
      have f3 := x1.fr 3
      have c0 := x1.cell 0 (by omega)
      have c1 := x1.cell 1 (by omega)
      have c2 := x1.cell 2 (by omega)
      have c3 := x1.cell 3 (by omega)
      have hcb := x2.cell
      have hfb := x2.frozen
      clear hN hG hO HN HSM
      gi_wp2
      have RZ := frow_set (v := .bool false) (b := w.heap.size + 1) (o := 0) (x1.put (fun _ => 0)) (by omega)
      have XZ := (boxed_set4 x2 (b := w.heap.size) (by omega) (fun _ => 0)).set (.bool false)
      have BZ := (below_set4 hB (Nat.le_refl _) (fun _ => 0)).setCell (p := ⟨w.heap.size + 1, 0, none⟩) (by simp) (.bool false)
      have KZ := (((((KeepsOthers.setCell W ⟨w.heap.size, 0, none⟩ (.int .i64 0)).trans (KeepsOthers.setCell _ ⟨w.heap.size, 1, none⟩ (.int .i64 0))).trans (KeepsOthers.setCell _ ⟨w.heap.size, 2, none⟩ (.int .i64 0))).trans (KeepsOthers.setCell _ ⟨w.heap.size, 3, none⟩ (.int .i64 0))).trans (KeepsOthers.setCell _ ⟨w.heap.size + 1, 0, none⟩ (.bool false))).same D _ hK rfl
      generalize ((((W.setCell ⟨w.heap.size, 0, none⟩ (.int .i64 0)).setCell ⟨w.heap.size, 1, none⟩ (.int .i64 0)).setCell ⟨w.heap.size, 2, none⟩ (.int .i64 0)).setCell ⟨w.heap.size, 3, none⟩ (.int .i64 0)).setCell ⟨w.heap.size + 1, 0, none⟩ (.bool false) = W5 at *
      refine ⟨by simp, .inl ⟨_, _, rfl, run_takeDeferred KZ, ?_⟩⟩
      have RD := frow_other RZ (grownBy_putObj' _ D (.deferred none)) (fun r e => by cases e; exact ⟨_, KZ, rfl⟩)
      have k0 := RD.cell 0 (by omega)
      have k1 := RD.cell 1 (by omega)
      have k2 := RD.cell 2 (by omega)
      have k3 := RD.cell 3 (by omega)
      have k4 := (boxed_other XZ (grownBy_putObj' _ D (.deferred none)) (fun r e => by cases e; exact ⟨_, KZ, rfl⟩)).cell
      refine ⟨.tuple #[.agg #[.int .i64 0, .int .i64 0, .int .i64 0, .int .i64 0], .bool false], ?_, by rw [HV.out.1, HV.out.2 0, HV.out.2 1, HV.out.2 2, HV.out.2 3], BZ.trans (belowK_b (w := w) (Nat.le_refl _) _ D _ _ (by omega) KZ rfl rfl)⟩
      simp [results, Try.results27, go_sem, k0, k1, k2, k3, k4]
    case stop =>
      rintro D c ys W hD hS ⟨⟨rfl, HF, x1, x2⟩, hB⟩ hK
      rw [HFI.out] at HF x1
      gi_wp2
      refine ⟨by simp, .inl ⟨_, _, rfl, run_takeDeferred hK, ?_⟩⟩
      have RD := frow_other x1 (grownBy_putObj' _ D (.deferred none)) (fun r e => by cases e; exact ⟨_, hK, rfl⟩)
      have k0 := RD.cell 0 (by omega)
      have k1 := RD.cell 1 (by omega)
      have k2 := RD.cell 2 (by omega)
      have k3 := RD.cell 3 (by omega)
      have k4 := (boxed_other x2 (grownBy_putObj' _ D (.deferred none)) (fun r e => by cases e; exact ⟨_, hK, rfl⟩)).cell
      refine ⟨.tuple #[.agg #[.int .i64 (ftV (histG l (T : Int)) 0), .int .i64 (ftV (histG l (T : Int)) 1), .int .i64 (ftV (histG l (T : Int)) 2), .int .i64 (ftV (histG l (T : Int)) 3)], .bool true], ?_, by rw [HF], hB.trans (belowK_b (w := w) (Nat.le_refl _) _ D _ _ (by omega) hK rfl rfl)⟩
      simp [results, Try.results27, go_sem, k0, k1, k2, k3, k4]
end Go.Proofs.Ytgppcocfnbalfaa
