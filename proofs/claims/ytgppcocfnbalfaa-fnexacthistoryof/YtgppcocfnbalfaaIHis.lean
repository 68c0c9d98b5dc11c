/- HistoryOf of the program. -/
import Derived.Test.YtgppcocfnbalfaaSHis
import Derived.Test.YtgppcocfnbalfaaRgC
import Derived.Maps.AppendAt
namespace Go.Proofs.Ytgppcocfnbalfaa
open Go.RowKit Go.Shelf
set_option linter.unusedVariables false
set_option linter.unusedSimpArgs false
attribute [local go_sem] Oper.semAt_some

/-- A slice put behind those that a boxed variable holds: all that the round owes. -/
theorem appH {W w1 : World} {B base b c : Nat} {v v' u : Value} {vs : List Value} {H : List (List Cl)} {m : List Cl} {tmp : Obj} (hx : Boxed W B 33 v) (hO : OwnH W base v vs H) (hBb : B < base) (hbb : b < base) (hcb : c < base) (hbB : b ≠ B) (hcB : c ≠ B) (hbz : b < W.heap.size) (hcz : c < W.heap.size)
    (hu : OwnS W base u m) (hap : ∀ i, i < H.length → ∀ k, (va vs i).ownBlock = some k → u.ownBlock ≠ some k) (hr : w1.ownsRow base 23 1 v' (H.length + 1) (vs ++ [u])) (hg : (W.alloc tmp).grownBy w1 v.ownBlock) :
    Boxed w1 B 33 v ∧ Boxed (w1.setCell ⟨B, 0, none⟩ v') B 33 v' ∧ OwnH (w1.setCell ⟨B, 0, none⟩ v') base v' (vs ++ [u]) (H ++ [m]) ∧ KeepsOthers W (w1.setCell ⟨B, 0, none⟩ v') ∧ hKp b c W (w1.setCell ⟨B, 0, none⟩ v') ∧
    (∀ n w, n ≤ B → n ≤ W.heap.size → Below n w W → Below n w (w1.setCell ⟨B, 0, none⟩ v')) := by
  have hal : Below W.heap.size W (W.alloc tmp) := (Below.refl _ W).alloc (Nat.le_refl _) _
  have hlt := hO.lt
  have hrow : (W.alloc tmp).ownsRow base 23 1 v H.length vs := hO.row.alloc _
  have z1 : Boxed w1 B 33 v := (hx.alloc tmp).kept hg (fun e => by have := hlt B e.symm; omega)
  have hs := grownBy_setCell' w1 B v'
  have hO2 : OwnH w1 base v' (vs ++ [u]) (H ++ [m]) := by
    have e : ∀ i, i < H.length → OwnS w1 base (va vs i) (ht H i) := fun i hi => own_rowkept hrow hg ((hO.each i hi).below hal)
    have e2 := own_rowkept hrow hg (hu.below hal)
    refine ⟨by simp [hO.len], by rw [List.length_append]; exact hr, fun i hi => ?_, fun i j hij hj => ?_⟩
    · rw [List.length_append] at hi
      simp only [List.length_cons, List.length_nil] at hi
      rw [ht_snoc i hi, va_snoc i (by rw [hO.len]; exact hi), hO.len]
      split
      · exact e2
      · exact e i (by omega)
    · rw [List.length_append] at hj
      simp only [List.length_cons, List.length_nil] at hj
      rw [va_snoc i (by rw [hO.len]; omega), va_snoc j (by rw [hO.len]; exact hj), hO.len]
      rw [if_neg (by omega : ¬ i = H.length)]
      split
      · exact hap i (by omega)
      · exact hO.apart i j hij (by omega)
  refine ⟨z1, z1.set _, hO2.kept hs (fun k e => by cases e; exact hBb), ?_, ?_, ?_⟩
  · refine ((KeepsOthers.alloc W tmp).trans (KeepsOthers.of_grownBy hg fun j o ej hj => ?_)).trans (KeepsOthers.setCell _ _ _)
    rcases hrow.2 with ⟨rfl, _⟩ | ⟨g, cap, cur, rfl, _, hgb, _⟩
    · simp [Value.ownBlock] at ej
    · obtain rfl : g = j := by simpa [Value.ownBlock] using ej
      rw [hgb] at hj; cases hj; rfl
  · have hk1 : hKp b c W w1 := by
      refine ⟨Nat.le_trans hal.size hg.size, fun k cs f hk => ?_, ?_, ?_⟩
      · have hk2 : (W.alloc tmp).heap[k]? = some (Obj.cells cs 44 f) := (hal.block k (Array.getElem?_eq_some_iff.1 hk).1).trans hk
        refine (hg.block k (Array.getElem?_eq_some_iff.1 hk2).1 (fun e => ?_)).trans hk2
        rcases hrow.2 with ⟨rfl, _⟩ | ⟨g, cap, cur, rfl, _, hgb, _⟩
        · simp [Value.ownBlock] at e
        · obtain rfl : g = k := by simpa [Value.ownBlock] using e.symm
          rw [hgb] at hk2
          simp only [Option.some.injEq, Obj.cells.injEq] at hk2
          exact absurd hk2.2.1 (by decide)
      · exact (hg.block b (Nat.lt_of_lt_of_le hbz hal.size) (fun e => by have := hlt b e.symm; omega)).trans (hal.block b hbz)
      · exact (hg.block c (Nat.lt_of_lt_of_le hcz hal.size) (fun e => by have := hlt c e.symm; omega)).trans (hal.block c hcz)
    exact hk1.trans (hKp.set z1 (by decide) hbB hcB)
  · intro n w h1 h2 hB
    exact ((hB.trans (hal.mono h2)).grown hg (Nat.le_trans h2 hal.size) (fun k e => by have := hlt k e; omega)).setCell (p := ⟨B, 0, none⟩) h1 _


set_option maxHeartbeats 4000000 in
set_option maxRecDepth 100000 in
theorem c_iHistoryOf (a : Option Addr) (l : List Cl) (ca : Nat) (t : Int) (w : World) (ha : Seg w a l) (hca : a = none → ca = 0) (hl : l.length ≤ 1048576) :
    Calls Try.prog 19 #[.slice a l.length ca, .int .i64 t] w fun e w' => ∃ v vs, e = .returned (.tuple #[v, .bool (hisOk l t)]) ∧ OwnH w' w.heap.size v vs (hisL l t) ∧ Below w.heap.size w w' := by
  have HS := hid (fun W => c_stepsOf a l.length ca t W)
  by_cases t0 : t < 0
  · have HV : Hid (hisL l t = [] ∧ hisOk l t = false) := by
      have : inT t = false := by simp [inT]; omega
      simp [Hid, hisL, hisOk, this]
    go_enter Try.func19, Try.ntmps19
    go_wp2
    go_ret2
    first | exact ⟨_, [], by rw [HV.out.2]; rfl, by rw [HV.out.1]; exact OwnH.nil _ _, Below.refl _ _⟩ | exact ⟨_, by rw [HV.out.2]; rfl, ⟨[], by rw [HV.out.1]; exact OwnH.nil _ _⟩, Below.refl _ _⟩
  · by_cases t1 : 20 < t
    · have HV : Hid (hisL l t = [] ∧ hisOk l t = false) := by
        have : inT t = false := by simp [inT]; omega
        simp [Hid, hisL, hisOk, this]
      go_enter Try.func19, Try.ntmps19
      go_wp2
      go_ret2
      first | exact ⟨_, [], by rw [HV.out.2]; rfl, by rw [HV.out.1]; exact OwnH.nil _ _, Below.refl _ _⟩ | exact ⟨_, by rw [HV.out.2]; rfl, ⟨[], by rw [HV.out.1]; exact OwnH.nil _ _⟩, Below.refl _ _⟩
    · obtain ⟨T, rfl⟩ : ∃ T : Nat, t = (T : Int) := ⟨t.toNat, by omega⟩
      have hT : T ≤ 20 := by omega
      have hit : inT (T : Int) = true := by simp [inT]; omega
      obtain ⟨i0, hi0, hz0, hz1, hz2⟩ := info_parts info_Cells
      refine (callsIn_wide (n := 5)).1 ?_
      refine callsIn_of_wp_marks Try.func19 rfl trivial ?_ rfl
      simp only [Try.ntmps19, List.size_toArray, List.length_cons, List.length_nil, Nat.reduceAdd, Nat.reduceSub, Array.replicate_succ, Array.replicate_zero, List.push_toArray, List.append_toArray, List.nil_append, List.cons_append]
      gi_wp2_with (refine ⟨trivial, ?_⟩; gi_at_call 51; refine (callsIn_wide.2 (HS.out _)).mono ?_; rintro e w1 ⟨rfl, rfl⟩)
      have X1 := Boxed.new w 33 (.slice none 0 0)
      have X2 := Boxed.new (w.alloc (.cells #[.slice none 0 0] 33)) 23 (.slice a l.length ca)
      have X3 := Boxed.new ((w.alloc (.cells #[.slice none 0 0] 33)).alloc (.cells #[.slice a l.length ca] 23)) 3 (.int .i64 (T : Int))
      replace X1 := (X1.alloc (.cells #[.slice a l.length ca] 23)).alloc (.cells #[.int .i64 (T : Int)] 3)
      replace X2 := X2.alloc (.cells #[.int .i64 (T : Int)] 3)
      have HB := (((Below.refl w.heap.size w).alloc (Nat.le_refl _) (.cells #[.slice none 0 0] 33)).alloc (by simp) (.cells #[.slice a l.length ca] 23)).alloc (by simp; omega) (.cells #[.int .i64 (T : Int)] 3)
      simp only [World.size_alloc] at X2 X3
      have hsz : (((w.alloc (.cells #[.slice none 0 0] 33)).alloc (.cells #[.slice a l.length ca] 23)).alloc (.cells #[.int .i64 (T : Int)] 3)).heap.size = w.heap.size + 3 := by simp
      generalize ((w.alloc (.cells #[.slice none 0 0] 33)).alloc (.cells #[.slice a l.length ca] 23)).alloc (.cells #[.int .i64 (T : Int)] 3) = W0 at *
      have HA0 := hid (ha.below HB)
      have HFL := hid (show (hFull T l).length ≤ 21 by
        unfold hFull; split
        · have := hist_le T l; omega
        · simp)
      have HVO : Hid (hisOk l (T : Int) = decide ((hFull T l).length = T + 1) ∧ hisL l (T : Int) = if decide ((hFull T l).length = T + 1) then hFull T l else []) := by
        cases hg : good l
        · have e : decide ((0 : Nat) = T + 1) = false := by simp
          simp [Hid, hisL, hisOk, hFull, hg]
        · simp [Hid, hisL, hisOk, hFull, hg, hit]
      refine wpIn_rangeR rfl (by omega) (gf := 80) (lb := #[.pointer (some ⟨w.heap.size + 1, 0, none⟩), .pointer (some ⟨w.heap.size + 1 + 1, 0, none⟩)]) rfl trivial (enters_of Try.func80 (by kernel_rfl) rfl)
        (seq_steps 4 (w.heap.size + 1) (w.heap.size + 1 + 1) (by omega) a l ca T W0 hT HA0.out hca hl X2.cell (by omega) X3.cell (by omega))
        (fun h k => h.trans k) (hKp.other (by omega) (by omega)) (fun _ => rfl) (hIs.own _ _ _)
        (fun d W => (∃ v, Boxed W w.heap.size 33 v ∧ OwnH W W0.heap.size v (d.map (fun x => x.2.1)) (hLs d) ∧ W0.heap.size ≤ W.heap.size) ∧ Below w.heap.size w W)
        (fun c d W => False)
        (OwnFrom.and (fun s A B row hs hg hr => by obtain ⟨v, h1, h2, h3⟩ := hs; exact ⟨v, boxed_other h1 hg (fun r e => (hr r e).2), h2.other hg (fun r e => (hr r e).2), Nat.le_trans h3 hg.size⟩) (ownFrom_below (Nat.le_refl _) (by omega)))
        (fun c s A B row hs hg hr => hs.elim)
        ⟨⟨_, X1, by simpa [hLs] using OwnH.nil W0 W0.heap.size, Nat.le_refl _⟩, HB⟩
        (fun x => { tmps := #[.slice a l.length ca, .int .i64 (T : Int), undef, undef, .slice none 0 0, .bool false, .pointer (some ⟨w.heap.size, 0, none⟩), undef, x.2.1, .int .i64 (T : Int), .bool false, .bool false, .int .i64 (T : Int), .bool false, .bool false, .slice a l.length ca, .int .i64 (T : Int), .func (.func 80) #[] #[.pointer (some ⟨w.heap.size + 1, 0, none⟩), .pointer (some ⟨w.heap.size + 1 + 1, 0, none⟩)], .int .i64 (x.1 : Int), x.2.1, undef, undef, undef, undef, undef, undef, undef, undef, undef], defers := [] }) ?assign ?body ?done ?stop
      case assign =>
        intro L x W K hK
        simp only [hEnc]
        gi_wp2
        exact hK
      case body =>
        rintro L d ⟨k, u, m⟩ W ⟨⟨v, x1, hO, hz⟩, hB⟩ ⟨hk, hpre, hu, hgm, hap⟩
        simp only at hk hpre hu hgm hap
        have hlen := pre_le hpre
        rw [hLs_length, List.length_append] at hlen
        simp only [List.length_cons, List.length_nil] at hlen
        have hd21 := HFL.out
        obtain ⟨am, cm, rfl, sm⟩ := hu.form
        have hc1 := x1.cell
        have HAP := hid (show ∀ i, i < (hLs d).length → ∀ k, (va (d.map (fun x => x.2.1)) i).ownBlock = some k → (Value.slice am m.length cm).ownBlock ≠ some k from fun i hi k hk => by
          rw [hLs_length] at hi
          have e : va (d.map (fun x => x.2.1)) i = (d[i]).2.1 := by simp [va, hi]
          rw [e] at hk
          exact hap _ (List.getElem_mem hi) k hk)
        have HO := hid hO
        have HU := hid hu
        clear hO hap hpre hu sm
        have hll := hLs_length d
        gi_wp2_with (gi_at_builtin; refine wpListIn_append_own _ rfl _ _ 33 rfl W0.heap.size 23 i0 _ 1 24 Try.underlying33 hi0 hz0 hz1 hz2 rfl (by decide) _ _ _ rfl (HO.out.row.alloc _) ⟨W.heap.size, 0, none⟩ 1 1 [.slice am m.length cm] rfl rfl (cell_one_new _ _ _) (by simp [Value.oneCell']) (by rw [hll]; unfold maxLen; omega) (by rw [hll]; omega) (by simp; omega) ?_; intro v' w1 hown' hgrow _; obtain ⟨g', cap', rfl⟩ := ownsRow_succ hown'; obtain ⟨q1, q2, q3, q4, q5, q6⟩ := appH (b := w.heap.size + 1) (c := w.heap.size + 1 + 1) x1 HO.out (by omega) (by omega) (by omega) (by omega) (by omega) (by omega) (by omega) HU.out HAP.out hown' hgrow; have hc2 := q1.cell; have hf2 := q1.frozen)
        have q3' := q3
        rw [hll] at q2 q3' q4 q5 q6
        refine ⟨q4, q5, ⟨⟨_, q2, ?_, by have h9 := q4.size; omega⟩, q6 _ _ (Nat.le_refl _) hB.size hB⟩⟩
        rw [List.map_append, hLs_snoc]
        rw [hsz] at q3'
        exact q3'
      case done =>
        rintro D ys W hD hS ⟨⟨v, x1, hO, hz⟩, hB⟩ hK
        have HO := hid (hO.mono (show w.heap.size ≤ W0.heap.size by omega))
        obtain ⟨a5, c5, rfl, s5, _⟩ := hO.form
        rw [hS] at HO x1
        have hc1 := x1.cell
        have hld := hFull T l
        clear hO s5 hld
        by_cases hf : (hFull T l).length = T + 1
        · have HV : Hid (hisOk l (T : Int) = true ∧ hisL l (T : Int) = hFull T l) := by have := HVO.out; simp only [hf, decide_true, if_true] at this; exact this
          have hn : ¬ ((hFull T l).length : Int) ≤ (T : Int) := by omega
          have HF := hid hf
          clear hf
          have hS' := hid hS
          clear hS
          generalize hFull T l = H at *
          gi_wp2
          refine ⟨by simp, .inl ⟨_, _, rfl, run_takeDeferred hK, ?_⟩⟩
          refine ⟨.tuple #[.slice a5 H.length c5, .bool true], ?_, ?_⟩
          · simp [results, Try.results19, go_sem]
          have HZ := hid (HO.out.other (grownBy_putObj' _ D (.deferred none)) (fun r e => by cases e; exact ⟨_, hK, rfl⟩))
          exact ⟨_, by rw [HV.out.1], ⟨_, by rw [HV.out.2]; exact HZ.out⟩, hB.trans (belowK_b (w := w) (Nat.le_refl _) _ D _ _ (by omega) hK rfl rfl)⟩
        · have HV : Hid (hisOk l (T : Int) = false ∧ hisL l (T : Int) = []) := by
            have := HVO.out
            rw [decide_eq_false hf] at this
            simpa [Hid] using this
          have hn : ((hFull T l).length : Int) ≤ (T : Int) := by have := HVO.out; have h2 : (hFull T l).length ≤ T + 1 := by
                                                                                      unfold hFull; split
                                                                                      · exact hist_le T l
                                                                                      · simp
                                                                 omega
          clear hf
          have hS' := hid hS
          clear hS
          generalize hFull T l = H at *
          gi_wp2
          refine ⟨by simp, .inl ⟨_, _, rfl, run_takeDeferred hK, ?_⟩⟩
          refine ⟨.tuple #[.slice none 0 0, .bool false], ?_, ?_⟩
          · simp [results, Try.results19, go_sem]
          have HBZ := hid (hB.trans (belowK_b (w := w) (Nat.le_refl _) W D _ (.deferred none) (by omega) hK rfl rfl))
          first | exact ⟨_, by rw [HV.out.1], ⟨[], by rw [HV.out.2]; exact OwnH.nil _ _⟩, HBZ.out⟩ | exact ⟨_, [], by rw [HV.out.1], by rw [HV.out.2]; exact OwnH.nil _ _, HBZ.out⟩
      case stop =>
        rintro D c ys W hD hS h hK
        exact h.elim

end Go.Proofs.Ytgppcocfnbalfaa
