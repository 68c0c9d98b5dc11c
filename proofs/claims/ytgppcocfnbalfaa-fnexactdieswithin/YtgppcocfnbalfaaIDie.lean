/- DiesWithin of the program. -/
import Derived.Test.YtgppcocfnbalfaaRgC
namespace Go.Proofs.Ytgppcocfnbalfaa
open Go.RowKit Go.Shelf
set_option linter.unusedVariables false
set_option linter.unusedSimpArgs false
attribute [local go_sem] Oper.semAt_some

set_option maxHeartbeats 4000000 in
set_option maxRecDepth 100000 in
theorem c_iDiesWithin (a : Option Addr) (l : List Cl) (ca : Nat) (t : Int) (w : World) (ha : Seg w a l) (hca : a = none → ca = 0) (hl : l.length ≤ 1048576) :
    Calls Try.prog 24 #[.slice a l.length ca, .int .i64 t] w fun e w' => e = .returned (.tuple #[.int .i64 (oN (dieO l t)), .bool (dieO l t).isSome]) ∧ Below w.heap.size w w' := by
  have HM := hid (fun W => c_isMost t W)
  have HS := hid (fun W => c_stepsOf a l.length ca t W)
  cases hm : inMo t
  · rw [hm] at HM
    have HV : Hid (dieO l t = none) := by
      show _ = _
      exact fstAt_none (fun k hk => by simp [histG, hm] at hk)
    have X2 := Boxed.new w 3 (.int .i64 0)
    have X3 := Boxed.new (w.alloc (.cells #[.int .i64 0] 3)) 4 (.bool false)
    replace X2 := X2.alloc (.cells #[.bool false] 4)
    have HB := ((Below.refl w.heap.size w).alloc (Nat.le_refl _) (.cells #[.int .i64 0] 3)).alloc (by simp <;> omega) (.cells #[.bool false] 4)
    simp only [World.size_alloc] at X3
    go_enter Try.func24, Try.ntmps24
    go_wp2_with fail
    refine (HM.out _).mono ?_
    rintro e w1 ⟨rfl, rfl⟩
    generalize (w.alloc (.cells #[.int .i64 0] 3)).alloc (.cells #[.bool false] 4) = W0 at *
    have hc2 := X2.cell
    have hf2 := X2.frozen
    have hc3 := X3.cell
    have hf3 := X3.frozen
    go_wp2_with fail
    have z2 : Boxed ((W0.setCell ⟨w.heap.size, 0, none⟩ (.int .i64 0)).setCell ⟨w.heap.size + 1, 0, none⟩ (.bool false)) (w.heap.size) 3 (.int .i64 0) := boxed_ne (X2.set _) (by omega)
    have z3 : Boxed ((W0.setCell ⟨w.heap.size, 0, none⟩ (.int .i64 0)).setCell ⟨w.heap.size + 1, 0, none⟩ (.bool false)) (w.heap.size + 1) 4 (.bool false) := (boxed_ne (u := .int .i64 0) X3 (show w.heap.size + 1 ≠ w.heap.size by omega)).set _
    have k2 := z2.cell
    have k3 := z3.cell
    refine bodyPost_ret (v := .tuple #[.int .i64 0, .bool false]) ?_ rfl ⟨by rw [HV.out]; rfl, (HB.setCell (p := ⟨w.heap.size, 0, none⟩) (by simp <;> omega) (.int .i64 0)).setCell (p := ⟨w.heap.size + 1, 0, none⟩) (by simp <;> omega) (.bool false)⟩
    simp [results, Try.results24, go_sem, k2, k3]
  · rw [hm] at HM
    have htb := inMo_bd hm
    obtain ⟨T, rfl⟩ : ∃ T : Nat, t = (T : Int) := ⟨t.toNat, by omega⟩
    have hT : T ≤ 20 := by omega
    refine (callsIn_wide (n := 5)).1 ?_
    refine callsIn_of_wp_marks Try.func24 rfl trivial ?_ rfl
    simp only [Try.ntmps24, List.size_toArray, List.length_cons, List.length_nil, Nat.reduceAdd, Nat.reduceSub, Array.replicate_succ, Array.replicate_zero, List.push_toArray, List.append_toArray, List.nil_append, List.cons_append]
    gi_wp2_with (first | (refine ⟨trivial, ?_⟩; gi_at_call 50; refine (callsIn_wide.2 (HM.out _)).mono ?_; rintro e w1 ⟨rfl, rfl⟩) | (refine ⟨trivial, ?_⟩; gi_at_call 51; refine (callsIn_wide.2 (HS.out _)).mono ?_; rintro e w1 ⟨rfl, rfl⟩))
    have X2 := Boxed.new w 3 (.int .i64 0)
    have X3 := Boxed.new (w.alloc (.cells #[.int .i64 0] 3)) 4 (.bool false)
    have X4 := Boxed.new ((w.alloc (.cells #[.int .i64 0] 3)).alloc (.cells #[.bool false] 4)) 23 (.slice a l.length ca)
    have X5 := Boxed.new (((w.alloc (.cells #[.int .i64 0] 3)).alloc (.cells #[.bool false] 4)).alloc (.cells #[.slice a l.length ca] 23)) 3 (.int .i64 (T : Int))
    replace X2 := ((X2.alloc (.cells #[.bool false] 4)).alloc (.cells #[.slice a l.length ca] 23)).alloc (.cells #[.int .i64 (T : Int)] 3)
    replace X3 := (X3.alloc (.cells #[.slice a l.length ca] 23)).alloc (.cells #[.int .i64 (T : Int)] 3)
    replace X4 := X4.alloc (.cells #[.int .i64 (T : Int)] 3)
    have HB := (((((Below.refl w.heap.size w).alloc (Nat.le_refl _) (.cells #[.int .i64 0] 3)).alloc (by simp <;> omega) (.cells #[.bool false] 4)).alloc (by simp <;> omega) (.cells #[.slice a l.length ca] 23)).alloc (by simp <;> omega) (.cells #[.int .i64 (T : Int)] 3))
    simp only [World.size_alloc] at X3 X4 X5
    have hsz : ((((w.alloc (.cells #[.int .i64 0] 3)).alloc (.cells #[.bool false] 4)).alloc (.cells #[.slice a l.length ca] 23)).alloc (.cells #[.int .i64 (T : Int)] 3)).heap.size = w.heap.size + 4 := by simp
    generalize (((w.alloc (.cells #[.int .i64 0] 3)).alloc (.cells #[.bool false] 4)).alloc (.cells #[.slice a l.length ca] 23)).alloc (.cells #[.int .i64 (T : Int)] 3) = W0 at *
    have HA0 := hid (ha.below HB)
    have HP := hid (show ∀ k, k < (histG l (T : Int)).length → (ht (histG l (T : Int)) k).length = 0 → (∀ j, j < k → ¬ ((ht (histG l (T : Int)) j).length = 0)) → dieO l (T : Int) = some k from fun k hk he hj => by
      unfold dieO
      exact fstAt_some hk (by simp [he]) (fun j hjk => by simpa using hj j hjk))
    have HN := hid (show (∀ j, j < (histG l (T : Int)).length → ¬ ((ht (histG l (T : Int)) j).length = 0)) → dieO l (T : Int) = none from fun hj => by
      unfold dieO
      exact fstAt_none (fun j hjk => by simpa using hj j hjk))
    rw [← hFull_is hm] at HP HN
    have hgl := fun (A : List (List Cl)) x => hFull_good (T := T) (l := l) (x := x) (A := A)
    refine wpIn_rangeR rfl (by omega) (gf := 80) (lb := #[.pointer (some ⟨w.heap.size + 1 + 1, 0, none⟩), .pointer (some ⟨w.heap.size + 1 + 1 + 1, 0, none⟩)]) rfl trivial (enters_of Try.func80 (by kernel_rfl) rfl)
      (seq_steps 4 (w.heap.size + 1 + 1) (w.heap.size + 1 + 1 + 1) (by omega) a l ca T W0 hT HA0.out hca hl X4.cell (by omega) X5.cell (by omega))
      (fun h k => h.trans k) (hKp.other (by omega) (by omega)) (fun _ => rfl) (hIs.own _ _ _)
      (fun d W => (Boxed W (w.heap.size) 3 (.int .i64 0) ∧ Boxed W (w.heap.size + 1) 4 (.bool false) ∧ (∀ j, j < d.length → ¬ ((ht (hLs d) j).length = 0)) ∧ w.heap.size + 4 ≤ W.heap.size) ∧ Below w.heap.size w W)
      (fun c d W => (c = .ret ∧ ∃ k : Nat, dieO l (T : Int) = some k ∧ Boxed W (w.heap.size) 3 (.int .i64 (k : Int)) ∧ Boxed W (w.heap.size + 1) 4 (.bool true)) ∧ Below w.heap.size w W)
      (OwnFrom.and (fun s A B row hs hg hr => ⟨boxed_other hs.1 hg (fun r e => (hr r e).2), boxed_other hs.2.1 hg (fun r e => (hr r e).2), hs.2.2.1, Nat.le_trans hs.2.2.2 hg.size⟩) (ownFrom_below (Nat.le_refl _) (by omega)))
      (fun c => OwnFrom.and (fun s A B row hs hg hr => by obtain ⟨e, k, h1, h2, h3⟩ := hs; exact ⟨e, k, h1, boxed_other h2 hg (fun r e => (hr r e).2), boxed_other h3 hg (fun r e => (hr r e).2)⟩) (ownFrom_below (Nat.le_refl _) (by omega)))
      ⟨⟨X2, X3, (fun j hj => absurd hj (Nat.not_lt_zero _)), by omega⟩, HB⟩
      (fun x => { tmps := #[.slice a l.length ca, .int .i64 (T : Int), undef, undef, .pointer (some ⟨w.heap.size, 0, none⟩), .pointer (some ⟨w.heap.size + 1, 0, none⟩), .int .i64 (x.1 : Int), x.2.1, .int .i64 (T : Int), .bool true, .bool false, .slice a l.length ca, .int .i64 (T : Int), .func (.func 80) #[] #[.pointer (some ⟨w.heap.size + 1 + 1, 0, none⟩), .pointer (some ⟨w.heap.size + 1 + 1 + 1, 0, none⟩)], .int .i64 (x.1 : Int), x.2.1, undef, undef, undef, undef], defers := [] }) ?assign ?body ?done ?stop
    case assign =>
      intro L x W K hK
      simp only [hEnc]
      gi_wp2
      exact hK
    case body =>
      rintro L d ⟨k, v, m⟩ W ⟨⟨x2, x3, hj, hz⟩, hB⟩ ⟨hk, hpre, hO, hgm, hap⟩
      simp only at hk hpre hO hgm
      subst hk
      obtain ⟨am, cm, rfl, sm⟩ := hO.form
      rw [hLs_snoc] at hpre
      have hlm := good_le hgm
      have hFd : ∀ j, j < d.length → ht (hLs (d ++ [(d.length, Value.slice am m.length cm, m)])) j = ht (hLs d) j := fun j hj => by
        rw [hLs_snoc]; exact pre_ht (List.prefix_append _ _) (by rw [hLs_length]; exact hj)
      have hFm : ht (hLs (d ++ [(d.length, Value.slice am m.length cm, m)])) d.length = m := by
        rw [hLs_snoc, ← hLs_length, ht_snoc _ (by omega), if_pos rfl]
      have HFd := hid hFd
      have HFm := hid hFm
      have HPR := hid hpre
      clear hFd hFm hpre sm hO hap
      by_cases he : m.length = 0
      · have hlen := pre_le HPR.out
        rw [List.length_append, hLs_length] at hlen
        have HF := hid (HP.out d.length (by simp at hlen; omega) (by rw [pre_ht HPR.out (by simp [hLs_length])]; rw [← hLs_length, ht_snoc _ (by omega), if_pos rfl]; exact he) (fun j hjd => by
          rw [pre_ht HPR.out (by simp [hLs_length]; omega), pre_ht (List.prefix_append _ _) (by rw [hLs_length]; omega)] ; exact hj j hjd))
        have HJ := hid hj
        have he' : ((m.length : Int) == 0) = true := by simp [he]
        have hc2 := x2.cell
        have hf2 := x2.frozen
        have hc3 := x3.cell
        have hf3 := x3.frozen
        clear he hj hlen
        gi_wp2
        have q3 : Boxed (W.setCell ⟨w.heap.size, 0, none⟩ (.int .i64 (d.length : Int))) (w.heap.size + 1) 4 (.bool false) := boxed_ne x3 (by omega)
        refine ⟨(KeepsOthers.setCell _ _ _).trans (KeepsOthers.setCell _ _ _), ⟨rfl, d.length, HF.out, boxed_ne (x2.set _) (by omega), q3.set _⟩, ?_⟩
        exact (hB.setCell (p := ⟨w.heap.size, 0, none⟩) (by simp) _).setCell (p := ⟨w.heap.size + 1, 0, none⟩) (by simp) _
      · have he' : ((m.length : Int) == 0) = false := by simpa using he
        gi_wp2
        refine ⟨KeepsOthers.refl _, hKp.below (Below.refl _ _) (by omega) (by omega), ⟨x2, x3, fun j hj2 h => ?_, hz⟩, hB⟩
        by_cases ej : j = d.length
        · subst ej
          rw [HFm.out] at h
          exact he (by simpa using h)
        · rw [HFd.out j (by simp at hj2; omega)] at h
          exact hj j (by simp at hj2; omega) (by simpa using h)
    case done =>
      rintro D ys W hD hS ⟨⟨x2, x3, hj, hz⟩, hB⟩ hK
      have HF := hid (HN.out (by rw [← hS, hLs_length]; exact hj))
      have hc2 := x2.cell
      have hf2 := x2.frozen
      have hc3 := x3.cell
      have hf3 := x3.frozen
      gi_wp2
      have z2 : Boxed ((W.setCell ⟨w.heap.size, 0, none⟩ (.int .i64 0)).setCell ⟨w.heap.size + 1, 0, none⟩ (.bool false)) (w.heap.size) 3 (.int .i64 0) := boxed_ne (x2.set _) (by omega)
      have z3 : Boxed ((W.setCell ⟨w.heap.size, 0, none⟩ (.int .i64 0)).setCell ⟨w.heap.size + 1, 0, none⟩ (.bool false)) (w.heap.size + 1) 4 (.bool false) := (boxed_ne (u := .int .i64 0) x3 (show w.heap.size + 1 ≠ w.heap.size by omega)).set _
      have hK' := ((KeepsOthers.setCell W ⟨w.heap.size, 0, none⟩ (.int .i64 0)).trans (KeepsOthers.setCell _ ⟨w.heap.size + 1, 0, none⟩ (.bool false))).same D _ hK rfl
      have hB' := (hB.setCell (p := ⟨w.heap.size, 0, none⟩) (by simp <;> omega) (.int .i64 0)).setCell (p := ⟨w.heap.size + 1, 0, none⟩) (by simp <;> omega) (.bool false)
      generalize (W.setCell ⟨w.heap.size, 0, none⟩ (.int .i64 0)).setCell ⟨w.heap.size + 1, 0, none⟩ (.bool false) = W5 at *
      refine ⟨by simp, .inl ⟨_, _, rfl, run_takeDeferred hK', ?_⟩⟩
      have k2 := (boxed_other z2 (grownBy_putObj' _ D (.deferred none)) (fun r e => by cases e; exact ⟨_, hK', rfl⟩)).cell
      have k3 := (boxed_other z3 (grownBy_putObj' _ D (.deferred none)) (fun r e => by cases e; exact ⟨_, hK', rfl⟩)).cell
      refine ⟨.tuple #[.int .i64 0, .bool false], ?_, by rw [HF.out]; rfl, hB'.trans (belowK_b (w := w) (Nat.le_refl _) _ D _ _ (by omega) hK' rfl rfl)⟩
      simp [results, Try.results24, go_sem, k2, k3]
    case stop =>
      rintro D c ys W hD hS ⟨⟨rfl, k, HF, x2, x3⟩, hB⟩ hK
      gi_wp2
      refine ⟨by simp, .inl ⟨_, _, rfl, run_takeDeferred hK, ?_⟩⟩
      have k2 := (boxed_other x2 (grownBy_putObj' _ D (.deferred none)) (fun r e => by cases e; exact ⟨_, hK, rfl⟩)).cell
      have k3 := (boxed_other x3 (grownBy_putObj' _ D (.deferred none)) (fun r e => by cases e; exact ⟨_, hK, rfl⟩)).cell
      refine ⟨.tuple #[.int .i64 (k : Int), .bool true], ?_, by rw [HF]; rfl, hB.trans (belowK_b (w := w) (Nat.le_refl _) _ D _ _ (by omega) hK rfl rfl)⟩
      simp [results, Try.results24, go_sem, k2, k3]
end Go.Proofs.Ytgppcocfnbalfaa
