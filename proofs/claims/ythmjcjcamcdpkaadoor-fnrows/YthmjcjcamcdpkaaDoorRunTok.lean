/- What both RunTokens answer. -/
import Derived.Test.YthmjcjcamcdpkaaDoorOfRuns
import Derived.Test.YthmjcjcamcdpkaaDoorLibC
namespace Go.Proofs.YthmjcjcamcdpkaaDoor
open Go.RowKit
set_option linter.unusedVariables false

/-- What RunTokens answers. -/
def tokT (s : Tx) : List Tx := if ofOk s then (rdAll s).2.1 else []

set_option maxHeartbeats 1000000 in
set_option maxRecDepth 100000 in
theorem c_sRunTokens (s : Tx) (w : World) (hm : s.size ≤ maxLen) :
    Calls Tryd.prog 12 #[.string s] w fun e w' => ∃ v, e = .returned (.tuple #[v, .bool (ofOk s)]) ∧ OwnT w' w.heap.size v (tokT s) ∧ Below w.heap.size w w' := by
  have HC := hid (c_sOfRuns s w hm)
  cases ho : ofOk s
  · rw [ho] at HC
    have HV : Hid (tokT s = []) := by simp [Hid, tokT, ho]
    generalize ofL s = oL at *
    generalize ofCode s = code at *
    go_enter Tryd.func12, Tryd.ntmps12
    go_wp2_with fail
    refine HC.out.mono ?_
    rintro e w1 ⟨v1, rfl, hO1, hB1⟩
    clear hO1
    go_wp2
    go_ret2
    exact ⟨_, rfl, by rw [HV.out]; exact OwnT.nil _ _, hB1⟩
  · rw [ho] at HC
    have HV : Hid (tokT s = (rdAll s).2.1) := by simp [Hid, tokT, ho]
    have hs : s.size ≤ 400 := by simp only [ofOk, Bool.and_eq_true, decide_eq_true_eq] at ho; exact ho.1.1
    generalize ofL s = oL at *
    generalize ofCode s = code at *
    go_enter Tryd.func12, Tryd.ntmps12
    go_wp2_with fail
    refine HC.out.mono ?_
    rintro e w1 ⟨v1, rfl, hO1, hB1⟩
    have HR := hid (c_l2Read s w1 hs)
    have HB1 := hid hB1
    clear hO1 hB1
    go_wp2_with fail
    refine HR.out.mono ?_
    rintro e w2 ⟨v2, v3, rfl, hO2, hT2, hB2⟩
    have HT2 := hid hT2
    clear hO2 hT2
    go_wp2
    go_ret2
    exact ⟨_, rfl, by rw [HV.out]; exact HT2.out.mono HB1.out.size, HB1.out.trans (hB2.mono HB1.out.size)⟩

set_option maxHeartbeats 1000000 in
set_option maxRecDepth 100000 in
theorem c_Clone (s : Tx) (w : World) (hs : s.size ≤ 400) : Calls Tryd.prog 28 #[.string s] w fun e w' => e = .returned (.string s) ∧ Below w.heap.size w w' := by
  have HC := hid (Tryd.stringslite_Clone s w (by omega))
  go_enter Tryd.func28, Tryd.ntmps28
  go_wp2_with fail
  refine HC.out.mono ?_
  rintro e w1 ⟨rfl, hb⟩
  go_wp2
  go_ret
  exact ⟨rfl, hb⟩

/-- What stands while RunTokens runs. -/
structure RK (s : Tx) (w W : World) (v : Value) (T : List Tx) (pos : Nat) : Prop where
  own : OwnT W (w.heap.size + 1) v T
  it : W.heap[w.heap.size]? = some (.stringIter s pos)
  bel : Below w.heap.size w W
section
variable {s : Tx} {w W W' : World} {v v' : Value} {T T' : List Tx} {pos : Nat}
theorem RK.sz (h : RK s w W v T pos) : w.heap.size + 1 ≤ W.heap.size := (Array.getElem?_eq_some_iff.1 h.it).1
theorem RK.next (h : RK s w W v T pos) (p' : Nat) : RK s w (W.iterAt w.heap.size s p') v T p' := by
  refine ⟨ownT_keep h.own (row := some w.heap.size) ⟨rfl, rfl, rfl, by rw [Lib.iterAt_size]; exact Nat.le_refl _, fun k _ hne => Lib.iterAt_other W _ k s p' (fun e => hne (by rw [e]))⟩ ?_, Lib.iterAt_heap W _ s pos p' h.it, Lib.below_iterAt h.bel (Nat.le_refl _) s p'⟩
  intro k hk e
  have := (h.own.lt k hk).1
  simp only [Option.some.injEq] at e
  omega
theorem RK.below (h : RK s w W v T pos) (hb : Below W.heap.size W W') : RK s w W' v T pos :=
  ⟨h.own.below hb, (hb.block _ (Array.getElem?_eq_some_iff.1 h.it).1).trans h.it, h.bel.trans (hb.mono h.bel.size)⟩
theorem RK.app (h : RK s w W v T pos) (ho : OwnT W' (w.heap.size + 1) v' T') (hg : W.grownBy W' v.ownBlock) : RK s w W' v' T' pos :=
  ⟨ho, (hg.block _ (Array.getElem?_eq_some_iff.1 h.it).1 (fun e => by have := (h.own.lt _ e.symm).1; omega)).trans h.it, h.bel.grown hg h.bel.size (fun k hk => by have := (h.own.lt k hk).1; omega)⟩
theorem RK.pos_lt (h : RK s w W v T pos) : W.iterPos w.heap.size = pos := by simp [World.iterPos, h.it]
theorem RK.start (s : Tx) (w : World) : RK s w (w.alloc (.stringIter s 0)) (.slice none 0 0) [] 0 :=
  ⟨OwnT.nil _ _, heap_alloc_new w _, (Below.refl _ w).alloc (Nat.le_refl _) _⟩
end
/-- A reading that ends well goes on, or ends with its last sign. -/
theorem rd_goes {s : Tx} {f a x y pos : Nat} {l : List Cl} {T : List Tx} (ha : a < s.size) (hk : sc s a = pos) (h : (rd s (f + 1) a x y l T).2.2 = 0) :
    pos < s.size ∧ byt s pos < 128 ∧ ((pos + 1 = s.size ∧ (rd s (f + 1) a x y l T).2.1 = T ++ [piece s a (pos + 1)]) ∨ ∃ x' y' l', rd s (f + 1) a x y l T = rd s f (pos + 1) x' y' l' (T ++ [piece s a (pos + 1)])) := by
  cases ho : okN s a pos
  · rw [rd_num ha hk ho] at h; cases h
  · by_cases hp : pos < s.size
    · refine ⟨hp, ?_⟩
      by_cases e1 : byt s pos = 33
      · refine ⟨by omega, .inl ?_⟩
        by_cases g1 : a < pos
        · rw [rd_33a ha hk ho hp e1 g1] at h; cases h
        · by_cases g2 : pos + 1 < s.size
          · rw [rd_33b ha hk ho hp e1 g1 g2] at h; cases h
          · rw [rd_33c ha hk ho hp e1 g1 g2]
            exact ⟨by omega, rfl⟩
      · by_cases e2 : byt s pos = 36
        · exact ⟨by omega, .inr ⟨_, _, _, rd_36 ha hk ho hp e2⟩⟩
        · by_cases e3 : byt s pos = 98
          · exact ⟨by omega, .inr ⟨_, _, _, rd_98 ha hk ho hp e3⟩⟩
          · by_cases e4 : byt s pos = 111
            · cases e5 : room x y l.length (nOf s a pos)
              · rw [rd_111n ha hk ho hp e4 e5] at h; cases h
              · exact ⟨by omega, .inr ⟨_, _, _, rd_111 ha hk ho hp e4 e5⟩⟩
            · rw [rd_else ha hk ho hp e1 e2 e3 e4] at h; cases h
    · rw [rd_end ha hk ho hp] at h; cases h

set_option maxHeartbeats 1000000 in
set_option maxRecDepth 100000 in
theorem c_iRunTokens (s : Tx) (w : World) (ev : Value) (hm : s.size ≤ maxLen) (hv : w.cell? ⟨1, 0, none⟩ = some ev) (hev : ev = .nilIface ∨ ∃ te pe, ev = .iface te pe) :
    Calls Tryd.prog 11 #[.string s] w fun e w' => ∃ v, e = .returned (.tuple #[v, .bool (ofOk s)]) ∧ OwnT w' w.heap.size v (tokT s) ∧ Below w.heap.size w w' := by
  have HC := hid (c_iOfRuns s w ev hm hv hev)
  clear hv hev
  cases ho : ofOk s
  · rw [ho] at HC
    have HV : Hid (tokT s = []) := by simp [Hid, tokT, ho]
    generalize ofL s = oL at *
    generalize ofCode s = code at *
    go_enter Tryd.func11, Tryd.ntmps11
    go_wp2_with fail
    refine HC.out.mono ?_
    rintro e w1 ⟨v1, rfl, hO1, hB1⟩
    clear hO1
    go_wp2
    go_ret2
    exact ⟨_, rfl, by rw [HV.out]; exact OwnT.nil _ _, hB1⟩
  · rw [ho] at HC
    have HV : Hid (tokT s = (rdAll s).2.1) := by simp [Hid, tokT, ho]
    simp only [ofOk, Bool.and_eq_true, decide_eq_true_eq] at ho
    have hs : s.size ≤ 400 := ho.1.1
    have HZ := hid ho.1.2
    clear ho
    generalize ofL s = oL at *
    generalize ofCode s = code at *
    go_enter Tryd.func11, Tryd.ntmps11
    go_wp2_with fail
    refine HC.out.mono ?_
    rintro e w1 ⟨v1, rfl, hO1, hB1⟩
    clear hO1
    have HB1 := hid hB1
    have HR0 := hid (RK.start s w1)
    clear hB1
    go_wp2
    change Code.wp _ _ _ _ (w1.alloc (.stringIter s 0))
    generalize w1.alloc (.stringIter s 0) = W0 at *
    go_loopw [7, 8] (fun tv fv wr => ∃ (T : List Tx) (a pos : Nat), fv = .int .i64 a ∧ a ≤ pos ∧ pos ≤ s.size ∧ Hid (∀ j, a ≤ j → j < pos → dg s j = true) ∧ T.length ≤ a ∧ Hid ((a = s.size ∧ T = (rdAll s).2.1) ∨ ∃ f x y l, s.size + 1 ≤ a + f ∧ rd s f a x y l T = rdAll s) ∧ Hid (RK s w1 wr tv T pos)) (fun _ _ wr => s.size - wr.iterPos w1.heap.size)
    case atStart => exact ⟨[], 0, 0, rfl, Nat.le_refl _, Nat.zero_le _, (fun j h1 h2 => absurd h2 (by omega)), by simp, .inr ⟨s.size + 1, 0, 0, [], by omega, rfl⟩, HR0.out⟩
    case round =>
      clear HR0
      obtain ⟨T, a, pos, rfl, hap, hps, hD, hTl, hRD, hP⟩ := hrel
      have HPP := hid hP.out.pos_lt
      have p0 : (0 : Int) ≤ (pos : Int) := by omega
      have hap' : (a : Int) ≤ (pos : Int) + 1 := by omega
      by_cases hlt : pos < s.size
      · have p1 : (pos : Int) + 1 ≤ (s.size : Int) := by omega
        have HGO : Hid (∃ f x y l, s.size + 1 ≤ a + f ∧ rd s f a x y l T = rdAll s) := by
          rcases hRD.out with h | h
          · exact absurd h.1 (by omega)
          · exact h
        have HST := hid (show dg s pos = false → byt s pos < 128 ∧ ((pos + 1 = s.size ∧ (rdAll s).2.1 = T ++ [piece s a (pos + 1)]) ∨ ∃ f x y l, s.size + 1 ≤ pos + 1 + f ∧ rd s f (pos + 1) x y l (T ++ [piece s a (pos + 1)]) = rdAll s) from fun hdg => by
          obtain ⟨f, x, y, l, hf, hr⟩ := HGO.out
          obtain ⟨f, rfl⟩ : ∃ g, f = g + 1 := ⟨f - 1, by omega⟩
          have hsc : sc s a = pos := sc_eq hap hps hD.out (fun _ => hdg)
          have hz := HZ.out
          rw [← hr] at hz
          obtain ⟨_, hb, h⟩ := rd_goes (by omega) hsc hz
          refine ⟨hb, ?_⟩
          rw [← hr]
          rcases h with h | ⟨x', y', l', h⟩
          · exact .inl h
          · exact .inr ⟨f, x', y', l', by omega, h.symm⟩)
        have HBY := hid (show dg s pos = (decide (48 ≤ byt s pos) && decide (byt s pos ≤ 57)) from rfl)
        have hasc : byt s pos < 128 := by
          cases hd : dg s pos
          · exact (HST.out hd).1
          · rw [HBY.out] at hd; simp at hd; omega
        have hnx : ∀ ty, (Instr.next (.pointer (some ⟨w1.heap.size, 0, none⟩)) true ty).run Tryd.prog wr = .ok (.tuple #[.bool true, .int .i64 pos, .int .i32 (byt s pos)]) (wr.iterAt w1.heap.size s (pos + 1)) := by
          intro ty
          rw [Lib.run_next_ascii_at wr _ s pos ty hP.out.it hlt (by rw [byt_get]; exact hasc), byt_get]
        have R1 := hid (hP.out.next (pos + 1))
        generalize wr.iterAt w1.heap.size s (pos + 1) = W1 at *
        generalize byt s pos = q at *
        by_cases hdig : 48 ≤ (q : Int) ∧ (q : Int) ≤ 57
        · have HI := hid (c_isDigit (q : Int) true (by simp; omega) W1)
          go_wp2_with fail
          refine HI.out.mono ?_
          rintro e w2 ⟨rfl, rfl⟩
          go_wp2
          go_roundw
          case rel =>
            refine ⟨T, a, pos + 1, rfl, by omega, by omega, fun j h1 h2 => ?_, hTl, hRD.out, R1.out⟩
            by_cases e : j = pos
            · rw [e, HBY.out]; simp; omega
            · exact hD.out j h1 (by omega)
          case measure => rw [HPP.out, R1.out.pos_lt]; omega
        · have HI := hid (c_isDigit (q : Int) false (by simp; omega) W1)
          have HS2 := hid (HST.out (by rw [HBY.out]; simp; omega)).2
          have HPS := hid (piece_size (s := s) (a := a) (k := pos + 1) (by omega))
          have hpc : s.extract a (pos + 1) = piece s a (pos + 1) := ext_piece s a (pos + 1)
          go_wp2_with fail
          refine HI.out.mono ?_
          rintro e w2 ⟨rfl, rfl⟩
          have HCL := hid (c_Clone (piece s a (pos + 1)) w2 (by rw [HPS.out]; omega))
          go_wp2_with fail
          refine HCL.out.mono ?_
          rintro e w3 ⟨rfl, hb3⟩
          have R3 := hid (R1.out.below hb3)
          have R4 := hid (R3.out.below ((Below.refl w3.heap.size w3).alloc (Nat.le_refl _) (.cells #[.string (piece s a (pos + 1))] 9)))
          clear hb3 HCL HI
          go_wp2_with (at_builtin; refine wpList_appT rfl _ _ rfl (w1.heap.size + 1) _ T (piece s a (pos + 1)) ⟨w3.heap.size, 0, none⟩ rfl R4.out.own rfl (segT_block (heap_alloc_new _ _)) (by omega) R4.out.sz ?_; intro v5 w5 hO5 hG5)
          have R5 := hid (R4.out.app hO5 hG5)
          go_roundw
          case rel =>
            refine ⟨T ++ [piece s a (pos + 1)], pos + 1, pos + 1, by go_num, Nat.le_refl _, by omega, (fun j h1 h2 => absurd h2 (by omega)), by simp; omega, ?_, R5.out⟩
            rcases HS2.out with h | h
            · exact .inl ⟨h.1, h.2.symm⟩
            · exact .inr h
          case measure => rw [HPP.out, R5.out.pos_lt]; omega
      · obtain rfl : pos = s.size := by omega
        have hnx : ∀ ty, (Instr.next (.pointer (some ⟨w1.heap.size, 0, none⟩)) true ty).run Tryd.prog wr = _ := fun ty => Lib.run_next_end_at wr w1.heap.size s s.size ty hP.out.it hlt
        have HTT : Hid (T = tokT s) := by
          rw [HV.out]
          rcases hRD.out with h | ⟨f, x, y, l, hf, hr⟩
          · exact h.2
          · by_cases hal : a < s.size
            · obtain ⟨f, rfl⟩ : ∃ g, f = g + 1 := ⟨f - 1, by omega⟩
              have hsc : sc s a = s.size := sc_eq hap (Nat.le_refl _) hD.out (fun h => absurd h hlt)
              have hz := HZ.out
              rw [← hr] at hz
              exact absurd (rd_goes hal hsc hz).1 hlt
            · have hz := HZ.out
              rw [← hr, rd_stop hal] at hz
              cases hz
        go_wp2
        go_ret2
        exact ⟨_, rfl, by rw [← HTT.out]; exact hP.out.own.mono (Nat.le_trans HB1.out.size (by omega)), HB1.out.trans (hP.out.bel.mono HB1.out.size)⟩
theorem rd_tok (s : Tx) : ∀ f a x y l T, (rd s f a x y l T).2.1.length ≤ T.length + f
  | 0, a, x, y, l, T => by simp [rd]
  | f + 1, a, x, y, l, T => by
    have ih := fun a' x y l => rd_tok s f a' x y l (T ++ [piece s a (sc s a + 1)])
    simp only [List.length_append, List.length_cons, List.length_nil] at ih
    by_cases ha : a < s.size
    · cases ho : okN s a (sc s a)
      · rw [rd_num ha rfl ho]; simp
      · by_cases hk : sc s a < s.size
        · by_cases e1 : byt s (sc s a) = 33
          · by_cases g1 : a < sc s a
            · rw [rd_33a ha rfl ho hk e1 g1]; simp
            · by_cases g2 : sc s a + 1 < s.size
              · rw [rd_33b ha rfl ho hk e1 g1 g2]; simp
              · rw [rd_33c ha rfl ho hk e1 g1 g2]; simp
          · by_cases e2 : byt s (sc s a) = 36
            · rw [rd_36 ha rfl ho hk e2]; have := ih (sc s a + 1) 0 (y + nOf s a (sc s a)) l; omega
            · by_cases e3 : byt s (sc s a) = 98
              · rw [rd_98 ha rfl ho hk e3]; have := ih (sc s a + 1) (x + nOf s a (sc s a)) y l; omega
              · by_cases e4 : byt s (sc s a) = 111
                · cases e5 : room x y l.length (nOf s a (sc s a))
                  · rw [rd_111n ha rfl ho hk e4 e5]; simp
                  · rw [rd_111 ha rfl ho hk e4 e5]; have := ih (sc s a + 1) (x + nOf s a (sc s a)) y (l ++ runC x y (nOf s a (sc s a))); omega
                · rw [rd_else ha rfl ho hk e1 e2 e3 e4]; simp
        · rw [rd_end ha rfl ho hk]; simp
    · rw [rd_stop ha]; simp
theorem tokT_le (s : Tx) : (tokT s).length ≤ 401 := by
  unfold tokT
  split
  · rename_i h
    simp only [ofOk, Bool.and_eq_true, decide_eq_true_eq] at h
    have := rd_tok s (s.size + 1) 0 0 0 [] []
    have h1 := h.1.1
    simp only [List.length_nil] at this
    unfold rdAll
    omega
  · simp
end Go.Proofs.YthmjcjcamcdpkaaDoor
