/- What the program's readRuns answers. -/
import Derived.Test.YthmjcjcamcdpkaaDoorRdN
import Derived.Test.YthmjcjcamcdpkaaDoorRdS
import Derived.Lib.OthersKept
import Derived.WalkMore
namespace Go.Proofs.YthmjcjcamcdpkaaDoor
open Go.RowKit
set_option linter.unusedVariables false

theorem lt_cell {w : World} {p : Addr} {v : Value} (h : w.cell? p = some v) : p.block < w.heap.size := by
  unfold World.cell? at h
  split at h
  · rename_i hb
    exact (Array.getElem?_eq_some_iff.1 hb).1
  · cases h
theorem piece_list (s : Tx) (a k : Nat) : (piece s a k).data.toList = sg s a k := by simp [piece]
theorem piece_size {s : Tx} {a k : Nat} (h : k ≤ s.size) : (piece s a k).size = k - a := by
  show (piece s a k).data.size = _
  rw [← Array.length_toList, piece_list, sg_len h]
theorem piece_zero {s : Tx} {a k : Nat} (h : k ≤ s.size) (hak : a < k) : byt (piece s a k) 0 = byt s a := by
  have e := sg_get (s := s) (i := a) (j := k) (t := 0) h (by omega)
  have e2 := byt_list (piece s a k) 0 (by rw [piece_size h]; omega)
  rw [piece_list, e] at e2
  simp only [Option.some.injEq, Nat.add_zero] at e2
  simp only [byt, e2]
theorem c_rl (s : Tx) (a k : Nat) (w : World) (ev : Value) (hs : s.size ≤ 400) (hak : a ≤ k) (hk : k ≤ s.size) (hD : ∀ j, a ≤ j → j < k → dg s j = true) (hv : w.cell? ⟨1, 0, none⟩ = some ev) (hev : ev = .nilIface ∨ ∃ te pe, ev = .iface te pe) :
    Calls Tryd.prog 53 #[.string (s.extract a k)] w fun e w' => ∃ z, e = .returned (.tuple #[.int .i64 z, .bool (okN s a k)]) ∧ Hid (okN s a k = true → z = (nOf s a k : Int)) ∧ Below w.heap.size w w' := by
  rw [ext_piece]
  by_cases h : a < k
  · have hsz := piece_size (s := s) (a := a) hk
    have := c_runLong (piece s a k) w ev (by rw [piece_list]; exact sg_dig hk hD) (by omega) hv hev (by omega)
    have e1 : okD (piece s a k) = okN s a k := by
      unfold okD okN
      rw [if_pos h, piece_list, piece_zero hk h]
      simp only [nOf, if_pos h]
    have e2 : numCut 0 (digs (piece s a k).data.toList) = nOf s a k := by rw [piece_list]; simp only [nOf, if_pos h]
    rw [e1, e2] at this
    exact this
  · obtain rfl : a = k := by omega
    have e : piece s a a = ⟨#[]⟩ := by simp [piece, sg]
    rw [e, (okN_one (s := s) h).1, (okN_one (s := s) h).2]
    exact (c_runLong0 w).mono fun e w' ⟨he, hw⟩ => ⟨1, he, fun _ => rfl, by rw [hw]; exact Below.refl _ _⟩

/-- What is told at the end of a reading. -/
def fe (s : Tx) (a k : Nat) : Nat := if okN s a k then (if k = s.size ∨ a < k then 1 else if k + 1 < s.size then 2 else 0) else 3
set_option maxHeartbeats 1000000 in
set_option maxRecDepth 100000 in
theorem c_faultAtEnd (s : Tx) (a k : Nat) (w : World) (ev : Value) (hs : s.size ≤ 400) (hak : a ≤ k) (hk : k ≤ s.size) (hD : ∀ j, a ≤ j → j < k → dg s j = true) (hv : w.cell? ⟨1, 0, none⟩ = some ev) (hev : ev = .nilIface ∨ ∃ te pe, ev = .iface te pe) :
    Calls Tryd.prog 56 #[.string s, .int .i64 (a : Int), .int .i64 (k : Int)] w fun e w' => e = .returned (.int .i64 (fe s a k : Int)) ∧ Below w.heap.size w w' := by
  have HC := hid (c_rl s a k w ev hs hak hk hD hv hev)
  have h1 : (a : Int) ≤ (k : Int) := by omega
  have h2 : (k : Int) ≤ (s.size : Int) := by omega
  clear hD hv hev
  cases ho : okN s a k
  · rw [ho] at HC
    have HF : Hid (fe s a k = 3) := by simp [Hid, fe, ho]
    go_enter Tryd.func56, Tryd.ntmps56
    go_wp2_with fail
    refine HC.out.mono ?_
    rintro e w1 ⟨z, rfl, _, hb⟩
    go_wp2
    go_ret
    exact ⟨by rw [HF.out]; rfl, hb⟩
  · rw [ho] at HC
    by_cases e1 : (k : Int) = (s.size : Int)
    · have HF : Hid (fe s a k = 1) := by
        show _ = _
        simp only [fe, ho, if_true]
        rw [if_pos (.inl (by omega))]
      have e1b : ((k : Int) == (s.size : Int)) = true := by simp; omega
      clear e1
      go_enter Tryd.func56, Tryd.ntmps56
      go_wp2_with fail
      refine HC.out.mono ?_
      rintro e w1 ⟨z, rfl, _, hb⟩
      go_wp2
      go_ret
      exact ⟨by rw [HF.out]; rfl, hb⟩
    · have e1b : ((k : Int) == (s.size : Int)) = false := by simp; omega
      by_cases e2 : (a : Int) < (k : Int)
      · have HF : Hid (fe s a k = 1) := by
          show _ = _
          simp only [fe, ho, if_true]
          rw [if_pos (.inr (by omega))]
        go_enter Tryd.func56, Tryd.ntmps56
        go_wp2_with fail
        refine HC.out.mono ?_
        rintro e w1 ⟨z, rfl, _, hb⟩
        go_wp2
        go_ret
        exact ⟨by rw [HF.out]; rfl, hb⟩
      · have e2b : decide (a < k) = false := by simp; omega
        have e2c : decide ((a : Int) < (k : Int)) = false := by simp; omega
        by_cases e3 : (k : Int) + 1 < (s.size : Int)
        · have HF : Hid (fe s a k = 2) := by
            show _ = _
            simp only [fe, ho, if_true]
            rw [if_neg (by omega), if_pos (by omega)]
          go_enter Tryd.func56, Tryd.ntmps56
          go_wp2_with fail
          refine HC.out.mono ?_
          rintro e w1 ⟨z, rfl, _, hb⟩
          go_wp2
          go_ret
          exact ⟨by rw [HF.out]; rfl, hb⟩
        · have HF : Hid (fe s a k = 0) := by
            show _ = _
            simp only [fe, ho, if_true]
            rw [if_neg (by omega), if_neg (by omega)]
          go_enter Tryd.func56, Tryd.ntmps56
          go_wp2_with fail
          refine HC.out.mono ?_
          rintro e w1 ⟨z, rfl, _, hb⟩
          go_wp2
          go_ret
          exact ⟨by rw [HF.out]; rfl, hb⟩

/-- What stands while readRuns runs. -/
structure RI (s : Tx) (w W : World) (v : Value) (l : List Cl) (X Y pos : Nat) : Prop where
  own : OwnS W (w.heap.size + 2) v l
  nx : W.heap[w.heap.size]? = some (.cells #[.int .i64 (X : Int), .int .i64 (Y : Int)] 33 (0, 0))
  it : W.heap[w.heap.size + 1]? = some (.stringIter s pos)
  bel : Below w.heap.size w W
section
variable {s : Tx} {w W W' : World} {v v' : Value} {l l' : List Cl} {X Y pos : Nat}
theorem RI.sz (h : RI s w W v l X Y pos) : w.heap.size + 2 ≤ W.heap.size := by
  have := (Array.getElem?_eq_some_iff.1 h.it).1
  omega
theorem RI.next (h : RI s w W v l X Y pos) (p' : Nat) : RI s w (W.iterAt (w.heap.size + 1) s p') v l X Y p' := by
  refine ⟨own_keep h.own (row := some (w.heap.size + 1)) ⟨rfl, rfl, rfl, by rw [Lib.iterAt_size]; exact Nat.le_refl _, fun k _ hne => Lib.iterAt_other W _ k s p' (fun e => hne (by rw [e]))⟩ ?_, (Lib.iterAt_other W _ _ s p' (by omega)).trans h.nx, Lib.iterAt_heap W _ s pos p' h.it, Lib.below_iterAt h.bel (by omega) s p'⟩
  intro k hk e
  have := (h.own.lt k hk).1
  simp only [Option.some.injEq] at e
  omega
theorem RI.below (h : RI s w W v l X Y pos) (hb : Below W.heap.size W W') : RI s w W' v l X Y pos :=
  ⟨h.own.below hb, (hb.block _ (Array.getElem?_eq_some_iff.1 h.nx).1).trans h.nx, (hb.block _ (Array.getElem?_eq_some_iff.1 h.it).1).trans h.it, h.bel.trans (hb.mono h.bel.size)⟩
theorem RI.app (h : RI s w W v l X Y pos) (ho : OwnS W' (w.heap.size + 2) v' l') (hb : Below (w.heap.size + 2) W W') : RI s w W' v' l' X Y pos :=
  ⟨ho, (hb.block _ (by omega)).trans h.nx, (hb.block _ (by omega)).trans h.it, h.bel.trans (hb.mono (by omega))⟩
theorem setH {w : World} {k j : Nat} {cs : Array Value} {T : TypeId} {fr : Nat × Nat} (h : w.heap[k]? = some (.cells cs T fr)) (v : Value) : (w.setCell ⟨k, j, none⟩ v).heap[k]? = some (.cells (cs.setIfInBounds j v) T fr) := by
  simp [World.setCell, Array.getElem?_modify, h]
theorem setG (w : World) (k j : Nat) (v : Value) : w.grownBy (w.setCell ⟨k, j, none⟩ v) (some k) :=
  ⟨rfl, rfl, rfl, by simp [World.setCell], fun i _ hk => Below.heap_setCell _ _ _ _ (fun e => hk (by simp [e]))⟩
theorem RI.setX (h : RI s w W v l X Y pos) (x : Nat) : RI s w (W.setCell ⟨w.heap.size, 0, none⟩ (.int .i64 (x : Int))) v l x Y pos :=
  ⟨own_keep h.own (setG _ _ _ _) (fun k hk e => by have := (h.own.lt k hk).1; simp only [Option.some.injEq] at e; omega), setH h.nx _, ((setG W w.heap.size 0 (.int .i64 (x : Int))).block _ (Array.getElem?_eq_some_iff.1 h.it).1 (by simp)).trans h.it, h.bel.setCell (p := ⟨w.heap.size, 0, none⟩) (Nat.le_refl _) _⟩
theorem RI.setY (h : RI s w W v l X Y pos) (y : Nat) : RI s w (W.setCell ⟨w.heap.size, 1, none⟩ (.int .i64 (y : Int))) v l X y pos :=
  ⟨own_keep h.own (setG _ _ _ _) (fun k hk e => by have := (h.own.lt k hk).1; simp only [Option.some.injEq] at e; omega), setH h.nx _, ((setG W w.heap.size 1 (.int .i64 (y : Int))).block _ (Array.getElem?_eq_some_iff.1 h.it).1 (by simp)).trans h.it, h.bel.setCell (p := ⟨w.heap.size, 1, none⟩) (Nat.le_refl _) _⟩
theorem RI.facts (h : RI s w W v l X Y pos) : W.cell? ⟨w.heap.size, 0, none⟩ = some (.int .i64 (X : Int)) ∧ W.cell? ⟨w.heap.size, 1, none⟩ = some (.int .i64 (Y : Int)) ∧ W.frozen? ⟨w.heap.size, 0, none⟩ = false ∧ W.frozen? ⟨w.heap.size, 1, none⟩ = false := by
  refine ⟨?_, ?_, Lib.frozen_of_heap h.nx 0, Lib.frozen_of_heap h.nx 1⟩
  · rw [Lib.cell_of_heap h.nx]; rfl
  · rw [Lib.cell_of_heap h.nx]; rfl
theorem RI.start (s : Tx) (w : World) : RI s w ((w.alloc (.cells #[.int .i64 0, .int .i64 0] 33)).alloc (.stringIter s 0)) (.slice none 0 0) [] 0 0 0 := by
  refine ⟨OwnS.nil _ _, ?_, ?_, ((Below.refl _ w).alloc (Nat.le_refl _) _).alloc (by simp) _⟩
  · rw [Lib.alloc_old _ _ _ (by simp)]
    exact heap_alloc_new w _
  · have := heap_alloc_new (w.alloc (.cells #[.int .i64 0, .int .i64 0] 33)) (.stringIter s 0)
    simpa using this
theorem RI.pos_lt (h : RI s w W v l X Y pos) : W.iterPos (w.heap.size + 1) = pos := by simp [World.iterPos, h.it]
end

set_option maxHeartbeats 4000000 in
set_option maxRecDepth 100000 in
theorem c_readRuns (s : Tx) (w : World) (ev : Value) (hs : s.size ≤ 400) (hv : w.cell? ⟨1, 0, none⟩ = some ev) (hev : ev = .nilIface ∨ ∃ te pe, ev = .iface te pe) :
    Calls Tryd.prog 43 #[.string s] w fun e w' => ∃ v l', e = .returned (.tuple #[v, .int .i64 ((rdAll s).2.2 : Int)]) ∧ OwnS w' w.heap.size v l' ∧ Hid ((rdAll s).2.2 = 0 → l' = (rdAll s).1) ∧ Below w.heap.size w w' := by
  have HV1 := hid (lt_cell hv)
  have HEV := hid hev
  have HV := hid hv
  have HR0 := hid (RI.start s w)
  clear hv hev
  go_enter Tryd.func43, Tryd.ntmps43
  go_wp2
  go_step3
  go_wp2
  go_step3
  go_wp2
  change Code.wp _ _ _ _ ((w.alloc (.cells #[.int .i64 0, .int .i64 0] 33)).alloc (.stringIter s 0))
  generalize (w.alloc (.cells #[.int .i64 0, .int .i64 0] 33)).alloc (.stringIter s 0) = W0 at *
  go_loopw [4, 6, 7] (fun lv fv ev' wr => ∃ (l : List Cl) (T : List Tx) (X Y a pos f : Nat), fv = .int .i64 a ∧ ev' = .int .i64 s.size ∧ a ≤ pos ∧ pos ≤ s.size ∧ Hid (∀ j, a ≤ j → j < pos → dg s j = true) ∧ s.size + 1 ≤ a + f ∧ X ≤ 31 * a ∧ Y ≤ 31 * a ∧ l.length ≤ 120 ∧ Hid (rd s f a X Y l T = rdAll s) ∧ Hid (RI s w wr lv l X Y pos)) (fun _ _ _ wr => s.size - wr.iterPos (w.heap.size + 1))
  case atStart => exact ⟨[], [], 0, 0, 0, 0, s.size + 1, rfl, rfl, Nat.le_refl _, Nat.zero_le _, (fun j h1 h2 => absurd h2 (by omega)), by omega, by omega, by omega, by simp, (show _ = _ from rfl), HR0.out⟩
  case round =>
    clear HR0
    obtain ⟨l, T, X, Y, a, pos, f, rfl, rfl, hap, hps, hD, hf, hX, hY, hl, hRD, hP⟩ := hrel
    have HPP := hid hP.out.pos_lt
    have p0 : (0 : Int) ≤ (pos : Int) := by omega
    have hap' : (a : Int) ≤ (pos : Int) := by omega
    by_cases hlt : pos < s.size
    · have p1 : (pos : Int) < (s.size : Int) := by omega
      have p2 : (pos : Int) ≤ (s.size : Int) := by omega
      by_cases hasc : byt s pos < 128
      · have hnx : ∀ ty, (Instr.next (.pointer (some ⟨w.heap.size + 1, 0, none⟩)) true ty).run Tryd.prog wr = .ok (.tuple #[.bool true, .int .i64 pos, .int .i32 (byt s pos)]) (wr.iterAt (w.heap.size + 1) s (pos + 1)) := by
          intro ty
          rw [Lib.run_next_ascii_at wr _ s pos ty hP.out.it hlt (by rw [byt_get]; exact hasc), byt_get]
        have R1 := hid (hP.out.next (pos + 1))
        have HBY := hid (show dg s pos = (decide (48 ≤ byt s pos) && decide (byt s pos ≤ 57)) from rfl)
        generalize wr.iterAt (w.heap.size + 1) s (pos + 1) = W1 at *
        generalize hq : byt s pos = q at *
        have HQ := hid hq
        clear hq
        by_cases hdig : 48 ≤ (q : Int) ∧ (q : Int) ≤ 57
        · have HI := hid (c_isDigit (q : Int) true (by simp; omega) W1)
          go_wp2_with fail
          refine HI.out.mono ?_
          rintro e w2 ⟨rfl, rfl⟩
          go_wp2
          go_roundw
          case rel =>
            refine ⟨l, T, X, Y, a, pos + 1, f, rfl, rfl, by omega, by omega, fun j h1 h2 => ?_, hf, hX, hY, hl, hRD.out, R1.out⟩
            by_cases e : j = pos
            · rw [e, HBY.out]; simp; omega
            · exact hD.out j h1 (by omega)
          case measure =>
            rw [HPP.out, R1.out.pos_lt]; omega
        · have HI := hid (c_isDigit (q : Int) false (by simp; omega) W1)
          have HSC := hid (show sc s a = pos from sc_eq hap hps hD.out (fun _ => by rw [HBY.out]; simp; omega))
          have HRL := hid (c_rl s a pos W1 ev hs hap hps hD.out ((R1.out.bel.cell (p := ⟨1, 0, none⟩) HV1.out).trans HV.out) HEV.out)
          obtain ⟨f, rfl⟩ : ∃ g, f = g + 1 := ⟨f - 1, by omega⟩
          have halt : a < s.size := by omega
          clear hdig
          cases ho : okN s a pos
          · rw [ho] at HRL
            have HR : Hid (rdAll s = ([], [], 3)) := by
              show _ = _
              rw [← hRD.out]; exact rd_num halt HSC.out ho
            go_wp2_with fail
            refine HI.out.mono ?_
            rintro e w2 ⟨rfl, rfl⟩
            go_wp2_with fail
            refine HRL.out.mono ?_
            rintro e w3 ⟨z, rfl, _, hb3⟩
            have RW := hid (R1.out.below hb3)
            clear hb3
            go_wp2
            try rw [Exit.noGoto_ret]
            go_ret2
            exact ⟨_, [], by rw [HR.out]; rfl, OwnS.nil _ _, (fun h => by rw [HR.out] at h; cases h), RW.out.bel⟩
          · rw [ho] at HRL
            have HO := hid ho
            have hn := nOf_bd ho
            clear ho
            go_wp2_with fail
            refine HI.out.mono ?_
            rintro e w2 ⟨rfl, rfl⟩
            go_wp2_with fail
            refine HRL.out.mono ?_
            rintro e w3 ⟨z, rfl, hz, hb3⟩
            have RW := hid (R1.out.below hb3)
            obtain rfl : z = (nOf s a pos : Int) := by first | exact hz.out rfl | exact hz.out trivial
            clear hb3 hz HRL HI R1
            have H98 := hid (fun h : byt s pos = 98 => rd_98 (f := f) (x := X) (y := Y) (l := l) (T := T) halt HSC.out HO.out hlt h)
            have H36 := hid (fun h : byt s pos = 36 => rd_36 (f := f) (x := X) (y := Y) (l := l) (T := T) halt HSC.out HO.out hlt h)
            have H111 := hid (fun (h : byt s pos = 111) hr => rd_111 (f := f) (x := X) (y := Y) (l := l) (T := T) halt HSC.out HO.out hlt h hr)
            have H111n := hid (fun (h : byt s pos = 111) hr => rd_111n (f := f) (x := X) (y := Y) (l := l) (T := T) halt HSC.out HO.out hlt h hr)
            have HEL := hid (fun (h : ¬ byt s pos = 33 ∧ ¬ byt s pos = 36 ∧ ¬ byt s pos = 98 ∧ ¬ byt s pos = 111) => rd_else (f := f) (x := X) (y := Y) (l := l) (T := T) halt HSC.out HO.out hlt h.1 h.2.1 h.2.2.1 h.2.2.2)
            have HBG := hid (fun (h : byt s pos = 33) => show (rd s (f + 1) a X Y l T).2.2 = fe s a pos ∧ ((rd s (f + 1) a X Y l T).2.2 = 0 → (rd s (f + 1) a X Y l T).1 = l) by
              have hne : ¬ pos = s.size := by omega
              by_cases g1 : a < pos
              · rw [rd_33a halt HSC.out HO.out hlt h g1]
                refine ⟨?_, fun h => by cases h⟩
                simp [fe, HO.out, g1]
              · by_cases g2 : pos + 1 < s.size
                · rw [rd_33b halt HSC.out HO.out hlt h g1 g2]
                  refine ⟨?_, fun h => by cases h⟩
                  simp [fe, HO.out, g1, g2, hne]
                · rw [rd_33c halt HSC.out HO.out hlt h g1 g2]
                  refine ⟨?_, fun _ => rfl⟩
                  simp [fe, HO.out, g1, g2, hne])
            rw [HQ.out] at H98 H36 H111 H111n HEL HBG
            have HFE := hid (c_faultAtEnd s a pos w3 ev hs hap hps hD.out ((RW.out.bel.cell (p := ⟨1, 0, none⟩) HV1.out).trans HV.out) HEV.out)
            generalize nOf s a pos = n at *
            obtain ⟨hn1, hn2⟩ := hn
            have n0' : (0 : Int) ≤ (n : Int) := by omega
            obtain ⟨c0, c1, f0, f1⟩ := RW.out.facts
            by_cases q111 : (q : Int) = 111
            · obtain ⟨av, cv, hlv, hSv⟩ := RW.out.own.form
              clear hSv
              subst hlv
              cases hr : room X Y l.length n
              · have HR : Hid (rdAll s = ([], [], 4)) := by
                  show _ = _
                  rw [← hRD.out]; exact H111n.out (by omega) hr
                have HRM := hid (c_hasRoom X Y l.length n false hr (by omega) (by omega) hl ⟨hn1, hn2⟩ w3)
                go_wp2_with fail
                refine HRM.out.mono ?_
                rintro e w4 ⟨rfl, hb4⟩
                have RW := hid (RW.out.below hb4)
                clear hb4
                go_wp2
                try rw [Exit.noGoto_ret]
                go_ret2
                exact ⟨_, [], by rw [HR.out]; rfl, OwnS.nil _ _, (fun h => by rw [HR.out] at h; cases h), RW.out.bel⟩
              · have HNX := hid (H111.out (by omega) hr)
                have hr2 : X + n ≤ 31 ∧ l.length + n ≤ 120 := by simp [room] at hr; omega
                have HRM := hid (c_hasRoom X Y l.length n true hr (by omega) (by omega) hl ⟨hn1, hn2⟩ w3)
                clear hr
                go_wp2_with fail
                refine HRM.out.mono ?_
                rintro e w4 ⟨rfl, hb4⟩
                have R4 := hid (RW.out.below hb4)
                clear hb4 c0 c1 f0 f1 HRM RW
                obtain ⟨c0, c1, f0, f1⟩ := R4.out.facts
                have HAP := hid (c_appendRun _ l X Y n (w.heap.size + 2) w4 R4.out.own (by omega) (by omega) hl (by omega) R4.out.sz)
                go_wp2_with fail
                refine HAP.out.mono ?_
                rintro e w5 ⟨v5, rfl, hO5, hB5⟩
                have R5 := hid (R4.out.app hO5 hB5)
                clear hO5 hB5 c0 c1 f0 f1 HAP R4
                obtain ⟨c0, c1, f0, f1⟩ := R5.out.facts
                have R6 := hid (R5.out.setX (X + n))
                have e6 : ((X + n : Nat) : Int) = (X : Int) + (n : Int) := by omega
                rw [e6] at R6
                clear e6
                go_wp2
                go_roundw
                case rel => exact ⟨l ++ runC X Y n, T ++ [piece s a (pos + 1)], X + n, Y, pos + 1, pos + 1, f, by go_num, rfl, Nat.le_refl _, by omega, (fun j h1 h2 => absurd h2 (by omega)), by omega, by omega, by omega, by simp [runC_len]; omega, (show _ = _ by rw [← hRD.out, HNX.out]), R6.out⟩
                case measure => rw [HPP.out, R6.out.pos_lt]; omega
            · by_cases q98 : (q : Int) = 98
              · have HNX := hid (H98.out (by omega))
                have R6 := hid (RW.out.setX (X + n))
                have e6 : ((X + n : Nat) : Int) = (X : Int) + (n : Int) := by omega
                rw [e6] at R6
                clear e6
                go_wp2
                go_roundw
                case rel => exact ⟨l, T ++ [piece s a (pos + 1)], X + n, Y, pos + 1, pos + 1, f, by go_num, rfl, Nat.le_refl _, by omega, (fun j h1 h2 => absurd h2 (by omega)), by omega, by omega, by omega, hl, (show _ = _ by rw [← hRD.out, HNX.out]), R6.out⟩
                case measure => rw [HPP.out, R6.out.pos_lt]; omega
              · by_cases q36 : (q : Int) = 36
                · have HNX := hid (H36.out (by omega))
                  have R6 := hid ((RW.out.setX 0).setY (Y + n))
                  have e6 : ((Y + n : Nat) : Int) = (Y : Int) + (n : Int) := by omega
                  rw [e6, show ((0 : Nat) : Int) = 0 from rfl] at R6
                  clear e6
                  go_wp2
                  go_roundw
                  case rel => exact ⟨l, T ++ [piece s a (pos + 1)], 0, Y + n, pos + 1, pos + 1, f, by go_num, rfl, Nat.le_refl _, by omega, (fun j h1 h2 => absurd h2 (by omega)), by omega, by omega, by omega, hl, (show _ = _ by rw [← hRD.out, HNX.out]), R6.out⟩
                  case measure => rw [HPP.out, R6.out.pos_lt]; omega
                · by_cases q33 : (q : Int) = 33
                  · have HB := hid (HBG.out (by omega))
                    rw [hRD.out] at HB
                    go_wp2_with fail
                    refine HFE.out.mono ?_
                    rintro e w4 ⟨rfl, hb4⟩
                    have R4 := hid (RW.out.below hb4)
                    clear hb4
                    go_wp2
                    try rw [Exit.noGoto_ret]
                    go_ret2
                    exact ⟨_, l, by rw [HB.out.1]; rfl, R4.out.own.mono (by omega), (fun h => (HB.out.2 h).symm), R4.out.bel⟩
                  · have HR : Hid (rdAll s = ([], [], 1)) := by
                      show _ = _
                      rw [← hRD.out]; exact HEL.out ⟨by omega, by omega, by omega, by omega⟩
                    go_wp2
                    try rw [Exit.noGoto_ret]
                    go_ret2
                    exact ⟨_, [], by rw [HR.out]; rfl, OwnS.nil _ _, (fun h => by rw [HR.out] at h; cases h), RW.out.bel⟩
      · have hdh := (decode_high s pos hlt (by rw [byt_get]; omega)).1
        have hdl := decode_le s pos
        have hnx : ∀ ty, (Instr.next (.pointer (some ⟨w.heap.size + 1, 0, none⟩)) true ty).run Tryd.prog wr = _ := fun ty => Lib.run_next_any_at wr (w.heap.size + 1) s pos ty hP.out.it hlt
        have R1 := hid (hP.out.next (pos + (Utf8.decode s pos).2))
        have hdg : dg s pos = false := by simp only [dg]; simp; omega
        have HSC := hid (show sc s a = pos from sc_eq hap hps hD.out (fun _ => hdg))
        obtain ⟨f, rfl⟩ : ∃ g, f = g + 1 := ⟨f - 1, by omega⟩
        have halt : a < s.size := by omega
        have HBY : Hid (¬ byt s pos = 33 ∧ ¬ byt s pos = 36 ∧ ¬ byt s pos = 98 ∧ ¬ byt s pos = 111) := ⟨by omega, by omega, by omega, by omega⟩
        clear hdg
        generalize (Utf8.decode s pos).1 = r at *
        generalize wr.iterAt (w.heap.size + 1) s (pos + (Utf8.decode s pos).2) = W1 at *
        have HI := hid (c_isDigit (r : Int) false (by simp; omega) W1)
        have HRL := hid (c_rl s a pos W1 ev hs hap hps hD.out ((R1.out.bel.cell (p := ⟨1, 0, none⟩) HV1.out).trans HV.out) HEV.out)
        have n111 : ¬ (r : Int) = 111 := by omega
        have n98 : ¬ (r : Int) = 98 := by omega
        have n36 : ¬ (r : Int) = 36 := by omega
        have n33 : ¬ (r : Int) = 33 := by omega
        cases ho : okN s a pos
        · rw [ho] at HRL
          have HR : Hid (rdAll s = ([], [], 3)) := by
            show _ = _
            rw [← hRD.out]; exact rd_num halt HSC.out ho
          go_wp2_with fail
          refine HI.out.mono ?_
          rintro e w2 ⟨rfl, rfl⟩
          go_wp2_with fail
          refine HRL.out.mono ?_
          rintro e w3 ⟨z, rfl, _, hb3⟩
          have RW := hid (R1.out.below hb3)
          clear hb3
          go_wp2
          try rw [Exit.noGoto_ret]
          go_ret2
          exact ⟨_, [], by rw [HR.out]; rfl, OwnS.nil _ _, (fun h => by rw [HR.out] at h; cases h), RW.out.bel⟩
        · rw [ho] at HRL
          have HR : Hid (rdAll s = ([], [], 1)) := by
            show _ = _
            rw [← hRD.out]; exact rd_else halt HSC.out ho hlt HBY.out.1 HBY.out.2.1 HBY.out.2.2.1 HBY.out.2.2.2
          go_wp2_with fail
          refine HI.out.mono ?_
          rintro e w2 ⟨rfl, rfl⟩
          go_wp2_with fail
          refine HRL.out.mono ?_
          rintro e w3 ⟨z, rfl, _, hb3⟩
          have RW := hid (R1.out.below hb3)
          clear hb3
          go_wp2
          try rw [Exit.noGoto_ret]
          go_ret2
          exact ⟨_, [], by rw [HR.out]; rfl, OwnS.nil _ _, (fun h => by rw [HR.out] at h; cases h), RW.out.bel⟩
    · obtain rfl : pos = s.size := by omega
      have hnx : ∀ ty, (Instr.next (.pointer (some ⟨w.heap.size + 1, 0, none⟩)) true ty).run Tryd.prog wr = _ := fun ty => Lib.run_next_end_at wr (w.heap.size + 1) s s.size ty hP.out.it hlt
      have HFE := hid (c_faultAtEnd s a s.size wr ev hs hap (Nat.le_refl _) hD.out ((hP.out.bel.cell (p := ⟨1, 0, none⟩) HV1.out).trans HV.out) HEV.out)
      have HB : Hid ((rdAll s).2.2 = fe s a s.size ∧ ¬ (rdAll s).2.2 = 0) := by
        show _ ∧ _
        rw [← hRD.out]
        by_cases hal : a < s.size
        · obtain ⟨f, rfl⟩ : ∃ g, f = g + 1 := ⟨f - 1, by omega⟩
          have hsc : sc s a = s.size := sc_eq hap (Nat.le_refl _) hD.out (fun h => absurd h hlt)
          cases ho : okN s a s.size
          · rw [rd_num hal hsc ho]
            simp [fe, ho]
          · rw [rd_end hal hsc ho hlt]
            simp [fe, ho]
        · rw [rd_stop hal]
          have : okN s a s.size = true := (okN_one (by omega)).1
          simp [fe, this]
      go_wp2_with fail
      refine HFE.out.mono ?_
      rintro e w4 ⟨rfl, hb4⟩
      have R4 := hid (hP.out.below hb4)
      clear hb4
      go_wp2
      try rw [Exit.noGoto_ret]
      go_ret2
      exact ⟨_, l, by rw [HB.out.1]; rfl, R4.out.own.mono (by omega), (fun h => absurd h HB.out.2), R4.out.bel⟩
end Go.Proofs.YthmjcjcamcdpkaaDoor
