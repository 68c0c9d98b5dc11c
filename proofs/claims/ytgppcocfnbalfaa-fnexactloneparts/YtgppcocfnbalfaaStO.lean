/- stepsOf: the iterator that hands on what comes after 0, 1 and more steps. -/
import Derived.Test.YtgppcocfnbalfaaHistP
import Derived.Test.YtgppcocfnbalfaaRgR
import Derived.Test.YtgppcocfnbalfaaHss
import Derived.RangeFuncNested
import Derived.RangeFuncBound
import Derived.RangeFuncCalls
import Derived.RangeFuncLeaves
import Derived.RangeFuncBox
import Derived.Shelf.Abstract
import Derived.Shelf.RegionOpen
import Derived.OwnWalkIn
import Derived.TacticsInMore
import Derived.LoopNIn
import Derived.LoopIn
namespace Go.Proofs.Ytgppcocfnbalfaa
open Go.RowKit Go.Shelf
set_option linter.unusedVariables false
set_option linter.unusedSimpArgs false
attribute [local go_sem] Oper.semAt_some

/-- What is handed on: the number of steps, the slice, the cells in it. -/
abbrev Hnd := Nat × Value × List Cl
def hEnc (x : Hnd) : Array Value := #[.int .i64 (x.1 : Int), x.2.1]
/-- The lists that have been handed on. -/
def hLs (d : List Hnd) : List (List Cl) := d.map (fun x => x.2.2)
theorem hLs_snoc (d : List Hnd) (x : Hnd) : hLs (d ++ [x]) = hLs d ++ [x.2.2] := by simp [hLs]
theorem hLs_length (d : List Hnd) : (hLs d).length = d.length := by simp [hLs]
/-- What is known of what is handed on, when it is. -/
def hIs (full : List (List Cl)) (n₀ : Nat) (d : List Hnd) (x : Hnd) (W : World) : Prop :=
  x.1 = d.length ∧ hLs (d ++ [x]) <+: full ∧ OwnS W n₀ x.2.1 x.2.2 ∧ good x.2.2 = true ∧ ∀ y ∈ d, ∀ k, y.2.1.ownBlock = some k → x.2.1.ownBlock ≠ some k
/-- What a round keeps: rows of cells, and the iterator's own two boxes. -/
def hKp (b c : Nat) (A B : World) : Prop :=
  A.heap.size ≤ B.heap.size ∧ (∀ (k : Nat) (cs : Array Value) (f : Nat × Nat), A.heap[k]? = some (Obj.cells cs 44 f) → B.heap[k]? = some (Obj.cells cs 44 f)) ∧ B.heap[b]? = A.heap[b]? ∧ B.heap[c]? = A.heap[c]?
theorem hKp.trans {b c : Nat} {A B C : World} (h : hKp b c A B) (k : hKp b c B C) : hKp b c A C :=
  ⟨Nat.le_trans h.1 k.1, fun i cs f hi => k.2.1 i cs f (h.2.1 i cs f hi), k.2.2.1.trans h.2.2.1, k.2.2.2.trans h.2.2.2⟩
theorem hKp.other {b c : Nat} {w : World} (hb : b < w.heap.size) (hc : c < w.heap.size) (W : World) (l : Nat) (o o' : Obj) (hl : w.heap.size ≤ l) (h : W.heap[l]? = some o) (ho : o.isCells = false) : hKp b c W (W.putObj l o') := by
  refine ⟨by simp, fun k cs f hk => ?_, World.putObj_heap_other (by omega), World.putObj_heap_other (by omega)⟩
  rw [World.putObj_heap_other]
  · exact hk
  · intro e; subst e; rw [h] at hk; cases hk; cases ho
theorem hKp.below {b c : Nat} {A B : World} (h : Below A.heap.size A B) (hb : b < A.heap.size) (hc : c < A.heap.size) : hKp b c A B :=
  ⟨h.size, fun k cs f hk => (h.block k (Array.getElem?_eq_some_iff.1 hk).1).trans hk, h.block b hb, h.block c hc⟩
theorem hKp.own {b c base : Nat} {A B : World} {v : Value} {l : List Cl} (h : hKp b c A B) (ho : OwnS A base v l) : OwnS B base v l := by
  refine ⟨ho.1, ?_⟩
  rcases ho.2 with hn | ⟨g, cap, cur, rfl, hb, hg, rest⟩
  · exact .inl hn
  · exact .inr ⟨g, cap, cur, rfl, hb, h.2.1 g cur _ hg, rest⟩

theorem hIs.own (full : List (List Cl)) (n₀ B : Nat) : OwnFrom B (fun (s : List Hnd × Hnd) W => hIs full n₀ s.1 s.2 W) := by
  rintro s W W' row ⟨h1, h2, h3, h4, h5⟩ hg hr
  exact ⟨h1, h2, ownS_other h3 hg (fun r e => (hr r e).2), h4, h5⟩

/-- All that the iterator hands on. -/
noncomputable def hFull (T : Nat) (l : List Cl) : List (List Cl) := if good l then hist T l else []

theorem hist_head (n : Nat) (l : List Cl) : ∃ r, hist n l = l :: r := by
  cases n with
  | zero => exact ⟨[], rfl⟩
  | succ n => exact ⟨_, rfl⟩

set_option maxHeartbeats 1000000 in
theorem c_stepsOf (a : Option Addr) (n ca : Nat) (t : Int) (w : World) :
    Calls Try.prog 51 #[.slice a n ca, .int .i64 t] w fun e w' =>
      e = .returned (.func (.func 80) #[] #[.pointer (some ⟨w.heap.size, 0, none⟩), .pointer (some ⟨w.heap.size + 1, 0, none⟩)]) ∧ w' = (w.alloc (.cells #[.slice a n ca] 23)).alloc (.cells #[.int .i64 t] 3) := by
  have hmf : ∀ (fn : Fn) (first cap : Array Value) (w : World), (Instr.makeFunc fn first cap).run Try.prog w = .ok (.func fn first cap) w := fun _ _ _ _ => rfl
  go_enter Try.func51, Try.ntmps51
  go_wp2
  go_ret
  exact ⟨rfl, rfl⟩

set_option maxHeartbeats 4000000 in
set_option maxRecDepth 100000 in
/-- The word of the iterator. -/
theorem seq_steps (n b c : Nat) (hn : 1 ≤ n) (a : Option Addr) (l : List Cl) (ca T : Nat) (w : World) (hT : T ≤ 20) (ha : Seg w a l) (hca : a = none → ca = 0) (hl : l.length ≤ 1048576)
    (hb : w.cell? ⟨b, 0, none⟩ = some (.slice a l.length ca)) (hblt : b < w.heap.size) (hc : w.cell? ⟨c, 0, none⟩ = some (.int .i64 (T : Int))) (hclt : c < w.heap.size) :
    SeqR Fence.wide n Try.prog 80 #[.pointer (some ⟨b, 0, none⟩), .pointer (some ⟨c, 0, none⟩)] hEnc (hIs (hFull T l) w.heap.size) (hKp b c) (fun xs => hLs xs = hFull T l) (fun xs => hLs xs <+: hFull T l) w := by
  intro L J Jx W hW hJ hJx hY h0
  have hb' := (hW.cell (p := ⟨b, 0, none⟩) hblt).trans hb
  have hc' := (hW.cell (p := ⟨c, 0, none⟩) hclt).trans hc
  have HA := hid (ha.below hW)
  have HW := hid hW
  have HCT := hid (fun (W1 : World) (h : Seg W1 a l) => c_iStepTimes a l ca 0 W1 h hca hl)
  have HV : Hid ((timesOk l 0 = true → timesL l 0 = l ∧ good l = true ∧ hFull T l = hist T l) ∧ (timesOk l 0 = false → hFull T l = [])) := by
    cases hg : good l
    · have : timesOk l 0 = false := by simp [timesOk, hg]
      exact hid ⟨(fun h => by rw [this] at h; cases h), (fun _ => by simp [hFull, hg])⟩
    · have := times_zero hg
      exact hid ⟨(fun _ => ⟨this.2, rfl, by simp [hFull, hg]⟩), (fun h => by rw [this.1] at h; cases h)⟩
  have HFL := hid (show (hFull T l).length ≤ 21 by unfold hFull; split; · have := hist_le T l; omega
                                                   · simp)
  generalize timesOk l 0 = tok at *
  generalize timesL l 0 = tl at *
  generalize hF : hFull T l = full at *
  clear hF hb hc ha hW
  refine callsIn_of_wp Try.func80 rfl trivial ?_ rfl
  simp only [Try.ntmps80, List.size_toArray, List.length_cons, List.length_nil, Nat.reduceAdd, Nat.reduceSub, Array.replicate_succ, Array.replicate_zero, List.push_toArray, List.append_toArray, List.nil_append, List.cons_append]
  gi_wp2_with (refine ⟨trivial, ?_⟩; gi_at_call 15; refine (callsIn_wide.2 (HCT.out _ HA.out)).mono ?_; rintro e w1 ⟨v1, rfl, o1, b1⟩)
  have hbW : b < W.heap.size := Nat.lt_of_lt_of_le hblt HW.out.size
  have hcW : c < W.heap.size := Nat.lt_of_lt_of_le hclt HW.out.size
  have C1 := hid ((b1.cell (p := ⟨c, 0, none⟩) hcW).trans hc')
  have J1 := hid (hJ _ _ _ none h0 (grown_of_below b1 none) (fun r e => by cases e))
  have O1 := hid (o1.mono HW.out.size)
  have Z1 := hid b1.size
  clear hb' hc' HA HCT o1 b1
  gi_loopw [4, 5, 6] (fun nv ov kv wr => ∃ (done : List Hnd) (ok : Bool) (m : List Cl), ov = .bool ok ∧ kv = .int .i64 (done.length : Int) ∧ done.length ≤ T + 1 ∧ Hid (J done wr ∧ OwnS wr w.heap.size nv m ∧ (ok = true → good m = true ∧ done.length ≤ T ∧ hLs done ++ hist (T - done.length) m = full) ∧ (ok = false → hLs done = full) ∧ (∀ y ∈ done, ∀ k, y.2.1.ownBlock = some k → nv.ownBlock ≠ some k ∧ k < wr.heap.size) ∧ wr.cell? ⟨c, 0, none⟩ = some (.int .i64 (T : Int)) ∧ W.heap.size ≤ wr.heap.size)) (fun _ _ kv _ => T + 1 - (intOf kv).toNat)
  case atStart =>
    refine ⟨[], tok, tl, rfl, rfl, by simp, show _ ∧ _ from ⟨J1.out, O1.out, fun h => ?_, fun h => ?_, (fun y hy => by cases hy), C1.out, Z1.out⟩⟩
    · obtain ⟨e1, e2, e3⟩ := HV.out.1 h
      rw [e1]
      exact ⟨e2, by simp, by simp [hLs, e3]⟩
    · exact (HV.out.2 h).symm
  case round =>
    clear J1 O1 C1 Z1 HV
    obtain ⟨done, ok, m, rfl, rfl, hdl, hx⟩ := hrel
    cases ok with
    | false =>
      gi_wp2
      refine ⟨fun _ h => (by cases h), ?_⟩
      gi_wp2
      go_end0
      exact ⟨⟨_, rfl⟩, .inl ⟨done, by first | exact hx.out.2.2.2.1 rfl | exact hx.out.2.2.2.1 trivial, hx.out.1⟩⟩
    | true =>
      obtain ⟨hgm, hdT, hfull⟩ := hx.out.2.2.1 rfl
      obtain ⟨am, cm, rfl, sm⟩ := hx.out.2.1.form
      obtain ⟨rs, hrs⟩ := hist_head (T - done.length) m
      have hI : hIs full w.heap.size done (done.length, .slice am m.length cm, m) wr := by
        refine ⟨rfl, ?_, hx.out.2.1, hgm, fun y hy k hk => (hx.out.2.2.2.2.1 y hy k hk).1⟩
        rw [hLs_snoc]
        exact ⟨rs, by rw [← hfull, hrs]; simp⟩
      obtain ⟨fn, tmps, assign, body, hy, hR⟩ := hY done _ wr hx.out.1 hI
      dsimp only [hEnc] at hy
      have HXW := hid (fun y hy k hk => (hx.out.2.2.2.2.1 y hy k hk).2)
      have HXB := hid (hx.out.2.1.lt)
      have HXZ := hid hx.out.2.2.2.2.2.2
      have HXC := hid (hx.out.2.2.2.2.2.1)
      have HFU := hid hfull
      have HRS := hid hrs
      have hlm := good_le hgm
      have HIX := hid hI
      have HOX := hid hx.out.2.1
      clear hx hfull hrs hI
      gi_wp2
      refine hR.mono ?_
      rintro e W3 (⟨rfl, hJ3, hk3⟩ | ⟨rfl, hJx3⟩)
      · have O3 := hid (hk3.own HOX.out)
        have S3 := hid (O3.out.seg)
        have C3 : W3.cell? ⟨c, 0, none⟩ = some (.int .i64 (T : Int)) := (World.cell?_of_block hk3.2.2.2).trans HXC.out
        have Z3 := hid hk3.1
        have HJ3 := hid hJ3
        clear hy hR hJ3 hk3 HOX HXC
        by_cases hlt : done.length < T
        · have k0 : (done.length : Int) < (T : Int) := by omega
          have HC := hid (c_iStepCells am m cm W3 S3.out (by omega))
          have HSO : Hid (stepOk m = good (pickL (nxtB m)) ∧ stepL m = tellV (pickL (nxtB m))) := by simp [Hid, stepOk, stepL, hgm]
          have HC3 := hid C3
          have hz1 : w.heap.size ≤ W3.heap.size := Nat.le_trans HW.out.size (Nat.le_trans HXZ.out Z3.out)
          have hz2 : c < W3.heap.size := Nat.lt_of_lt_of_le hcW (Nat.le_trans HXZ.out Z3.out)
          have hz3 : W.heap.size ≤ W3.heap.size := Nat.le_trans HXZ.out Z3.out
          gi_wp2_with (refine ⟨trivial, ?_⟩; gi_at_call 36; refine (callsIn_wide.2 HC.out).mono ?_; rintro e w4 ⟨v4, rfl, o4, b4⟩; have O4 := hid o4; have B4 := hid b4; clear o4 b4)
          go_roundw
          case rel =>
            refine ⟨done ++ [(done.length, .slice am m.length cm, m)], stepOk m, stepL m, rfl, by simp, by simp; omega, show _ ∧ _ from ⟨hJ _ _ _ none HJ3.out (grown_of_below B4.out none) (fun r e => by cases e), O4.out.mono hz1, fun h => ?_, fun h => ?_, ?_, (B4.out.cell (p := ⟨c, 0, none⟩) hz2).trans HC3.out, Nat.le_trans hz3 B4.out.size⟩⟩
            · obtain ⟨e1, e2⟩ := HSO.out
              rw [h] at e1
              have e3 : nxtO m = some (stepL m) := by rw [e2]; unfold nxtO tellV; rw [← e1]; rfl
              refine ⟨nxtO_good e3, by simp; omega, ?_⟩
              rw [hLs_snoc, ← HFU.out, show T - done.length = T - (done ++ [(done.length, Value.slice am m.length cm, m)]).length + 1 by simp; omega, hist_some e3]
              simp
            · obtain ⟨e1, e2⟩ := HSO.out
              rw [h] at e1
              have e3 : nxtO m = none := by unfold nxtO; rw [← e1]; rfl
              rw [hLs_snoc, ← HFU.out, hist_none e3]
            · intro y hy k hk
              have hlt2 : k < W3.heap.size := by
                rcases List.mem_append.1 hy with h | h
                · exact Nat.lt_of_lt_of_le (HXW.out y h k hk) Z3.out
                · rw [List.mem_singleton] at h
                  subst h
                  exact Nat.lt_of_lt_of_le (HXB.out k hk).2 Z3.out
              refine ⟨fun e => ?_, Nat.lt_of_lt_of_le hlt2 B4.out.size⟩
              have := (O4.out.lt k e).1
              omega
          case measure => simp [intOf]; omega
        · have k0 : ¬ (done.length : Int) < (T : Int) := by omega
          gi_wp2
          go_end0
          refine ⟨⟨_, rfl⟩, .inl ⟨_, ?_, HJ3.out⟩⟩
          rw [hLs_snoc, ← HFU.out, show T - done.length = 0 by omega, hist_zero]
      · gi_wp2
        go_end0
        exact ⟨⟨_, rfl⟩, .inr ⟨_, HIX.out.2.1, hJx3⟩⟩
end Go.Proofs.Ytgppcocfnbalfaa
