/- Texts of this seat, one behind the other: Hist, SPer, StO, RgC, HMk. -/
import Derived.Test.YtgfdkolhldbehaaKh
import Derived.Test.YtgfdkolhldbehaaKe
import Derived.Test.YtgfdkolhldbehaaKf
import Derived.RangeFuncNested
import Derived.RangeFuncBound
import Derived.RangeFuncCalls
import Derived.RangeFuncLeaves
import Derived.RangeFuncBox
import Derived.Shelf.Abstract
import Derived.Shelf.RegionOpen
import Derived.OwnWalkIn
import Derived.TacticsInMore
import Derived.LoopNIn
import Derived.LoopIn
namespace Go.Proofs.Ytgfdkolhldbehaa
open Go.RowKit
set_option linter.unusedVariables false
set_option linter.unusedSimpArgs false

/-- A row of one slice. -/
theorem OwnH.one {w : World} {base : Nat} {u : Value} {l : List Cl} (hu : OwnS w base u l) (hb : base ≤ w.heap.size) : OwnH (w.alloc (.cells #[u] 23)) base (.slice (some ⟨w.heap.size, 0, none⟩) 1 1) [u] [l] := by
  refine ⟨rfl, ?_, fun i hi => ?_, fun i j hij hj => by simp at hj; omega⟩
  · exact World.ownsRow_lit (base := base) (e := 23) (size := 1) w #[u] 1 hb (by unfold maxLen; omega) rfl
  · have h0 : i = 0 := by simpa using hi
    subst h0
    exact hu.below ((Below.refl _ _).alloc (Nat.le_refl _) _)
theorem cell_one' (w : World) (u : Value) (t : TypeId) : (w.alloc (.cells #[u] t)).cell? ⟨w.heap.size, 0, none⟩ = some u := by unfold World.cell?; rw [heap_alloc_new]; rfl

set_option maxHeartbeats 4000000 in
set_option maxRecDepth 100000 in
theorem c_l7History (a : Option Addr) (l : List Cl) (ca T : Nat) (w : World) (ha : Seg w a l) (hca : a = none → ca = 0) (hg : good l = true) (hT : T ≤ 20) :
    Calls Try.prog 62 #[.slice a l.length ca, .int .i64 (T : Int)] w fun e w' => ∃ v vs, e = .returned v ∧ OwnH w' w.heap.size v vs (hist T l) ∧ Below w.heap.size w w' := by
  have hle := good_le hg
  have HG := hid hg
  have HB0 := hid ((Below.refl w.heap.size w).alloc (Nat.le_refl _) (.cells #[] 36))
  have HO0 := hid (slice_empty_build w)
  have HA0 := hid (ha.below HB0.out)
  have HA := hid ha
  clear ha hg
  go_enter Try.func62, Try.ntmps62
  go_wp2_with (at_builtin; refine wpList_app' rfl _ _ rfl w.heap.size _ [] l a l.length ca rfl HO0.out rfl rfl HA0.out hca (by simp; omega) HB0.out.size ?_; intro v2 w2 hO2 hG2; have HB2 := hid (below_grown HB0.out HO0.out hG2); rw [List.nil_append] at hO2; obtain ⟨a2, c2, rfl, s2⟩ := hO2.form; have HO2 := hid hO2; clear hO2 hG2 s2)
  have HH := hid (OwnH.one HO2.out HB2.out.size)
  have HB3 := hid (HB2.out.alloc HB2.out.size (.cells #[.slice a2 l.length c2] 23))
  have HA3 := hid (HA.out.below HB3.out)
  clear HO2 HB2 HA HA0 HB0 HO0
  generalize w2.alloc (.cells #[.slice a2 l.length c2] 23) = w3 at *
  generalize Value.slice (some ⟨w2.heap.size, 0, none⟩) 1 1 = ov at *
  go_loopw [0, 5, 6] (fun lv ov kv wr => ∃ (k : Nat) (m : List Cl) (a' : Option Addr) (c' : Nat) (vs : List Value) (H : List (List Cl)), k ≤ T ∧ lv = .slice a' m.length c' ∧ kv = .int .i64 (k : Int) ∧ Hid (Seg wr a' m ∧ (a' = none → c' = 0) ∧ good m = true ∧ OwnH wr w.heap.size ov vs (H ++ [m]) ∧ H ++ hist (T - k) m = hist T l ∧ H.length = k ∧ Below w.heap.size w wr)) (fun _ _ kv _ => T - (intOf kv).toNat)
  case atStart => exact ⟨0, l, a, ca, _, [], by omega, rfl, rfl, show _ ∧ _ from ⟨HA3.out, hca, HG.out, HH.out, by simp, rfl, HB3.out⟩⟩
  case round =>
    clear HA3 HH HB3
    obtain ⟨k, m, a', c', vs, H, hk, rfl, rfl, hx⟩ := hrel
    have hml := good_le hx.out.2.2.1
    by_cases hlt : k < T
    · have k0 : (k : Int) < (T : Int) := by omega
      go_wp2_with fail
      refine (c_l1StepO a' m c' _ hx.out.1 hx.out.2.2.1).mono ?_
      rintro e w3' ⟨v3, m3, rfl, hS3, hr3, hm3, hl3, hb3⟩
      obtain ⟨a3, c3, rfl, hs3⟩ := hS3.form
      have hc3 := hS3.cap0
      have HP := hid (pickL_eq hr3 hm3)
      have HS3 := hid hs3
      have HO3 := hid hS3
      have HB3 := hid hb3
      clear hS3 hr3 hm3 hs3 hb3
      cases hg3 : good m3
      · have HV : Hid (hist T l = H ++ [m]) := by
          have h1 := hx.out.2.2.2.2.1
          have h2 : nxtO m = none := by unfold nxtO; rw [HP.out, hg3]; rfl
          rw [hist_none h2] at h1
          exact h1.symm
        go_wp2_with fail
        refine (c_sGood' a3 m3 c3 false hg3 _ HS3.out (by omega)).mono ?_
        rintro e w4 ⟨rfl, hb4⟩
        go_wp2
        go_ret
        refine ⟨_, vs, rfl, ?_, ?_⟩
        · rw [HV.out]; exact (hx.out.2.2.2.1.below HB3.out).below hb4
        · exact hx.out.2.2.2.2.2.2.trans ((HB3.out.trans (hb4.mono HB3.out.size)).mono hx.out.2.2.2.2.2.2.size)
      · have HV : Hid (hist (T - k) m = m :: hist (T - (k + 1)) m3) := by
          have h2 : nxtO m = some m3 := by unfold nxtO; rw [HP.out, hg3]; rfl
          show _ = _
          rw [show T - k = T - (k + 1) + 1 by omega, hist_some h2]
        have hl3' := good_le hg3
        have hHL : Hid (H.length ≤ 20) := hid (by have := hx.out.2.2.2.2.2.1; omega)
        go_wp2_with fail
        refine (c_sGood' a3 m3 c3 true hg3 _ HS3.out (by omega)).mono ?_
        rintro e w4 ⟨rfl, hb4⟩
        have HB4 := hid (hx.out.2.2.2.2.2.2.trans ((HB3.out.trans (hb4.mono HB3.out.size)).mono hx.out.2.2.2.2.2.2.size))
        have HS4 := hid (HS3.out.below hb4)
        have HO4 := hid (HO3.out.below hb4)
        have HH4 := hid ((hx.out.2.2.2.1.below HB3.out).below hb4)
        have HB5 := hid ((Below.refl w4.heap.size w4).alloc (Nat.le_refl _) (.cells #[] 36))
        have HO5 := hid (slice_empty_build w4)
        have HS5 := hid (HS4.out.below HB5.out)
        have HX := hid (show H ++ hist (T - k) m = hist T l ∧ H.length = k from ⟨hx.out.2.2.2.2.1, hx.out.2.2.2.2.2.1⟩)
        clear hb4 HB3 HS3 hx
        go_wp2_with (first
          | (at_builtin; refine wpList_app' rfl _ _ rfl w4.heap.size _ [] m3 a3 m3.length c3 rfl HO5.out rfl rfl HS5.out hc3 (by simp; omega) HB5.out.size ?_; intro v6 w6 hO6 hG6; have HB6 := hid (below_grown HB5.out HO5.out hG6); rw [List.nil_append] at hO6; obtain ⟨a6, c6, rfl, s6⟩ := hO6.form; have HO6 := hid hO6; have HB7 := hid (HB6.out.alloc HB6.out.size (.cells #[.slice a6 m3.length c6] 23)); have HO7 := hid ((HO6.out.below ((Below.refl w6.heap.size w6).alloc (Nat.le_refl _) (.cells #[.slice a6 m3.length c6] 23)))); have HC7 := hid (cell_one' w6 (.slice a6 m3.length c6) 23); clear hO6 hG6 s6)
          | (at_builtin; refine wpList_appH rfl _ _ rfl w.heap.size _ vs (H ++ [m]) (.slice a6 m3.length c6) m3 ⟨w6.heap.size, 0, none⟩ rfl (HH4.out.below HB7.out) rfl HC7.out rfl (HO7.out.mono HB4.out.size) (fun i hi k hk e => by have h1 := ((HH4.out.each i hi).lt k hk).2; have h2 := (HO7.out.lt k e).1; omega) (by simp; have := hHL.out; omega) (Nat.le_trans HB4.out.size HB7.out.size) ?_; intro v8 w8 hO8 hG8; have HO8 := hid hO8; have HS8 := hid (own_rowkept (HH4.out.below HB7.out).row hG8 (HO4.out.below HB7.out)); have HB8 := hid (below_row (HB4.out.trans (HB7.out.mono HB4.out.size)) hG8 (fun k hk => (HH4.out.lt k hk).1)); clear hO8 hG8))
        go_roundw
        case rel =>
          refine ⟨k + 1, m3, a3, c3, vs ++ [.slice a6 m3.length c6], H ++ [m], by omega, rfl, by go_num, ?_⟩
          exact show _ ∧ _ from ⟨HS8.out.seg, hc3, hg3, HO8.out, by rw [← HX.out.1, HV.out]; simp, by simp [HX.out.2], HB8.out⟩
        case measure => simp [intOf]; omega
    · have k0 : ¬ (k : Int) < (T : Int) := by omega
      have HV : Hid (hist T l = H ++ [m]) := by
        have h1 := hx.out.2.2.2.2.1
        rw [show T - k = 0 by omega, hist_zero] at h1
        exact h1.symm
      go_wp2
      go_ret
      have HZ := hid hx.out.2.2.2.1
      rw [← HV.out] at HZ
      first | exact ⟨_, vs, rfl, HZ.out, hx.out.2.2.2.2.2.2⟩ | exact ⟨_, rfl, ⟨vs, HZ.out⟩, hx.out.2.2.2.2.2.2⟩

theorem c_l7Good (a : Option Addr) (l : List Cl) (ca : Nat) (t : Int) (w : World) (ha : Seg w a l) (hl : l.length ≤ 1048576) :
    Calls Try.prog 61 #[.slice a l.length ca, .int .i64 t] w fun e w' => e = .returned (.bool (good l && inMo t)) ∧ Below w.heap.size w w' := by
  have HC := hid (c_sGood a l ca w ha hl)
  have HI := hid (fun W => c_l1In t 1 20 W)
  have HV := hid (show inMo t = (decide (1 ≤ t) && decide (t ≤ 20)) from rfl)
  cases hg : good l
  · rw [hg] at HC
    go_enter Try.func61, Try.ntmps61
    go_wp2_with fail
    refine HC.out.mono ?_
    rintro e w1 ⟨rfl, b1⟩
    go_wp2
    go_ret
    exact ⟨by simp, b1⟩
  · rw [hg] at HC
    rw [← HV.out] at HI
    generalize inMo t = q at *
    go_enter Try.func61, Try.ntmps61
    go_wp2_with fail
    refine HC.out.mono ?_
    rintro e w1 ⟨rfl, b1⟩
    go_wp2_with fail
    refine (HI.out _).mono ?_
    rintro e w2 ⟨rfl, rfl⟩
    go_wp2
    go_ret
    exact ⟨by simp, b1⟩

end Go.Proofs.Ytgfdkolhldbehaa

namespace Go.Proofs.Ytgfdkolhldbehaa
open Go.RowKit
set_option linter.unusedVariables false
set_option linter.unusedSimpArgs false

theorem histG_good {l : List Cl} {t : Int} {i : Nat} (hi : i < (histG l t).length) : good (ht (histG l t) i) = true := by
  unfold histG at hi ⊢
  split at hi
  · rename_i h
    rw [if_pos h]
    rw [Bool.and_eq_true] at h
    exact hist_good h.1 _ (ht_in hi)
  · simp at hi

end Go.Proofs.Ytgfdkolhldbehaa

namespace Go.Proofs.Ytgfdkolhldbehaa
open Go.RowKit Go.Shelf
set_option linter.unusedVariables false
set_option linter.unusedSimpArgs false
attribute [local go_sem] Oper.semAt_some

/-- What is handed on: the number of steps, the slice, the cells in it. -/
abbrev Hnd := Nat × Value × List Cl
def hEnc (x : Hnd) : Array Value := #[.int .i64 (x.1 : Int), x.2.1]
/-- The lists that have been handed on. -/
def hLs (d : List Hnd) : List (List Cl) := d.map (fun x => x.2.2)
theorem hLs_snoc (d : List Hnd) (x : Hnd) : hLs (d ++ [x]) = hLs d ++ [x.2.2] := by simp [hLs]
theorem hLs_length (d : List Hnd) : (hLs d).length = d.length := by simp [hLs]
/-- What is known of what is handed on, when it is. -/
def hIs (full : List (List Cl)) (n₀ : Nat) (d : List Hnd) (x : Hnd) (W : World) : Prop :=
  x.1 = d.length ∧ hLs (d ++ [x]) <+: full ∧ OwnS W n₀ x.2.1 x.2.2 ∧ good x.2.2 = true ∧ ∀ y ∈ d, ∀ k, y.2.1.ownBlock = some k → x.2.1.ownBlock ≠ some k
/-- What a round keeps: rows of cells, and the iterator's own two boxes. -/
def hKp (b c : Nat) (A B : World) : Prop :=
  A.heap.size ≤ B.heap.size ∧ (∀ (k : Nat) (cs : Array Value) (f : Nat × Nat), A.heap[k]? = some (Obj.cells cs 36 f) → B.heap[k]? = some (Obj.cells cs 36 f)) ∧ B.heap[b]? = A.heap[b]? ∧ B.heap[c]? = A.heap[c]?
theorem hKp.trans {b c : Nat} {A B C : World} (h : hKp b c A B) (k : hKp b c B C) : hKp b c A C :=
  ⟨Nat.le_trans h.1 k.1, fun i cs f hi => k.2.1 i cs f (h.2.1 i cs f hi), k.2.2.1.trans h.2.2.1, k.2.2.2.trans h.2.2.2⟩
theorem hKp.other {b c : Nat} {w : World} (hb : b < w.heap.size) (hc : c < w.heap.size) (W : World) (l : Nat) (o o' : Obj) (hl : w.heap.size ≤ l) (h : W.heap[l]? = some o) (ho : o.isCells = false) : hKp b c W (W.putObj l o') := by
  refine ⟨by simp, fun k cs f hk => ?_, World.putObj_heap_other (by omega), World.putObj_heap_other (by omega)⟩
  rw [World.putObj_heap_other]
  · exact hk
  · intro e; subst e; rw [h] at hk; cases hk; cases ho
theorem hKp.below {b c : Nat} {A B : World} (h : Below A.heap.size A B) (hb : b < A.heap.size) (hc : c < A.heap.size) : hKp b c A B :=
  ⟨h.size, fun k cs f hk => (h.block k (Array.getElem?_eq_some_iff.1 hk).1).trans hk, h.block b hb, h.block c hc⟩
theorem hKp.own {b c base : Nat} {A B : World} {v : Value} {l : List Cl} (h : hKp b c A B) (ho : OwnS A base v l) : OwnS B base v l := by
  refine ⟨ho.1, ?_⟩
  rcases ho.2 with hn | ⟨g, cap, cur, rfl, hb, hg, rest⟩
  · exact .inl hn
  · exact .inr ⟨g, cap, cur, rfl, hb, h.2.1 g cur _ hg, rest⟩

theorem hIs.own (full : List (List Cl)) (n₀ B : Nat) : OwnFrom B (fun (s : List Hnd × Hnd) W => hIs full n₀ s.1 s.2 W) := by
  rintro s W W' row ⟨h1, h2, h3, h4, h5⟩ hg hr
  exact ⟨h1, h2, ownS_other h3 hg (fun r e => (hr r e).2), h4, h5⟩

/-- All that the iterator hands on. -/
noncomputable def hFull (T : Nat) (l : List Cl) : List (List Cl) := if good l then hist T l else []

theorem hist_head (n : Nat) (l : List Cl) : ∃ r, hist n l = l :: r := by
  cases n with
  | zero => exact ⟨[], rfl⟩
  | succ n => exact ⟨_, rfl⟩

set_option maxHeartbeats 1000000 in
theorem c_stepsOf (a : Option Addr) (n ca : Nat) (t : Int) (w : World) :
    Calls Try.prog 59 #[.slice a n ca, .int .i64 t] w fun e w' =>
      e = .returned (.func (.func 111) #[] #[.pointer (some ⟨w.heap.size, 0, none⟩), .pointer (some ⟨w.heap.size + 1, 0, none⟩)]) ∧ w' = (w.alloc (.cells #[.slice a n ca] 23)).alloc (.cells #[.int .i64 t] 3) := by
  have hmf : ∀ (fn : Fn) (first cap : Array Value) (w : World), (Instr.makeFunc fn first cap).run Try.prog w = .ok (.func fn first cap) w := fun _ _ _ _ => rfl
  go_enter Try.func59, Try.ntmps59
  go_wp2
  go_ret
  exact ⟨rfl, rfl⟩

set_option maxHeartbeats 4000000 in
set_option maxRecDepth 100000 in
/-- The word of the iterator. -/
theorem seq_steps (n b c : Nat) (hn : 1 ≤ n) (a : Option Addr) (l : List Cl) (ca T : Nat) (w : World) (hT : T ≤ 20) (ha : Seg w a l) (hca : a = none → ca = 0) (hl : l.length ≤ 1048576)
    (hb : w.cell? ⟨b, 0, none⟩ = some (.slice a l.length ca)) (hblt : b < w.heap.size) (hc : w.cell? ⟨c, 0, none⟩ = some (.int .i64 (T : Int))) (hclt : c < w.heap.size) :
    SeqR Fence.wide n Try.prog 111 #[.pointer (some ⟨b, 0, none⟩), .pointer (some ⟨c, 0, none⟩)] hEnc (hIs (hFull T l) w.heap.size) (hKp b c) (fun xs => hLs xs = hFull T l) (fun xs => hLs xs <+: hFull T l) w := by
  intro L J Jx W hW hJ hJx hY h0
  have hb' := (hW.cell (p := ⟨b, 0, none⟩) hblt).trans hb
  have hc' := (hW.cell (p := ⟨c, 0, none⟩) hclt).trans hc
  have HA := hid (ha.below hW)
  have HW := hid hW
  have HCT := hid (fun (W1 : World) (h : Seg W1 a l) => c_iStepTimes a l ca 0 W1 h hca hl)
  have HV : Hid ((timesOk l 0 = true → timesL l 0 = l ∧ good l = true ∧ hFull T l = hist T l) ∧ (timesOk l 0 = false → hFull T l = [])) := by
    cases hg : good l
    · have : timesOk l 0 = false := by simp [timesOk, hg]
      exact hid ⟨(fun h => by rw [this] at h; cases h), (fun _ => by simp [hFull, hg])⟩
    · have := times_zero hg
      exact hid ⟨(fun _ => ⟨this.2, rfl, by simp [hFull, hg]⟩), (fun h => by rw [this.1] at h; cases h)⟩
  have HFL := hid (show (hFull T l).length ≤ 21 by unfold hFull; split; · have := hist_le T l; omega
                                                   · simp)
  generalize timesOk l 0 = tok at *
  generalize timesL l 0 = tl at *
  generalize hF : hFull T l = full at *
  clear hF hb hc ha hW
  refine callsIn_of_wp Try.func111 rfl trivial ?_ rfl
  simp only [Try.ntmps111, List.size_toArray, List.length_cons, List.length_nil, Nat.reduceAdd, Nat.reduceSub, Array.replicate_succ, Array.replicate_zero, List.push_toArray, List.append_toArray, List.nil_append, List.cons_append]
  gi_wp2_with (refine ⟨trivial, ?_⟩; gi_at_call 16; refine (callsIn_wide.2 (HCT.out _ HA.out)).mono ?_; rintro e w1 ⟨v1, rfl, o1, b1⟩)
  have hbW : b < W.heap.size := Nat.lt_of_lt_of_le hblt HW.out.size
  have hcW : c < W.heap.size := Nat.lt_of_lt_of_le hclt HW.out.size
  have C1 := hid ((b1.cell (p := ⟨c, 0, none⟩) hcW).trans hc')
  have J1 := hid (hJ _ _ _ none h0 (grown_of_below b1 none) (fun r e => by cases e))
  have O1 := hid (o1.mono HW.out.size)
  have Z1 := hid b1.size
  clear hb' hc' HA HCT o1 b1
  gi_loopw [4, 5, 6] (fun nv ov kv wr => ∃ (done : List Hnd) (ok : Bool) (m : List Cl), ov = .bool ok ∧ kv = .int .i64 (done.length : Int) ∧ done.length ≤ T + 1 ∧ Hid (J done wr ∧ OwnS wr w.heap.size nv m ∧ (ok = true → good m = true ∧ done.length ≤ T ∧ hLs done ++ hist (T - done.length) m = full) ∧ (ok = false → hLs done = full) ∧ (∀ y ∈ done, ∀ k, y.2.1.ownBlock = some k → nv.ownBlock ≠ some k ∧ k < wr.heap.size) ∧ wr.cell? ⟨c, 0, none⟩ = some (.int .i64 (T : Int)) ∧ W.heap.size ≤ wr.heap.size)) (fun _ _ kv _ => T + 1 - (intOf kv).toNat)
  case atStart =>
    refine ⟨[], tok, tl, rfl, rfl, by simp, show _ ∧ _ from ⟨J1.out, O1.out, fun h => ?_, fun h => ?_, (fun y hy => by cases hy), C1.out, Z1.out⟩⟩
    · obtain ⟨e1, e2, e3⟩ := HV.out.1 h
      rw [e1]
      exact ⟨e2, by simp, by simp [hLs, e3]⟩
    · exact (HV.out.2 h).symm
  case round =>
    clear J1 O1 C1 Z1 HV
    obtain ⟨done, ok, m, rfl, rfl, hdl, hx⟩ := hrel
    cases ok with
    | false =>
      gi_wp2
      refine ⟨fun _ h => (by cases h), ?_⟩
      gi_wp2
      go_end0
      exact ⟨⟨_, rfl⟩, .inl ⟨done, by first | exact hx.out.2.2.2.1 rfl | exact hx.out.2.2.2.1 trivial, hx.out.1⟩⟩
    | true =>
      obtain ⟨hgm, hdT, hfull⟩ := hx.out.2.2.1 rfl
      obtain ⟨am, cm, rfl, sm⟩ := hx.out.2.1.form
      obtain ⟨rs, hrs⟩ := hist_head (T - done.length) m
      have hI : hIs full w.heap.size done (done.length, .slice am m.length cm, m) wr := by
        refine ⟨rfl, ?_, hx.out.2.1, hgm, fun y hy k hk => (hx.out.2.2.2.2.1 y hy k hk).1⟩
        rw [hLs_snoc]
        exact ⟨rs, by rw [← hfull, hrs]; simp⟩
      obtain ⟨fn, tmps, assign, body, hy, hR⟩ := hY done _ wr hx.out.1 hI
      dsimp only [hEnc] at hy
      have HXW := hid (fun y hy k hk => (hx.out.2.2.2.2.1 y hy k hk).2)
      have HXB := hid (hx.out.2.1.lt)
      have HXZ := hid hx.out.2.2.2.2.2.2
      have HXC := hid (hx.out.2.2.2.2.2.1)
      have HFU := hid hfull
      have HRS := hid hrs
      have hlm := good_le hgm
      have HIX := hid hI
      have HOX := hid hx.out.2.1
      clear hx hfull hrs hI
      gi_wp2
      refine hR.mono ?_
      rintro e W3 (⟨rfl, hJ3, hk3⟩ | ⟨rfl, hJx3⟩)
      · have O3 := hid (hk3.own HOX.out)
        have S3 := hid (O3.out.seg)
        have C3 : W3.cell? ⟨c, 0, none⟩ = some (.int .i64 (T : Int)) := (World.cell?_of_block hk3.2.2.2).trans HXC.out
        have Z3 := hid hk3.1
        have HJ3 := hid hJ3
        clear hy hR hJ3 hk3 HOX HXC
        by_cases hlt : done.length < T
        · have k0 : (done.length : Int) < (T : Int) := by omega
          have HC := hid (c_iStepCells am m cm W3 S3.out (by omega))
          have HSO : Hid (stepOk m = good (pickL (nxtB m)) ∧ stepL m = tellV (pickL (nxtB m))) := by simp [Hid, stepOk, stepL, hgm]
          have HC3 := hid C3
          have hz1 : w.heap.size ≤ W3.heap.size := Nat.le_trans HW.out.size (Nat.le_trans HXZ.out Z3.out)
          have hz2 : c < W3.heap.size := Nat.lt_of_lt_of_le hcW (Nat.le_trans HXZ.out Z3.out)
          have hz3 : W.heap.size ≤ W3.heap.size := Nat.le_trans HXZ.out Z3.out
          gi_wp2_with (refine ⟨trivial, ?_⟩; gi_at_call 25; refine (callsIn_wide.2 HC.out).mono ?_; rintro e w4 ⟨v4, rfl, o4, b4⟩; have O4 := hid o4; have B4 := hid b4; clear o4 b4)
          go_roundw
          case rel =>
            refine ⟨done ++ [(done.length, .slice am m.length cm, m)], stepOk m, stepL m, rfl, by simp, by simp; omega, show _ ∧ _ from ⟨hJ _ _ _ none HJ3.out (grown_of_below B4.out none) (fun r e => by cases e), O4.out.mono hz1, fun h => ?_, fun h => ?_, ?_, (B4.out.cell (p := ⟨c, 0, none⟩) hz2).trans HC3.out, Nat.le_trans hz3 B4.out.size⟩⟩
            · obtain ⟨e1, e2⟩ := HSO.out
              rw [h] at e1
              have e3 : nxtO m = some (stepL m) := by rw [e2]; unfold nxtO tellV; rw [← e1]; rfl
              refine ⟨nxtO_good e3, by simp; omega, ?_⟩
              rw [hLs_snoc, ← HFU.out, show T - done.length = T - (done ++ [(done.length, Value.slice am m.length cm, m)]).length + 1 by simp; omega, hist_some e3]
              simp
            · obtain ⟨e1, e2⟩ := HSO.out
              rw [h] at e1
              have e3 : nxtO m = none := by unfold nxtO; rw [← e1]; rfl
              rw [hLs_snoc, ← HFU.out, hist_none e3]
            · intro y hy k hk
              have hlt2 : k < W3.heap.size := by
                rcases List.mem_append.1 hy with h | h
                · exact Nat.lt_of_lt_of_le (HXW.out y h k hk) Z3.out
                · rw [List.mem_singleton] at h
                  subst h
                  exact Nat.lt_of_lt_of_le (HXB.out k hk).2 Z3.out
              refine ⟨fun e => ?_, Nat.lt_of_lt_of_le hlt2 B4.out.size⟩
              have := (O4.out.lt k e).1
              omega
          case measure => simp [intOf]; omega
        · have k0 : ¬ (done.length : Int) < (T : Int) := by omega
          gi_wp2
          go_end0
          refine ⟨⟨_, rfl⟩, .inl ⟨_, ?_, HJ3.out⟩⟩
          rw [hLs_snoc, ← HFU.out, show T - done.length = 0 by omega, hist_zero]
      · gi_wp2
        go_end0
        exact ⟨⟨_, rfl⟩, .inr ⟨_, HIX.out.2.1, hJx3⟩⟩
end Go.Proofs.Ytgfdkolhldbehaa

namespace Go.Proofs.Ytgfdkolhldbehaa
open Go.RowKit Go.Shelf
set_option linter.unusedVariables false
set_option linter.unusedSimpArgs false

theorem c_isMost (t : Int) (w : World) : Calls Try.prog 58 #[.int .i64 t] w fun e w' => e = .returned (.bool (inMo t)) ∧ w' = w := by
  by_cases h1 : 1 ≤ t <;> by_cases h2 : t ≤ 20
  all_goals
    go_enter Try.func58, Try.ntmps58
    go_wp2
    go_ret
    exact ⟨ret_bool (by simp [inMo, h1, h2] <;> omega), rfl⟩

theorem boxed_other {W W' : World} {row : Option Nat} {B : Nat} {t : TypeId} {v : Value} (h : Boxed W B t v) (hg : W.grownBy W' row) (hr : ∀ r, row = some r → ∃ o : Obj, W.heap[r]? = some o ∧ o.isCells = false) : Boxed W' B t v :=
  h.kept hg fun e => by
    obtain ⟨o, ho, hc⟩ := hr B e.symm
    rw [show W.heap[B]? = _ from h] at ho; cases ho; cases hc
theorem boxed_below {W W' : World} {B : Nat} {t : TypeId} {v : Value} (h : Boxed W B t v) (hb : Below W.heap.size W W') : Boxed W' B t v := (hb.block B h.lt).trans h
theorem boxed_ne {W : World} {B b : Nat} {t : TypeId} {v u : Value} (h : Boxed W B t v) (hne : B ≠ b) : Boxed (W.setCell ⟨b, 0, none⟩ u) B t v :=
  h.kept (grownBy_setCell' W b u) (by simp; exact hne)
theorem keeps_below {W W' : World} (hb : Below W.heap.size W W') : KeepsOthers W W' := ⟨hb.size, fun k o hk _ => (hb.block k (Array.getElem?_eq_some_iff.1 hk).1).trans hk⟩
theorem pre_ht {A F : List (List Cl)} (h : A <+: F) {i : Nat} (hi : i < A.length) : ht F i = ht A i := by
  obtain ⟨r, rfl⟩ := h
  simp [ht, List.getElem?_append_left hi]
theorem pre_le {A F : List (List Cl)} (h : A <+: F) : A.length ≤ F.length := h.length_le
theorem hFull_good {T : Nat} {l : List Cl} {x : List Cl} {A : List (List Cl)} (h : A ++ [x] <+: hFull T l) : good l = true := by
  cases hg : good l
  · have := pre_le h
    simp [hFull, hg] at this
  · rfl
theorem hFull_is {T : Nat} {l : List Cl} (h : inMo (T : Int) = true) : hFull T l = histG l (T : Int) := by
  cases hg : good l <;> simp [hFull, histG, hg, h]
/-- A store into a box of its own type keeps what a round is to keep. -/
theorem hKp.set {b c B : Nat} {W : World} {t : TypeId} {v u : Value} (h : Boxed W B t v) (ht : t ≠ 36) (hb : b ≠ B) (hc : c ≠ B) : hKp b c W (W.setCell ⟨B, 0, none⟩ u) := by
  have hg := grownBy_setCell' W B u
  refine ⟨hg.size, fun k cs f hk => ?_, Below.heap_setCell _ _ _ b hb, Below.heap_setCell _ _ _ c hc⟩
  refine (hg.block k (Array.getElem?_eq_some_iff.1 hk).1 (fun e => ?_)).trans hk
  simp only [Option.some.injEq] at e
  subst e
  rw [show W.heap[k]? = _ from h] at hk
  simp only [Option.some.injEq, Obj.cells.injEq] at hk
  exact ht hk.2.1
end Go.Proofs.Ytgfdkolhldbehaa

namespace Go.Proofs.Ytgfdkolhldbehaa
open Go.RowKit
set_option linter.unusedVariables false
set_option linter.unusedSimpArgs false

/-- How many cells the first j lists have together. -/
def totTo (H : List (List Cl)) : Nat → Nat
  | 0 => 0
  | j + 1 => totTo H j + (ht H j).length
theorem totTo_mono (H : List (List Cl)) {i j : Nat} (h : i ≤ j) : totTo H i ≤ totTo H j := by
  induction j with
  | zero => have : i = 0 := by omega
            subst this; exact Nat.le_refl _
  | succ j ih =>
    by_cases e : i = j + 1
    · subst e; exact Nat.le_refl _
    · have := ih (by omega); simp only [totTo]; omega
theorem totTo_le (H : List (List Cl)) (B : Nat) (h : ∀ i, i < H.length → (ht H i).length ≤ B) : ∀ j, j ≤ H.length → totTo H j ≤ j * B
  | 0, _ => by simp [totTo]
  | j + 1, hj => by
    have h1 := totTo_le H B h j (by omega)
    have h2 := h j (by omega)
    simp only [totTo]
    rw [Nat.add_mul]; omega
/-- Lists of which the first j are marked. -/
def mkTo (k : Int) (H : List (List Cl)) : Nat → List (List Cl)
  | 0 => H
  | j + 1 => (mkTo k H j).set j (marks (k + 2 * (totTo H j : Int)) (ht H j).length)
theorem mkTo_length (k : Int) (H : List (List Cl)) : ∀ j, (mkTo k H j).length = H.length
  | 0 => rfl
  | j + 1 => by simp [mkTo, mkTo_length k H j]
theorem mkTo_ht (k : Int) (H : List (List Cl)) : ∀ j i, j ≤ H.length → i < H.length → ht (mkTo k H j) i = if i < j then marks (k + 2 * (totTo H i : Int)) (ht H i).length else ht H i
  | 0, i, _, hi => by simp [mkTo]
  | j + 1, i, hj, hi => by
    rw [mkTo, ht_set (by rw [mkTo_length]; omega), mkTo_ht k H j i (by omega) hi]
    by_cases e : i = j
    · subst e; rw [if_pos rfl, if_pos (by omega)]
    · rw [if_neg e]
      by_cases h : i < j
      · rw [if_pos h, if_pos (by omega)]
      · rw [if_neg h, if_neg (by omega)]

/-- What stands at a place of a row of slices. -/
theorem OwnH.at {w : World} {base n ca j : Nat} {a : Option Addr} {vs : List Value} {H : List (List Cl)} (h : OwnH w base (.slice a n ca) vs H) (hj : j < H.length) :
    ∃ g a' c', a = some ⟨g, 0, none⟩ ∧ n = H.length ∧ g < w.heap.size ∧ va vs j = .slice a' (ht H j).length c' ∧ w.cell? ⟨g, j, none⟩ = some (.slice a' (ht H j).length c') := by
  rcases h.row.2 with ⟨e, hn⟩ | ⟨g, cap, cur, e, hb, hg, _⟩
  · omega
  · simp only [Value.slice.injEq] at e
    obtain ⟨rfl, rfl, rfl⟩ := e
    obtain ⟨a', c', e2, _⟩ := (h.each j hj).form
    refine ⟨g, a', c', rfl, rfl, (Array.getElem?_eq_some_iff.1 hg).1, e2, ?_⟩
    have := World.ownsRow.cellAt h.row j (by omega)
    rw [va_get (by rw [h.len]; exact hj), e2] at this
    exact this

set_option maxHeartbeats 1000000 in
theorem c_markCellSS (a : Option Addr) (ca base : Nat) (vs : List Value) (H : List (List Cl)) (k : Int) (w : World) (h : OwnH w base (.slice a H.length ca) vs H) (hb : base ≤ w.heap.size) (hl : H.length ≤ 100000) (h1 : ∀ i, i < H.length → (ht H i).length ≤ 1048576) (k0 : 0 ≤ k) (k1 : k + 2 * (totTo H H.length : Int) ≤ 16777216) :
    Calls Try.prog 46 #[.slice a H.length ca, .int .i64 k] w fun e w' => e = .returned (.int .i64 (k + 2 * (totTo H H.length : Int))) ∧ OwnH w' base (.slice a H.length ca) vs (mkTo k H H.length) ∧ Below base w w' := by
  have HO := hid h
  have HL := hid h1
  clear h h1
  go_enter Try.func46, Try.ntmps46
  go_wp2
  go_loopw [1, 5] (fun kv iv wr => ∃ j : Nat, j ≤ H.length ∧ iv = .int .i64 (j : Int) ∧ kv = .int .i64 (k + 2 * (totTo H j : Int)) ∧ Hid (OwnH wr base (.slice a H.length ca) vs (mkTo k H j)) ∧ Below base w wr) (fun _ iv _ => H.length - (intOf iv).toNat)
  case atStart => exact ⟨0, Nat.zero_le _, rfl, by simp [totTo], HO.out, Below.refl _ _⟩
  case round =>
    clear HO
    obtain ⟨j, hj, rfl, rfl, hO, hbel⟩ := hrel
    have HB := hid hbel
    clear hbel
    by_cases hlt : j < H.length
    · have hjl : j < (mkTo k H j).length := by rw [mkTo_length]; exact hlt
      have hht : ht (mkTo k H j) j = ht H j := by rw [mkTo_ht k H j j (by omega) hlt, if_neg (by omega)]
      have hat := hO.out.at (j := j) hjl
      rw [hht] at hat
      obtain ⟨g, a', c', e1, -, hgw, e2, hc⟩ := hat
      have hS := hO.out.each j hjl
      rw [hht, e2] at hS
      have HS := hid hS
      have HE := hid e2
      have hm1 := HL.out j hlt
      have hm2 : totTo H j + (ht H j).length ≤ totTo H H.length := totTo_mono H (show j + 1 ≤ H.length by omega)
      have HT : Hid (totTo H (j + 1) = totTo H j + (ht H j).length) := rfl
      subst e1
      clear hS hht e2
      have HMK : Hid (mkTo k H (j + 1) = (mkTo k H j).set j (marks (k + 2 * (totTo H j : Int)) (ht H j).length)) := rfl
      have j0 : (0 : Int) ≤ (j : Int) := by omega
      have j1 : (j : Int) < (H.length : Int) := by omega
      generalize hx : ht H j = x at *
      clear hx
      go_wp2_with fail
      refine (c_mark a' c' base x (k + 2 * (totTo H j : Int)) wr HS.out hm1 (by omega) (by omega)).mono ?_
      rintro e w1 ⟨rfl, hO1, hG1⟩
      have hbz : base ≤ wr.heap.size := Nat.le_trans hb HB.out.size
      have HO1 := hid (hO.out.turn (i := j) hjl (by rw [HE.out]; exact hG1) (by rw [HE.out]; exact hO1))
      have HB1 := hid (HB.out.grown hG1 hbz (fun q e => (HS.out.lt q e).1))
      clear hO1 hG1
      go_wp2
      go_roundw
      case rel =>
        refine ⟨j + 1, by omega, by go_num, ?_, ?_, HB1.out⟩
        · rw [HT.out]; simp only [Value.int.injEq, true_and]; push_cast; omega
        · show OwnH _ _ _ _ _; rw [HMK.out]; exact HO1.out
      case measure => simp [intOf]; omega
    · have hje : j = H.length := by omega
      subst hje
      go_wp2
      go_ret
      exact ⟨rfl, hO.out, HB.out⟩

set_option maxHeartbeats 1000000 in
theorem c_heldCellSS (a : Option Addr) (ca base : Nat) (vs : List Value) (H : List (List Cl)) (k : Int) (w : World) (h : OwnH w base (.slice a H.length ca) vs (mkTo k H H.length)) (hl : H.length ≤ 100000) (h1 : ∀ i, i < H.length → (ht H i).length ≤ 1048576) (k0 : 0 ≤ k) (k1 : k + 2 * (totTo H H.length : Int) ≤ 16777216) :
    Calls Try.prog 47 #[.slice a H.length ca, .int .i64 k] w fun e w' => e = .returned (.int .i64 (k + 2 * (totTo H H.length : Int))) ∧ w' = w := by
  have HO := hid h
  have HL := hid h1
  clear h h1
  go_enter Try.func47, Try.ntmps47
  go_wp2
  go_loop [1, 5] (fun kv iv => ∃ j : Nat, j ≤ H.length ∧ iv = .int .i64 (j : Int) ∧ kv = .int .i64 (k + 2 * (totTo H j : Int))) (fun _ iv => H.length - (intOf iv).toNat)
  case atStart => exact ⟨0, Nat.zero_le _, rfl, by simp [totTo]⟩
  case round =>
    obtain ⟨j, hj, rfl, rfl⟩ := hrel
    by_cases hlt : j < H.length
    · have hjl : j < (mkTo k H H.length).length := by rw [mkTo_length]; exact hlt
      have hht : ht (mkTo k H H.length) j = marks (k + 2 * (totTo H j : Int)) (ht H j).length := by rw [mkTo_ht k H H.length j (by omega) hlt, if_pos hlt]
      have hat := HO.out.at (j := j) hjl
      rw [hht, marks_length] at hat
      obtain ⟨g, a', c', e1, -, hgw, e2, hc⟩ := hat
      have hS := HO.out.each j hjl
      rw [hht, e2] at hS
      have HS := hid hS.seg
      have hm1 := HL.out j hlt
      have hm2 : totTo H j + (ht H j).length ≤ totTo H H.length := totTo_mono H (show j + 1 ≤ H.length by omega)
      have HT : Hid (totTo H (j + 1) = totTo H j + (ht H j).length) := rfl
      subst e1
      clear hS hht e2
      have j0 : (0 : Int) ≤ (j : Int) := by omega
      have j1 : (j : Int) < (H.length : Int) := by omega
      generalize hx : (ht H j).length = x at *
      clear hx
      have hn : ¬ k + 2 * (totTo H j : Int) + 2 * (x : Int) < 0 := by omega
      go_wp2_with fail
      refine (c_held a' c' x (k + 2 * (totTo H j : Int)) _ HS.out hm1 (by omega) (by omega)).mono ?_
      rintro e w1 ⟨rfl, rfl⟩
      go_wp2
      go_round
      case rel =>
        refine ⟨j + 1, by omega, by go_num, ?_⟩
        rw [HT.out]; simp only [Value.int.injEq, true_and]; push_cast; omega
      case measure => simp [intOf]; omega
    · have hje : j = H.length := by omega
      subst hje
      go_wp2
      go_ret
      exact ⟨rfl, rfl⟩
end Go.Proofs.Ytgfdkolhldbehaa
