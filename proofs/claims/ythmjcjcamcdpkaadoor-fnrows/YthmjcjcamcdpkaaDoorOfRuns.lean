/- What both OfRuns and both CountIn answer. -/
import Derived.Test.YthmjcjcamcdpkaaDoorRdI
import Derived.Test.YthmjcjcamcdpkaaDoorRunsOf
namespace Go.Proofs.YthmjcjcamcdpkaaDoor
open Go.RowKit
set_option linter.unusedVariables false

/-- The text of the cells that were read. -/
def backT (s : Tx) : Tx := ⟨(runs (rdAll s).1).toArray⟩
def ofOk (s : Tx) : Bool := decide (s.size ≤ 400) && decide ((rdAll s).2.2 = 0) && decide (backT s = s)
def ofCode (s : Tx) : Nat := if s.size ≤ 400 then (if (rdAll s).2.2 = 0 then (if backT s = s then 0 else 5) else (rdAll s).2.2) else 0
def ofL (s : Tx) : List Cl := if ofOk s then (rdAll s).1 else []
theorem ofL_le (s : Tx) : (ofL s).length ≤ 120 := by
  unfold ofL
  split
  · rename_i h
    simp only [ofOk, Bool.and_eq_true, decide_eq_true_eq] at h
    exact (rdAll_text h.1.2).len
  · simp
theorem of_long {s : Tx} (h : ¬ s.size ≤ 400) : ofOk s = false ∧ ofCode s = 0 ∧ ofL s = [] := by simp [ofOk, ofCode, ofL, h]
theorem of_bad {s : Tx} (h : s.size ≤ 400) (hc : ¬ (rdAll s).2.2 = 0) : ofOk s = false ∧ ofCode s = (rdAll s).2.2 ∧ ofL s = [] := by simp [ofOk, ofCode, ofL, h, hc]
theorem of_form {s : Tx} (h : s.size ≤ 400) (hc : (rdAll s).2.2 = 0) (hb : ¬ backT s = s) : ofOk s = false ∧ ofCode s = 5 ∧ ofL s = [] := by simp [ofOk, ofCode, ofL, h, hc, hb]
theorem of_good {s : Tx} (h : s.size ≤ 400) (hc : (rdAll s).2.2 = 0) (hb : backT s = s) : ofOk s = true ∧ ofCode s = 0 ∧ ofL s = (rdAll s).1 := by simp [ofOk, ofCode, ofL, h, hc, hb]
theorem own_cap {w : World} {base n ca : Nat} {a : Option Addr} {l : List Cl} (h : OwnS w base (.slice a n ca) l) : l.length ≤ ca ∧ ca ≤ maxLen := by
  rcases h.2 with ⟨e, hn⟩ | ⟨g, cap, cur, e, _, _, hcap, hm, _⟩
  · simp only [Value.slice.injEq] at e
    rw [e.2.2]
    exact ⟨by omega, by simp [maxLen]⟩
  · simp only [Value.slice.injEq] at e
    rw [e.2.2]
    exact ⟨hcap, hm⟩

set_option maxHeartbeats 1000000 in
set_option maxRecDepth 100000 in
theorem c_sOfRuns (s : Tx) (w : World) (hm : s.size ≤ maxLen) :
    Calls Tryd.prog 29 #[.string s] w fun e w' => ∃ v, e = .returned (.tuple #[v, .int .i64 (ofCode s : Int), .bool (ofOk s)]) ∧ OwnS w' w.heap.size v (ofL s) ∧ Below w.heap.size w w' := by
  by_cases hs : (s.size : Int) ≤ 400
  · have hs' : s.size ≤ 400 := by omega
    have HC := hid (c_l2Read s w hs')
    have HT := hid (rdAll_text (s := s))
    have HB := hid (of_bad hs')
    have HF := hid (of_form hs')
    have HG := hid (of_good hs')
    have HBT := hid (show backT s = ⟨(runs (rdAll s).1).toArray⟩ from rfl)
    generalize rdAll s = R at *
    obtain ⟨lR, tR, cR⟩ := R
    simp only at HC HT HB HF HG HBT
    generalize ofOk s = ok at *
    generalize ofCode s = code at *
    generalize ofL s = oL at *
    generalize backT s = bT at *
    by_cases hc : cR = 0
    · subst hc
      have HTX := hid (HT.out rfl)
      by_cases hb : bT = s
      · obtain ⟨g1, g2, g3⟩ := HG.out rfl hb
        have hbe : (bT.toList == s.toList) = true := by rw [bytes_beq]; simp [hb]
        subst g1 g2 g3
        clear HB HF HG HT hb
        go_enter Tryd.func29, Tryd.ntmps29
        go_wp2_with fail
        refine HC.out.mono ?_
        rintro e w1 ⟨v1, v2, rfl, hO1, _, hB1⟩
        obtain ⟨av, cv, rfl, hSv⟩ := hO1.form
        have HR := hid (c_l2Runs av oL cv w1 hSv HTX.out)
        rw [← HBT.out] at HR
        have HO1 := hid hO1
        have HB1 := hid hB1
        clear hO1 hSv hB1
        go_wp2_with fail
        refine HR.out.mono ?_
        rintro e w2 ⟨rfl, hB2⟩
        go_wp2
        go_ret3
        exact ⟨_, rfl, HO1.out.below hB2, HB1.out.trans (hB2.mono HB1.out.size)⟩
      · obtain ⟨g1, g2, g3⟩ := HF.out rfl hb
        have hbe : (bT.toList == s.toList) = false := by rw [bytes_beq]; simp [hb]
        subst g1 g2 g3
        clear HB HF HG HT hb
        go_enter Tryd.func29, Tryd.ntmps29
        go_wp2_with fail
        refine HC.out.mono ?_
        rintro e w1 ⟨v1, v2, rfl, hO1, _, hB1⟩
        obtain ⟨av, cv, rfl, hSv⟩ := hO1.form
        have HR := hid (c_l2Runs av lR cv w1 hSv HTX.out)
        rw [← HBT.out] at HR
        have HB1 := hid hB1
        clear hO1 hSv hB1
        go_wp2_with fail
        refine HR.out.mono ?_
        rintro e w2 ⟨rfl, hB2⟩
        go_wp2
        go_ret3
        exact ⟨_, rfl, OwnS.nil _ _, HB1.out.trans (hB2.mono HB1.out.size)⟩
    · obtain ⟨g1, g2, g3⟩ := HB.out hc
      have hc0 : ¬ (cR : Int) = 0 := by omega
      have hc1 : 0 < (cR : Int) := by omega
      have HCB := hid hc
      subst g1 g2 g3
      clear HB HF HG HT hc
      go_enter Tryd.func29, Tryd.ntmps29
      go_wp2_with fail
      refine HC.out.mono ?_
      rintro e w1 ⟨v1, v2, rfl, hO1, _, hB1⟩
      clear hO1
      go_wp2
      go_ret3
      exact ⟨_, rfl, OwnS.nil _ _, hB1⟩
  · have HL := hid (of_long (s := s) (by omega))
    go_enter Tryd.func29, Tryd.ntmps29
    go_wp2
    go_ret3
    exact ⟨_, by rw [HL.out.1, HL.out.2.1]; rfl, by rw [HL.out.2.2]; exact OwnS.nil _ _, Below.refl _ _⟩

set_option maxHeartbeats 1000000 in
set_option maxRecDepth 100000 in
theorem c_iOfRuns (s : Tx) (w : World) (ev : Value) (hm : s.size ≤ maxLen) (hv : w.cell? ⟨1, 0, none⟩ = some ev) (hev : ev = .nilIface ∨ ∃ te pe, ev = .iface te pe) :
    Calls Tryd.prog 26 #[.string s] w fun e w' => ∃ v, e = .returned (.tuple #[v, .int .i64 (ofCode s : Int), .bool (ofOk s)]) ∧ OwnS w' w.heap.size v (ofL s) ∧ Below w.heap.size w w' := by
  by_cases hs : (s.size : Int) ≤ 400
  · have hs' : s.size ≤ 400 := by omega
    have HC := hid (c_readRuns s w ev hs' hv hev)
    have HT := hid (rdAll_text (s := s))
    have HB := hid (of_bad hs')
    have HF := hid (of_form hs')
    have HG := hid (of_good hs')
    have HBT := hid (show backT s = ⟨(runs (rdAll s).1).toArray⟩ from rfl)
    clear hv hev
    generalize rdAll s = R at *
    obtain ⟨lR, tR, cR⟩ := R
    simp only at HC HT HB HF HG HBT
    generalize ofOk s = ok at *
    generalize ofCode s = code at *
    generalize ofL s = oL at *
    generalize backT s = bT at *
    by_cases hc : cR = 0
    · subst hc
      have HTX := hid (HT.out rfl)
      by_cases hb : bT = s
      · obtain ⟨g1, g2, g3⟩ := HG.out rfl hb
        have hbe : (bT.toList == s.toList) = true := by rw [bytes_beq]; simp [hb]
        subst g1 g2 g3
        clear HB HF HG HT hb
        go_enter Tryd.func26, Tryd.ntmps26
        go_wp2_with fail
        refine HC.out.mono ?_
        rintro e w1 ⟨v1, l', rfl, hO1, hl', hB1⟩
        obtain rfl : l' = oL := by first | exact hl'.out rfl | exact hl'.out trivial
        obtain ⟨av, cv, rfl, hSv⟩ := hO1.form
        have HR := hid (c_runsText av l' cv w1 hSv HTX.out (own_cap hO1).1 (own_cap hO1).2)
        rw [← HBT.out] at HR
        have HO1 := hid hO1
        have HB1 := hid hB1
        clear hO1 hSv hB1 hl'
        go_wp2_with fail
        refine HR.out.mono ?_
        rintro e w2 ⟨rfl, hB2⟩
        go_wp2
        go_ret3
        exact ⟨_, rfl, HO1.out.below hB2, HB1.out.trans (hB2.mono HB1.out.size)⟩
      · obtain ⟨g1, g2, g3⟩ := HF.out rfl hb
        have hbe : (bT.toList == s.toList) = false := by rw [bytes_beq]; simp [hb]
        subst g1 g2 g3
        clear HB HF HG HT hb
        go_enter Tryd.func26, Tryd.ntmps26
        go_wp2_with fail
        refine HC.out.mono ?_
        rintro e w1 ⟨v1, l', rfl, hO1, hl', hB1⟩
        obtain rfl : l' = lR := by first | exact hl'.out rfl | exact hl'.out trivial
        obtain ⟨av, cv, rfl, hSv⟩ := hO1.form
        have HR := hid (c_runsText av l' cv w1 hSv HTX.out (own_cap hO1).1 (own_cap hO1).2)
        rw [← HBT.out] at HR
        have HB1 := hid hB1
        clear hO1 hSv hB1 hl'
        go_wp2_with fail
        refine HR.out.mono ?_
        rintro e w2 ⟨rfl, hB2⟩
        go_wp2
        go_ret3
        exact ⟨_, rfl, OwnS.nil _ _, HB1.out.trans (hB2.mono HB1.out.size)⟩
    · obtain ⟨g1, g2, g3⟩ := HB.out hc
      have hc0 : ¬ (cR : Int) = 0 := by omega
      have hc2 : ((cR : Int) == 0) = false := by simp; omega
      have hc3 : ((cR : Int) != 0) = true := by simp; omega
      have HCB := hid hc
      subst g1 g2 g3
      clear HB HF HG HT hc
      go_enter Tryd.func26, Tryd.ntmps26
      go_wp2_with fail
      refine HC.out.mono ?_
      rintro e w1 ⟨v1, l', rfl, hO1, hl', hB1⟩
      clear hO1 hl'
      go_wp2
      go_ret3
      exact ⟨_, rfl, OwnS.nil _ _, hB1⟩
  · have HL := hid (of_long (s := s) (by omega))
    go_enter Tryd.func26, Tryd.ntmps26
    go_wp2
    go_ret3
    exact ⟨_, by rw [HL.out.1, HL.out.2.1]; rfl, by rw [HL.out.2.2]; exact OwnS.nil _ _, Below.refl _ _⟩

end Go.Proofs.YthmjcjcamcdpkaaDoor
