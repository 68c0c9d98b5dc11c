/- CellsOf of both sides. -/
import Derived.Test.YtkapdjlaebidnaaAdd
import Derived.Test.YtkapdjlaebidnaaCountsOf
import Derived.Test.YtkapdjlaebidnaaOrder
import Derived.Test.YtkapdjlaebidnaaMove
namespace Go.Proofs.Ytkapdjlaebidnaa
open Go.RowKit Go.Maps
set_option linter.unusedVariables false

/-- The cells of l, each once, in order. -/
noncomputable def ordL (l : List Cl) : List Cl := open Classical in if h : ∃ l', risTo l' l'.length = true ∧ ∀ c, c ∈ l' ↔ c ∈ l then Classical.choose h else []
theorem ordL_eq {l l' : List Cl} (h1 : risTo l' l'.length = true) (h2 : ∀ c, c ∈ l' ↔ c ∈ l) : ordL l = l' := by
  unfold ordL
  have h : ∃ l', risTo l' l'.length = true ∧ ∀ c, c ∈ l' ↔ c ∈ l := ⟨l', h1, h2⟩
  rw [dif_pos h]
  exact ris_unique (Classical.choose_spec h).1 h1 (fun c => ((Classical.choose_spec h).2 c).trans (h2 c).symm)

set_option maxHeartbeats 1000000 in
theorem c_l1Sort (a : Option Addr) (l : List Cl) (ca : Nat) (w : World) (ha : Seg w a l) (hl : l.length ≤ 524288) :
    Calls Try.prog 60 #[.slice a l.length ca] w fun e w' => ∃ v l', e = .returned v ∧ OwnS w' w.heap.size v l' ∧ risTo l' l'.length = true ∧ (∀ c, c ∈ l' ↔ c ∈ l) ∧ l'.length ≤ l.length ∧ Below w.heap.size w w' := by
  go_enter Try.func60, Try.ntmps60
  go_wp2
  go_loopw [3, 8] (fun v i wr => ∃ (k : Nat) (m : List Cl), k ≤ l.length ∧ i = .int .i64 k ∧ OwnS wr w.heap.size v m ∧ risTo m m.length = true ∧ (∀ c, c ∈ m ↔ c ∈ l.take k) ∧ m.length ≤ k ∧ Below w.heap.size w wr) (fun _ i _ => l.length - (intOf i).toNat)
  case atStart => exact ⟨0, [], Nat.zero_le _, rfl, OwnS.nil _ _, rfl, fun c => by simp, by simp, Below.refl _ _⟩
  case round =>
    obtain ⟨k, m, hk, rfl, hSL, hris, hmem, hml, hbel⟩ := hrel
    have HR := hid hris
    have HM := hid hmem
    have HB := hid hbel
    have HSL := hid hSL
    clear hris hmem hSL
    by_cases hlt : k < l.length
    · obtain ⟨b1, o1, rfl, hb1, p1, p2⟩ := ha k hlt
      have g1 := (hbel.cell (p := ⟨b1, o1 + k * 2, none⟩) hb1).trans p1
      have g2 := (hbel.cell (p := ⟨b1, o1 + k * 2 + 1, none⟩) hb1).trans p2
      change _ = some (Value.int .i64 (at_ l k).1) at g1
      change _ = some (Value.int .i64 (at_ l k).2) at g2
      have HT := hid (take_snoc' hlt)
      generalize at_ l k = x at *
      clear p1 p2 hbel
      have q0 := cell_new0 wr (.int .i64 x.1) (.int .i64 x.2) 30
      have q1 := cell_new1 wr (.int .i64 x.1) (.int .i64 x.2) 30
      have HB1 := hid (HB.out.alloc HB.out.size (.cells #[.int .i64 x.1, .int .i64 x.2] 30))
      have HS1 := hid (HSL.out.below ((Below.refl wr.heap.size wr).alloc (Nat.le_refl _) (.cells #[.int .i64 x.1, .int .i64 x.2] 30)))
      go_wp2_with fail
      refine (c_l1AddO _ m x _ HS1.out.sl (by omega) HR.out).mono ?_
      rintro e w3 ⟨v3, m3, rfl, hS3, hW3, hb3, hO3⟩
      have HB3 := hid (HB1.out.trans (hb3.mono HB1.out.size))
      have HS3 : Hid (OwnS w3 w.heap.size v3 m3) := by
        rcases hO3 with h | ⟨rfl, rfl⟩
        · exact h.mono HB1.out.size
        · exact HS1.out.below hb3
      have HW3 := hid hW3
      clear hS3 hW3 hb3 hO3
      go_wp2
      go_roundw
      case rel => exact ⟨k + 1, m3, by omega, by go_num, HS3.out, HW3.out.1, fun c => by rw [HW3.out.2.1, HM.out, HT.out, List.mem_append, List.mem_singleton]; exact Or.comm, by have := HW3.out.2.2; omega, HB3.out⟩
      case measure => simp [intOf]; omega
    · clear hbel
      go_wp2
      go_ret
      have : k = l.length := by omega
      subst this
      exact ⟨_, m, rfl, HSL.out, HR.out, fun c => by rw [HM.out, List.take_length], hml, HB.out⟩

theorem SL.form {w : World} {v : Value} {l : List Cl} (h : SL w v l) : ∃ a ca, v = .slice a l.length ca ∧ Seg w a l ∧ (a = none → ca = 0) := by
  rcases h with ⟨rfl, rfl⟩ | ⟨g, o, ca, rfl, _, _, hs⟩
  · exact ⟨none, 0, rfl, fun i hi => by simp at hi, fun _ => rfl⟩
  · exact ⟨_, ca, rfl, hs, fun h => by cases h⟩

/-- What CellsOf answers. -/
noncomputable def cofOk (l : List Cl) : Bool := decide (l.length ≤ 200) && good (ordL l)
noncomputable def cofL (l : List Cl) : List Cl := if l.length ≤ 200 then tellV (ordL l) else []
theorem cofL_le (l : List Cl) : (cofL l).length ≤ 120 := by
  unfold cofL; split
  · exact tellV_le _
  · simp

set_option maxHeartbeats 1000000 in
theorem c_sCellsOf (a : Option Addr) (l : List Cl) (ca : Nat) (w : World) (ha : Seg w a l) (hl : l.length ≤ 1048576) :
    Calls Try.prog 31 #[.slice a l.length ca] w fun e w' => ∃ v, e = .returned (.tuple #[v, .bool (cofOk l)]) ∧ OwnS w' w.heap.size v (cofL l) ∧ Below w.heap.size w w' := by
  by_cases hlt : l.length ≤ 200
  · have hd : decide ((l.length : Int) > 200) = false := by simp; omega
    go_enter Try.func31, Try.ntmps31
    go_wp2_with fail
    refine (c_l1Sort a l ca _ ha (by omega)).mono ?_
    rintro e w1 ⟨v1, m, rfl, hS1, hr1, hm1, hl1, hb1⟩
    have HV : Hid (cofL l = tellV m ∧ cofOk l = good m) := by simp [Hid, cofL, cofOk, hlt, ordL_eq hr1 hm1]
    obtain ⟨a1, c1, rfl, hs1, hc1⟩ := hS1.sl.form
    have HS := hid hs1
    have HB := hid hb1
    clear hs1 hb1 hS1 hr1 hm1
    go_wp2_with fail
    refine (c_l1Tell a1 m c1 _ HS.out (by omega) hc1).mono ?_
    rintro e w5 ⟨v, rfl, hO5, hB5⟩
    go_wp2
    go_ret2
    exact ⟨_, by rw [HV.out.2]; rfl, by rw [HV.out.1]; exact hO5.mono HB.out.size, HB.out.trans (hB5.mono HB.out.size)⟩
  · have HV : Hid (cofL l = [] ∧ cofOk l = false) := by simp [Hid, cofL, cofOk, hlt]
    have hd : (200 : Int) < (l.length : Int) := by omega
    clear ha
    go_enter Try.func31, Try.ntmps31
    go_wp2
    go_ret2
    exact ⟨_, by rw [HV.out.2]; rfl, by rw [HV.out.1]; exact OwnS.nil _ _, Below.refl _ _⟩

theorem cell_one (w : World) (u : Value) (t : TypeId) : (w.alloc (.cells #[u] t)).cell? ⟨w.heap.size, 0, none⟩ = some u := by
  unfold World.cell?; rw [heap_alloc_new]; rfl
theorem cnt_one (l : List Cl) : (List.range 1).flatMap (fun _ => l) = l := by simp [List.range_succ]

set_option maxHeartbeats 1000000 in
theorem c_iCellsOf (a : Option Addr) (l : List Cl) (ca : Nat) (w : World) (ha : Seg w a l) (hf : ∀ c ∈ l, fits c) (hl : l.length ≤ 1048576) :
    Calls Try.prog 30 #[.slice a l.length ca] w fun e w' => ∃ v, e = .returned (.tuple #[v, .bool (cofOk l)]) ∧ OwnS w' w.heap.size v (cofL l) ∧ Below w.heap.size w w' := by
  by_cases hlt : l.length ≤ 200
  · have hd : decide ((l.length : Int) > 200) = false := by simp; omega
    have HF := hid hf
    clear hf
    go_enter Try.func30, Try.ntmps30
    go_wp2_with fail
    have hz0 : (w.alloc (.cells #[.slice a l.length ca] 23)).heap.size = w.heap.size + 1 := by simp
    have HB0 := hid ((Below.refl w.heap.size w).alloc (Nat.le_refl _) (.cells #[.slice a l.length ca] 23))
    refine (c_countsOf w.heap.size 1 (fun _ => a) (fun _ => ca) (fun _ => l) _ (by omega) (by simp) (fun i hi => by obtain rfl : i = 0 := (by omega); exact cell_one w _ _) (fun i _ => ha.below HB0.out) (fun _ _ => hl) (fun _ _ => HF.out)).mono ?_
    rintro e w1 ⟨rfl, hC1, hb1⟩
    rw [cnt_one] at hC1
    rw [hz0] at hC1 hb1
    have HC1 := hid hC1
    have HB1 := hid (HB0.out.trans (hb1.mono (by simp)))
    have hzz := hb1.size
    clear hC1 hb1 hz0
    go_wp2_with fail
    refine (c_inOrder _ _ _ _ w1 HC1.out (by omega)).mono ?_
    rintro e w2 ⟨v2, m, rfl, hO2, hr2, hm2, hl2, hb2⟩
    have hm2' : ∀ c, c ∈ m ↔ c ∈ l := fun c => by rw [hm2]; simp; exact fun h => HF.out c h
    have HV : Hid (cofL l = tellV m ∧ cofOk l = good m) := by simp [Hid, cofL, cofOk, hlt, ordL_eq hr2 hm2']
    obtain ⟨a2, c2, rfl, hs2⟩ := hO2.form
    have HB2 := hid (HB1.out.trans (hb2.mono HB1.out.size))
    have HS := hid hs2
    have HO := hid hO2
    clear hs2 hO2 hr2 hm2 hm2' hb2
    go_wp2_with fail
    refine (c_onlyGood a2 m c2 w1.heap.size w2 HO.out HS.out (by omega)).mono ?_
    rintro e w5 ⟨v, rfl, hO5, hB5⟩
    go_wp2
    go_ret2
    exact ⟨_, by rw [HV.out.2]; rfl, by rw [HV.out.1]; exact hO5.mono HB1.out.size, HB2.out.trans (hB5.mono HB2.out.size)⟩
  · have HV : Hid (cofL l = [] ∧ cofOk l = false) := by simp [Hid, cofL, cofOk, hlt]
    have hd : (200 : Int) < (l.length : Int) := by omega
    clear ha
    go_enter Try.func30, Try.ntmps30
    go_wp2
    go_ret2
    exact ⟨_, by rw [HV.out.2]; rfl, by rw [HV.out.1]; exact OwnS.nil _ _, Below.refl _ _⟩
end Go.Proofs.Ytkapdjlaebidnaa
