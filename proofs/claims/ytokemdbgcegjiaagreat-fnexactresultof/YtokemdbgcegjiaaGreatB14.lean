/- Texts of this seat, one behind the other: Step, SortS, CountsOf, CellsOf, StepS. -/
import Derived.Test.YtokemdbgcegjiaaGreatB13
namespace Go.Proofs.YtokemdbgcegjiaaGreat
open Go.RowKit Go.Maps
set_option linter.unusedVariables false

theorem nearB_comm (x c : Cl) : nearB x c = nearB c x := by
  obtain ⟨a, b⟩ := x
  obtain ⟨u, v⟩ := c
  simp only [nearB]
  congr 1
  · congr 1
    · congr 1; apply propext; constructor <;> exact fun h e => h e.symm
    · rw [Bool.and_comm]; congr 1 <;> (congr 1; apply propext; constructor <;> intro h <;> omega)
  · rw [Bool.and_comm]; congr 1 <;> (congr 1; apply propext; constructor <;> intro h <;> omega)
theorem cnt_about (l : List Cl) (c : Cl) : cnt (l.flatMap about) c = (near l c : Int) := by
  unfold cnt near
  congr 1
  induction l with
  | nil => rfl
  | cons x r ih =>
    rw [List.flatMap_cons, List.countP_append, ih, countP_is (about x) c (about_nodup x), List.countP_cons, ← nearB_comm]
    by_cases h : c ∈ about x
    · rw [if_pos h, if_pos ((mem_about x c).1 h)]; omega
    · rw [if_neg h, if_neg (fun e => h ((mem_about x c).2 e))]; omega

/-- Whether a cell is alive next. -/
def nxtB (l : List Cl) (c : Cl) : Bool := kp l (near l c : Int) c
theorem nxt_near {l : List Cl} {c : Cl} (h : nxtB l c = true) : ∃ x ∈ l, nearB c x = true := by
  have h2 : 0 < near l c := by
    simp [nxtB, kp] at h
    omega
  unfold near at h2
  rw [List.countP_pos_iff] at h2
  exact h2
theorem about_mem_fits {l : List Cl} (h : ∀ i, i < l.length → inR (at_ l i) = true) {c : Cl} (hc : c ∈ l.flatMap about) : fits c := by
  rw [List.mem_flatMap] at hc
  obtain ⟨x, hx, hcx⟩ := hc
  obtain ⟨i, hi, rfl⟩ := mem_at.1 hx
  obtain ⟨j, hj, e⟩ := mem_at.1 hcx
  exact about_fits (inR_bd (h i hi)) (by simpa [about] using hj) e
theorem about_len (l : List Cl) : (l.flatMap about).length = l.length * 8 := by
  induction l with
  | nil => rfl
  | cons c r ih => rw [List.flatMap_cons, List.length_append, ih]; simp [about]; omega

/-- The cells that p names, in order, if a list can hold them. -/
noncomputable def pickL (p : Cl → Bool) : List Cl := open Classical in if h : ∃ l', risTo l' l'.length = true ∧ ∀ c, c ∈ l' ↔ p c = true then Classical.choose h else []
theorem pickL_eq {p : Cl → Bool} {l' : List Cl} (h1 : risTo l' l'.length = true) (h2 : ∀ c, c ∈ l' ↔ p c = true) : pickL p = l' := by
  unfold pickL
  have h : ∃ l', risTo l' l'.length = true ∧ ∀ c, c ∈ l' ↔ p c = true := ⟨l', h1, h2⟩
  rw [dif_pos h]
  exact ris_unique (Classical.choose_spec h).1 h1 (fun c => ((Classical.choose_spec h).2 c).trans (h2 c).symm)

/-- What StepCells answers. -/
noncomputable def stepOk (l : List Cl) : Bool := good l && good (pickL (nxtB l))
noncomputable def stepL (l : List Cl) : List Cl := if good l then tellV (pickL (nxtB l)) else []
theorem stepL_le (l : List Cl) : (stepL l).length ≤ 120 := by
  unfold stepL; split
  · exact tellV_le _
  · simp

set_option maxRecDepth 100000 in
set_option maxHeartbeats 1000000 in
theorem c_stepFreely (a : Option Addr) (l : List Cl) (ca : Nat) (w : World) (ha : Seg w a l) (hg : good l = true) :
    Calls Tryz.prog 83 #[.slice a l.length ca] w fun e w' => ∃ v m, e = .returned v ∧ OwnS w' w.heap.size v m ∧ risTo m m.length = true ∧ (∀ c, c ∈ m ↔ nxtB l c = true) ∧ m.length ≤ 960 ∧ Below w.heap.size w w' := by
  have hl := good_le hg
  have HIN := hid (good_in hg)
  have HR := hid (good_ris hg)
  have HA := hid ha
  have HLEN := hid (about_len l)
  clear ha hg
  go_enter Tryz.func83, Tryz.ntmps83
  go_wp2_with fail
  refine (c_nearCounts a l ca _ HA.out (by omega) HIN.out).mono ?_
  rintro e w1 ⟨rfl, hC1, hb1⟩
  have HC1 := hid hC1
  have HB1 := hid hb1
  clear hC1 hb1
  go_wp2_with fail
  refine (c_deleteDead w a l ca w.heap.size _ _ _ w1 HA.out (by omega) HR.out HB1.out (Nat.le_refl _) HC1.out (fun c _ => by have := cnt_le (l.flatMap about) c; have := HLEN.out; omega)).mono ?_
  rintro e w2 ⟨rfl, hM2, hb2⟩
  have HM2 := hid hM2
  have HB2 := hid hb2
  clear hM2 hb2
  go_wp2_with fail
  refine (c_inOrder _ _ _ _ w2 HM2.out (by have := HLEN.out; omega)).mono ?_
  rintro e w3 ⟨v, m, rfl, hO, hr, hm, hl3, hb3⟩
  have HO := hid (hO.mono HB2.out.size)
  have HRR := hid hr
  have HMM := hid hm
  have HB3 := hid (HB2.out.trans (hb3.mono HB2.out.size))
  have HLL := hid hl3
  clear hO hr hm hl3 hb3
  go_wp2
  go_ret
  refine ⟨_, m, rfl, HO.out, HRR.out, fun c => ?_, by have := HLL.out; have := HLEN.out; omega, HB3.out⟩
  rw [HMM.out, cnt_about]
  constructor
  · rintro ⟨_, h⟩
    rw [Bool.and_eq_true] at h
    exact h.2
  · intro h
    obtain ⟨x, hx, hn⟩ := nxt_near h
    have hm : c ∈ l.flatMap about := by
      rw [List.mem_flatMap]
      exact ⟨x, hx, (mem_about x c).2 (by rw [nearB_comm]; exact hn)⟩
    refine ⟨about_mem_fits HIN.out hm, ?_⟩
    rw [Bool.and_eq_true]
    exact ⟨by simpa using hm, h⟩

set_option maxRecDepth 100000 in
set_option maxHeartbeats 1000000 in
theorem c_iStepCells (a : Option Addr) (l : List Cl) (ca : Nat) (w : World) (ha : Seg w a l) (hl : l.length ≤ 1048576) :
    Calls Tryz.prog 70 #[.slice a l.length ca] w fun e w' => ∃ v, e = .returned (.tuple #[v, .bool (stepOk l)]) ∧ OwnS w' w.heap.size v (stepL l) ∧ Below w.heap.size w w' := by
  cases hg : good l
  · have HC := hid (c_iGood' a l ca false hg _ ha hl)
    have HV : Hid (stepL l = [] ∧ stepOk l = false) := by simp [Hid, stepL, stepOk, hg]
    clear ha
    go_enter Tryz.func70, Tryz.ntmps70
    go_wp2_with fail
    refine HC.out.mono ?_
    rintro e w1 ⟨rfl, hb1⟩
    go_wp2
    go_ret2
    exact ⟨_, by rw [HV.out.2]; rfl, by rw [HV.out.1]; exact OwnS.nil _ _, hb1⟩
  · have HC := hid (c_iGood' a l ca true hg _ ha hl)
    have HA := hid ha
    clear ha
    go_enter Tryz.func70, Tryz.ntmps70
    go_wp2_with fail
    refine HC.out.mono ?_
    rintro e w1 ⟨rfl, hb1⟩
    have HB1 := hid hb1
    clear hb1
    go_wp2_with fail
    refine (c_stepFreely a l ca w1 (HA.out.below HB1.out) hg).mono ?_
    rintro e w2 ⟨v, m, rfl, hO, hr, hm, hl3, hb2⟩
    have HV : Hid (stepL l = tellV m ∧ stepOk l = good m) := by simp [Hid, stepL, stepOk, hg, pickL_eq hr hm]
    obtain ⟨a2, c2, rfl, hs2⟩ := hO.form
    have HB2 := hid (HB1.out.trans (hb2.mono HB1.out.size))
    have HS := hid hs2
    have HO := hid hO
    clear hs2 hO hr hm hb2
    go_wp2_with fail
    refine (c_onlyGood a2 m c2 w1.heap.size w2 HO.out HS.out (by omega)).mono ?_
    rintro e w5 ⟨v, rfl, hO5, hB5⟩
    go_wp2
    go_ret2
    exact ⟨_, by rw [HV.out.2]; rfl, by rw [HV.out.1]; exact hO5.mono HB1.out.size, HB2.out.trans (hB5.mono HB2.out.size)⟩

end Go.Proofs.YtokemdbgcegjiaaGreat

namespace Go.Proofs.YtokemdbgcegjiaaGreat
open Go.RowKit
set_option linter.unusedVariables false

/-- The cells of l, each once, in order. -/
noncomputable def ordL (l : List Cl) : List Cl := open Classical in if h : ∃ l', risTo l' l'.length = true ∧ ∀ c, c ∈ l' ↔ c ∈ l then Classical.choose h else []
theorem ordL_eq {l l' : List Cl} (h1 : risTo l' l'.length = true) (h2 : ∀ c, c ∈ l' ↔ c ∈ l) : ordL l = l' := by
  unfold ordL
  have h : ∃ l', risTo l' l'.length = true ∧ ∀ c, c ∈ l' ↔ c ∈ l := ⟨l', h1, h2⟩
  rw [dif_pos h]
  exact ris_unique (Classical.choose_spec h).1 h1 (fun c => ((Classical.choose_spec h).2 c).trans (h2 c).symm)

set_option maxHeartbeats 1000000 in
theorem c_l1Sort (a : Option Addr) (l : List Cl) (ca : Nat) (w : World) (ha : Seg w a l) (hl : l.length ≤ 524288) :
    Calls Tryz.prog 96 #[.slice a l.length ca] w fun e w' => ∃ v l', e = .returned v ∧ OwnS w' w.heap.size v l' ∧ risTo l' l'.length = true ∧ (∀ c, c ∈ l' ↔ c ∈ l) ∧ l'.length ≤ l.length ∧ Below w.heap.size w w' := by
  go_enter Tryz.func96, Tryz.ntmps96
  go_wp2
  go_loopw [3, 8] (fun v i wr => ∃ (k : Nat) (m : List Cl), k ≤ l.length ∧ i = .int .i64 k ∧ OwnS wr w.heap.size v m ∧ risTo m m.length = true ∧ (∀ c, c ∈ m ↔ c ∈ l.take k) ∧ m.length ≤ k ∧ Below w.heap.size w wr) (fun _ i _ => l.length - (intOf i).toNat)
  case atStart => exact ⟨0, [], Nat.zero_le _, rfl, OwnS.nil _ _, rfl, fun c => by simp, by simp, Below.refl _ _⟩
  case round =>
    obtain ⟨k, m, hk, rfl, hSL, hris, hmem, hml, hbel⟩ := hrel
    have HR := hid hris
    have HM := hid hmem
    have HB := hid hbel
    have HSL := hid hSL
    clear hris hmem hSL
    by_cases hlt : k < l.length
    · obtain ⟨b1, o1, rfl, hb1, p1, p2⟩ := ha k hlt
      have g1 := (hbel.cell (p := ⟨b1, o1 + k * 2, none⟩) hb1).trans p1
      have g2 := (hbel.cell (p := ⟨b1, o1 + k * 2 + 1, none⟩) hb1).trans p2
      change _ = some (Value.int .i64 (at_ l k).1) at g1
      change _ = some (Value.int .i64 (at_ l k).2) at g2
      have HT := hid (take_snoc' hlt)
      generalize at_ l k = x at *
      clear p1 p2 hbel
      have q0 := cell_new0 wr (.int .i64 x.1) (.int .i64 x.2) 41
      have q1 := cell_new1 wr (.int .i64 x.1) (.int .i64 x.2) 41
      have HB1 := hid (HB.out.alloc HB.out.size (.cells #[.int .i64 x.1, .int .i64 x.2] 41))
      have HS1 := hid (HSL.out.below ((Below.refl wr.heap.size wr).alloc (Nat.le_refl _) (.cells #[.int .i64 x.1, .int .i64 x.2] 41)))
      go_wp2_with fail
      refine (c_l1AddO _ m x _ HS1.out.sl (by omega) HR.out).mono ?_
      rintro e w3 ⟨v3, m3, rfl, hS3, hW3, hb3, hO3⟩
      have HB3 := hid (HB1.out.trans (hb3.mono HB1.out.size))
      have HS3 : Hid (OwnS w3 w.heap.size v3 m3) := by
        rcases hO3 with h | ⟨rfl, rfl⟩
        · exact h.mono HB1.out.size
        · exact HS1.out.below hb3
      have HW3 := hid hW3
      clear hS3 hW3 hb3 hO3
      go_wp2
      go_roundw
      case rel => exact ⟨k + 1, m3, by omega, by go_num, HS3.out, HW3.out.1, fun c => by rw [HW3.out.2.1, HM.out, HT.out, List.mem_append, List.mem_singleton]; exact Or.comm, by have := HW3.out.2.2; omega, HB3.out⟩
      case measure => simp [intOf]; omega
    · clear hbel
      go_wp2
      go_ret
      have : k = l.length := by omega
      subst this
      exact ⟨_, m, rfl, HSL.out, HR.out, fun c => by rw [HM.out, List.take_length], hml, HB.out⟩

theorem SL.form {w : World} {v : Value} {l : List Cl} (h : SL w v l) : ∃ a ca, v = .slice a l.length ca ∧ Seg w a l ∧ (a = none → ca = 0) := by
  rcases h with ⟨rfl, rfl⟩ | ⟨g, o, ca, rfl, _, _, hs⟩
  · exact ⟨none, 0, rfl, fun i hi => by simp at hi, fun _ => rfl⟩
  · exact ⟨_, ca, rfl, hs, fun h => by cases h⟩

end Go.Proofs.YtokemdbgcegjiaaGreat

namespace Go.Proofs.YtokemdbgcegjiaaGreat
open Go.RowKit Go.Maps
set_option linter.unusedVariables false

theorem range_cat (M : Nat → List Cl) (k : Nat) : (List.range (k + 1)).flatMap M = (List.range k).flatMap M ++ M k := by
  rw [List.range_succ, List.flatMap_append, List.flatMap_singleton]
theorem range_cat_len {M : Nat → List Cl} {m : Nat} : ∀ {k : Nat}, (∀ i, i < k → (M i).length ≤ m) → ((List.range k).flatMap M).length ≤ k * m
  | 0, _ => by simp
  | k + 1, h => by
    rw [range_cat, List.length_append]
    have h1 := range_cat_len (M := M) (m := m) (k := k) (fun i hi => h i (by omega))
    have h2 := h k (by omega)
    rw [Nat.succ_mul]; omega

set_option maxHeartbeats 1000000 in
theorem c_countsOf (g n : Nat) (A : Nat → Option Addr) (C : Nat → Nat) (M : Nat → List Cl) (w : World) (hn : n ≤ 2) (hg : g < w.heap.size)
    (hc : ∀ i, i < n → w.cell? ⟨g, i, none⟩ = some (.slice (A i) (M i).length (C i))) (hs : ∀ i, i < n → Seg w (A i) (M i)) (hl : ∀ i, i < n → (M i).length ≤ 1048576) (hf : ∀ i, i < n → ∀ c ∈ M i, fits c) :
    Calls Tryz.prog 68 #[.slice (some ⟨g, 0, none⟩) n n] w fun e w' => e = .returned (.map (some w.heap.size)) ∧ CntIs w' w.heap.size ((List.range n).flatMap M) ∧ Below w.heap.size w w' := by
  have hmm := @run_makeMap Tryz.prog
  have HF := hid hf
  have HS := hid hs
  have HL := hid hl
  have HC := hid hc
  clear hf hs hl hc
  go_enter Tryz.func68, Tryz.ntmps68
  go_wp2
  go_loopw [11] (fun i wr => ∃ k : Nat, k ≤ n ∧ i = .int .i64 k ∧ CntIs wr w.heap.size ((List.range k).flatMap M) ∧ Below w.heap.size w wr) (fun i _ => n - (intOf i).toNat)
  case atStart => exact ⟨0, Nat.zero_le _, rfl, CntIs.made w, (Below.refl _ _).alloc (Nat.le_refl _) _⟩
  case round =>
    clear hmm
    obtain ⟨k, hk, rfl, hC, hbel⟩ := hrel
    have HCN := hid hC
    have HB := hid hbel
    clear hC
    by_cases hlt : k < n
    · have g1 := (hbel.cell (p := ⟨g, k, none⟩) hg).trans (HC.out k hlt)
      have HSk := hid (HS.out k hlt)
      have HFk := hid (HF.out k hlt)
      have hlk := HL.out k hlt
      have HT := hid (range_cat M k)
      have HLN := hid (range_cat_len (M := M) (m := 1048576) (k := k) (fun i hi => HL.out i (by omega)))
      have k0 : (0 : Int) ≤ (k : Int) := by omega
      have k1 : (k : Int) < (n : Int) := by omega
      generalize M k = x at *
      generalize A k = ax at *
      generalize C k = cx at *
      clear hbel
      go_wp2_with fail
      go_loopw [17] (fun i wr => ∃ j : Nat, j ≤ x.length ∧ i = .int .i64 j ∧ CntIs wr w.heap.size ((List.range k).flatMap M ++ x.take j) ∧ Below w.heap.size w wr) (fun i _ => x.length - (intOf i).toNat)
      case atStart => exact ⟨0, Nat.zero_le _, rfl, by simpa using HCN.out, HB.out⟩
      case round =>
        clear HCN HB g1
        obtain ⟨j, hj, rfl, hC, hbel⟩ := hrel
        have HB := hid hbel
        have HCN := hid hC
        by_cases hjt : j < x.length
        · obtain ⟨b1, o1, rfl, hb1, p1, p2⟩ := HSk.out j hjt
          have g1 := (hbel.cell (p := ⟨b1, o1 + j * 2, none⟩) hb1).trans p1
          have g2 := (hbel.cell (p := ⟨b1, o1 + j * 2 + 1, none⟩) hb1).trans p2
          change _ = some (Value.int .i64 (at_ x j).1) at g1
          change _ = some (Value.int .i64 (at_ x j).2) at g2
          clear p1 p2
          have HFY := hid (HFk.out _ (mem_at.2 ⟨j, hjt, rfl⟩))
          have HSN := hid (take_snoc' (m := x) (j := j) hjt)
          have HLL : Hid (((List.range k).flatMap M ++ x.take j).length ≤ 67108864) := by
            show _ ≤ _
            have := HLN.out
            rw [List.length_append, List.length_take]
            have : k * 1048576 ≤ 2 * 1048576 := Nat.mul_le_mul_right _ (by omega)
            omega
          generalize at_ x j = y at *
          generalize hLL : (List.range k).flatMap M ++ x.take j = L at *
          have HEQ := hid hLL
          clear hLL hbel hC
          have j0 : (0 : Int) ≤ (j : Int) := by omega
          have j1 : (j : Int) < (x.length : Int) := by omega
          have hbd : Below wr.heap.size wr (wr.alloc (.cells #[.int .i64 y.1, .int .i64 y.2] 41)).drew := ((Below.refl wr.heap.size wr).alloc (Nat.le_refl _) _).drew
          have HB1 := hid (HB.out.trans (hbd.mono HB.out.size))
          obtain ⟨v0, st, W1, W2, e1, e2, e3, e4, hC2, hg2, hz2⟩ := (HCN.out.below hbd).step HFY.out HLL.out
          have q0 := cell_new0 wr (.int .i64 y.1) (.int .i64 y.2) 41
          have q1 := cell_new1 wr (.int .i64 y.1) (.int .i64 y.2) 41
          have hc1 := (cnt_le L y).1
          have hc2 : cnt L y ≤ 67108864 := by have := (cnt_le L y).2; have := HLL.out; omega
          have HC2 := hid hC2
          have HG2 := hid hg2
          clear hC2 hg2 hz2 hbd
          go_wp2
          go_region
          all_goals (try go_wp2)
          go_roundw
          case rel => exact ⟨j + 1, by omega, by go_num, by rw [HSN.out, ← List.append_assoc, HEQ.out]; exact HC2.out, HB1.out.grown HG2.out HB1.out.size (fun k e => by cases e; exact Nat.le_refl _)⟩
          case measure => simp [intOf]; omega
        · obtain rfl : j = x.length := by omega
          clear hC hbel
          go_wp2
          go_roundw
          case rel => exact ⟨k + 1, by omega, by go_num, by have := HCN.out; rw [List.take_length] at this; rw [HT.out]; exact this, HB.out⟩
          case measure => simp [intOf]; omega
    · clear hbel
      go_wp2
      go_ret
      have : k = n := by omega
      subst this
      exact ⟨rfl, HCN.out, HB.out⟩
end Go.Proofs.YtokemdbgcegjiaaGreat

namespace Go.Proofs.YtokemdbgcegjiaaGreat
open Go.RowKit Go.Maps
set_option linter.unusedVariables false

/-- What CellsOf answers. -/
noncomputable def cofOk (l : List Cl) : Bool := decide (l.length ≤ 200) && good (ordL l)
noncomputable def cofL (l : List Cl) : List Cl := if l.length ≤ 200 then tellV (ordL l) else []
theorem cofL_le (l : List Cl) : (cofL l).length ≤ 120 := by
  unfold cofL; split
  · exact tellV_le _
  · simp

theorem cell_one (w : World) (u : Value) (t : TypeId) : (w.alloc (.cells #[u] t)).cell? ⟨w.heap.size, 0, none⟩ = some u := by
  unfold World.cell?; rw [heap_alloc_new]; rfl
theorem cnt_one (l : List Cl) : (List.range 1).flatMap (fun _ => l) = l := by simp [List.range_succ]

set_option maxHeartbeats 1000000 in
theorem c_iCellsOf (a : Option Addr) (l : List Cl) (ca : Nat) (w : World) (ha : Seg w a l) (hf : ∀ c ∈ l, fits c) (hl : l.length ≤ 1048576) :
    Calls Tryz.prog 19 #[.slice a l.length ca] w fun e w' => ∃ v, e = .returned (.tuple #[v, .bool (cofOk l)]) ∧ OwnS w' w.heap.size v (cofL l) ∧ Below w.heap.size w w' := by
  by_cases hlt : l.length ≤ 200
  · have hd : decide ((l.length : Int) > 200) = false := by simp; omega
    have HF := hid hf
    clear hf
    go_enter Tryz.func19, Tryz.ntmps19
    go_wp2_with fail
    have hz0 : (w.alloc (.cells #[.slice a l.length ca] 31)).heap.size = w.heap.size + 1 := by simp
    have HB0 := hid ((Below.refl w.heap.size w).alloc (Nat.le_refl _) (.cells #[.slice a l.length ca] 31))
    refine (c_countsOf w.heap.size 1 (fun _ => a) (fun _ => ca) (fun _ => l) _ (by omega) (by simp) (fun i hi => by obtain rfl : i = 0 := (by omega); exact cell_one w _ _) (fun i _ => ha.below HB0.out) (fun _ _ => hl) (fun _ _ => HF.out)).mono ?_
    rintro e w1 ⟨rfl, hC1, hb1⟩
    rw [cnt_one] at hC1
    rw [hz0] at hC1 hb1
    have HC1 := hid hC1
    have HB1 := hid (HB0.out.trans (hb1.mono (by simp)))
    have hzz := hb1.size
    clear hC1 hb1 hz0
    go_wp2_with fail
    refine (c_inOrder _ _ _ _ w1 HC1.out (by omega)).mono ?_
    rintro e w2 ⟨v2, m, rfl, hO2, hr2, hm2, hl2, hb2⟩
    have hm2' : ∀ c, c ∈ m ↔ c ∈ l := fun c => by rw [hm2]; simp; exact fun h => HF.out c h
    have HV : Hid (cofL l = tellV m ∧ cofOk l = good m) := by simp [Hid, cofL, cofOk, hlt, ordL_eq hr2 hm2']
    obtain ⟨a2, c2, rfl, hs2⟩ := hO2.form
    have HB2 := hid (HB1.out.trans (hb2.mono HB1.out.size))
    have HS := hid hs2
    have HO := hid hO2
    clear hs2 hO2 hr2 hm2 hm2' hb2
    go_wp2_with fail
    refine (c_onlyGood a2 m c2 w1.heap.size w2 HO.out HS.out (by omega)).mono ?_
    rintro e w5 ⟨v, rfl, hO5, hB5⟩
    go_wp2
    go_ret2
    exact ⟨_, by rw [HV.out.2]; rfl, by rw [HV.out.1]; exact hO5.mono HB1.out.size, HB2.out.trans (hB5.mono HB2.out.size)⟩
  · have HV : Hid (cofL l = [] ∧ cofOk l = false) := by simp [Hid, cofL, cofOk, hlt]
    have hd : (200 : Int) < (l.length : Int) := by omega
    clear ha
    go_enter Tryz.func19, Tryz.ntmps19
    go_wp2
    go_ret2
    exact ⟨_, by rw [HV.out.2]; rfl, by rw [HV.out.1]; exact OwnS.nil _ _, Below.refl _ _⟩
end Go.Proofs.YtokemdbgcegjiaaGreat

namespace Go.Proofs.YtokemdbgcegjiaaGreat
open Go.RowKit Go.Maps
set_option linter.unusedVariables false

/-- A cell and the eight about it, row by row. -/
def blk (x : Cl) : List Cl := [(x.1 + -1, x.2 + -1), (x.1 + 0, x.2 + -1), (x.1 + 1, x.2 + -1), (x.1 + -1, x.2 + 0), (x.1 + 0, x.2 + 0), (x.1 + 1, x.2 + 0), (x.1 + -1, x.2 + 1), (x.1 + 0, x.2 + 1), (x.1 + 1, x.2 + 1)]
theorem blk_at (x : Cl) {i j : Nat} (hi : i < 3) (hj : j < 3) : at_ (blk x) (3 * i + j) = (x.1 + (-1 + (j : Int)), x.2 + (-1 + (i : Int))) := by
  rcases (show i = 0 ∨ i = 1 ∨ i = 2 by omega) with e | e | e <;> rcases (show j = 0 ∨ j = 1 ∨ j = 2 by omega) with e' | e' | e' <;> subst e <;> subst e' <;> simp [at_, blk]
theorem near_blk {x c : Cl} (h : nearB c x = true) : c ∈ blk x := by
  obtain ⟨a, b⟩ := x
  obtain ⟨u, v⟩ := c
  simp [nearB] at h
  simp [blk]
  omega

theorem c_l1Alive' (a : Option Addr) (l : List Cl) (ca : Nat) (c : Cl) (v : Bool) (h : decide (c ∈ l) = v) (w : World) (ha : Seg w a l) (hl : l.length ≤ 1048576) :
    Calls Tryz.prog 129 #[.slice a l.length ca, .agg #[.int .i64 c.1, .int .i64 c.2]] w fun e w' => e = .returned (.bool v) ∧ Below w.heap.size w w' := by
  rw [← h]; exact c_l1Alive a l ca c w ha hl

/-- What has been gathered of the next cells among those seen. -/
def Next (l m seen : List Cl) : Prop := risTo m m.length = true ∧ ∀ c, c ∈ m ↔ (nxtB l c = true ∧ c ∈ seen)
theorem Next.add {l m seen m' : List Cl} {y : Cl} (h : Next l m seen) (hw : With m y m') (hy : nxtB l y = true) : Next l m' (seen ++ [y]) := by
  refine ⟨hw.1, fun c => ?_⟩
  rw [hw.2.1, h.2, List.mem_append, List.mem_singleton]
  constructor
  · rintro (rfl | ⟨h1, h2⟩)
    · exact ⟨hy, .inr rfl⟩
    · exact ⟨h1, .inl h2⟩
  · rintro ⟨h1, h2 | h2⟩
    · exact .inr ⟨h1, h2⟩
    · exact .inl h2
theorem Next.skip {l m seen : List Cl} {y : Cl} (h : Next l m seen) (hy : nxtB l y = false) : Next l m (seen ++ [y]) := by
  refine ⟨h.1, fun c => ?_⟩
  rw [h.2, List.mem_append, List.mem_singleton]
  constructor
  · rintro ⟨h1, h2⟩
    exact ⟨h1, .inl h2⟩
  · rintro ⟨h1, h2 | h2⟩
    · exact ⟨h1, h2⟩
    · subst h2; rw [hy] at h1; cases h1
theorem blk_take (x : Cl) {i j : Nat} (hi : i < 3) (hj : j < 3) : (blk x).take (3 * i + j + 1) = (blk x).take (3 * i + j) ++ [(x.1 + (-1 + (j : Int)), x.2 + (-1 + (i : Int)))] := by
  rw [take_snoc' (by simp [blk]; omega), blk_at x hi hj]

set_option maxRecDepth 100000 in
set_option maxHeartbeats 4000000 in
theorem c_l1Step (a : Option Addr) (l : List Cl) (ca : Nat) (w : World) (ha : Seg w a l) (hg : good l = true) :
    Calls Tryz.prog 118 #[.slice a l.length ca] w fun e w' => ∃ v m, e = .returned v ∧ SL w' v m ∧ risTo m m.length = true ∧ (∀ c, c ∈ m ↔ nxtB l c = true) ∧ m.length ≤ 1080 ∧ Below w.heap.size w w' := by
  have hl := good_le hg
  have HIN := hid (good_in hg)
  clear hg
  go_enter Tryz.func118, Tryz.ntmps118
  go_wp2
  go_loopw [3, 12] (fun v i wr => ∃ (k : Nat) (m : List Cl), k ≤ l.length ∧ i = .int .i64 k ∧ SL wr v m ∧ Next l m ((l.take k).flatMap blk) ∧ m.length ≤ 9 * k ∧ Below w.heap.size w wr) (fun _ i _ => l.length - (intOf i).toNat)
  case atStart => exact ⟨0, [], Nat.zero_le _, rfl, .inl ⟨rfl, rfl⟩, ⟨rfl, fun c => by simp⟩, by simp, Below.refl _ _⟩
  case round =>
    obtain ⟨k, m, hk, rfl, hSL, hI, hml, hbel⟩ := hrel
    have HI := hid hI
    have HB := hid hbel
    have HSL := hid hSL
    have HA := hid ha
    clear hI hSL
    by_cases hlt : k < l.length
    · obtain ⟨b1, o1, rfl, hb1, p1, p2⟩ := ha k hlt
      have g1 := (hbel.cell (p := ⟨b1, o1 + k * 2, none⟩) hb1).trans p1
      have g2 := (hbel.cell (p := ⟨b1, o1 + k * 2 + 1, none⟩) hb1).trans p2
      change _ = some (Value.int .i64 (at_ l k).1) at g1
      change _ = some (Value.int .i64 (at_ l k).2) at g2
      have hxr : -40 ≤ (at_ l k).1 ∧ (at_ l k).1 ≤ 40 ∧ -40 ≤ (at_ l k).2 ∧ (at_ l k).2 ≤ 40 := by
        have := HIN.out k hlt
        simp [inR] at this
        omega
      have HT : Hid ((l.take (k + 1)).flatMap blk = (l.take k).flatMap blk ++ blk (at_ l k)) := by
        show _ = _
        rw [take_snoc' hlt, List.flatMap_append, List.flatMap_singleton]
      generalize at_ l k = x at *
      clear p1 p2 hbel
      obtain ⟨x1, x2, x3, x4⟩ := hxr
      have HQ0 := hid (cell_new0 wr (.int .i64 x.1) (.int .i64 x.2) 41)
      have HQ1 := hid (cell_new1 wr (.int .i64 x.1) (.int .i64 x.2) 41)
      have HBX := hid (HB.out.alloc HB.out.size (.cells #[.int .i64 x.1, .int .i64 x.2] 41))
      have HSX := hid (HSL.out.below ((Below.refl wr.heap.size wr).alloc (Nat.le_refl _) (.cells #[.int .i64 x.1, .int .i64 x.2] 41)))
      have HZX : Hid (wr.heap.size < (wr.alloc (.cells #[.int .i64 x.1, .int .i64 x.2] 41)).heap.size) := hid (by simp)
      go_wp2
      generalize hWX : wr.alloc (.cells #[.int .i64 x.1, .int .i64 x.2] 41) = wx at *
      generalize hBXE : wr.heap.size = bx at *
      clear hWX g1 g2 HSL HB
      go_loopw [3, 6] (fun v d wr => ∃ (i : Nat) (m : List Cl), i ≤ 3 ∧ d = .int .i64 (-1 + (i : Int)) ∧ SL wr v m ∧ Next l m ((l.take k).flatMap blk ++ (blk x).take (3 * i)) ∧ m.length ≤ 9 * k + 3 * i ∧ Below wx.heap.size wx wr) (fun _ d _ => 3 - (intOf d + 1).toNat)
      case atStart => exact ⟨0, m, by omega, rfl, HSX.out, by simpa using HI.out, by omega, Below.refl _ _⟩
      case round =>
        clear HSX HI hml m
        obtain ⟨i, m, hi, rfl, hSL, hI, hml, hbel⟩ := hrel
        have HI := hid hI
        have HB := hid hbel
        have HSL := hid hSL
        clear hI hSL hbel
        by_cases hit : i < 3
        · have d1 : -1 + (i : Int) ≤ 1 := by omega
          have d0 : -1 ≤ -1 + (i : Int) := by omega
          go_wp2
          go_loopw [3, 7] (fun v d wr => ∃ (j : Nat) (m : List Cl), j ≤ 3 ∧ d = .int .i64 (-1 + (j : Int)) ∧ SL wr v m ∧ Next l m ((l.take k).flatMap blk ++ (blk x).take (3 * i + j)) ∧ m.length ≤ 9 * k + 3 * i + j ∧ Below wx.heap.size wx wr) (fun _ d _ => 3 - (intOf d + 1).toNat)
          case atStart => exact ⟨0, m, by omega, rfl, HSL.out, by simpa using HI.out, by omega, HB.out⟩
          case round =>
            clear HSL HI hml m HB
            obtain ⟨j, m, hj, rfl, hSL, hI, hml, hbel⟩ := hrel
            have HI := hid hI
            have HB := hid hbel
            have HSL := hid hSL
            have g3 := (hbel.cell (p := ⟨bx, 0, none⟩) HZX.out).trans HQ0.out
            have g4 := (hbel.cell (p := ⟨bx, 1, none⟩) HZX.out).trans HQ1.out
            clear hI hSL hbel
            by_cases hjt : j < 3
            · have e1 : -1 + (j : Int) ≤ 1 := by omega
              have e0 : -1 ≤ -1 + (j : Int) := by omega
              have HTK := hid (blk_take x hit hjt)
              have q0 := cell_new0 wr (.int .i64 (x.1 + (-1 + (j : Int)))) (.int .i64 (x.2 + (-1 + (i : Int)))) 41
              have q1 := cell_new1 wr (.int .i64 (x.1 + (-1 + (j : Int)))) (.int .i64 (x.2 + (-1 + (i : Int)))) 41
              have HBW := hid (HB.out.alloc HB.out.size (.cells #[.int .i64 (x.1 + (-1 + (j : Int))), .int .i64 (x.2 + (-1 + (i : Int)))] 41))
              have HSW := hid (HSL.out.below ((Below.refl wr.heap.size wr).alloc (Nat.le_refl _) (.cells #[.int .i64 (x.1 + (-1 + (j : Int))), .int .i64 (x.2 + (-1 + (i : Int)))] 41)))
              have HAW := hid (HA.out.below (HBX.out.trans (HBW.out.mono HBX.out.size)))
              have HZW : Hid (wr.heap.size < (wr.alloc (.cells #[.int .i64 (x.1 + (-1 + (j : Int))), .int .i64 (x.2 + (-1 + (i : Int)))] 41)).heap.size) := hid (by simp)
              clear HSL HB
              go_wp2_with fail
              refine (c_l1Near _ l ca (x.1 + (-1 + (j : Int)), x.2 + (-1 + (i : Int))) _ HAW.out (by omega) HIN.out (by simp only; omega)).mono ?_
              rintro e w4 ⟨rfl, hb4⟩
              have r0 := (hb4.cell (p := ⟨wr.heap.size, 0, none⟩) HZW.out).trans q0
              have r1 := (hb4.cell (p := ⟨wr.heap.size, 1, none⟩) HZW.out).trans q1
              have HBY := hid hb4
              have HZY : Hid (wr.heap.size < w4.heap.size) := hid (Nat.lt_of_lt_of_le HZW.out hb4.size)
              clear hb4 q0 q1 g3 g4
              have HNX : Hid (nxtB l (x.1 + (-1 + (j : Int)), x.2 + (-1 + (i : Int))) = kp l (near l (x.1 + (-1 + (j : Int)), x.2 + (-1 + (i : Int))) : Int) (x.1 + (-1 + (j : Int)), x.2 + (-1 + (i : Int)))) := rfl
              generalize ((near l (x.1 + (-1 + (j : Int)), x.2 + (-1 + (i : Int))) : Nat) : Int) = z at *
              by_cases h3 : z = 3
              · subst h3
                have HY : Hid (nxtB l (x.1 + (-1 + (j : Int)), x.2 + (-1 + (i : Int))) = true) := HNX.out.trans rfl
                go_wp2_with fail
                refine (c_l1Add _ m (x.1 + (-1 + (j : Int)), x.2 + (-1 + (i : Int))) _ (HSW.out.below HBY.out) (by omega) HI.out.1).mono ?_
                rintro e w7 ⟨v7, m7, rfl, hS7, hW7, hb7⟩
                have HB7 := hid (HBW.out.trans ((HBY.out.trans (hb7.mono HBY.out.size)).mono HBW.out.size))
                have HS7 := hid hS7
                have HI7 := hid (HI.out.add hW7 HY.out)
                have HL7 := hid hW7.2.2
                clear hS7 hW7 hb7
                go_wp2
                go_roundw
                case rel => exact ⟨j + 1, m7, by omega, by rw [show -1 + (j : Int) + 1 = -1 + ((j + 1 : Nat) : Int) by omega], HS7.out, by rw [show 3 * i + (j + 1) = 3 * i + j + 1 by omega, HTK.out, ← List.append_assoc]; exact HI7.out, by have := HL7.out; omega, HB7.out⟩
                case measure => simp [intOf]; omega
              · by_cases h2 : z = 2
                · subst h2
                  cases hm : decide ((x.1 + (-1 + (j : Int)), x.2 + (-1 + (i : Int))) ∈ l)
                  · have HY : Hid (nxtB l (x.1 + (-1 + (j : Int)), x.2 + (-1 + (i : Int))) = false) := HNX.out.trans (by simp only [kp, hm]; rfl)
                    go_wp2_with fail
                    refine (c_l1Alive' _ l ca (x.1 + (-1 + (j : Int)), x.2 + (-1 + (i : Int))) false hm w4 (HAW.out.below HBY.out) (by omega)).mono ?_
                    rintro e w5 ⟨rfl, hb5⟩
                    have HBY := hid (HBY.out.trans (hb5.mono HBY.out.size))
                    clear hb5 r0 r1
                    have HI7 := hid (HI.out.skip HY.out)
                    have HB7 := hid (HBW.out.trans (HBY.out.mono HBW.out.size))
                    have HS7 := hid (HSW.out.below HBY.out)
                    go_wp2
                    go_roundw
                    case rel => exact ⟨j + 1, m, by omega, by rw [show -1 + (j : Int) + 1 = -1 + ((j + 1 : Nat) : Int) by omega], HS7.out, by rw [show 3 * i + (j + 1) = 3 * i + j + 1 by omega, HTK.out, ← List.append_assoc]; exact HI7.out, by omega, HB7.out⟩
                    case measure => simp [intOf]; omega
                  · have HY : Hid (nxtB l (x.1 + (-1 + (j : Int)), x.2 + (-1 + (i : Int))) = true) := HNX.out.trans (by simp only [kp, hm]; rfl)
                    go_wp2_with fail
                    refine (c_l1Alive' _ l ca (x.1 + (-1 + (j : Int)), x.2 + (-1 + (i : Int))) true hm w4 (HAW.out.below HBY.out) (by omega)).mono ?_
                    rintro e w5 ⟨rfl, hb5⟩
                    have s0 := (hb5.cell (p := ⟨wr.heap.size, 0, none⟩) HZY.out).trans r0
                    have s1 := (hb5.cell (p := ⟨wr.heap.size, 1, none⟩) HZY.out).trans r1
                    have HBY := hid (HBY.out.trans (hb5.mono HBY.out.size))
                    clear hb5 r0 r1
                    go_wp2_with fail
                    refine (c_l1Add _ m (x.1 + (-1 + (j : Int)), x.2 + (-1 + (i : Int))) _ (HSW.out.below HBY.out) (by omega) HI.out.1).mono ?_
                    rintro e w7 ⟨v7, m7, rfl, hS7, hW7, hb7⟩
                    have HB7 := hid (HBW.out.trans ((HBY.out.trans (hb7.mono HBY.out.size)).mono HBW.out.size))
                    have HS7 := hid hS7
                    have HI7 := hid (HI.out.add hW7 HY.out)
                    have HL7 := hid hW7.2.2
                    clear hS7 hW7 hb7
                    go_wp2
                    go_roundw
                    case rel => exact ⟨j + 1, m7, by omega, by rw [show -1 + (j : Int) + 1 = -1 + ((j + 1 : Nat) : Int) by omega], HS7.out, by rw [show 3 * i + (j + 1) = 3 * i + j + 1 by omega, HTK.out, ← List.append_assoc]; exact HI7.out, by have := HL7.out; omega, HB7.out⟩
                    case measure => simp [intOf]; omega
                · have HY : Hid (nxtB l (x.1 + (-1 + (j : Int)), x.2 + (-1 + (i : Int))) = false) := HNX.out.trans (by simp [kp, h3, h2])
                  have HI7 := hid (HI.out.skip HY.out)
                  have HB7 := hid (HBW.out.trans (HBY.out.mono HBW.out.size))
                  have HS7 := hid (HSW.out.below HBY.out)
                  go_wp2
                  go_roundw
                  case rel => exact ⟨j + 1, m, by omega, by rw [show -1 + (j : Int) + 1 = -1 + ((j + 1 : Nat) : Int) by omega], HS7.out, by rw [show 3 * i + (j + 1) = 3 * i + j + 1 by omega, HTK.out, ← List.append_assoc]; exact HI7.out, by omega, HB7.out⟩
                  case measure => simp [intOf]; omega
            · obtain rfl : j = 3 := by omega
              go_wp2
              go_roundw
              case rel => exact ⟨i + 1, m, by omega, by rw [show -1 + (i : Int) + 1 = -1 + ((i + 1 : Nat) : Int) by omega], HSL.out, HI.out, by omega, HB.out⟩
              case measure => simp [intOf]; omega
        · obtain rfl : i = 3 := by omega
          have HB8 := hid (HBX.out.trans (HB.out.mono HBX.out.size))
          go_wp2
          go_roundw
          case rel => exact ⟨k + 1, m, by omega, by go_num, HSL.out, by rw [HT.out]; exact HI.out, by omega, HB8.out⟩
          case measure => simp [intOf]; omega
    · clear hbel
      go_wp2
      go_ret
      have : k = l.length := by omega
      subst this
      refine ⟨_, m, rfl, HSL.out, HI.out.1, fun c => ?_, by omega, HB.out⟩
      rw [HI.out.2, List.take_length]
      refine ⟨fun h => h.1, fun h => ⟨h, ?_⟩⟩
      obtain ⟨x, hx, hn⟩ := nxt_near h
      rw [List.mem_flatMap]
      exact ⟨x, hx, near_blk hn⟩

end Go.Proofs.YtokemdbgcegjiaaGreat
