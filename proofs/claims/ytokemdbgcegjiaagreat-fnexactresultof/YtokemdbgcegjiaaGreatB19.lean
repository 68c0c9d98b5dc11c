/- Texts of this seat, one behind the other: IKeep, OnceW, ISys, IDo. -/
import Derived.Test.YtokemdbgcegjiaaGreatB12
import Derived.Test.YtokemdbgcegjiaaGreatB18
import Derived.Test.YtokemdbgcegjiaaGreatB01
import Derived.Tactics
import Derived.Tactics2
import Derived.Defers
import Derived.Laws.Pointers
import Derived.Laws.LoneSync
import Derived.RegionTactic
import Derived.RegionCalls
import Derived.ChangeAlike
namespace Go.Proofs.YtokemdbgcegjiaaGreat
open Go.RowKit Go.Maps
set_option linter.unusedVariables false
set_option linter.unusedSimpArgs false
attribute [local go_sem ↓] Go.wp_at_zero Go.wp_at_succ

/-- All results that are kept are right. -/
def KeptOK (B : List Qd) (M : Int → Option Int) : Prop := ∀ q r : Int, M q = some r → ∃ a b m : Nat, q = (a : Int) ∧ r = (b : Int) ∧ a < B.length ∧ b < B.length ∧ (qa B a).1 = ((m + 2 : Nat) : Int) ∧ ResP B m a b
theorem KeptOK.more {B B' : List Qd} {M : Int → Option Int} (hG : Grows B) (h : KeptOK B M) (hm : More B B') : KeptOK B' M := by
  intro q r e
  obtain ⟨a, b, m, h1, h2, h3, h4, h5, h6⟩ := h q r e
  exact ⟨a, b, m, h1, h2, Nat.lt_of_lt_of_le h3 hm.len, Nat.lt_of_lt_of_le h4 hm.len, by rw [hm.old a h3]; exact h5, h6.more hG hm h3⟩
theorem KeptOK.put {B : List Qd} {M : Int → Option Int} (h : KeptOK B M) {a b m : Nat} (h1 : a < B.length) (h2 : b < B.length) (h3 : (qa B a).1 = ((m + 2 : Nat) : Int)) (h4 : ResP B m a b) : KeptOK B (fun x => if x = (a : Int) then some (b : Int) else M x) := by
  intro q r e
  by_cases hq : q = (a : Int)
  · subst hq
    simp only [if_true, Option.some.injEq] at e
    exact ⟨a, b, m, rfl, e.symm, h1, h2, h3, h4⟩
  · simp only [hq, if_false] at e
    exact h q r e
theorem more_join {B : List Qd} (hG : Grows B) {l : List Int} (hl : l.length = 4) (hk : ∀ j, j < 4 → 0 ≤ ia l j ∧ ia l j < (B.length : Int)) (hv : (qa B (ia l 0).toNat).1 < 5) : More B (joinF B l).1 :=
  ⟨joinF_grows hG hl hk hv, (joinF_len B l).1, fun i hi => joinF_old B l hi⟩
/-- What changes but for a grove and a map of results. -/
def KElse (w w' : World) (p g mb km : Nat) : Prop := ∀ k, k < w.heap.size → k ≠ p → k ≠ g → k ≠ mb → k ≠ km → w'.heap[k]? = w.heap[k]?
theorem KElse.of {w w' : World} {p g mb km : Nat} (h : GElse w w' p g mb) : KElse w w' p g mb km := fun k h1 h2 h3 h4 _ => h k h1 h2 h3 h4
theorem KElse.trans {a b c : World} {p g g' mb km : Nat} (h : KElse a b p g mb km) (hs : a.heap.size ≤ b.heap.size) (hg : g' = g ∨ a.heap.size ≤ g') (k : KElse b c p g' mb km) : KElse a c p g mb km := fun i h1 h2 h3 h4 h5 =>
  (k i (Nat.lt_of_lt_of_le h1 hs) h2 (by rcases hg with rfl | hg
                                         · exact h3
                                         · omega) h4 h5).trans (h i h1 h2 h3 h4 h5)
theorem fresh_trans {g g1 g2 s s1 : Nat} (h : g1 = g ∨ s ≤ g1) (hs : s ≤ s1) (k : g2 = g1 ∨ s1 ≤ g2) : g2 = g ∨ s ≤ g2 := by
  rcases k with rfl | k
  · exact h
  · exact .inr (Nat.le_trans hs k)

set_option maxHeartbeats 4000000 in
set_option maxRecDepth 100000 in
theorem c_keepBlanks (w : World) {base p g cap mb km n : Nat} {B : List Qd} {M : Int → Option Int} (hG : Grv w base p g cap mb B) (hGr : Grows B) (hlen : B.length ≤ 80000) (hM : MapN w km n M) (hn : n ≤ 1000000000) (hkb : base ≤ km) (h1 : km ≠ p) (h2 : km ≠ g) (h3 : km ≠ mb) (hK : KeptOK B M) :
    Calls Tryz.prog 122 #[.pointer (some ⟨p, 0, none⟩), .map (some km)] w fun e w' => ∃ g' cap' B' n' M', e = .returned (.tuple #[]) ∧ Grv w' base p g' cap' mb B' ∧ More B B' ∧ B'.length ≤ B.length + 8 ∧ MapN w' km n' M' ∧ n' ≤ n + 4 ∧ KeptOK B' M' ∧ Below base w w' ∧ KElse w w' p g mb km ∧ (g' = g ∨ w.heap.size ≤ g') := by
  have hT := treeL_tr [] 1 0 0 B (by omega) hGr
  have hI := isT_isP.1 (treeL_is [] 1 0 0 B (by omega) hGr)
  rw [show (fun c : Cl => decide (c ∈ ([] : List Cl))) = fun _ => false by funext c; simp] at hI
  have HPL := hid (c_plantE [] none 0 (by simp) (by rfl) base p mb 1 0 0 B g cap w (by omega) hGr (by omega) (by omega) (by omega) (by omega) (by omega) hG (TyC.none w))
  have HT := hid hT
  have HI := hid hI
  have HGR := hid hGr
  have HM0 := hid hM
  have HK0 := hid hK
  have HML := hid hM.lt
  clear hT hI hG hM hK
  go_enter Tryz.func122, Tryz.ntmps122
  go_wp2_with fail
  refine HPL.out.mono ?_
  rintro e w1 ⟨g1, cap1, rfl, hG1, hb1, _, he1, hg1⟩
  have hm1 := HT.out
  have HG1 := hid hG1
  have HB1 := hid hb1
  have HE1 := hid he1
  have HGG1 := hid hg1
  have HMR1 := hid (show More B (treeL [] 1 0 0 B).1 from ⟨hm1.grows, hm1.more, hm1.old⟩)
  have HLE1 := hid (show (treeL [] 1 0 0 B).1.length ≤ B.length + 4 by have := hm1.most; omega)
  have HMP1 := hid (HM0.out.blk (he1 km HML.out h1 h2 h3))
  have HK1 := hid (HK0.out.more HGR.out HMR1.out)
  clear hm1 hG1 hb1 he1 hg1 HPL HM0 HK0 HT
  generalize treeL [] 1 0 0 B = T1 at *
  go_wp2_with fail
  go_loopw [4, 9] (fun bv iv wr => ∃ (k bq g' cap' n' : Nat) (B' : List Qd) (M' : Int → Option Int), k ≤ 4 ∧ iv = .int .i64 k ∧ bv = .int .i64 (bq : Int) ∧ Hid (Grv wr base p g' cap' mb B') ∧ Hid (More B B') ∧ B'.length ≤ B.length + 4 + k ∧ Hid (IsP (fun _ => false) B' (k + 1) bq 0 0) ∧ Hid (MapN wr km n' M') ∧ n' ≤ n + k ∧ Hid (KeptOK B' M') ∧ Hid (Below base w wr) ∧ Hid (KElse w wr p g mb km) ∧ Hid (g' = g ∨ w.heap.size ≤ g')) (fun _ iv _ => 4 - (intOf iv).toNat)
  case atStart => exact ⟨0, T1.2, g1, cap1, n, T1.1, M, by omega, rfl, rfl, HG1.out, HMR1.out, HLE1.out, HI.out, HMP1.out, by omega, HK1.out, HB1.out, KElse.of HE1.out, HGG1.out⟩
  case round =>
    clear HG1 HMR1 HLE1 HI HMP1 HK1 HB1 HE1 HGG1
    obtain ⟨k, bq, g2, cap2, n2, B2, M2, hk, rfl, rfl, HG, HMR, hle, HI, HMP, hn2, HK, HB, HE, HGG⟩ := hrel
    by_cases hlt : k < 4
    · have hlt' : (k : Int) < 4 := by omega
      have hlv := HI.out.lev HMR.out.grows
      have hbl := HI.out.lt HMR.out.grows.two
      have hkk : ∀ j, j < 4 → 0 ≤ ia [(bq : Int), (bq : Int), (bq : Int), (bq : Int)] j ∧ ia [(bq : Int), (bq : Int), (bq : Int), (bq : Int)] j < (B2.length : Int) := by
        intro j hj
        rcases (show j = 0 ∨ j = 1 ∨ j = 2 ∨ j = 3 by omega) with rfl | rfl | rfl | rfl <;> simp [ia] <;> omega
      have hlv0 : (qa B2 (ia [(bq : Int), (bq : Int), (bq : Int), (bq : Int)] 0).toNat).1 = ((k + 1 : Nat) : Int) := by simpa [ia] using hlv
      have HJ := hid (c_ijoinE [(bq : Int), (bq : Int), (bq : Int), (bq : Int)] rfl wr HG.out HMR.out.grows (by omega) hkk)
      have HMJ := hid (more_join HMR.out.grows (l := [(bq : Int), (bq : Int), (bq : Int), (bq : Int)]) rfl hkk (by rw [hlv0]; omega))
      have HIJ := hid (blank_join HMR.out.grows HI.out)
      have HLJ := hid (joinF_len B2 [(bq : Int), (bq : Int), (bq : Int), (bq : Int)]).2
      have HLT := hid (joinF_lt B2 [(bq : Int), (bq : Int), (bq : Int), (bq : Int)])
      have HBL := hid hbl
      clear hlv hbl hkk hlv0
      generalize joinF B2 [(bq : Int), (bq : Int), (bq : Int), (bq : Int)] = JJ at *
      go_wp2_with fail
      refine HJ.out.mono ?_
      rintro e w3 ⟨g3, cap3, rfl, hG3, hb3, _, he3, hg3⟩
      have hml := HMP.out.lt
      have hkg : km ≠ g2 := by
        rcases HGG.out with h | h
        · omega
        · have := HML.out; omega
      have hmp3 := HMP.out.blk (he3 km hml h1 hkg h3)
      have hks := (HK.out.more HMR.out.grows HMJ.out).put (a := JJ.2) (b := bq) (m := k) HLT.out (Nat.lt_of_lt_of_le HBL.out HMJ.out.len) (HIJ.out.lev HMJ.out.grows) (blank_res (x := 0) (y := 0) HIJ.out (HMJ.out.isP HI.out))
      obtain ⟨W6, hrun, hm6, hg6⟩ := MapN.put hmp3 (l := (JJ.2 : Int)) (v := (bq : Int)) (by unfold fit1; have := HLT.out; have := HLJ.out; omega) (by unfold maxLen; omega) (by unfold fit1; have := HBL.out; omega)
      have hkg3 : km ≠ g3 := by
        rcases hg3 with h | h
        · omega
        · omega
      have hG6 : Grv W6 base p g3 cap3 mb JJ.1 := hG3.blk (hg6.block p hG3.box.lt (by simp only [ne_eq, Option.some.injEq]; omega)) (hg6.block g3 hG3.lt.2 (by simp only [ne_eq, Option.some.injEq]; omega)) (hg6.block mb hG3.mlt (by simp only [ne_eq, Option.some.injEq]; omega))
      have HG6 := hid hG6
      have HB6 := hid ((HB.out.trans hb3).grown hg6 (Nat.le_trans hkb (Nat.le_of_lt hmp3.lt)) (fun k e => by cases e; exact hkb))
      have HE6 := hid (show KElse w W6 p g mb km from fun i q1 q2 q3 q4 q5 => by
        have e1 := (HE.out.trans HB.out.size HGG.out (KElse.of he3)) i q1 q2 q3 q4 q5
        exact (hg6.block i (Nat.lt_of_lt_of_le q1 (Nat.le_trans HB.out.size hb3.size)) (by simp only [ne_eq, Option.some.injEq]; omega)).trans e1)
      have HGG6 := hid (fresh_trans HGG.out HB.out.size hg3)
      have HM6 := hid hm6
      have HK6 := hid hks
      have HMR6 := hid (HMR.out.trans HMJ.out)
      have hle6 : JJ.1.length ≤ B.length + 4 + (k + 1) := by have := HLJ.out; omega
      clear hG3 hb3 he3 hg3 hml hkg hmp3 hks hm6 hg6 hkg3 hG6 HJ HG HMR HI HMP HK HB HE HGG
      go_wp2_with fail
      go_roundw
      case rel => exact ⟨k + 1, JJ.2, g3, cap3, n2 + 1, JJ.1, _, by omega, by go_num, rfl, HG6.out, HMR6.out, hle6, HIJ.out, HM6.out, by omega, HK6.out, HB6.out, HE6.out, HGG6.out⟩
      case measure => simp [intOf]; omega
    · obtain rfl : k = 4 := by omega
      go_wp2
      go_end0
      exact ⟨g2, cap2, B2, n2, M2, rfl, HG.out, HMR.out, by omega, HMP.out, hn2, HK.out, HB.out, HE.out, HGG.out⟩

end Go.Proofs.YtokemdbgcegjiaaGreat

namespace Go.Proofs.YtokemdbgcegjiaaGreat
open Go.RowKit
set_option linter.unusedVariables false
set_option linter.unusedSimpArgs false

theorem o_disable (w : World) : (callFunc 172 #[]).run Tryz.prog w = .ok (.value (.tuple #[])) w := run_call_mark0 Tryz.func172 (by kernel_rfl) (by kernel_rfl) (by kernel_rfl) .disable (by kernel_rfl) w
theorem o_enable (w : World) : (callFunc 174 #[]).run Tryz.prog w = .ok (.value (.tuple #[])) w := run_call_mark0 Tryz.func174 (by kernel_rfl) (by kernel_rfl) (by kernel_rfl) .enable (by kernel_rfl) w
theorem o_acquire (a : Addr) (w : World) : (callFunc 175 #[.pointer (some a)]).run Tryz.prog w = .ok (.value (.tuple #[])) w := run_call_marked Tryz.func175 (by kernel_rfl) (by kernel_rfl) (by kernel_rfl) .acquire (by kernel_rfl) a w
theorem o_releaseMerge (a : Addr) (w : World) : (callFunc 177 #[.pointer (some a)]).run Tryz.prog w = .ok (.value (.tuple #[])) w := run_call_marked Tryz.func177 (by kernel_rfl) (by kernel_rfl) (by kernel_rfl) .releaseMerge (by kernel_rfl) a w

/-- '(*sync/atomic.Bool).Store(true)', entered as a deferred call: the cell holds 1. -/
theorem o_store (a : Addr) (x : Value) (u : FrameMode) (w : World) (hc : w.cell? a = some x) (hz : w.frozen? a = false) :
    CallsD Tryz.prog 161 #[.pointer (some a), .bool true] u w fun e u' w' => u' = u ∧ (e = .returned (.tuple #[]) ∧ w' = w.drew.setCell a (.int .u32 1)) := by
  have hc' : w.drew.cell? a = some x := by go_simp
  have hz' : w.drew.frozen? a = false := by go_simp
  have hst := run_call_store (P := Tryz.prog) Tryz.func169 (by kernel_rfl) (by kernel_rfl) (by kernel_rfl) (by kernel_rfl) (k := .u32) (y := 1) hc' hz'
  go_enter_d Tryz.func161, Tryz.ntmps161
  go_wp2
  go_region_calls
  all_goals (go_end0; exact ⟨rfl, rfl⟩)

set_option maxRecDepth 100000 in
/-- '(*sync.Mutex).Unlock', entered as a deferred call, the lock held and nobody waiting. -/
theorem o_unlock (a : Addr) (u : FrameMode) (w : World) (hc : w.cell? a = some (.int .i32 1)) (hz : w.frozen? a = false) :
    CallsD Tryz.prog 160 #[.pointer (some a)] u w fun e u' w' => u' = u ∧ (e = .returned (.tuple #[]) ∧ w' = w.setCell a (.int .i32 0)) := by
  have hd := o_disable
  have he := o_enable
  have hr := o_releaseMerge
  have hadd := run_call_add (P := Tryz.prog) Tryz.func178 (by kernel_rfl) (by kernel_rfl) (by kernel_rfl) .i32 (by kernel_rfl) (y := -1) (s := 0) hc hz (by simp [go_sem]; rfl)
  have hcv := run_convert_to_unsafe (P := Tryz.prog) (src := 196) (dst := 200) Tryz.underlying196 Tryz.underlying200 (by kernel_rfl) hc
  go_enter_d Tryz.func160, Tryz.ntmps160
  go_wp2
  go_end0
  go_wp2
  go_end0
  exact ⟨rfl, rfl⟩

set_option maxRecDepth 100000 in
/-- '(*sync.Mutex).Lock', the lock free. -/
theorem o_lock (a : Addr) (w : World) (hc : w.cell? a = some (.int .i32 0)) (hz : w.frozen? a = false) :
    Calls Tryz.prog 159 #[.pointer (some a)] w fun e w' => e = .returned (.tuple #[]) ∧ w' = w.setCell a (.int .i32 1) := by
  have hd := o_disable
  have he := o_enable
  have ha := o_acquire
  have hcas := run_call_cas_hit (P := Tryz.prog) Tryz.func173 (by kernel_rfl) (by kernel_rfl) (by kernel_rfl) .i32 (by kernel_rfl) (y := 1) hc hz
  have hc' : (w.setCell a (.int .i32 1)).cell? a = some (.int .i32 1) := World.cell?_setCell_same w a _ hc
  have hcv := run_convert_to_unsafe (P := Tryz.prog) (src := 196) (dst := 200) Tryz.underlying196 Tryz.underlying200 (by kernel_rfl) hc'
  go_enter Tryz.func159, Tryz.ntmps159
  go_wp2
  first | go_end0 | (simp only [Exit.inBlock, Exit.then]; refine bodyPost_ret (results_none rfl _ _ _) rfl ?_) | refine bodyPost_ret (results_none rfl _ _ _) rfl ?_
  go_wp2
  go_end0
  exact ⟨rfl, rfl⟩

/-- '(*sync.Once).Do', done already: the function is not called. -/
theorem o_done (b off : Nat) (fv : Value) (w : World) (h0 : w.cell? ⟨b, off, none⟩ = some (.int .u32 1)) :
    Calls Tryz.prog 120 #[.pointer (some ⟨b, off, none⟩), fv] w fun e w' => e = .returned (.tuple #[]) ∧ w' = w := by
  have hl := run_call_load (P := Tryz.prog) Tryz.func158 (by kernel_rfl) (by kernel_rfl) (by kernel_rfl) .u32 (by kernel_rfl) h0
  have hnot : ∀ (x : Bool) (w : World), (Op.unary .not (.bool x)).run Tryz.prog w = .ok (.bool (!x)) w := fun _ _ => rfl
  go_enter Tryz.func120, Tryz.ntmps120
  go_wp2_with (first | (go_at_call 140; go_in))
  go_end0
  exact ⟨rfl, rfl⟩

set_option maxRecDepth 100000 in
set_option maxHeartbeats 1600000 in
/-- '(*sync.Once).doSlow', not yet done, the lock free, by the function's own contract. -/
theorem o_slow (b off : Nat) (pg pk : Addr) (w : World) (h0 : w.cell? ⟨b, off, none⟩ = some (.int .u32 0)) (h1 : w.cell? ⟨b, off + 1, none⟩ = some (.int .i32 0))
    (f1 : w.frozen? ⟨b, off + 1, none⟩ = false) (Post : World → Prop)
    (hf : Calls Tryz.prog 121 #[.pointer (some pg), .pointer (some pk)] (w.setCell ⟨b, off + 1, none⟩ (.int .i32 1)) fun e w' => e = .returned (.tuple #[]) ∧ Post w')
    (hp : ∀ w', Post w' → w'.cell? ⟨b, off, none⟩ = some (.int .u32 0) ∧ w'.frozen? ⟨b, off, none⟩ = false ∧ w'.cell? ⟨b, off + 1, none⟩ = some (.int .i32 1) ∧ w'.frozen? ⟨b, off + 1, none⟩ = false) :
    Calls Tryz.prog 141 #[.pointer (some ⟨b, off, none⟩), .func (.func 121) #[] #[.pointer (some pg), .pointer (some pk)]] w fun e w' => e = .returned (.tuple #[]) ∧
      ∃ w1, Post w1 ∧ w' = (w1.drew.setCell ⟨b, off, none⟩ (.int .u32 1)).setCell ⟨b, off + 1, none⟩ (.int .i32 0) := by
  have hl := run_call_load (P := Tryz.prog) Tryz.func158 (by kernel_rfl) (by kernel_rfl) (by kernel_rfl) .u32 (by kernel_rfl) (w := w.setCell ⟨b, off + 1, none⟩ (.int .i32 1)) (a := ⟨b, off, none⟩) (x := 0) ((World.cell?_setCell_other _ ⟨b, off + 1, none⟩ ⟨b, off, none⟩ _ (by simp)).trans h0)
  have hnot : ∀ (x : Bool) (w : World), (Op.unary .not (.bool x)).run Tryz.prog w = .ok (.bool (!x)) w := fun _ _ => rfl
  have HF := hid hf
  have HP := hid hp
  clear hf hp
  go_enter_defers Tryz.func141, Tryz.ntmps141
  go_wp2_with (first | (go_at_call 159; refine (o_lock ⟨b, off + 1, none⟩ _ (by go_simp) (by go_simp)).mono ?_; rintro e w' ⟨rfl, rfl⟩) | (go_at_call 121; refine HF.out.mono ?_; rintro e w1 ⟨rfl, hP⟩) | (go_at_call 140; go_in))
  obtain ⟨q0, q1, q2, q3⟩ := HP.out _ hP
  go_wp2
  refine leaves_cons (f := 161) (args := #[.pointer (some ⟨b, off, none⟩), .bool true]) (by simp) (by simp [go_sem]) ?_
  refine (o_store ⟨b, off, none⟩ (.int .u32 0) .returning _ q0 q1).mono ?_
  rintro e u' w'' ⟨rfl, rfl, rfl⟩
  refine leaves_cons (f := 160) (args := #[.pointer (some ⟨b, off + 1, none⟩)]) (by simp [settle]) (by simp [go_sem]) ?_
  refine (o_unlock ⟨b, off + 1, none⟩ _ _ ?_ (by simp [q3])).mono ?_
  · refine (World.cell?_setCell_other _ ⟨b, off, none⟩ ⟨b, off + 1, none⟩ _ (by simp)).trans ?_
    rw [World.cell?_drew]
    exact q2
  rintro e u' w'' ⟨rfl, rfl, rfl⟩
  simp [Leaves, settle, results, Tryz.results141]
  exact ⟨w1, hP, rfl⟩

set_option maxRecDepth 100000 in
set_option maxHeartbeats 1600000 in
/-- '(*sync.Once).Do', not yet done, the lock free. -/
theorem o_first (b off : Nat) (pg pk : Addr) (w : World) (h0 : w.cell? ⟨b, off, none⟩ = some (.int .u32 0)) (h1 : w.cell? ⟨b, off + 1, none⟩ = some (.int .i32 0))
    (f1 : w.frozen? ⟨b, off + 1, none⟩ = false) (Post : World → Prop)
    (hf : Calls Tryz.prog 121 #[.pointer (some pg), .pointer (some pk)] (w.setCell ⟨b, off + 1, none⟩ (.int .i32 1)) fun e w' => e = .returned (.tuple #[]) ∧ Post w')
    (hp : ∀ w', Post w' → w'.cell? ⟨b, off, none⟩ = some (.int .u32 0) ∧ w'.frozen? ⟨b, off, none⟩ = false ∧ w'.cell? ⟨b, off + 1, none⟩ = some (.int .i32 1) ∧ w'.frozen? ⟨b, off + 1, none⟩ = false) :
    Calls Tryz.prog 120 #[.pointer (some ⟨b, off, none⟩), .func (.func 121) #[] #[.pointer (some pg), .pointer (some pk)]] w fun e w' => e = .returned (.tuple #[]) ∧
      ∃ w1, Post w1 ∧ w' = (w1.drew.setCell ⟨b, off, none⟩ (.int .u32 1)).setCell ⟨b, off + 1, none⟩ (.int .i32 0) := by
  have hl := run_call_load (P := Tryz.prog) Tryz.func158 (by kernel_rfl) (by kernel_rfl) (by kernel_rfl) .u32 (by kernel_rfl) h0
  have hnot : ∀ (x : Bool) (w : World), (Op.unary .not (.bool x)).run Tryz.prog w = .ok (.bool (!x)) w := fun _ _ => rfl
  have HS := hid (o_slow b off pg pk w h0 h1 f1 Post hf hp)
  clear hf hp
  go_enter Tryz.func120, Tryz.ntmps120
  go_wp2_with (first | (go_at_call 141; refine HS.out.mono ?_; rintro e w' ⟨rfl, w1, hP, rfl⟩) | (go_at_call 140; go_in))
  go_end0
  exact ⟨rfl, w1, hP, rfl⟩

end Go.Proofs.YtokemdbgcegjiaaGreat

namespace Go.Proofs.YtokemdbgcegjiaaGreat
open Go.RowKit Go.Maps
set_option linter.unusedVariables false
set_option linter.unusedSimpArgs false
attribute [local go_sem ↓] Go.wp_at_zero Go.wp_at_succ

/-- The blocks: where they begin, the grove's box and map, the map of results, the Once, the variables. -/
structure SysK where
  base : Nat
  p : Nat
  mb : Nat
  km : Nat
  ob : Nat
  gb : Nat
  kb : Nat
  rb : Nat
/-- The closure itself. -/
def SysK.cv (K : SysK) : Value := .func (.func 119) #[] #[.pointer (some ⟨K.ob, 0, none⟩), .pointer (some ⟨K.gb, 0, none⟩), .pointer (some ⟨K.kb, 0, none⟩), .pointer (some ⟨K.rb, 0, none⟩)]
def onceRow (w : World) (b : Nat) (d s : Int) : Prop := w.rowIs b 150 3 (fun j => if j = 0 then .int .u32 d else if j = 1 then .int .i32 s else .int .u32 0)
/-- The variables alone. -/
structure SysV (K : SysK) (w : World) : Prop where
  gbx : w.rowIs K.gb 77 1 (fun _ => .pointer (some ⟨K.p, 0, none⟩))
  kbx : w.rowIs K.kb 138 1 (fun _ => .map (some K.km))
  rbx : w.rowIs K.rb 79 1 (fun _ => K.cv)
  lkm : K.base ≤ K.km
  lob : K.base ≤ K.ob
  dkm : K.km ≠ K.mb
structure Sys (K : SysK) (w : World) (g : Nat) (B : List Qd) (n : Nat) : Prop where
  gv : ∃ cap, Grv w K.base K.p g cap K.mb B
  gr : Grows B
  kept : ∃ M, MapN w K.km n M ∧ KeptOK B M
  once : ∃ d : Int, (d = 0 ∨ d = 1) ∧ onceRow w K.ob d 0
  vars : SysV K w
/-- What changes but for these. -/
def RElse (K : SysK) (w w' : World) (g : Nat) : Prop := ∀ k, k < w.heap.size → k ≠ K.p → k ≠ g → k ≠ K.mb → k ≠ K.km → k ≠ K.ob → w'.heap[k]? = w.heap[k]?
theorem RElse.trans {K : SysK} {a b c : World} {g g' : Nat} (h : RElse K a b g) (hs : a.heap.size ≤ b.heap.size) (hg : g' = g ∨ a.heap.size ≤ g') (k : RElse K b c g') : RElse K a c g := fun i h1 h2 h3 h4 h5 h6 =>
  (k i (Nat.lt_of_lt_of_le h1 hs) h2 (by rcases hg with rfl | hg
                                         · exact h3
                                         · omega) h4 h5 h6).trans (h i h1 h2 h3 h4 h5 h6)
theorem RElse.of_below {K : SysK} {w w' : World} {g : Nat} (h : Below w.heap.size w w') : RElse K w w' g := fun i h1 _ _ _ _ _ => h.block i h1
theorem RElse.of_grove {K : SysK} {w w' : World} {g : Nat} (h : GElse w w' K.p g K.mb) : RElse K w w' g := fun i h1 h2 h3 h4 _ _ => h i h1 h2 h3 h4
theorem RElse.of_kept {K : SysK} {w w' : World} {g : Nat} (h : KElse w w' K.p g K.mb K.km) : RElse K w w' g := fun i h1 h2 h3 h4 h5 _ => h i h1 h2 h3 h4 h5
theorem RElse.set {K : SysK} {w w' : World} {g : Nat} (h : RElse K w w' g) {B : Nat} (hB : w.heap.size ≤ B) (k : Nat) (v : Value) : RElse K w (w'.setCell ⟨B, k, none⟩ v) g := fun i h1 h2 h3 h4 h5 h6 =>
  (Below.heap_setCell w' ⟨B, k, none⟩ v i (by dsimp only; omega)).trans (h i h1 h2 h3 h4 h5 h6)
/-- A row of anything else than groves, nodes and Onces stays. -/
theorem RElse.row {K : SysK} {w w' : World} {g cap n : Nat} {B : List Qd} {M : Int → Option Int} {d s : Int} (h : RElse K w w' g) (hG : Grv w K.base K.p g cap K.mb B) (hM : MapN w K.km n M) (hO : onceRow w K.ob d s) {b m : Nat} {t : TypeId} {f : Nat → Value} (hr : w.rowIs b t m f) (h1 : t ≠ 102) (h2 : t ≠ 98) (h3 : t ≠ 150) : w'.rowIs b t m f := by
  obtain ⟨c, hc, _⟩ := id hr
  refine hr.of_block (h b hr.lt ?_ ?_ ?_ ?_ ?_)
  · rintro rfl
    obtain ⟨d, hd, _⟩ := hG.box
    rw [hc] at hd
    simp at hd
    exact h1 hd.2
  · rintro rfl
    exact own_row_ne hG.own hr h2 rfl
  · rintro rfl
    obtain ⟨D, ⟨es, clock, hd, _⟩, _⟩ := hG.map
    rw [hc] at hd
    simp at hd
  · rintro rfl
    obtain ⟨D, ⟨es, clock, hd, _⟩, _⟩ := hM
    rw [hc] at hd
    simp at hd
  · rintro rfl
    obtain ⟨d, hd, _⟩ := hO
    rw [hc] at hd
    simp at hd
    exact h3 hd.2
theorem Sys.row {K : SysK} {w w' : World} {g n : Nat} {B : List Qd} (h : Sys K w g B n) (he : RElse K w w' g) {b m : Nat} {t : TypeId} {f : Nat → Value} (hr : w.rowIs b t m f) (h1 : t ≠ 102) (h2 : t ≠ 98) (h3 : t ≠ 150) : w'.rowIs b t m f := by
  obtain ⟨cap, hG⟩ := h.gv
  obtain ⟨M, hM, _⟩ := h.kept
  obtain ⟨d, _, hO⟩ := h.once
  exact he.row hG hM hO hr h1 h2 h3
theorem SysV.of {K : SysK} {w w' : World} (h : SysV K w) (hr : ∀ {b m : Nat} {t : TypeId} {f : Nat → Value}, w.rowIs b t m f → t ≠ 102 → t ≠ 98 → t ≠ 150 → w'.rowIs b t m f) : SysV K w' :=
  ⟨hr h.gbx (by decide) (by decide) (by decide), hr h.kbx (by decide) (by decide) (by decide), hr h.rbx (by decide) (by decide) (by decide), h.lkm, h.lob, h.dkm⟩
theorem Sys.below {K : SysK} {w w' : World} {g n : Nat} {B : List Qd} (h : Sys K w g B n) (hb : Below w.heap.size w w') : Sys K w' g B n := by
  obtain ⟨cap, hG⟩ := h.gv
  obtain ⟨M, hM, hK⟩ := h.kept
  obtain ⟨d, hd, hO⟩ := h.once
  exact ⟨⟨cap, hG.below hb⟩, h.gr, ⟨M, hM.blk (hb.block _ hM.lt), hK⟩, ⟨d, hd, World.rowIs.of_block hO (hb.block _ (World.rowIs.lt hO))⟩, h.vars.of fun hr _ _ _ => hr.of_block (hb.block _ hr.lt)⟩
/-- The blocks of a system are unlike. -/
theorem Sys.apart {K : SysK} {w : World} {g cap n : Nat} {B : List Qd} {M : Int → Option Int} {d s : Int} (hG : Grv w K.base K.p g cap K.mb B) (hM : MapN w K.km n M) (hO : onceRow w K.ob d s) (hd : K.km ≠ K.mb) : (K.km ≠ K.p ∧ K.km ≠ g ∧ K.km ≠ K.mb) ∧ (K.ob ≠ K.p ∧ K.ob ≠ g ∧ K.ob ≠ K.mb ∧ K.ob ≠ K.km) := by
  obtain ⟨D, ⟨es, clock, hm, _⟩, _⟩ := hM
  obtain ⟨c, hc, _⟩ := hO
  obtain ⟨c2, hc2, _⟩ := hG.box
  obtain ⟨D3, ⟨es3, clock3, hm3, _⟩, _⟩ := hG.map
  have hgn : ∃ c4, w.heap[g]? = some (.cells c4 98 (0, 0)) := by
    rcases hG.own.2 with ⟨e, _⟩ | ⟨g', cap', cur, e, _, hg, _⟩
    · cases e
    · simp only [Value.slice.injEq, Option.some.injEq, Addr.mk.injEq, and_true, true_and] at e
      obtain ⟨rfl, _⟩ := e
      exact ⟨cur, hg⟩
  obtain ⟨c4, hc4⟩ := hgn
  refine ⟨⟨?_, ?_, hd⟩, ?_, ?_, ?_, ?_⟩
  · intro e; rw [e, hc2] at hm; simp at hm
  · intro e; rw [e, hc4] at hm; simp at hm
  · intro e; rw [e, hc2] at hc; simp at hc
  · intro e; rw [e, hc4] at hc; simp at hc
  · intro e; rw [e, hm3] at hc; simp at hc
  · intro e; rw [e, hm] at hc; simp at hc
/-- A grove's own work. -/
theorem Sys.grove {K : SysK} {w w' : World} {g g' cap' n : Nat} {B B' : List Qd} (h : Sys K w g B n) (hG' : Grv w' K.base K.p g' cap' K.mb B') (hm : More B B') (he : GElse w w' K.p g K.mb) : Sys K w' g' B' n := by
  obtain ⟨cap, hG⟩ := h.gv
  obtain ⟨M, hM, hK⟩ := h.kept
  obtain ⟨d, hd, hO⟩ := h.once
  obtain ⟨⟨a1, a2, a3⟩, b1, b2, b3, b4⟩ := Sys.apart hG hM hO h.vars.dkm
  exact ⟨⟨cap', hG'⟩, hm.grows, ⟨M, hM.blk (he _ hM.lt a1 a2 a3), hK.more h.gr hm⟩, ⟨d, hd, World.rowIs.of_block hO (he _ (World.rowIs.lt hO) b1 b2 b3)⟩, h.vars.of fun hr q1 q2 q3 => (RElse.of_grove he).row hG hM hO hr q1 q2 q3⟩
/-- A result is kept. -/
theorem Sys.keep {K : SysK} {w w' : World} {g n a b m : Nat} {B : List Qd} (h : Sys K w g B n) (h1 : a < B.length) (h2 : b < B.length) (h3 : (qa B a).1 = ((m + 2 : Nat) : Int)) (h4 : ResP B m a b) {M : Int → Option Int} (hM : MapN w K.km n M) (hK : KeptOK B M) (hm : MapN w' K.km (n + 1) (fun x => if x = (a : Int) then some (b : Int) else M x)) (hg : w.grownBy w' (some K.km)) : Sys K w' g B (n + 1) := by
  obtain ⟨cap, hG⟩ := h.gv
  obtain ⟨d, hd, hO⟩ := h.once
  obtain ⟨⟨a1, a2, a3⟩, b1, b2, b3, b4⟩ := Sys.apart hG hM hO h.vars.dkm
  refine ⟨⟨cap, hG.blk (hg.block _ hG.box.lt ?_) (hg.block _ hG.lt.2 ?_) (hg.block _ hG.mlt ?_)⟩, h.gr, ⟨_, hm, hK.put h1 h2 h3 h4⟩, ⟨d, hd, World.rowIs.of_block hO (hg.block _ (World.rowIs.lt hO) ?_)⟩, h.vars.of fun hr q1 q2 q3 => hr.of_block (hg.block _ hr.lt ?_)⟩
  · simp only [ne_eq, Option.some.injEq]; omega
  · simp only [ne_eq, Option.some.injEq]; omega
  · simp only [ne_eq, Option.some.injEq]; omega
  · simp only [ne_eq, Option.some.injEq]; omega
  · simp only [ne_eq, Option.some.injEq]
    rintro rfl
    obtain ⟨c, hc, _⟩ := hr
    obtain ⟨D, ⟨es, clock, hd, _⟩, _⟩ := hM
    rw [hc] at hd
    simp at hd

set_option maxHeartbeats 2000000 in
set_option maxRecDepth 100000 in
/-- The function handed to the Once. -/
theorem c_blanksIn (K : SysK) (w : World) {g cap n : Nat} {B : List Qd} {M : Int → Option Int} (hG : Grv w K.base K.p g cap K.mb B) (hGr : Grows B) (hlen : B.length ≤ 80000) (hM : MapN w K.km n M) (hn : n ≤ 1000000000) (hK : KeptOK B M) (hV : SysV K w) (h1 : K.km ≠ K.p) (h2 : K.km ≠ g) :
    Calls Tryz.prog 121 #[.pointer (some ⟨K.gb, 0, none⟩), .pointer (some ⟨K.kb, 0, none⟩)] w fun e w' => e = .returned (.tuple #[]) ∧ ∃ g' cap' B' n' M', Grv w' K.base K.p g' cap' K.mb B' ∧ More B B' ∧ B'.length ≤ B.length + 8 ∧ MapN w' K.km n' M' ∧ n' ≤ n + 4 ∧ KeptOK B' M' ∧ Below K.base w w' ∧ KElse w w' K.p g K.mb K.km ∧ (g' = g ∨ w.heap.size ≤ g') := by
  have HC := hid (c_keepBlanks w hG hGr hlen hM hn hV.lkm h1 h2 hV.dkm hK)
  have x0 := World.rowIs.cell hV.gbx (i := 0) (by omega)
  have x1 := World.rowIs.cell hV.kbx (i := 0) (by omega)
  clear hG hM hK hV
  go_enter Tryz.func121, Tryz.ntmps121
  go_wp2_with fail
  refine HC.out.mono ?_
  rintro e w1 ⟨g1, cap1, B1, n1, M1, rfl, q1, q2, q3, q4, q5, q6, q7, q8, q9⟩
  go_wp2_with fail
  go_end0
  exact ⟨rfl, g1, cap1, B1, n1, M1, q1, q2, q3, q4, q5, q6, q7, q8, q9⟩

end Go.Proofs.YtokemdbgcegjiaaGreat

namespace Go.Proofs.YtokemdbgcegjiaaGreat
open Go.RowKit Go.Maps
set_option linter.unusedVariables false
set_option linter.unusedSimpArgs false
attribute [local go_sem ↓] Go.wp_at_zero Go.wp_at_succ

theorem row_ne_once {w : World} {b ob m : Nat} {t : TypeId} {f : Nat → Value} {d s : Int} (hr : w.rowIs b t m f) (hO : onceRow w ob d s) (ht : t ≠ 150) : b ≠ ob := by
  rintro rfl
  obtain ⟨c, hc, _⟩ := hr
  obtain ⟨c2, hc2, _⟩ := hO
  rw [hc] at hc2
  simp at hc2
  exact ht hc2.2
/-- A cell of the Once is written. -/
theorem Grv.setOnce {w : World} {K : SysK} {g cap n : Nat} {B : List Qd} {M : Int → Option Int} {d s : Int} (hG : Grv w K.base K.p g cap K.mb B) (hM : MapN w K.km n M) (hO : onceRow w K.ob d s) (hV : SysV K w) (k : Nat) (v : Value) :
    Grv (w.setCell ⟨K.ob, k, none⟩ v) K.base K.p g cap K.mb B ∧ MapN (w.setCell ⟨K.ob, k, none⟩ v) K.km n M ∧ SysV K (w.setCell ⟨K.ob, k, none⟩ v) := by
  obtain ⟨_, b1, b2, b3, b4⟩ := Sys.apart hG hM hO hV.dkm
  have hb := fun (i : Nat) (hi : i ≠ K.ob) => Below.heap_setCell w ⟨K.ob, k, none⟩ v i hi
  exact ⟨hG.blk (hb _ b1.symm) (hb _ b2.symm) (hb _ b3.symm), hM.blk (hb _ b4.symm), hV.of fun hr _ _ q3 => hr.of_block (hb _ (row_ne_once hr hO q3))⟩

theorem c_do (K : SysK) (w : World) {g n : Nat} {B : List Qd} (h : Sys K w g B n) (hlen : B.length ≤ 80000) (hn : n ≤ 1000000000) :
    Calls Tryz.prog 120 #[.pointer (some ⟨K.ob, 0, none⟩), .func (.func 121) #[] #[.pointer (some ⟨K.gb, 0, none⟩), .pointer (some ⟨K.kb, 0, none⟩)]] w fun e w' => e = .returned (.tuple #[]) ∧ ∃ g' B' n', Sys K w' g' B' n' ∧ More B B' ∧ B'.length ≤ B.length + 8 ∧ n' ≤ n + 4 ∧ Below K.base w w' ∧ RElse K w w' g ∧ (g' = g ∨ w.heap.size ≤ g') := by
  obtain ⟨cap, hG⟩ := h.gv
  obtain ⟨M, hM, hK⟩ := h.kept
  obtain ⟨d, hd, hO⟩ := h.once
  obtain ⟨⟨a1, a2, a3⟩, b1, b2, b3, b4⟩ := Sys.apart hG hM hO h.vars.dkm
  have hbs : K.base ≤ w.heap.size := Nat.le_trans hG.lowp (Nat.le_of_lt hG.box.lt)
  rcases hd with rfl | rfl
  · have c0 : w.cell? ⟨K.ob, 0, none⟩ = some (.int .u32 0) := by simpa using World.rowIs.cell hO (i := 0) (by omega)
    have c1 : w.cell? ⟨K.ob, 1, none⟩ = some (.int .i32 0) := by simpa using World.rowIs.cell hO (i := 1) (by omega)
    have hO1 : onceRow (w.setCell ⟨K.ob, 1, none⟩ (.int .i32 1)) K.ob 0 1 := by
      refine (World.rowIs.set hO 1 (.int .i32 1)).congr fun j hj => ?_
      rcases (show j = 0 ∨ j = 1 ∨ j = 2 by omega) with rfl | rfl | rfl <;> simp
    obtain ⟨hG1, hM1, hV1⟩ := Grv.setOnce hG hM hO h.vars 1 (.int .i32 1)
    have hs1 : (w.setCell ⟨K.ob, 1, none⟩ (.int .i32 1)).heap.size = w.heap.size := by simp
    have hC := c_blanksIn K (w.setCell ⟨K.ob, 1, none⟩ (.int .i32 1)) hG1 h.gr hlen hM1 hn hK hV1 a1 a2
    refine (o_first K.ob 0 ⟨K.gb, 0, none⟩ ⟨K.kb, 0, none⟩ w c0 c1 (World.rowIs.frozen hO 1)
      (fun w' => ∃ g' cap' B' n' M', Grv w' K.base K.p g' cap' K.mb B' ∧ More B B' ∧ B'.length ≤ B.length + 8 ∧ MapN w' K.km n' M' ∧ n' ≤ n + 4 ∧ KeptOK B' M' ∧ Below K.base (w.setCell ⟨K.ob, 1, none⟩ (.int .i32 1)) w' ∧ KElse (w.setCell ⟨K.ob, 1, none⟩ (.int .i32 1)) w' K.p g K.mb K.km ∧ (g' = g ∨ w.heap.size ≤ g') ∧ onceRow w' K.ob 0 1 ∧ SysV K w')
      (hC.mono fun e w' ⟨e1, g', cap', B', n', M', q1, q2, q3, q4, q5, q6, q7, q8, q9⟩ => ⟨e1, g', cap', B', n', M', q1, q2, q3, q4, q5, q6, q7, q8, by rw [hs1] at q9; exact q9, World.rowIs.of_block hO1 (q8 K.ob (World.rowIs.lt hO1) b1 b2 b3 b4), ?_⟩) ?_).mono ?_
    · exact hV1.of fun hr r1 r2 r3 => (RElse.of_kept (K := K) q8).row hG1 hM1 hO1 hr r1 r2 r3
    · rintro w' ⟨g', cap', B', n', M', q1, q2, q3, q4, q5, q6, q7, q8, q9, q10, q11⟩
      exact ⟨by simpa using World.rowIs.cell q10 (i := 0) (by omega), World.rowIs.frozen q10 0, by simpa using World.rowIs.cell q10 (i := 1) (by omega), World.rowIs.frozen q10 1⟩
    · rintro e w' ⟨rfl, w1, ⟨g', cap', B', n', M', q1, q2, q3, q4, q5, q6, q7, q8, q9, q10, q11⟩, rfl⟩
      have hd := (Below.refl w1.heap.size w1).drew
      have d1 := q1.below hd
      have d4 := q4.blk (hd.block _ q4.lt)
      have d10 : onceRow w1.drew K.ob 0 1 := World.rowIs.of_block q10 (hd.block _ (World.rowIs.lt q10))
      have d11 : SysV K w1.drew := q11.of fun hr _ _ _ => hr.of_block (hd.block _ hr.lt)
      obtain ⟨e1, e2, e3⟩ := Grv.setOnce d1 d4 d10 d11 0 (.int .u32 1)
      have eO : onceRow (w1.drew.setCell ⟨K.ob, 0, none⟩ (.int .u32 1)) K.ob 1 1 := by
        refine (World.rowIs.set d10 0 (.int .u32 1)).congr fun j hj => ?_
        rcases (show j = 0 ∨ j = 1 ∨ j = 2 by omega) with rfl | rfl | rfl <;> simp
      obtain ⟨f1, f2, f3⟩ := Grv.setOnce e1 e2 eO e3 1 (.int .i32 0)
      have fO : onceRow ((w1.drew.setCell ⟨K.ob, 0, none⟩ (.int .u32 1)).setCell ⟨K.ob, 1, none⟩ (.int .i32 0)) K.ob 1 0 := by
        refine (World.rowIs.set eO 1 (.int .i32 0)).congr fun j hj => ?_
        rcases (show j = 0 ∨ j = 1 ∨ j = 2 by omega) with rfl | rfl | rfl <;> simp
      have hbW : Below K.base w w1.drew := ((((Below.refl K.base w).setCell (p := ⟨K.ob, 1, none⟩) h.vars.lob (.int .i32 1)).trans q7).trans (hd.mono (Nat.le_trans q1.lowp (Nat.le_of_lt q1.box.lt))))
      refine ⟨rfl, g', B', n', ⟨⟨cap', f1⟩, q2.grows, ⟨M', f2, q6⟩, ⟨1, .inr rfl, fO⟩, f3⟩, q2, q3, q5, (hbW.setCell (p := ⟨K.ob, 0, none⟩) h.vars.lob (.int .u32 1)).setCell (p := ⟨K.ob, 1, none⟩) h.vars.lob (.int .i32 0), ?_, q9⟩
      intro i r1 r2 r3 r4 r5 r6
      have t1 := q8 i (by rw [hs1]; exact r1) r2 r3 r4 r5
      have t0 := Below.heap_setCell w ⟨K.ob, 1, none⟩ (.int .i32 1) i r6
      have t2 := hd.block i (Nat.lt_of_lt_of_le r1 (by have := q7.size; rw [hs1] at this; exact this))
      have t3 := Below.heap_setCell w1.drew ⟨K.ob, 0, none⟩ (.int .u32 1) i r6
      have t4 := Below.heap_setCell (w1.drew.setCell ⟨K.ob, 0, none⟩ (.int .u32 1)) ⟨K.ob, 1, none⟩ (.int .i32 0) i r6
      exact t4.trans (t3.trans (t2.trans (t1.trans t0)))
  · have c0 : w.cell? ⟨K.ob, 0, none⟩ = some (.int .u32 1) := by simpa using World.rowIs.cell hO (i := 0) (by omega)
    refine (o_done K.ob 0 _ w c0).mono ?_
    rintro e w' ⟨rfl, rfl⟩
    exact ⟨rfl, g, B, n, h, More.refl h.gr, by omega, by omega, Below.refl _ _, fun i _ _ _ _ _ _ => rfl, .inl rfl⟩

end Go.Proofs.YtokemdbgcegjiaaGreat
