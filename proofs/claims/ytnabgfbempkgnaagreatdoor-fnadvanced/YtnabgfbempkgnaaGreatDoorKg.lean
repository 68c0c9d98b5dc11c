/- Texts of this seat, one behind the other: CountsOf, CellsOf, Dead, Step, StepS, Times, Shift, StepF, L5A. -/
import Derived.Test.YtnabgfbempkgnaaGreatDoorKf
import Derived.Test.YtnabgfbempkgnaaGreatDoorKe
namespace Go.Proofs.YtnabgfbempkgnaaGreatDoor
open Go.RowKit Go.Maps
set_option linter.unusedVariables false

theorem range_cat (M : Nat → List Cl) (k : Nat) : (List.range (k + 1)).flatMap M = (List.range k).flatMap M ++ M k := by
  rw [List.range_succ, List.flatMap_append, List.flatMap_singleton]
theorem range_cat_len {M : Nat → List Cl} {m : Nat} : ∀ {k : Nat}, (∀ i, i < k → (M i).length ≤ m) → ((List.range k).flatMap M).length ≤ k * m
  | 0, _ => by simp
  | k + 1, h => by
    rw [range_cat, List.length_append]
    have h1 := range_cat_len (M := M) (m := m) (k := k) (fun i hi => h i (by omega))
    have h2 := h k (by omega)
    rw [Nat.succ_mul]; omega

end Go.Proofs.YtnabgfbempkgnaaGreatDoor

namespace Go.Proofs.YtnabgfbempkgnaaGreatDoor
open Go.RowKit Go.Maps
set_option linter.unusedVariables false

/-- What CellsOf answers. -/
noncomputable def cofOk (l : List Cl) : Bool := decide (l.length ≤ 200) && good (ordL l)
noncomputable def cofL (l : List Cl) : List Cl := if l.length ≤ 200 then tellV (ordL l) else []
theorem cofL_le (l : List Cl) : (cofL l).length ≤ 120 := by
  unfold cofL; split
  · exact tellV_le _
  · simp

theorem cell_one (w : World) (u : Value) (t : TypeId) : (w.alloc (.cells #[u] t)).cell? ⟨w.heap.size, 0, none⟩ = some u := by
  unfold World.cell?; rw [heap_alloc_new]; rfl
theorem cnt_one (l : List Cl) : (List.range 1).flatMap (fun _ => l) = l := by simp [List.range_succ]

end Go.Proofs.YtnabgfbempkgnaaGreatDoor

namespace Go.Proofs.YtnabgfbempkgnaaGreatDoor
open Go.RowKit Go.Maps
set_option linter.unusedVariables false

/-- Whether a cell with n near it is alive next. -/
def kp (l : List Cl) (n : Int) (c : Cl) : Bool := decide (n = 3) || (decide (n = 2) && decide (c ∈ l))

/-- What is so of the map while it is gone through. -/
def Pruned (l : List Cl) (dom : Cl → Bool) (f : Cl → Int) (D : DataW Unit) (left : Lit → Bool) : Prop :=
  ∀ c, fits c → Maps.has D (kap c) = (dom c && (left (kap c) || kp l (f c) c)) ∧ (Maps.has D (kap c) = true → D.atKey (kap c) (.lit (.int .i64 0)) = .lit (.int .i64 (f c)))
theorem Pruned.start {l : List Cl} {dom : Cl → Bool} {f : Cl → Int} {D : DataW Unit} (h1 : ∀ c, fits c → Maps.has D (kap c) = dom c) (h2 : ∀ c, fits c → D.atKey (kap c) (.lit (.int .i64 0)) = .lit (.int .i64 (f c))) : Pruned l dom f D (Maps.has D) := by
  intro c hc
  refine ⟨?_, fun _ => h2 c hc⟩
  rw [h1 c hc]; cases dom c <;> simp
theorem Pruned.val {l : List Cl} {dom : Cl → Bool} {f : Cl → Int} {D : DataW Unit} {left : Lit → Bool} (h : Pruned l dom f D left) {x : Cl} (hx : fits x) (hD : Maps.has D (kap x) = true) {n : Int} (hat : D.atKey (kap x) (.lit (.int .i64 0)) = .lit (.int .i64 n)) : n = f x ∧ dom x = true := by
  have h1 := (h x hx).2 hD
  rw [hat] at h1
  have h2 := (h x hx).1
  rw [hD] at h2
  simp at h1
  refine ⟨h1, ?_⟩
  cases e : dom x
  · rw [e] at h2; simp at h2
  · rfl
theorem Pruned.keep {l : List Cl} {dom : Cl → Bool} {f : Cl → Int} {D : DataW Unit} {left : Lit → Bool} (h : Pruned l dom f D left) {x : Cl} (hx : fits x) (hk : kp l (f x) x = true) : Pruned l dom f D (fun z => left z && !z.sameKey (kap x)) := by
  intro c hc
  refine ⟨?_, (h c hc).2⟩
  by_cases e : c = x
  · subst e
    have h1 := (h c hc).1
    rw [h1]; simp only [kap_same hc hc, hk]; simp
  · rw [(h c hc).1]; simp only [kap_same hc hx]; simp [e]
theorem Pruned.drop {l : List Cl} {dom : Cl → Bool} {f : Cl → Int} {D : DataW Unit} {left : Lit → Bool} (h : Pruned l dom f D left) {x : Cl} (hx : fits x) (hk : kp l (f x) x = false) : Pruned l dom f (D.del (kap x)) (fun z => (left z && !z.sameKey (kap x)) && !z.sameKey (kap x)) := by
  intro c hc
  by_cases e : c = x
  · subst e
    refine ⟨?_, fun hh => ?_⟩
    · rw [Maps.has_del_same]; simp only [kap_same hc hc, hk]; simp
    · rw [Maps.has_del_same] at hh; cases hh
  · have hne : kap c ≠ kap x := fun hh => e (kap_inj hc hx hh)
    rw [Maps.has_del_other hne, Maps.atKey_del_other hne]
    simp only [kap_same hc hx]
    refine ⟨?_, (h c hc).2⟩
    rw [(h c hc).1]; simp [e]
theorem Pruned.done {l : List Cl} {dom : Cl → Bool} {f : Cl → Int} {D : DataW Unit} {left : Lit → Bool} {w : World} {b n : Nat} (h : Pruned l dom f D left) (hl : ∀ k, left k = false) (ho : w.ownsMap Tryz.prog 51 (plainElem Tryz.prog 3) b n D) :
    MapIs w b n (fun c => dom c && kp l (f c) c) (fun c => if (dom c && kp l (f c) c) = true then f c else 0) := by
  refine ⟨D, ho, fun c hc => ?_, fun c hc => ?_⟩
  · rw [(h c hc).1, hl]; simp
  · by_cases e : (dom c && kp l (f c) c) = true
    · simp only [if_pos e]
      refine (h c hc).2 ?_
      rw [(h c hc).1, hl]; simpa using e
    · simp only [if_neg e]
      refine Maps.atKey_of_not_has ?_ _
      rw [(h c hc).1, hl]; simpa using e

theorem Seg.kept {w0 w : World} {a : Option Addr} {l : List Cl} (h : Seg w0 a l) (hB : Below w0.heap.size w0 w) : Seg w a l := h.below hB

set_option maxRecDepth 100000 in
set_option maxHeartbeats 1000000 in
theorem c_deleteDead (w0 : World) (a : Option Addr) (l : List Cl) (ca b n : Nat) (dom : Cl → Bool) (f : Cl → Int) (w : World) (hs : Seg w0 a l) (hl : l.length ≤ 1048576) (hr : risTo l l.length = true) (hB : Below w0.heap.size w0 w) (hb : w0.heap.size ≤ b) (h : MapIs w b n dom f) (hf : ∀ c, fits c → -9223372036854775808 ≤ f c ∧ f c ≤ 9223372036854775807) :
    Calls Tryz.prog 79 #[.map (some b), .slice a l.length ca] w fun e w' => e = .returned (.tuple #[]) ∧ MapIs w' b n (fun c => dom c && kp l (f c) c) (fun c => if (dom c && kp l (f c) c) = true then f c else 0) ∧ Below w0.heap.size w0 w' := by
  obtain ⟨D, hown, hdom, hfv⟩ := h
  have HO := hid hown
  have HP := hid (Pruned.start (l := l) hdom hfv)
  have HB := hid hB
  have HS := hid hs
  have HR := hid hr
  clear hown hdom hfv hB hs hr
  go_enter Tryz.func79, Tryz.ntmps79
  go_wp2_with (first | (at_range; refine wpList_range_own _ rfl _ 113 rfl 51 3 law mund _ b n D rfl HO.out ?_; intro w2 hrg2 hg2 hs2))
  go_frame
  have HB2 : Hid (Below w0.heap.size w0 w2) := HB.out.grown hg2 HB.out.size (fun k e => by cases e)
  have hwz := HB.out.size
  generalize w.heap.size = r at *
  have HRG2 := hid hrg2
  have HRZ : Hid (w0.heap.size ≤ r) := hwz
  clear hrg2 hs2 hg2 HO HB hwz
  go_loopw [9] (fun _ wr => ∃ (left : Lit → Bool) (cn : Nat) (D : DataW Unit), wr.ranges Tryz.prog 51 (plainElem Tryz.prog 3) b r n D left cn ∧ Pruned l dom f D left ∧ Below w0.heap.size w0 wr) (fun _ wr => wr.rangeLeft b r)
  case atStart => exact ⟨_, _, D, HRG2.out, HP.out, HB2.out⟩
  case round =>
    clear HRG2 HB2 HP
    obtain ⟨left, cn, D, hrg, hP, hB⟩ := hrel
    have HRG := hid hrg
    have HP := hid hP
    have HB := hid hB
    clear hrg hP hB
    go_wp2_with (at_next; refine wpList_next_ranges _ rfl _ rfl 51 law (plainElem Tryz.prog 3) (fun c : Cl => .agg #[.int .i64 c.1, .int .i64 c.2]) (Value.int .i64) (fun key kl hk => by obtain ⟨c, hc, _⟩ := key_inv hk; exact ⟨c, hc⟩) (fun v y hv => by obtain ⟨c, rfl, _⟩ := plainElem_int_inv Tryz.underlying3 hv; exact ⟨c, rfl⟩) b r n _ _ _ rfl HRG.out ?_ ?_)
    · intro _ hl0
      have HL0 := hid hl0
      clear hl0
      go_wp2
      go_end0
      exact ⟨rfl, HP.out.done HL0.out HRG.out.owns, HB.out⟩
    · intro x1 x2 c kl yd yp w3 cn2 hkey hlk hv hat hrg2 hlt hg2 hs2 hen
      obtain ⟨x, hxe, hxf, rfl⟩ := key_inv hkey
      simp only [Value.agg.injEq, Array.mk.injEq, List.cons.injEq, Value.int.injEq, true_and, and_true] at hxe
      obtain ⟨rfl, rfl⟩ := hxe
      obtain ⟨c', ec, eyy, hwc⟩ := plainElem_int_inv Tryz.underlying3 hv
      simp only [Value.int.injEq, true_and] at ec
      subst ec
      simp only [Prod.mk.injEq] at eyy
      obtain ⟨rfl, rfl⟩ := eyy
      have hD : Maps.has D (kap x) = true := Maps.has_true_of_atKey (y := _) (fun z => hat z)
      have hval := HP.out.val hxf hD (hat _)
      obtain ⟨hcf, hdx⟩ := hval
      subst hcf
      have HXF := hid hxf
      have HRG3 := hid hrg2
      have HB3 := hid (HB.out.grown hg2 HB.out.size (fun k e => by cases e; exact HRZ.out))
      have HCN := hid hlt
      have HKEY := hid hkey
      have hbd := hf x hxf
      clear hs2 hg2 hrg2 hlt hat hv hlk hkey hD hdx hwc
      have q0 := cell_new0 w3 (.int .i64 x.1) (.int .i64 x.2) 51
      have q1 := cell_new1 w3 (.int .i64 x.1) (.int .i64 x.2) 51
      have HB4 := hid (HB3.out.alloc HB3.out.size (.cells #[.int .i64 x.1, .int .i64 x.2] 51))
      have HRG4 := hid (HRG3.out.alloc (.cells #[.int .i64 x.1, .int .i64 x.2] 51))
      generalize hfx : f x = m at *
      have HFX := hid hfx
      clear hfx hf
      by_cases h3 : m = 3
      · have HK := hid (HP.out.keep HXF.out (by rw [HFX.out, h3]; rfl))
        subst h3
        go_wp2
        go_roundw
        case rel => exact ⟨_, cn2, D, HRG4.out, HK.out, HB4.out⟩
        case measure => rw [HRG4.out.left_eq, HRG.out.left_eq]; exact HCN.out
      · by_cases h2 : m = 2
        · subst h2
          cases hm : decide (x ∈ l)
          · have HK := hid (HP.out.drop HXF.out (by rw [HFX.out]; simp [kp]; simpa using hm))
            go_wp2_with fail
            refine (c_hasCell' a l ca x false hm _ (HS.out.below HB4.out) hl HR.out).mono ?_
            rintro e w5 ⟨rfl, hb5⟩
            have r0 := (hb5.cell (p := ⟨w3.heap.size, 0, none⟩) (by simp)).trans q0
            have r1 := (hb5.cell (p := ⟨w3.heap.size, 1, none⟩) (by simp)).trans q1
            have HB5 := hid (HB4.out.trans (hb5.mono HB4.out.size))
            have HRG5 := hid (HRG4.out.kept (grown_of_below hb5 none) (by simp) (by simp))
            clear hb5 q0 q1
            go_wp2_with (at_delete; refine wpList_delete_ranges _ rfl _ _ 113 51 rfl 3 law mund _ b r n _ _ _ rfl HRG5.out _ _ rfl HKEY.out ?_; intro w6 cn6 hrg6 hle6 htn6)
            go_frame
            have HB6 := hid (HB5.out.grown htn6.grown HB5.out.size (fun k e => by cases e; exact hb))
            have HRG6 := hid hrg6
            clear hrg6 htn6
            go_roundw
            case rel => exact ⟨_, cn6, _, HRG6.out, HK.out, HB6.out⟩
            case measure => rw [HRG6.out.left_eq, HRG.out.left_eq]; have := HCN.out; omega
          · have HK := hid (HP.out.keep HXF.out (by rw [HFX.out]; simp [kp]; simpa using hm))
            go_wp2_with fail
            refine (c_hasCell' a l ca x true hm _ (HS.out.below HB4.out) hl HR.out).mono ?_
            rintro e w5 ⟨rfl, hb5⟩
            have HB5 := hid (HB4.out.trans (hb5.mono HB4.out.size))
            have HRG5 := hid (HRG4.out.kept (grown_of_below hb5 none) (by simp) (by simp))
            clear hb5 q0 q1
            go_wp2
            go_roundw
            case rel => exact ⟨_, cn2, D, HRG5.out, HK.out, HB5.out⟩
            case measure => rw [HRG5.out.left_eq, HRG.out.left_eq]; exact HCN.out
        · have HK := hid (HP.out.drop HXF.out (by rw [HFX.out]; simp [kp, h3, h2]))
          go_wp2_with (at_delete; refine wpList_delete_ranges _ rfl _ _ 113 51 rfl 3 law mund _ b r n _ _ _ rfl HRG4.out _ _ rfl HKEY.out ?_; intro w6 cn6 hrg6 hle6 htn6)
          go_frame
          have HB6 := hid (HB4.out.grown htn6.grown HB4.out.size (fun k e => by cases e; exact hb))
          have HRG6 := hid hrg6
          clear hrg6 htn6
          go_roundw
          case rel => exact ⟨_, cn6, _, HRG6.out, HK.out, HB6.out⟩
          case measure => rw [HRG6.out.left_eq, HRG.out.left_eq]; have := HCN.out; omega
end Go.Proofs.YtnabgfbempkgnaaGreatDoor

namespace Go.Proofs.YtnabgfbempkgnaaGreatDoor
open Go.RowKit Go.Maps
set_option linter.unusedVariables false

theorem nearB_comm (x c : Cl) : nearB x c = nearB c x := by
  obtain ⟨a, b⟩ := x
  obtain ⟨u, v⟩ := c
  simp only [nearB]
  congr 1
  · congr 1
    · congr 1; apply propext; constructor <;> exact fun h e => h e.symm
    · rw [Bool.and_comm]; congr 1 <;> (congr 1; apply propext; constructor <;> intro h <;> omega)
  · rw [Bool.and_comm]; congr 1 <;> (congr 1; apply propext; constructor <;> intro h <;> omega)
theorem cnt_about (l : List Cl) (c : Cl) : cnt (l.flatMap about) c = (near l c : Int) := by
  unfold cnt near
  congr 1
  induction l with
  | nil => rfl
  | cons x r ih =>
    rw [List.flatMap_cons, List.countP_append, ih, countP_is (about x) c (about_nodup x), List.countP_cons, ← nearB_comm]
    by_cases h : c ∈ about x
    · rw [if_pos h, if_pos ((mem_about x c).1 h)]; omega
    · rw [if_neg h, if_neg (fun e => h ((mem_about x c).2 e))]; omega

/-- Whether a cell is alive next. -/
def nxtB (l : List Cl) (c : Cl) : Bool := kp l (near l c : Int) c
theorem nxt_near {l : List Cl} {c : Cl} (h : nxtB l c = true) : ∃ x ∈ l, nearB c x = true := by
  have h2 : 0 < near l c := by
    simp [nxtB, kp] at h
    omega
  unfold near at h2
  rw [List.countP_pos_iff] at h2
  exact h2
theorem about_mem_fits {l : List Cl} (h : ∀ i, i < l.length → inR (at_ l i) = true) {c : Cl} (hc : c ∈ l.flatMap about) : fits c := by
  rw [List.mem_flatMap] at hc
  obtain ⟨x, hx, hcx⟩ := hc
  obtain ⟨i, hi, rfl⟩ := mem_at.1 hx
  obtain ⟨j, hj, e⟩ := mem_at.1 hcx
  exact about_fits (inR_bd (h i hi)) (by simpa [about] using hj) e
theorem about_len (l : List Cl) : (l.flatMap about).length = l.length * 8 := by
  induction l with
  | nil => rfl
  | cons c r ih => rw [List.flatMap_cons, List.length_append, ih]; simp [about]; omega

/-- The cells that p names, in order, if a list can hold them. -/
noncomputable def pickL (p : Cl → Bool) : List Cl := open Classical in if h : ∃ l', risTo l' l'.length = true ∧ ∀ c, c ∈ l' ↔ p c = true then Classical.choose h else []
theorem pickL_eq {p : Cl → Bool} {l' : List Cl} (h1 : risTo l' l'.length = true) (h2 : ∀ c, c ∈ l' ↔ p c = true) : pickL p = l' := by
  unfold pickL
  have h : ∃ l', risTo l' l'.length = true ∧ ∀ c, c ∈ l' ↔ p c = true := ⟨l', h1, h2⟩
  rw [dif_pos h]
  exact ris_unique (Classical.choose_spec h).1 h1 (fun c => ((Classical.choose_spec h).2 c).trans (h2 c).symm)

/-- What StepCells answers. -/
noncomputable def stepOk (l : List Cl) : Bool := good l && good (pickL (nxtB l))
noncomputable def stepL (l : List Cl) : List Cl := if good l then tellV (pickL (nxtB l)) else []
theorem stepL_le (l : List Cl) : (stepL l).length ≤ 120 := by
  unfold stepL; split
  · exact tellV_le _
  · simp

set_option maxRecDepth 100000 in
set_option maxHeartbeats 1000000 in
theorem c_stepFreely (a : Option Addr) (l : List Cl) (ca : Nat) (w : World) (ha : Seg w a l) (hg : good l = true) :
    Calls Tryz.prog 54 #[.slice a l.length ca] w fun e w' => ∃ v m, e = .returned v ∧ OwnS w' w.heap.size v m ∧ risTo m m.length = true ∧ (∀ c, c ∈ m ↔ nxtB l c = true) ∧ m.length ≤ 960 ∧ Below w.heap.size w w' := by
  have hl := good_le hg
  have HIN := hid (good_in hg)
  have HR := hid (good_ris hg)
  have HA := hid ha
  have HLEN := hid (about_len l)
  clear ha hg
  go_enter Tryz.func54, Tryz.ntmps54
  go_wp2_with fail
  refine (c_nearCounts a l ca _ HA.out (by omega) HIN.out).mono ?_
  rintro e w1 ⟨rfl, hC1, hb1⟩
  have HC1 := hid hC1
  have HB1 := hid hb1
  clear hC1 hb1
  go_wp2_with fail
  refine (c_deleteDead w a l ca w.heap.size _ _ _ w1 HA.out (by omega) HR.out HB1.out (Nat.le_refl _) HC1.out (fun c _ => by have := cnt_le (l.flatMap about) c; have := HLEN.out; omega)).mono ?_
  rintro e w2 ⟨rfl, hM2, hb2⟩
  have HM2 := hid hM2
  have HB2 := hid hb2
  clear hM2 hb2
  go_wp2_with fail
  refine (c_inOrder _ _ _ _ w2 HM2.out (by have := HLEN.out; omega)).mono ?_
  rintro e w3 ⟨v, m, rfl, hO, hr, hm, hl3, hb3⟩
  have HO := hid (hO.mono HB2.out.size)
  have HRR := hid hr
  have HMM := hid hm
  have HB3 := hid (HB2.out.trans (hb3.mono HB2.out.size))
  have HLL := hid hl3
  clear hO hr hm hl3 hb3
  go_wp2
  go_ret
  refine ⟨_, m, rfl, HO.out, HRR.out, fun c => ?_, by have := HLL.out; have := HLEN.out; omega, HB3.out⟩
  rw [HMM.out, cnt_about]
  constructor
  · rintro ⟨_, h⟩
    rw [Bool.and_eq_true] at h
    exact h.2
  · intro h
    obtain ⟨x, hx, hn⟩ := nxt_near h
    have hm : c ∈ l.flatMap about := by
      rw [List.mem_flatMap]
      exact ⟨x, hx, (mem_about x c).2 (by rw [nearB_comm]; exact hn)⟩
    refine ⟨about_mem_fits HIN.out hm, ?_⟩
    rw [Bool.and_eq_true]
    exact ⟨by simpa using hm, h⟩

set_option maxRecDepth 100000 in
set_option maxHeartbeats 1000000 in
theorem c_iStepCells (a : Option Addr) (l : List Cl) (ca : Nat) (w : World) (ha : Seg w a l) (hl : l.length ≤ 1048576) :
    Calls Tryz.prog 38 #[.slice a l.length ca] w fun e w' => ∃ v, e = .returned (.tuple #[v, .bool (stepOk l)]) ∧ OwnS w' w.heap.size v (stepL l) ∧ Below w.heap.size w w' := by
  cases hg : good l
  · have HC := hid (c_iGood' a l ca false hg _ ha hl)
    have HV : Hid (stepL l = [] ∧ stepOk l = false) := by simp [Hid, stepL, stepOk, hg]
    clear ha
    go_enter Tryz.func38, Tryz.ntmps38
    go_wp2_with fail
    refine HC.out.mono ?_
    rintro e w1 ⟨rfl, hb1⟩
    go_wp2
    go_ret2
    exact ⟨_, by rw [HV.out.2]; rfl, by rw [HV.out.1]; exact OwnS.nil _ _, hb1⟩
  · have HC := hid (c_iGood' a l ca true hg _ ha hl)
    have HA := hid ha
    clear ha
    go_enter Tryz.func38, Tryz.ntmps38
    go_wp2_with fail
    refine HC.out.mono ?_
    rintro e w1 ⟨rfl, hb1⟩
    have HB1 := hid hb1
    clear hb1
    go_wp2_with fail
    refine (c_stepFreely a l ca w1 (HA.out.below HB1.out) hg).mono ?_
    rintro e w2 ⟨v, m, rfl, hO, hr, hm, hl3, hb2⟩
    have HV : Hid (stepL l = tellV m ∧ stepOk l = good m) := by simp [Hid, stepL, stepOk, hg, pickL_eq hr hm]
    obtain ⟨a2, c2, rfl, hs2⟩ := hO.form
    have HB2 := hid (HB1.out.trans (hb2.mono HB1.out.size))
    have HS := hid hs2
    have HO := hid hO
    clear hs2 hO hr hm hb2
    go_wp2_with fail
    refine (c_onlyGood a2 m c2 w1.heap.size w2 HO.out HS.out (by omega)).mono ?_
    rintro e w5 ⟨v, rfl, hO5, hB5⟩
    go_wp2
    go_ret2
    exact ⟨_, by rw [HV.out.2]; rfl, by rw [HV.out.1]; exact hO5.mono HB1.out.size, HB2.out.trans (hB5.mono HB2.out.size)⟩

end Go.Proofs.YtnabgfbempkgnaaGreatDoor

namespace Go.Proofs.YtnabgfbempkgnaaGreatDoor
open Go.RowKit Go.Maps
set_option linter.unusedVariables false

/-- A cell and the eight about it, row by row. -/
def blk (x : Cl) : List Cl := [(x.1 + -1, x.2 + -1), (x.1 + 0, x.2 + -1), (x.1 + 1, x.2 + -1), (x.1 + -1, x.2 + 0), (x.1 + 0, x.2 + 0), (x.1 + 1, x.2 + 0), (x.1 + -1, x.2 + 1), (x.1 + 0, x.2 + 1), (x.1 + 1, x.2 + 1)]
theorem blk_at (x : Cl) {i j : Nat} (hi : i < 3) (hj : j < 3) : at_ (blk x) (3 * i + j) = (x.1 + (-1 + (j : Int)), x.2 + (-1 + (i : Int))) := by
  rcases (show i = 0 ∨ i = 1 ∨ i = 2 by omega) with e | e | e <;> rcases (show j = 0 ∨ j = 1 ∨ j = 2 by omega) with e' | e' | e' <;> subst e <;> subst e' <;> simp [at_, blk]
theorem near_blk {x c : Cl} (h : nearB c x = true) : c ∈ blk x := by
  obtain ⟨a, b⟩ := x
  obtain ⟨u, v⟩ := c
  simp [nearB] at h
  simp [blk]
  omega

theorem c_l1Alive' (a : Option Addr) (l : List Cl) (ca : Nat) (c : Cl) (v : Bool) (h : decide (c ∈ l) = v) (w : World) (ha : Seg w a l) (hl : l.length ≤ 1048576) :
    Calls Tryz.prog 57 #[.slice a l.length ca, .agg #[.int .i64 c.1, .int .i64 c.2]] w fun e w' => e = .returned (.bool v) ∧ Below w.heap.size w w' := by
  rw [← h]; exact c_l1Alive a l ca c w ha hl

/-- What has been gathered of the next cells among those seen. -/
def Next (l m seen : List Cl) : Prop := risTo m m.length = true ∧ ∀ c, c ∈ m ↔ (nxtB l c = true ∧ c ∈ seen)
theorem Next.add {l m seen m' : List Cl} {y : Cl} (h : Next l m seen) (hw : With m y m') (hy : nxtB l y = true) : Next l m' (seen ++ [y]) := by
  refine ⟨hw.1, fun c => ?_⟩
  rw [hw.2.1, h.2, List.mem_append, List.mem_singleton]
  constructor
  · rintro (rfl | ⟨h1, h2⟩)
    · exact ⟨hy, .inr rfl⟩
    · exact ⟨h1, .inl h2⟩
  · rintro ⟨h1, h2 | h2⟩
    · exact .inr ⟨h1, h2⟩
    · exact .inl h2
theorem Next.skip {l m seen : List Cl} {y : Cl} (h : Next l m seen) (hy : nxtB l y = false) : Next l m (seen ++ [y]) := by
  refine ⟨h.1, fun c => ?_⟩
  rw [h.2, List.mem_append, List.mem_singleton]
  constructor
  · rintro ⟨h1, h2⟩
    exact ⟨h1, .inl h2⟩
  · rintro ⟨h1, h2 | h2⟩
    · exact ⟨h1, h2⟩
    · subst h2; rw [hy] at h1; cases h1
theorem blk_take (x : Cl) {i j : Nat} (hi : i < 3) (hj : j < 3) : (blk x).take (3 * i + j + 1) = (blk x).take (3 * i + j) ++ [(x.1 + (-1 + (j : Int)), x.2 + (-1 + (i : Int)))] := by
  rw [take_snoc' (by simp [blk]; omega), blk_at x hi hj]

set_option maxRecDepth 100000 in
set_option maxHeartbeats 4000000 in
theorem c_l1Step (a : Option Addr) (l : List Cl) (ca : Nat) (w : World) (ha : Seg w a l) (hg : good l = true) :
    Calls Tryz.prog 39 #[.slice a l.length ca] w fun e w' => ∃ v m, e = .returned v ∧ SL w' v m ∧ risTo m m.length = true ∧ (∀ c, c ∈ m ↔ nxtB l c = true) ∧ m.length ≤ 1080 ∧ Below w.heap.size w w' := by
  have hl := good_le hg
  have HIN := hid (good_in hg)
  clear hg
  go_enter Tryz.func39, Tryz.ntmps39
  go_wp2
  go_loopw [3, 12] (fun v i wr => ∃ (k : Nat) (m : List Cl), k ≤ l.length ∧ i = .int .i64 k ∧ SL wr v m ∧ Next l m ((l.take k).flatMap blk) ∧ m.length ≤ 9 * k ∧ Below w.heap.size w wr) (fun _ i _ => l.length - (intOf i).toNat)
  case atStart => exact ⟨0, [], Nat.zero_le _, rfl, .inl ⟨rfl, rfl⟩, ⟨rfl, fun c => by simp⟩, by simp, Below.refl _ _⟩
  case round =>
    obtain ⟨k, m, hk, rfl, hSL, hI, hml, hbel⟩ := hrel
    have HI := hid hI
    have HB := hid hbel
    have HSL := hid hSL
    have HA := hid ha
    clear hI hSL
    by_cases hlt : k < l.length
    · obtain ⟨b1, o1, rfl, hb1, p1, p2⟩ := ha k hlt
      have g1 := (hbel.cell (p := ⟨b1, o1 + k * 2, none⟩) hb1).trans p1
      have g2 := (hbel.cell (p := ⟨b1, o1 + k * 2 + 1, none⟩) hb1).trans p2
      change _ = some (Value.int .i64 (at_ l k).1) at g1
      change _ = some (Value.int .i64 (at_ l k).2) at g2
      have hxr : -40 ≤ (at_ l k).1 ∧ (at_ l k).1 ≤ 40 ∧ -40 ≤ (at_ l k).2 ∧ (at_ l k).2 ≤ 40 := by
        have := HIN.out k hlt
        simp [inR] at this
        omega
      have HT : Hid ((l.take (k + 1)).flatMap blk = (l.take k).flatMap blk ++ blk (at_ l k)) := by
        show _ = _
        rw [take_snoc' hlt, List.flatMap_append, List.flatMap_singleton]
      generalize at_ l k = x at *
      clear p1 p2 hbel
      obtain ⟨x1, x2, x3, x4⟩ := hxr
      have HQ0 := hid (cell_new0 wr (.int .i64 x.1) (.int .i64 x.2) 51)
      have HQ1 := hid (cell_new1 wr (.int .i64 x.1) (.int .i64 x.2) 51)
      have HBX := hid (HB.out.alloc HB.out.size (.cells #[.int .i64 x.1, .int .i64 x.2] 51))
      have HSX := hid (HSL.out.below ((Below.refl wr.heap.size wr).alloc (Nat.le_refl _) (.cells #[.int .i64 x.1, .int .i64 x.2] 51)))
      have HZX : Hid (wr.heap.size < (wr.alloc (.cells #[.int .i64 x.1, .int .i64 x.2] 51)).heap.size) := hid (by simp)
      go_wp2
      generalize hWX : wr.alloc (.cells #[.int .i64 x.1, .int .i64 x.2] 51) = wx at *
      generalize hBXE : wr.heap.size = bx at *
      clear hWX g1 g2 HSL HB
      go_loopw [3, 6] (fun v d wr => ∃ (i : Nat) (m : List Cl), i ≤ 3 ∧ d = .int .i64 (-1 + (i : Int)) ∧ SL wr v m ∧ Next l m ((l.take k).flatMap blk ++ (blk x).take (3 * i)) ∧ m.length ≤ 9 * k + 3 * i ∧ Below wx.heap.size wx wr) (fun _ d _ => 3 - (intOf d + 1).toNat)
      case atStart => exact ⟨0, m, by omega, rfl, HSX.out, by simpa using HI.out, by omega, Below.refl _ _⟩
      case round =>
        clear HSX HI hml m
        obtain ⟨i, m, hi, rfl, hSL, hI, hml, hbel⟩ := hrel
        have HI := hid hI
        have HB := hid hbel
        have HSL := hid hSL
        clear hI hSL hbel
        by_cases hit : i < 3
        · have d1 : -1 + (i : Int) ≤ 1 := by omega
          have d0 : -1 ≤ -1 + (i : Int) := by omega
          go_wp2
          go_loopw [3, 7] (fun v d wr => ∃ (j : Nat) (m : List Cl), j ≤ 3 ∧ d = .int .i64 (-1 + (j : Int)) ∧ SL wr v m ∧ Next l m ((l.take k).flatMap blk ++ (blk x).take (3 * i + j)) ∧ m.length ≤ 9 * k + 3 * i + j ∧ Below wx.heap.size wx wr) (fun _ d _ => 3 - (intOf d + 1).toNat)
          case atStart => exact ⟨0, m, by omega, rfl, HSL.out, by simpa using HI.out, by omega, HB.out⟩
          case round =>
            clear HSL HI hml m HB
            obtain ⟨j, m, hj, rfl, hSL, hI, hml, hbel⟩ := hrel
            have HI := hid hI
            have HB := hid hbel
            have HSL := hid hSL
            have g3 := (hbel.cell (p := ⟨bx, 0, none⟩) HZX.out).trans HQ0.out
            have g4 := (hbel.cell (p := ⟨bx, 1, none⟩) HZX.out).trans HQ1.out
            clear hI hSL hbel
            by_cases hjt : j < 3
            · have e1 : -1 + (j : Int) ≤ 1 := by omega
              have e0 : -1 ≤ -1 + (j : Int) := by omega
              have HTK := hid (blk_take x hit hjt)
              have q0 := cell_new0 wr (.int .i64 (x.1 + (-1 + (j : Int)))) (.int .i64 (x.2 + (-1 + (i : Int)))) 51
              have q1 := cell_new1 wr (.int .i64 (x.1 + (-1 + (j : Int)))) (.int .i64 (x.2 + (-1 + (i : Int)))) 51
              have HBW := hid (HB.out.alloc HB.out.size (.cells #[.int .i64 (x.1 + (-1 + (j : Int))), .int .i64 (x.2 + (-1 + (i : Int)))] 51))
              have HSW := hid (HSL.out.below ((Below.refl wr.heap.size wr).alloc (Nat.le_refl _) (.cells #[.int .i64 (x.1 + (-1 + (j : Int))), .int .i64 (x.2 + (-1 + (i : Int)))] 51)))
              have HAW := hid (HA.out.below (HBX.out.trans (HBW.out.mono HBX.out.size)))
              have HZW : Hid (wr.heap.size < (wr.alloc (.cells #[.int .i64 (x.1 + (-1 + (j : Int))), .int .i64 (x.2 + (-1 + (i : Int)))] 51)).heap.size) := hid (by simp)
              clear HSL HB
              go_wp2_with fail
              refine (c_l1Near _ l ca (x.1 + (-1 + (j : Int)), x.2 + (-1 + (i : Int))) _ HAW.out (by omega) HIN.out (by simp only; omega)).mono ?_
              rintro e w4 ⟨rfl, hb4⟩
              have r0 := (hb4.cell (p := ⟨wr.heap.size, 0, none⟩) HZW.out).trans q0
              have r1 := (hb4.cell (p := ⟨wr.heap.size, 1, none⟩) HZW.out).trans q1
              have HBY := hid hb4
              have HZY : Hid (wr.heap.size < w4.heap.size) := hid (Nat.lt_of_lt_of_le HZW.out hb4.size)
              clear hb4 q0 q1 g3 g4
              have HNX : Hid (nxtB l (x.1 + (-1 + (j : Int)), x.2 + (-1 + (i : Int))) = kp l (near l (x.1 + (-1 + (j : Int)), x.2 + (-1 + (i : Int))) : Int) (x.1 + (-1 + (j : Int)), x.2 + (-1 + (i : Int)))) := rfl
              generalize ((near l (x.1 + (-1 + (j : Int)), x.2 + (-1 + (i : Int))) : Nat) : Int) = z at *
              by_cases h3 : z = 3
              · subst h3
                have HY : Hid (nxtB l (x.1 + (-1 + (j : Int)), x.2 + (-1 + (i : Int))) = true) := HNX.out.trans rfl
                go_wp2_with fail
                refine (c_l1Add _ m (x.1 + (-1 + (j : Int)), x.2 + (-1 + (i : Int))) _ (HSW.out.below HBY.out) (by omega) HI.out.1).mono ?_
                rintro e w7 ⟨v7, m7, rfl, hS7, hW7, hb7⟩
                have HB7 := hid (HBW.out.trans ((HBY.out.trans (hb7.mono HBY.out.size)).mono HBW.out.size))
                have HS7 := hid hS7
                have HI7 := hid (HI.out.add hW7 HY.out)
                have HL7 := hid hW7.2.2
                clear hS7 hW7 hb7
                go_wp2
                go_roundw
                case rel => exact ⟨j + 1, m7, by omega, by rw [show -1 + (j : Int) + 1 = -1 + ((j + 1 : Nat) : Int) by omega], HS7.out, by rw [show 3 * i + (j + 1) = 3 * i + j + 1 by omega, HTK.out, ← List.append_assoc]; exact HI7.out, by have := HL7.out; omega, HB7.out⟩
                case measure => simp [intOf]; omega
              · by_cases h2 : z = 2
                · subst h2
                  cases hm : decide ((x.1 + (-1 + (j : Int)), x.2 + (-1 + (i : Int))) ∈ l)
                  · have HY : Hid (nxtB l (x.1 + (-1 + (j : Int)), x.2 + (-1 + (i : Int))) = false) := HNX.out.trans (by simp only [kp, hm]; rfl)
                    go_wp2_with fail
                    refine (c_l1Alive' _ l ca (x.1 + (-1 + (j : Int)), x.2 + (-1 + (i : Int))) false hm w4 (HAW.out.below HBY.out) (by omega)).mono ?_
                    rintro e w5 ⟨rfl, hb5⟩
                    have HBY := hid (HBY.out.trans (hb5.mono HBY.out.size))
                    clear hb5 r0 r1
                    have HI7 := hid (HI.out.skip HY.out)
                    have HB7 := hid (HBW.out.trans (HBY.out.mono HBW.out.size))
                    have HS7 := hid (HSW.out.below HBY.out)
                    go_wp2
                    go_roundw
                    case rel => exact ⟨j + 1, m, by omega, by rw [show -1 + (j : Int) + 1 = -1 + ((j + 1 : Nat) : Int) by omega], HS7.out, by rw [show 3 * i + (j + 1) = 3 * i + j + 1 by omega, HTK.out, ← List.append_assoc]; exact HI7.out, by omega, HB7.out⟩
                    case measure => simp [intOf]; omega
                  · have HY : Hid (nxtB l (x.1 + (-1 + (j : Int)), x.2 + (-1 + (i : Int))) = true) := HNX.out.trans (by simp only [kp, hm]; rfl)
                    go_wp2_with fail
                    refine (c_l1Alive' _ l ca (x.1 + (-1 + (j : Int)), x.2 + (-1 + (i : Int))) true hm w4 (HAW.out.below HBY.out) (by omega)).mono ?_
                    rintro e w5 ⟨rfl, hb5⟩
                    have s0 := (hb5.cell (p := ⟨wr.heap.size, 0, none⟩) HZY.out).trans r0
                    have s1 := (hb5.cell (p := ⟨wr.heap.size, 1, none⟩) HZY.out).trans r1
                    have HBY := hid (HBY.out.trans (hb5.mono HBY.out.size))
                    clear hb5 r0 r1
                    go_wp2_with fail
                    refine (c_l1Add _ m (x.1 + (-1 + (j : Int)), x.2 + (-1 + (i : Int))) _ (HSW.out.below HBY.out) (by omega) HI.out.1).mono ?_
                    rintro e w7 ⟨v7, m7, rfl, hS7, hW7, hb7⟩
                    have HB7 := hid (HBW.out.trans ((HBY.out.trans (hb7.mono HBY.out.size)).mono HBW.out.size))
                    have HS7 := hid hS7
                    have HI7 := hid (HI.out.add hW7 HY.out)
                    have HL7 := hid hW7.2.2
                    clear hS7 hW7 hb7
                    go_wp2
                    go_roundw
                    case rel => exact ⟨j + 1, m7, by omega, by rw [show -1 + (j : Int) + 1 = -1 + ((j + 1 : Nat) : Int) by omega], HS7.out, by rw [show 3 * i + (j + 1) = 3 * i + j + 1 by omega, HTK.out, ← List.append_assoc]; exact HI7.out, by have := HL7.out; omega, HB7.out⟩
                    case measure => simp [intOf]; omega
                · have HY : Hid (nxtB l (x.1 + (-1 + (j : Int)), x.2 + (-1 + (i : Int))) = false) := HNX.out.trans (by simp [kp, h3, h2])
                  have HI7 := hid (HI.out.skip HY.out)
                  have HB7 := hid (HBW.out.trans (HBY.out.mono HBW.out.size))
                  have HS7 := hid (HSW.out.below HBY.out)
                  go_wp2
                  go_roundw
                  case rel => exact ⟨j + 1, m, by omega, by rw [show -1 + (j : Int) + 1 = -1 + ((j + 1 : Nat) : Int) by omega], HS7.out, by rw [show 3 * i + (j + 1) = 3 * i + j + 1 by omega, HTK.out, ← List.append_assoc]; exact HI7.out, by omega, HB7.out⟩
                  case measure => simp [intOf]; omega
            · obtain rfl : j = 3 := by omega
              go_wp2
              go_roundw
              case rel => exact ⟨i + 1, m, by omega, by rw [show -1 + (i : Int) + 1 = -1 + ((i + 1 : Nat) : Int) by omega], HSL.out, HI.out, by omega, HB.out⟩
              case measure => simp [intOf]; omega
        · obtain rfl : i = 3 := by omega
          have HB8 := hid (HBX.out.trans (HB.out.mono HBX.out.size))
          go_wp2
          go_roundw
          case rel => exact ⟨k + 1, m, by omega, by go_num, HSL.out, by rw [HT.out]; exact HI.out, by omega, HB8.out⟩
          case measure => simp [intOf]; omega
    · clear hbel
      go_wp2
      go_ret
      have : k = l.length := by omega
      subst this
      refine ⟨_, m, rfl, HSL.out, HI.out.1, fun c => ?_, by omega, HB.out⟩
      rw [HI.out.2, List.take_length]
      refine ⟨fun h => h.1, fun h => ⟨h, ?_⟩⟩
      obtain ⟨x, hx, hn⟩ := nxt_near h
      rw [List.mem_flatMap]
      exact ⟨x, hx, near_blk hn⟩

end Go.Proofs.YtnabgfbempkgnaaGreatDoor

namespace Go.Proofs.YtnabgfbempkgnaaGreatDoor
open Go.RowKit Go.Maps
set_option linter.unusedVariables false

/-- A step, where it is good. -/
noncomputable def nxtO (l : List Cl) : Option (List Cl) := if good (pickL (nxtB l)) then some (pickL (nxtB l)) else none
/-- So many steps. -/
noncomputable def timesO : Nat → List Cl → Option (List Cl)
  | 0, l => some l
  | n + 1, l => (nxtO l).bind (timesO n)
theorem nxtO_good {l m : List Cl} (h : nxtO l = some m) : good m = true := by
  unfold nxtO at h
  split at h
  · cases h; assumption
  · cases h
theorem timesO_good : ∀ {n : Nat} {l m : List Cl}, good l = true → timesO n l = some m → good m = true
  | 0, l, m, hg, h => by simp [timesO] at h; rw [← h]; exact hg
  | n + 1, l, m, hg, h => by
    unfold timesO at h
    cases e : nxtO l with
    | none => rw [e] at h; cases h
    | some k => rw [e] at h; exact timesO_good (nxtO_good e) h

/-- Whether a number of times is in bounds. -/
def inT (t : Int) : Bool := decide (0 ≤ t) && decide (t ≤ 20)
/-- What StepTimes answers. -/
noncomputable def timesOk (l : List Cl) (t : Int) : Bool := good l && inT t && (timesO t.toNat l).isSome
noncomputable def timesL (l : List Cl) (t : Int) : List Cl := if good l && inT t then (timesO t.toNat l).getD [] else []
theorem timesL_le (l : List Cl) (t : Int) : (timesL l t).length ≤ 120 := by
  unfold timesL; split
  · rename_i h
    rw [Bool.and_eq_true] at h
    cases e : timesO t.toNat l with
    | none => simp
    | some m => exact good_le (timesO_good h.1 e)
  · simp
theorem inT_bd {t : Int} (h : inT t = true) : 0 ≤ t ∧ t ≤ 20 := by simp [inT] at h; exact h
theorem c_l1In20 (n : Int) (v : Bool) (h : inT n = v) (w : World) : Calls Tryz.prog 23 #[.int .i64 n, .int .i64 0, .int .i64 20] w fun e w' => e = .returned (.bool v) ∧ w' = w := by
  rw [← h]; exact c_l1In n 0 20 w

set_option maxRecDepth 100000 in
set_option maxHeartbeats 1000000 in
theorem c_sStepTimes (a : Option Addr) (l : List Cl) (ca : Nat) (t : Int) (w : World) (ha : Seg w a l) (hca : a = none → ca = 0) (hl : l.length ≤ 1048576) :
    Calls Tryz.prog 18 #[.slice a l.length ca, .int .i64 t] w fun e w' => ∃ v, e = .returned (.tuple #[v, .bool (timesOk l t)]) ∧ OwnS w' w.heap.size v (timesL l t) ∧ Below w.heap.size w w' := by
  cases hg : good l
  · have HC := hid (c_sGood' a l ca false hg _ ha hl)
    have HV : Hid (timesL l t = [] ∧ timesOk l t = false) := by simp [Hid, timesL, timesOk, hg]
    clear ha
    go_enter Tryz.func18, Tryz.ntmps18
    go_wp2_with fail
    refine HC.out.mono ?_
    rintro e w1 ⟨rfl, hb1⟩
    go_wp2
    go_ret2
    exact ⟨_, by rw [HV.out.2]; rfl, by rw [HV.out.1]; exact OwnS.nil _ _, hb1⟩
  · have HC := hid (c_sGood' a l ca true hg _ ha hl)
    cases ht : inT t
    · have HV : Hid (timesL l t = [] ∧ timesOk l t = false) := by simp [Hid, timesL, timesOk, hg, ht]
      have HI := hid (c_l1In20 t false ht)
      clear ha
      go_enter Tryz.func18, Tryz.ntmps18
      go_wp2_with fail
      refine HC.out.mono ?_
      rintro e w1 ⟨rfl, hb1⟩
      go_wp2_with fail
      refine (HI.out _).mono ?_
      rintro e w2 ⟨rfl, rfl⟩
      go_wp2
      go_ret2
      exact ⟨_, by rw [HV.out.2]; rfl, by rw [HV.out.1]; exact OwnS.nil _ _, hb1⟩
    · obtain ⟨T, rfl⟩ : ∃ T : Nat, t = (T : Int) := ⟨t.toNat, by have := inT_bd ht; omega⟩
      have HI := hid (c_l1In20 (T : Int) true ht)
      have htb := inT_bd ht
      have HA := hid ha
      have HG := hid hg
      have HV0 : Hid (timesL l (T : Int) = (timesO T l).getD [] ∧ timesOk l (T : Int) = (timesO T l).isSome) := by simp [Hid, timesL, timesOk, hg, ht]
      clear ha
      go_enter Tryz.func18, Tryz.ntmps18
      go_wp2_with fail
      refine HC.out.mono ?_
      rintro e w1 ⟨rfl, hb1⟩
      have HB1 := hid hb1
      have HA1 := hid (HA.out.below hb1)
      clear hb1
      go_wp2_with fail
      refine (HI.out _).mono ?_
      rintro e w2 ⟨rfl, rfl⟩
      clear HC HI HA
      have hlg := good_le hg
      clear hg ht
      go_wp2_with fail
      go_loopw [0, 1] (fun v i wr => ∃ (s : Nat) (a' : Option Addr) (m : List Cl) (ca' : Nat), s ≤ 20 ∧ i = .int .i64 s ∧ v = .slice a' m.length ca' ∧ Seg wr a' m ∧ (a' = none → ca' = 0) ∧ good m = true ∧ timesO s m = timesO T l ∧ Below w.heap.size w wr) (fun _ i _ => (intOf i).toNat)
      case atStart => exact ⟨T, a, l, ca, by omega, rfl, rfl, HA1.out, hca, HG.out, rfl, HB1.out⟩
      case round =>
        clear HA1 HB1 HG
        obtain ⟨s, a', m, ca', hs, rfl, rfl, hsg, hcc, hgm, hT, hbel⟩ := hrel
        have HSG := hid hsg
        have HT := hid hT
        have HB := hid hbel
        have hlm := good_le hgm
        have HGM := hid hgm
        clear hsg hT hbel hgm
        cases s with
        | zero =>
          have HV : Hid (timesL l (T : Int) = tellV m ∧ timesOk l (T : Int) = good m) := by
            have h1 := HV0.out
            rw [← HT.out] at h1
            simp [timesO] at h1
            have h2 := HGM.out
            simp [Hid, h1, tellV, h2]
          go_wp2_with fail
          refine (c_l1Tell a' m ca' _ HSG.out (by omega) hcc).mono ?_
          rintro e w5 ⟨v, rfl, hO5, hB5⟩
          go_wp2
          go_ret2
          exact ⟨_, by rw [HV.out.2]; rfl, by rw [HV.out.1]; exact hO5.mono HB.out.size, HB.out.trans (hB5.mono HB.out.size)⟩
        | succ s =>
          have hs0 : (0 : Int) < ((s + 1 : Nat) : Int) := by omega
          have hs1 : ((s + 1 : Nat) : Int) ≤ 20 := by omega
          generalize hSS : ((s + 1 : Nat) : Int) = S at *
          go_wp2_with fail
          refine (c_l1Step a' m ca' _ HSG.out HGM.out).mono ?_
          rintro e w3 ⟨v3, m3, rfl, hS3, hr3, hm3, hl3, hb3⟩
          obtain ⟨a3, c3, rfl, hs3, hc3⟩ := hS3.form
          have HP := hid (pickL_eq hr3 hm3)
          have HS3 := hid hs3
          have HB3 := hid (HB.out.trans (hb3.mono HB.out.size))
          clear hS3 hr3 hm3 hs3 hb3
          cases hg3 : good m3
          · have HV : Hid (timesL l (T : Int) = [] ∧ timesOk l (T : Int) = false) := by
              have h1 := HV0.out
              rw [← HT.out] at h1
              simp only [timesO, nxtO, HP.out, hg3] at h1
              simpa [Hid] using h1
            go_wp2_with fail
            refine (c_sGood' a3 m3 c3 false hg3 _ HS3.out (by omega)).mono ?_
            rintro e w4 ⟨rfl, hb4⟩
            go_wp2
            go_ret2
            exact ⟨_, by rw [HV.out.2]; rfl, by rw [HV.out.1]; exact OwnS.nil _ _, HB3.out.trans (hb4.mono HB3.out.size)⟩
          · have HT3 : Hid (timesO s m3 = timesO T l) := by
              have h1 := HT.out
              simp only [timesO, nxtO, HP.out, hg3] at h1
              simpa [Hid] using h1
            go_wp2_with fail
            refine (c_sGood' a3 m3 c3 true hg3 _ HS3.out (by omega)).mono ?_
            rintro e w4 ⟨rfl, hb4⟩
            have HB4 := hid (HB3.out.trans (hb4.mono HB3.out.size))
            have HS4 := hid (HS3.out.below hb4)
            clear hb4
            go_wp2
            go_roundw
            case rel => exact ⟨s, a3, m3, c3, by omega, by rw [show S - 1 = (s : Int) by omega], rfl, HS4.out, hc3, hg3, HT3.out, HB4.out⟩
            case measure => simp [intOf]; omega

set_option maxRecDepth 100000 in
set_option maxHeartbeats 1000000 in
theorem c_iStepTimes (a : Option Addr) (l : List Cl) (ca : Nat) (t : Int) (w : World) (ha : Seg w a l) (hca : a = none → ca = 0) (hl : l.length ≤ 1048576) :
    Calls Tryz.prog 16 #[.slice a l.length ca, .int .i64 t] w fun e w' => ∃ v, e = .returned (.tuple #[v, .bool (timesOk l t)]) ∧ OwnS w' w.heap.size v (timesL l t) ∧ Below w.heap.size w w' := by
  cases hg : good l
  · have HC := hid (c_iGood' a l ca false hg _ ha hl)
    have HV : Hid (timesL l t = [] ∧ timesOk l t = false) := by simp [Hid, timesL, timesOk, hg]
    clear ha
    go_enter Tryz.func16, Tryz.ntmps16
    go_wp2_with fail
    refine HC.out.mono ?_
    rintro e w1 ⟨rfl, hb1⟩
    go_wp2
    go_ret2
    exact ⟨_, by rw [HV.out.2]; rfl, by rw [HV.out.1]; exact OwnS.nil _ _, hb1⟩
  · have HC := hid (c_iGood' a l ca true hg _ ha hl)
    have hlg := good_le hg
    by_cases t0 : t < 0
    · have HV : Hid (timesL l t = [] ∧ timesOk l t = false) := by
        have : inT t = false := by simp [inT]; omega
        simp [Hid, timesL, timesOk, hg, this]
      clear ha
      go_enter Tryz.func16, Tryz.ntmps16
      go_wp2_with fail
      refine HC.out.mono ?_
      rintro e w1 ⟨rfl, hb1⟩
      go_wp2
      go_ret2
      exact ⟨_, by rw [HV.out.2]; rfl, by rw [HV.out.1]; exact OwnS.nil _ _, hb1⟩
    · by_cases t1 : 20 < t
      · have HV : Hid (timesL l t = [] ∧ timesOk l t = false) := by
          have : inT t = false := by simp [inT]; omega
          simp [Hid, timesL, timesOk, hg, this]
        clear ha
        go_enter Tryz.func16, Tryz.ntmps16
        go_wp2_with fail
        refine HC.out.mono ?_
        rintro e w1 ⟨rfl, hb1⟩
        go_wp2
        go_ret2
        exact ⟨_, by rw [HV.out.2]; rfl, by rw [HV.out.1]; exact OwnS.nil _ _, hb1⟩
      · obtain ⟨T, rfl⟩ : ∃ T : Nat, t = (T : Int) := ⟨t.toNat, by omega⟩
        have HV0 : Hid (timesL l (T : Int) = (timesO T l).getD [] ∧ timesOk l (T : Int) = (timesO T l).isSome) := by
          have : inT (T : Int) = true := by simp [inT]; omega
          simp [Hid, timesL, timesOk, hg, this]
        have HA := hid ha
        have HG := hid hg
        clear ha hg
        go_enter Tryz.func16, Tryz.ntmps16
        go_wp2_with fail
        refine HC.out.mono ?_
        rintro e w1 ⟨rfl, hb1⟩
        have HB1 := hid hb1
        clear hb1
        go_wp2_with (at_builtin; refine wpList_app' rfl _ _ rfl w.heap.size (.slice none 0 0) [] l a l.length ca rfl (OwnS.nil _ _) rfl rfl (HA.out.below HB1.out) hca (by simp; omega) HB1.out.size ?_; intro v2 w2 hO2 hG2)
        have HO2 := hid hO2
        have HB2 := hid (below_grown HB1.out (OwnS.nil w1 w.heap.size) hG2)
        clear hO2 hG2 HC HA HB1
        go_loopw [6, 7, 8] (fun v o i wr => ∃ (k : Nat) (ok : Bool) (m : List Cl), k ≤ T ∧ i = .int .i64 k ∧ o = .bool ok ∧ OwnS wr w.heap.size v m ∧ (ok = true → good m = true ∧ timesO (T - k) m = timesO T l) ∧ (ok = false → m = [] ∧ timesO T l = none) ∧ Below w.heap.size w wr) (fun _ _ i _ => T - (intOf i).toNat)
        case atStart => exact ⟨0, true, l, by omega, rfl, rfl, by simpa using HO2.out, fun _ => ⟨HG.out, rfl⟩, (fun h => by cases h), HB2.out⟩
        case round =>
          clear HO2 HB2 HG
          obtain ⟨k, ok, m, hk, rfl, rfl, hO, h1, h2, hbel⟩ := hrel
          obtain ⟨a', c', rfl, hsg⟩ := hO.form
          have HO := hid hO
          have HSG := hid hsg
          have HB := hid hbel
          have H1 := hid h1
          have H2 := hid h2
          clear hO hsg hbel h1 h2
          cases ok with
          | false =>
            have HV : Hid (timesL l (T : Int) = m ∧ timesOk l (T : Int) = false) := by
              obtain ⟨e1, e2⟩ := H2.out rfl
              have h1 := HV0.out
              rw [e2] at h1
              subst e1
              simpa [Hid] using h1
            go_wp2
            go_ret2
            exact ⟨_, by rw [HV.out.2]; rfl, by rw [HV.out.1]; exact HO.out, HB.out⟩
          | true =>
            obtain ⟨hgm, hT⟩ := H1.out rfl
            have hlm := good_le hgm
            have HT := hid hT
            clear hT
            by_cases hkt : k < T
            · have k0 : (k : Int) < (T : Int) := by omega
              have HC := hid (c_iStepCells a' m c' wr HSG.out (by omega))
              have HSO : Hid (stepOk m = good (pickL (nxtB m)) ∧ stepL m = tellV (pickL (nxtB m))) := by simp [Hid, stepOk, stepL, hgm]
              have HT1 : Hid (timesO (T - k) m = (nxtO m).bind (timesO (T - (k + 1)))) := by
                show _ = _
                rw [show T - k = T - (k + 1) + 1 by omega]; rfl
              clear hgm
              generalize hSK : stepOk m = so at *
              generalize hSL : stepL m = sl at *
              go_wp2_with fail
              refine HC.out.mono ?_
              rintro e w3 ⟨v3, rfl, hO3, hb3⟩
              have HO3 := hid (hO3.mono HB.out.size)
              have HB3 := hid (HB.out.trans (hb3.mono HB.out.size))
              clear hO3 hb3
              go_wp2
              go_roundw
              case rel =>
                refine ⟨k + 1, so, sl, by omega, by go_num, rfl, HO3.out, fun h => ?_, fun h => ?_, HB3.out⟩
                · obtain ⟨e1, e2⟩ := HSO.out
                  rw [h] at e1
                  have e3 : nxtO m = some (pickL (nxtB m)) := by unfold nxtO; rw [← e1]; rfl
                  rw [e2]
                  unfold tellV
                  rw [← e1, if_pos rfl]
                  refine ⟨e1.symm, ?_⟩
                  have h5 := HT1.out
                  rw [e3, HT.out] at h5
                  exact h5.symm
                · obtain ⟨e1, e2⟩ := HSO.out
                  rw [h] at e1
                  have e3 : nxtO m = none := by unfold nxtO; rw [← e1]; rfl
                  rw [e2]
                  unfold tellV
                  rw [← e1]
                  refine ⟨rfl, ?_⟩
                  have h5 := HT1.out
                  rw [e3, HT.out] at h5
                  exact h5
              case measure => simp [intOf]; omega
            · have k0 : ¬ (k : Int) < (T : Int) := by omega
              have HV : Hid (timesL l (T : Int) = m ∧ timesOk l (T : Int) = true) := by
                have h1 := HV0.out
                have h2 := HT.out
                rw [show T - k = 0 by omega] at h2
                rw [← h2] at h1
                simpa [Hid, timesO] using h1
              clear hgm
              go_wp2
              go_ret2
              exact ⟨_, by rw [HV.out.2]; rfl, by rw [HV.out.1]; exact HO.out, HB.out⟩
end Go.Proofs.YtnabgfbempkgnaaGreatDoor

namespace Go.Proofs.YtnabgfbempkgnaaGreatDoor
set_option linter.unusedVariables false

/-- The first place that is not less. -/
theorem first_not (l : List Cl) (c : Cl) : ∀ n, n ≤ l.length → ∃ k, k ≤ n ∧ (∀ i, i < k → ltC (at_ l i) c = true) ∧ (k < n → ltC (at_ l k) c = false)
  | 0, _ => ⟨0, Nat.le_refl _, fun i hi => absurd hi (Nat.not_lt_zero _), fun h => absurd h (Nat.not_lt_zero _)⟩
  | n + 1, h => by
    obtain ⟨k, hk, h1, h2⟩ := first_not l c n (by omega)
    by_cases e : k < n
    · exact ⟨k, by omega, h1, fun _ => h2 e⟩
    · obtain rfl : k = n := by omega
      cases e2 : ltC (at_ l k) c
      · exact ⟨k, by omega, h1, fun _ => e2⟩
      · refine ⟨k + 1, Nat.le_refl _, fun i hi => ?_, fun h => absurd h (by omega)⟩
        by_cases e3 : i = k
        · rw [e3]; exact e2
        · exact h1 i (by omega)
theorem with_ex {l : List Cl} (hr : risTo l l.length = true) (c : Cl) : ∃ l', With l c l' := by
  by_cases hm : c ∈ l
  · exact ⟨l, with_same hr hm⟩
  · obtain ⟨k, hk, h1, h2⟩ := first_not l c l.length (Nat.le_refl _)
    refine ⟨_, with_new hr hk h1 (fun h => ⟨h2 h, fun e => hm (mem_at.2 ⟨k, h, e⟩)⟩)⟩
/-- Every list's cells can be put in order. -/
theorem ord_ex : ∀ L : List Cl, ∃ l', risTo l' l'.length = true ∧ ∀ c, c ∈ l' ↔ c ∈ L
  | [] => ⟨[], rfl, fun c => Iff.rfl⟩
  | x :: L => by
    obtain ⟨l, hr, hm⟩ := ord_ex L
    obtain ⟨l', hw⟩ := with_ex hr x
    exact ⟨l', hw.1, fun c => by rw [hw.2.1, hm, List.mem_cons]⟩
theorem pick_ex {p : Cl → Bool} (L : List Cl) (h : ∀ c, p c = true → c ∈ L) : ∃ l', risTo l' l'.length = true ∧ ∀ c, c ∈ l' ↔ p c = true := by
  obtain ⟨l', hr, hm⟩ := ord_ex (L.filter p)
  exact ⟨l', hr, fun c => by rw [hm, List.mem_filter]; exact ⟨fun h => h.2, fun hp => ⟨h c hp, hp⟩⟩⟩
theorem nxt_ex (l : List Cl) : ∃ l', risTo l' l'.length = true ∧ ∀ c, c ∈ l' ↔ nxtB l c = true :=
  pick_ex (l.flatMap blk) (fun c h => by
    obtain ⟨x, hx, hn⟩ := nxt_near h
    rw [List.mem_flatMap]
    exact ⟨x, hx, near_blk hn⟩)
theorem pickL_spec (l : List Cl) : risTo (pickL (nxtB l)) (pickL (nxtB l)).length = true ∧ ∀ c, c ∈ pickL (nxtB l) ↔ nxtB l c = true := by
  obtain ⟨l', h1, h2⟩ := nxt_ex l
  rw [pickL_eq h1 h2]
  exact ⟨h1, h2⟩

/-- A cell, moved. -/
def sh (x y : Int) (c : Cl) : Cl := (c.1 + x, c.2 + y)
theorem sh_inj {x y : Int} {c d : Cl} (h : sh x y c = sh x y d) : c = d := by
  obtain ⟨a, b⟩ := c
  obtain ⟨u, v⟩ := d
  simp only [sh, Prod.mk.injEq] at h ⊢
  omega
theorem sh_back (x y : Int) (c : Cl) : sh x y (sh (-x) (-y) c) = c := by
  obtain ⟨a, b⟩ := c
  simp only [sh, Prod.mk.injEq]
  omega
theorem mv_sh (l : List Cl) (x y : Int) : mv l x y = l.map (sh x y) := rfl
theorem mem_mv {l : List Cl} {x y : Int} {c : Cl} : sh x y c ∈ mv l x y ↔ c ∈ l := by
  rw [mv_sh, List.mem_map]
  exact ⟨fun ⟨d, hd, e⟩ => sh_inj e ▸ hd, fun h => ⟨c, h, rfl⟩⟩
theorem nearB_iff (c d : Cl) : nearB c d = true ↔ ¬ (d.1 = c.1 ∧ d.2 = c.2) ∧ -1 ≤ d.1 - c.1 ∧ d.1 - c.1 ≤ 1 ∧ -1 ≤ d.2 - c.2 ∧ d.2 - c.2 ≤ 1 := by
  unfold nearB
  simp only [Bool.and_eq_true, decide_eq_true_eq, ne_eq, Prod.ext_iff, and_assoc]
theorem nearB_sh (x y : Int) (c d : Cl) : nearB (sh x y c) (sh x y d) = nearB c d := by
  rw [Bool.eq_iff_iff, nearB_iff, nearB_iff]
  show (¬ (d.1 + x = c.1 + x ∧ d.2 + y = c.2 + y) ∧ -1 ≤ d.1 + x - (c.1 + x) ∧ d.1 + x - (c.1 + x) ≤ 1 ∧ -1 ≤ d.2 + y - (c.2 + y) ∧ d.2 + y - (c.2 + y) ≤ 1) ↔ _
  constructor
  · intro h; omega
  · intro h; omega
theorem near_mv (l : List Cl) (x y : Int) (c : Cl) : near (mv l x y) (sh x y c) = near l c := by
  unfold near
  rw [mv_sh, List.countP_map]
  congr 1
  funext d
  exact nearB_sh x y c d
theorem nxt_mv (l : List Cl) (x y : Int) (c : Cl) : nxtB (mv l x y) (sh x y c) = nxtB l c := by
  unfold nxtB kp
  rw [near_mv]
  congr 2
  simp only [mem_mv]
theorem ltC_sh (x y : Int) (c d : Cl) : ltC (sh x y c) (sh x y d) = ltC c d := by
  obtain ⟨a, b⟩ := c
  obtain ⟨u, v⟩ := d
  simp [ltC, sh]
theorem ris_mv {l : List Cl} (x y : Int) (h : risTo l l.length = true) : risTo (mv l x y) (mv l x y).length = true := by
  refine ris_of fun i hi => ?_
  rw [mv_length] at hi
  have at_mv : ∀ j, j < l.length → at_ (mv l x y) j = sh x y (at_ l j) := by
    intro j hj
    simp [at_, mv_sh, hj]
  rw [at_mv i (by omega), at_mv (i + 1) hi, ltC_sh]
  exact ris_next h hi
/-- Moving and stepping may change places. -/
theorem pick_mv (l : List Cl) (x y : Int) : pickL (nxtB (mv l x y)) = mv (pickL (nxtB l)) x y := by
  obtain ⟨h1, h2⟩ := pickL_spec l
  refine pickL_eq (ris_mv x y h1) (fun c => ?_)
  have e := sh_back x y c
  rw [← e, mem_mv, h2, nxt_mv]
theorem times_mv (x y : Int) : ∀ (n : Nat) (l s m : List Cl), timesO n l = some s → timesO n (mv l x y) = some m → m = mv s x y
  | 0, l, s, m, h1, h2 => by
    simp only [timesO, Option.some.injEq] at h1 h2
    rw [← h2, ← h1]
  | n + 1, l, s, m, h1, h2 => by
    simp only [timesO] at h1 h2
    have e1 : ∀ k s', (nxtO k).bind (timesO n) = some s' → nxtO k = some (pickL (nxtB k)) ∧ timesO n (pickL (nxtB k)) = some s' := by
      intro k s' h
      unfold nxtO at h ⊢
      split
      · rename_i hg; rw [if_pos hg] at h; exact ⟨rfl, h⟩
      · rename_i hg; rw [if_neg hg] at h; cases h
    obtain ⟨_, a1⟩ := e1 l s h1
    obtain ⟨_, a2⟩ := e1 (mv l x y) m h2
    rw [pick_mv] at a2
    exact times_mv x y n _ _ _ a1 a2
/-- Steps add up. -/
theorem times_add : ∀ (m n : Nat) (l : List Cl), timesO (m + n) l = (timesO m l).bind (timesO n)
  | 0, n, l => by simp [timesO]
  | m + 1, n, l => by
    rw [show m + 1 + n = m + n + 1 by omega]
    simp only [timesO]
    cases nxtO l with
    | none => rfl
    | some k => exact times_add m n k
theorem mv_mv (l : List Cl) (x y : Int) : mv (mv l x y) (-x) (-y) = l := by
  rw [mv_sh, mv_sh, List.map_map]
  conv => rhs; rw [← List.map_id l]
  congr 1
  funext c
  obtain ⟨a, b⟩ := c
  simp only [Function.comp, sh, id, Prod.mk.injEq]
  omega
end Go.Proofs.YtnabgfbempkgnaaGreatDoor

namespace Go.Proofs.YtnabgfbempkgnaaGreatDoor
open Go.RowKit Go.Maps
set_option linter.unusedVariables false

set_option maxRecDepth 100000 in
set_option maxHeartbeats 4000000 in
/-- A step without limits on how many cells there are. -/
theorem c_l1StepF (a : Option Addr) (l : List Cl) (ca : Nat) (w : World) (ha : Seg w a l) (hl : l.length ≤ 10000) (hin : ∀ i, i < l.length → inR (at_ l i) = true) :
    Calls Tryz.prog 39 #[.slice a l.length ca] w fun e w' => ∃ v m, e = .returned v ∧ SL w' v m ∧ risTo m m.length = true ∧ (∀ c, c ∈ m ↔ nxtB l c = true) ∧ m.length ≤ 9 * l.length ∧ Below w.heap.size w w' := by
  have HIN := hid hin
  clear hin
  go_enter Tryz.func39, Tryz.ntmps39
  go_wp2
  go_loopw [3, 12] (fun v i wr => ∃ (k : Nat) (m : List Cl), k ≤ l.length ∧ i = .int .i64 k ∧ SL wr v m ∧ Next l m ((l.take k).flatMap blk) ∧ m.length ≤ 9 * k ∧ Below w.heap.size w wr) (fun _ i _ => l.length - (intOf i).toNat)
  case atStart => exact ⟨0, [], Nat.zero_le _, rfl, .inl ⟨rfl, rfl⟩, ⟨rfl, fun c => by simp⟩, by simp, Below.refl _ _⟩
  case round =>
    obtain ⟨k, m, hk, rfl, hSL, hI, hml, hbel⟩ := hrel
    have HI := hid hI
    have HB := hid hbel
    have HSL := hid hSL
    have HA := hid ha
    clear hI hSL
    by_cases hlt : k < l.length
    · obtain ⟨b1, o1, rfl, hb1, p1, p2⟩ := ha k hlt
      have g1 := (hbel.cell (p := ⟨b1, o1 + k * 2, none⟩) hb1).trans p1
      have g2 := (hbel.cell (p := ⟨b1, o1 + k * 2 + 1, none⟩) hb1).trans p2
      change _ = some (Value.int .i64 (at_ l k).1) at g1
      change _ = some (Value.int .i64 (at_ l k).2) at g2
      have hxr : -40 ≤ (at_ l k).1 ∧ (at_ l k).1 ≤ 40 ∧ -40 ≤ (at_ l k).2 ∧ (at_ l k).2 ≤ 40 := by
        have := HIN.out k hlt
        simp [inR] at this
        omega
      have HT : Hid ((l.take (k + 1)).flatMap blk = (l.take k).flatMap blk ++ blk (at_ l k)) := by
        show _ = _
        rw [take_snoc' hlt, List.flatMap_append, List.flatMap_singleton]
      generalize at_ l k = x at *
      clear p1 p2 hbel
      obtain ⟨x1, x2, x3, x4⟩ := hxr
      have HQ0 := hid (cell_new0 wr (.int .i64 x.1) (.int .i64 x.2) 51)
      have HQ1 := hid (cell_new1 wr (.int .i64 x.1) (.int .i64 x.2) 51)
      have HBX := hid (HB.out.alloc HB.out.size (.cells #[.int .i64 x.1, .int .i64 x.2] 51))
      have HSX := hid (HSL.out.below ((Below.refl wr.heap.size wr).alloc (Nat.le_refl _) (.cells #[.int .i64 x.1, .int .i64 x.2] 51)))
      have HZX : Hid (wr.heap.size < (wr.alloc (.cells #[.int .i64 x.1, .int .i64 x.2] 51)).heap.size) := hid (by simp)
      go_wp2
      generalize hWX : wr.alloc (.cells #[.int .i64 x.1, .int .i64 x.2] 51) = wx at *
      generalize hBXE : wr.heap.size = bx at *
      clear hWX g1 g2 HSL HB
      go_loopw [3, 6] (fun v d wr => ∃ (i : Nat) (m : List Cl), i ≤ 3 ∧ d = .int .i64 (-1 + (i : Int)) ∧ SL wr v m ∧ Next l m ((l.take k).flatMap blk ++ (blk x).take (3 * i)) ∧ m.length ≤ 9 * k + 3 * i ∧ Below wx.heap.size wx wr) (fun _ d _ => 3 - (intOf d + 1).toNat)
      case atStart => exact ⟨0, m, by omega, rfl, HSX.out, by simpa using HI.out, by omega, Below.refl _ _⟩
      case round =>
        clear HSX HI hml m
        obtain ⟨i, m, hi, rfl, hSL, hI, hml, hbel⟩ := hrel
        have HI := hid hI
        have HB := hid hbel
        have HSL := hid hSL
        clear hI hSL hbel
        by_cases hit : i < 3
        · have d1 : -1 + (i : Int) ≤ 1 := by omega
          have d0 : -1 ≤ -1 + (i : Int) := by omega
          go_wp2
          go_loopw [3, 7] (fun v d wr => ∃ (j : Nat) (m : List Cl), j ≤ 3 ∧ d = .int .i64 (-1 + (j : Int)) ∧ SL wr v m ∧ Next l m ((l.take k).flatMap blk ++ (blk x).take (3 * i + j)) ∧ m.length ≤ 9 * k + 3 * i + j ∧ Below wx.heap.size wx wr) (fun _ d _ => 3 - (intOf d + 1).toNat)
          case atStart => exact ⟨0, m, by omega, rfl, HSL.out, by simpa using HI.out, by omega, HB.out⟩
          case round =>
            clear HSL HI hml m HB
            obtain ⟨j, m, hj, rfl, hSL, hI, hml, hbel⟩ := hrel
            have HI := hid hI
            have HB := hid hbel
            have HSL := hid hSL
            have g3 := (hbel.cell (p := ⟨bx, 0, none⟩) HZX.out).trans HQ0.out
            have g4 := (hbel.cell (p := ⟨bx, 1, none⟩) HZX.out).trans HQ1.out
            clear hI hSL hbel
            by_cases hjt : j < 3
            · have e1 : -1 + (j : Int) ≤ 1 := by omega
              have e0 : -1 ≤ -1 + (j : Int) := by omega
              have HTK := hid (blk_take x hit hjt)
              have q0 := cell_new0 wr (.int .i64 (x.1 + (-1 + (j : Int)))) (.int .i64 (x.2 + (-1 + (i : Int)))) 51
              have q1 := cell_new1 wr (.int .i64 (x.1 + (-1 + (j : Int)))) (.int .i64 (x.2 + (-1 + (i : Int)))) 51
              have HBW := hid (HB.out.alloc HB.out.size (.cells #[.int .i64 (x.1 + (-1 + (j : Int))), .int .i64 (x.2 + (-1 + (i : Int)))] 51))
              have HSW := hid (HSL.out.below ((Below.refl wr.heap.size wr).alloc (Nat.le_refl _) (.cells #[.int .i64 (x.1 + (-1 + (j : Int))), .int .i64 (x.2 + (-1 + (i : Int)))] 51)))
              have HAW := hid (HA.out.below (HBX.out.trans (HBW.out.mono HBX.out.size)))
              have HZW : Hid (wr.heap.size < (wr.alloc (.cells #[.int .i64 (x.1 + (-1 + (j : Int))), .int .i64 (x.2 + (-1 + (i : Int)))] 51)).heap.size) := hid (by simp)
              clear HSL HB
              go_wp2_with fail
              refine (c_l1Near _ l ca (x.1 + (-1 + (j : Int)), x.2 + (-1 + (i : Int))) _ HAW.out (by omega) HIN.out (by simp only; omega)).mono ?_
              rintro e w4 ⟨rfl, hb4⟩
              have r0 := (hb4.cell (p := ⟨wr.heap.size, 0, none⟩) HZW.out).trans q0
              have r1 := (hb4.cell (p := ⟨wr.heap.size, 1, none⟩) HZW.out).trans q1
              have HBY := hid hb4
              have HZY : Hid (wr.heap.size < w4.heap.size) := hid (Nat.lt_of_lt_of_le HZW.out hb4.size)
              clear hb4 q0 q1 g3 g4
              have HNX : Hid (nxtB l (x.1 + (-1 + (j : Int)), x.2 + (-1 + (i : Int))) = kp l (near l (x.1 + (-1 + (j : Int)), x.2 + (-1 + (i : Int))) : Int) (x.1 + (-1 + (j : Int)), x.2 + (-1 + (i : Int)))) := rfl
              generalize ((near l (x.1 + (-1 + (j : Int)), x.2 + (-1 + (i : Int))) : Nat) : Int) = z at *
              by_cases h3 : z = 3
              · subst h3
                have HY : Hid (nxtB l (x.1 + (-1 + (j : Int)), x.2 + (-1 + (i : Int))) = true) := HNX.out.trans rfl
                go_wp2_with fail
                refine (c_l1Add _ m (x.1 + (-1 + (j : Int)), x.2 + (-1 + (i : Int))) _ (HSW.out.below HBY.out) (by omega) HI.out.1).mono ?_
                rintro e w7 ⟨v7, m7, rfl, hS7, hW7, hb7⟩
                have HB7 := hid (HBW.out.trans ((HBY.out.trans (hb7.mono HBY.out.size)).mono HBW.out.size))
                have HS7 := hid hS7
                have HI7 := hid (HI.out.add hW7 HY.out)
                have HL7 := hid hW7.2.2
                clear hS7 hW7 hb7
                go_wp2
                go_roundw
                case rel => exact ⟨j + 1, m7, by omega, by rw [show -1 + (j : Int) + 1 = -1 + ((j + 1 : Nat) : Int) by omega], HS7.out, by rw [show 3 * i + (j + 1) = 3 * i + j + 1 by omega, HTK.out, ← List.append_assoc]; exact HI7.out, by have := HL7.out; omega, HB7.out⟩
                case measure => simp [intOf]; omega
              · by_cases h2 : z = 2
                · subst h2
                  cases hm : decide ((x.1 + (-1 + (j : Int)), x.2 + (-1 + (i : Int))) ∈ l)
                  · have HY : Hid (nxtB l (x.1 + (-1 + (j : Int)), x.2 + (-1 + (i : Int))) = false) := HNX.out.trans (by simp only [kp, hm]; rfl)
                    go_wp2_with fail
                    refine (c_l1Alive' _ l ca (x.1 + (-1 + (j : Int)), x.2 + (-1 + (i : Int))) false hm w4 (HAW.out.below HBY.out) (by omega)).mono ?_
                    rintro e w5 ⟨rfl, hb5⟩
                    have HBY := hid (HBY.out.trans (hb5.mono HBY.out.size))
                    clear hb5 r0 r1
                    have HI7 := hid (HI.out.skip HY.out)
                    have HB7 := hid (HBW.out.trans (HBY.out.mono HBW.out.size))
                    have HS7 := hid (HSW.out.below HBY.out)
                    go_wp2
                    go_roundw
                    case rel => exact ⟨j + 1, m, by omega, by rw [show -1 + (j : Int) + 1 = -1 + ((j + 1 : Nat) : Int) by omega], HS7.out, by rw [show 3 * i + (j + 1) = 3 * i + j + 1 by omega, HTK.out, ← List.append_assoc]; exact HI7.out, by omega, HB7.out⟩
                    case measure => simp [intOf]; omega
                  · have HY : Hid (nxtB l (x.1 + (-1 + (j : Int)), x.2 + (-1 + (i : Int))) = true) := HNX.out.trans (by simp only [kp, hm]; rfl)
                    go_wp2_with fail
                    refine (c_l1Alive' _ l ca (x.1 + (-1 + (j : Int)), x.2 + (-1 + (i : Int))) true hm w4 (HAW.out.below HBY.out) (by omega)).mono ?_
                    rintro e w5 ⟨rfl, hb5⟩
                    have s0 := (hb5.cell (p := ⟨wr.heap.size, 0, none⟩) HZY.out).trans r0
                    have s1 := (hb5.cell (p := ⟨wr.heap.size, 1, none⟩) HZY.out).trans r1
                    have HBY := hid (HBY.out.trans (hb5.mono HBY.out.size))
                    clear hb5 r0 r1
                    go_wp2_with fail
                    refine (c_l1Add _ m (x.1 + (-1 + (j : Int)), x.2 + (-1 + (i : Int))) _ (HSW.out.below HBY.out) (by omega) HI.out.1).mono ?_
                    rintro e w7 ⟨v7, m7, rfl, hS7, hW7, hb7⟩
                    have HB7 := hid (HBW.out.trans ((HBY.out.trans (hb7.mono HBY.out.size)).mono HBW.out.size))
                    have HS7 := hid hS7
                    have HI7 := hid (HI.out.add hW7 HY.out)
                    have HL7 := hid hW7.2.2
                    clear hS7 hW7 hb7
                    go_wp2
                    go_roundw
                    case rel => exact ⟨j + 1, m7, by omega, by rw [show -1 + (j : Int) + 1 = -1 + ((j + 1 : Nat) : Int) by omega], HS7.out, by rw [show 3 * i + (j + 1) = 3 * i + j + 1 by omega, HTK.out, ← List.append_assoc]; exact HI7.out, by have := HL7.out; omega, HB7.out⟩
                    case measure => simp [intOf]; omega
                · have HY : Hid (nxtB l (x.1 + (-1 + (j : Int)), x.2 + (-1 + (i : Int))) = false) := HNX.out.trans (by simp [kp, h3, h2])
                  have HI7 := hid (HI.out.skip HY.out)
                  have HB7 := hid (HBW.out.trans (HBY.out.mono HBW.out.size))
                  have HS7 := hid (HSW.out.below HBY.out)
                  go_wp2
                  go_roundw
                  case rel => exact ⟨j + 1, m, by omega, by rw [show -1 + (j : Int) + 1 = -1 + ((j + 1 : Nat) : Int) by omega], HS7.out, by rw [show 3 * i + (j + 1) = 3 * i + j + 1 by omega, HTK.out, ← List.append_assoc]; exact HI7.out, by omega, HB7.out⟩
                  case measure => simp [intOf]; omega
            · obtain rfl : j = 3 := by omega
              go_wp2
              go_roundw
              case rel => exact ⟨i + 1, m, by omega, by rw [show -1 + (i : Int) + 1 = -1 + ((i + 1 : Nat) : Int) by omega], HSL.out, HI.out, by omega, HB.out⟩
              case measure => simp [intOf]; omega
        · obtain rfl : i = 3 := by omega
          have HB8 := hid (HBX.out.trans (HB.out.mono HBX.out.size))
          go_wp2
          go_roundw
          case rel => exact ⟨k + 1, m, by omega, by go_num, HSL.out, by rw [HT.out]; exact HI.out, by omega, HB8.out⟩
          case measure => simp [intOf]; omega
    · clear hbel
      go_wp2
      go_ret
      have : k = l.length := by omega
      subst this
      refine ⟨_, m, rfl, HSL.out, HI.out.1, fun c => ?_, by omega, HB.out⟩
      rw [HI.out.2, List.take_length]
      refine ⟨fun h => h.1, fun h => ⟨h, ?_⟩⟩
      obtain ⟨x, hx, hn⟩ := nxt_near h
      rw [List.mem_flatMap]
      exact ⟨x, hx, near_blk hn⟩

/-- Cells after so many steps. -/
noncomputable def stepsL : Nat → List Cl → List Cl
  | 0, l => l
  | n + 1, l => stepsL n (pickL (nxtB l))
/-- All cells lie in the square from lo to hi. -/
def InB (lo hi : Int) (l : List Cl) : Prop := ∀ c ∈ l, lo ≤ c.1 ∧ c.1 ≤ hi ∧ lo ≤ c.2 ∧ c.2 ≤ hi
theorem InB.next {lo hi : Int} {l : List Cl} (h : InB lo hi l) : InB (lo - 1) (hi + 1) (pickL (nxtB l)) := by
  intro c hc
  obtain ⟨x, hx, hn⟩ := nxt_near (((pickL_spec l).2 c).1 hc)
  rw [nearB_iff] at hn
  have := h x hx
  omega
theorem InB.steps {l : List Cl} : ∀ {n : Nat} {lo hi : Int} {l : List Cl}, InB lo hi l → InB (lo - n) (hi + n) (stepsL n l)
  | 0, lo, hi, l, h => by simpa [stepsL] using h
  | n + 1, lo, hi, l, h => by
    have := InB.steps (l := l) (n := n) h.next
    show InB _ _ (stepsL n (pickL (nxtB l)))
    rw [show lo - ((n + 1 : Nat) : Int) = lo - 1 - (n : Int) by omega, show hi + ((n + 1 : Nat) : Int) = hi + 1 + (n : Int) by omega]
    exact this
theorem steps_ris : ∀ {n : Nat} {l : List Cl}, risTo l l.length = true → risTo (stepsL n l) (stepsL n l).length = true
  | 0, l, h => h
  | n + 1, l, h => steps_ris (n := n) (pickL_spec l).1
/-- A row of cells, and a square of them. -/
def rowG (y : Int) : Nat → List Cl
  | 0 => []
  | n + 1 => ((n : Int) - 40, y) :: rowG y n
def gridG : Nat → List Cl
  | 0 => []
  | n + 1 => rowG ((n : Int) - 40) 81 ++ gridG n
theorem mem_rowG {y : Int} {c : Cl} : ∀ {n : Nat}, c ∈ rowG y n ↔ -40 ≤ c.1 ∧ c.1 < (n : Int) - 40 ∧ c.2 = y
  | 0 => by simp [rowG] <;> omega
  | n + 1 => by
    simp only [rowG, List.mem_cons, mem_rowG (n := n)]
    constructor
    · rintro (rfl | h)
      · exact ⟨by dsimp only; omega, by dsimp only; omega, rfl⟩
      · omega
    · rintro ⟨h1, h2, h3⟩
      by_cases e : c.1 = (n : Int) - 40
      · exact .inl (Prod.ext e h3)
      · exact .inr ⟨h1, by omega, h3⟩
theorem mem_gridG {c : Cl} : ∀ {n : Nat}, c ∈ gridG n ↔ (-40 ≤ c.1 ∧ c.1 < 41) ∧ -40 ≤ c.2 ∧ c.2 < (n : Int) - 40
  | 0 => by simp [gridG] <;> omega
  | n + 1 => by
    simp only [gridG, List.mem_append, mem_rowG, mem_gridG (n := n)]
    omega
theorem rowG_len (y : Int) : ∀ n, (rowG y n).length = n
  | 0 => rfl
  | n + 1 => by simp [rowG, rowG_len y n]
theorem gridG_len : ∀ n, (gridG n).length = 81 * n
  | 0 => rfl
  | n + 1 => by simp [gridG, rowG_len, gridG_len n]; omega
theorem len_le_sub : ∀ {l m : List Cl}, l.Nodup → (∀ x ∈ l, x ∈ m) → l.length ≤ m.length
  | [], _, _, _ => Nat.zero_le _
  | c :: l, m, hn, hs => by
    have hc := hs c (by simp)
    have h := len_le_sub (l := l) (m := m.erase c) (List.nodup_cons.1 hn).2 fun x hx => by
      refine (List.mem_erase_of_ne ?_).2 (hs x (by simp [hx]))
      rintro rfl
      exact (List.nodup_cons.1 hn).1 hx
    rw [List.length_erase_of_mem hc] at h
    have := List.length_pos_of_mem hc
    simp only [List.length_cons]
    omega
/-- Ordered cells within 40 are not too many. -/
theorem len_box {l : List Cl} (hr : risTo l l.length = true) (h : InB (-40) 40 l) : l.length ≤ 6561 := by
  have := len_le_sub (m := gridG 81) (ris_nodup hr) fun c hc => mem_gridG.2 (by have := h c hc; omega)
  rw [gridG_len] at this
  omega
theorem InB.inR {l : List Cl} (h : InB (-40) 40 l) : ∀ i, i < l.length → Go.Proofs.YtnabgfbempkgnaaGreatDoor.inR (at_ l i) = true := by
  intro i hi
  have := h (at_ l i) (mem_at.2 ⟨i, hi, rfl⟩)
  simp only [Go.Proofs.YtnabgfbempkgnaaGreatDoor.inR, Bool.and_eq_true, decide_eq_true_eq]
  omega
theorem InB.wide {lo hi lo' hi' : Int} {l : List Cl} (h : InB lo hi l) (h1 : lo' ≤ lo) (h2 : hi ≤ hi') : InB lo' hi' l := fun c hc => by have := h c hc; omega

end Go.Proofs.YtnabgfbempkgnaaGreatDoor

namespace Go.Proofs.YtnabgfbempkgnaaGreatDoor
open Go.RowKit Go.Maps
set_option linter.unusedVariables false


set_option maxRecDepth 100000 in
set_option maxHeartbeats 4000000 in
theorem c_l5After (a : Option Addr) (l : List Cl) (ca n : Nat) (w : World) (ha : Seg w a l) (hl : l.length ≤ 2000) (hb : InB 0 31 l) (hn : n ≤ 8) :
    Calls Tryz.prog 60 #[.slice a l.length ca, .int .i64 (n : Int)] w fun e w' => ∃ v, e = .returned v ∧ SL w' v (stepsL n (ordL l)) ∧ Below w.heap.size w w' := by
  have HC := hid (c_l1Sort a l ca w ha (by omega))
  have HB0 := hid hb
  clear ha hb
  go_enter Tryz.func60, Tryz.ntmps60
  go_wp2_with fail
  refine HC.out.mono ?_
  rintro e w1 ⟨v1, l1, rfl, hO, hr, hm, hl1, hb1⟩
  have HORD := hid (show ordL l = l1 from ordL_eq hr hm)
  have HSL := hid hO.sl
  have HR := hid hr
  have HB1 := hid (show InB 0 31 l1 from fun c hc => HB0.out c ((hm c).1 hc))
  have HBW := hid hb1
  clear hO hr hm hb1 HB0 HC
  go_wp2_with fail
  go_loopw [0, 1] (fun lv sv wr => ∃ (j : Nat) (m : List Cl), sv = .int .i64 (j : Int) ∧ j ≤ n ∧ Hid (SL wr lv m) ∧ Hid (stepsL j m = stepsL n l1) ∧ Hid (risTo m m.length = true) ∧ Hid (InB (-((n - j : Nat) : Int)) (31 + ((n - j : Nat) : Int)) m) ∧ Hid (Below w.heap.size w wr)) (fun _ sv _ => (intOf sv).toNat)
  case atStart => exact ⟨n, l1, rfl, Nat.le_refl _, HSL.out, rfl, HR.out, by rw [Nat.sub_self]; simpa [Hid] using HB1.out, HBW.out⟩
  case round =>
    obtain ⟨j, m, rfl, hj, hS, hE, hR, hI, hB⟩ := hrel
    clear HSL HR HB1 HBW
    obtain ⟨ma, mc, rfl, hseg, _⟩ := hS.out.form
    have HSG := hid hseg
    clear hseg
    by_cases hj0 : 0 < j
    · have j0 : (0 : Int) < (j : Int) := by omega
      have hwide : InB (-40) 40 m := hI.out.wide (by omega) (by omega)
      have hlen := len_box hR.out hwide
      have HST := hid (c_l1StepF ma m mc wr HSG.out (by omega) hwide.inR)
      clear hwide
      go_wp2_with fail
      refine HST.out.mono ?_
      rintro e w2 ⟨v2, m2, rfl, hS2, hr2, hm2, hl2, hb2⟩
      have hp : pickL (nxtB m) = m2 := pickL_eq hr2 hm2
      have HS2 := hid hS2
      have HR2 := hid hr2
      have HE2 := hid (show stepsL (j - 1) m2 = stepsL n l1 by
        have := hE.out
        rw [← hp]
        rw [show j = j - 1 + 1 by omega] at this
        exact this)
      have HI2 := hid (show InB (-((n - (j - 1) : Nat) : Int)) (31 + ((n - (j - 1) : Nat) : Int)) m2 by
        have := hI.out.next
        rw [hp] at this
        exact this.wide (by omega) (by omega))
      have HB2 := hid (hB.out.trans (hb2.mono hB.out.size))
      clear hS2 hr2 hm2 hl2 hb2 hp HST hE hI hR
      go_wp2_with fail
      go_roundw
      case rel => exact ⟨j - 1, m2, by go_num, by omega, HS2.out, HE2.out, HR2.out, HI2.out, HB2.out⟩
      case measure => simp [intOf]; omega
    · obtain rfl : j = 0 := by omega
      have HEQ := hid (show m = stepsL n l1 from hE.out)
      go_wp2_with fail
      go_ret
      exact ⟨_, rfl, by rw [HORD.out, ← HEQ.out]; exact hS.out, hB.out⟩

end Go.Proofs.YtnabgfbempkgnaaGreatDoor
