/- What deleteDead leaves of a map of counts. -/
import Derived.Test.YtgfdkolhldbehaaOrder
import Derived.Test.YtgfdkolhldbehaaNear
namespace Go.Proofs.Ytgfdkolhldbehaa
open Go.RowKit Go.Maps
set_option linter.unusedVariables false

/-- Whether a cell with n near it is alive next. -/
def kp (l : List Cl) (n : Int) (c : Cl) : Bool := decide (n = 3) || (decide (n = 2) && decide (c ∈ l))

/-- What is so of the map while it is gone through. -/
def Pruned (l : List Cl) (dom : Cl → Bool) (f : Cl → Int) (D : DataW Unit) (left : Lit → Bool) : Prop :=
  ∀ c, fits c → Maps.has D (kap c) = (dom c && (left (kap c) || kp l (f c) c)) ∧ (Maps.has D (kap c) = true → D.atKey (kap c) (.lit (.int .i64 0)) = .lit (.int .i64 (f c)))
theorem Pruned.start {l : List Cl} {dom : Cl → Bool} {f : Cl → Int} {D : DataW Unit} (h1 : ∀ c, fits c → Maps.has D (kap c) = dom c) (h2 : ∀ c, fits c → D.atKey (kap c) (.lit (.int .i64 0)) = .lit (.int .i64 (f c))) : Pruned l dom f D (Maps.has D) := by
  intro c hc
  refine ⟨?_, fun _ => h2 c hc⟩
  rw [h1 c hc]; cases dom c <;> simp
theorem Pruned.val {l : List Cl} {dom : Cl → Bool} {f : Cl → Int} {D : DataW Unit} {left : Lit → Bool} (h : Pruned l dom f D left) {x : Cl} (hx : fits x) (hD : Maps.has D (kap x) = true) {n : Int} (hat : D.atKey (kap x) (.lit (.int .i64 0)) = .lit (.int .i64 n)) : n = f x ∧ dom x = true := by
  have h1 := (h x hx).2 hD
  rw [hat] at h1
  have h2 := (h x hx).1
  rw [hD] at h2
  simp at h1
  refine ⟨h1, ?_⟩
  cases e : dom x
  · rw [e] at h2; simp at h2
  · rfl
theorem Pruned.keep {l : List Cl} {dom : Cl → Bool} {f : Cl → Int} {D : DataW Unit} {left : Lit → Bool} (h : Pruned l dom f D left) {x : Cl} (hx : fits x) (hk : kp l (f x) x = true) : Pruned l dom f D (fun z => left z && !z.sameKey (kap x)) := by
  intro c hc
  refine ⟨?_, (h c hc).2⟩
  by_cases e : c = x
  · subst e
    have h1 := (h c hc).1
    rw [h1]; simp only [kap_same hc hc, hk]; simp
  · rw [(h c hc).1]; simp only [kap_same hc hx]; simp [e]
theorem Pruned.drop {l : List Cl} {dom : Cl → Bool} {f : Cl → Int} {D : DataW Unit} {left : Lit → Bool} (h : Pruned l dom f D left) {x : Cl} (hx : fits x) (hk : kp l (f x) x = false) : Pruned l dom f (D.del (kap x)) (fun z => (left z && !z.sameKey (kap x)) && !z.sameKey (kap x)) := by
  intro c hc
  by_cases e : c = x
  · subst e
    refine ⟨?_, fun hh => ?_⟩
    · rw [Maps.has_del_same]; simp only [kap_same hc hc, hk]; simp
    · rw [Maps.has_del_same] at hh; cases hh
  · have hne : kap c ≠ kap x := fun hh => e (kap_inj hc hx hh)
    rw [Maps.has_del_other hne, Maps.atKey_del_other hne]
    simp only [kap_same hc hx]
    refine ⟨?_, (h c hc).2⟩
    rw [(h c hc).1]; simp [e]
theorem Pruned.done {l : List Cl} {dom : Cl → Bool} {f : Cl → Int} {D : DataW Unit} {left : Lit → Bool} {w : World} {b n : Nat} (h : Pruned l dom f D left) (hl : ∀ k, left k = false) (ho : w.ownsMap Try.prog 36 (plainElem Try.prog 3) b n D) :
    MapIs w b n (fun c => dom c && kp l (f c) c) (fun c => if (dom c && kp l (f c) c) = true then f c else 0) := by
  refine ⟨D, ho, fun c hc => ?_, fun c hc => ?_⟩
  · rw [(h c hc).1, hl]; simp
  · by_cases e : (dom c && kp l (f c) c) = true
    · simp only [if_pos e]
      refine (h c hc).2 ?_
      rw [(h c hc).1, hl]; simpa using e
    · simp only [if_neg e]
      refine Maps.atKey_of_not_has ?_ _
      rw [(h c hc).1, hl]; simpa using e

theorem Seg.kept {w0 w : World} {a : Option Addr} {l : List Cl} (h : Seg w0 a l) (hB : Below w0.heap.size w0 w) : Seg w a l := h.below hB

set_option maxRecDepth 100000 in
set_option maxHeartbeats 1000000 in
theorem c_deleteDead (w0 : World) (a : Option Addr) (l : List Cl) (ca b n : Nat) (dom : Cl → Bool) (f : Cl → Int) (w : World) (hs : Seg w0 a l) (hl : l.length ≤ 1048576) (hr : risTo l l.length = true) (hB : Below w0.heap.size w0 w) (hb : w0.heap.size ≤ b) (h : MapIs w b n dom f) (hf : ∀ c, fits c → -9223372036854775808 ≤ f c ∧ f c ≤ 9223372036854775807) :
    Calls Try.prog 128 #[.map (some b), .slice a l.length ca] w fun e w' => e = .returned (.tuple #[]) ∧ MapIs w' b n (fun c => dom c && kp l (f c) c) (fun c => if (dom c && kp l (f c) c) = true then f c else 0) ∧ Below w0.heap.size w0 w' := by
  obtain ⟨D, hown, hdom, hfv⟩ := h
  have HO := hid hown
  have HP := hid (Pruned.start (l := l) hdom hfv)
  have HB := hid hB
  have HS := hid hs
  have HR := hid hr
  clear hown hdom hfv hB hs hr
  go_enter Try.func128, Try.ntmps128
  go_wp2_with (first | (at_range; refine wpList_range_own _ rfl _ 95 rfl 36 3 law mund _ b n D rfl HO.out ?_; intro w2 hrg2 hg2 hs2))
  go_frame
  have HB2 : Hid (Below w0.heap.size w0 w2) := HB.out.grown hg2 HB.out.size (fun k e => by cases e)
  have hwz := HB.out.size
  generalize w.heap.size = r at *
  have HRG2 := hid hrg2
  have HRZ : Hid (w0.heap.size ≤ r) := hwz
  clear hrg2 hs2 hg2 HO HB hwz
  go_loopw [9] (fun _ wr => ∃ (left : Lit → Bool) (cn : Nat) (D : DataW Unit), wr.ranges Try.prog 36 (plainElem Try.prog 3) b r n D left cn ∧ Pruned l dom f D left ∧ Below w0.heap.size w0 wr) (fun _ wr => wr.rangeLeft b r)
  case atStart => exact ⟨_, _, D, HRG2.out, HP.out, HB2.out⟩
  case round =>
    clear HRG2 HB2 HP
    obtain ⟨left, cn, D, hrg, hP, hB⟩ := hrel
    have HRG := hid hrg
    have HP := hid hP
    have HB := hid hB
    clear hrg hP hB
    go_wp2_with (at_next; refine wpList_next_ranges _ rfl _ rfl 36 law (plainElem Try.prog 3) (fun c : Cl => .agg #[.int .i64 c.1, .int .i64 c.2]) (Value.int .i64) (fun key kl hk => by obtain ⟨c, hc, _⟩ := key_inv hk; exact ⟨c, hc⟩) (fun v y hv => by obtain ⟨c, rfl, _⟩ := plainElem_int_inv Try.underlying3 hv; exact ⟨c, rfl⟩) b r n _ _ _ rfl HRG.out ?_ ?_)
    · intro _ hl0
      have HL0 := hid hl0
      clear hl0
      go_wp2
      go_end0
      exact ⟨rfl, HP.out.done HL0.out HRG.out.owns, HB.out⟩
    · intro x1 x2 c kl yd yp w3 cn2 hkey hlk hv hat hrg2 hlt hg2 hs2 hen
      obtain ⟨x, hxe, hxf, rfl⟩ := key_inv hkey
      simp only [Value.agg.injEq, Array.mk.injEq, List.cons.injEq, Value.int.injEq, true_and, and_true] at hxe
      obtain ⟨rfl, rfl⟩ := hxe
      obtain ⟨c', ec, eyy, hwc⟩ := plainElem_int_inv Try.underlying3 hv
      simp only [Value.int.injEq, true_and] at ec
      subst ec
      simp only [Prod.mk.injEq] at eyy
      obtain ⟨rfl, rfl⟩ := eyy
      have hD : Maps.has D (kap x) = true := Maps.has_true_of_atKey (y := _) (fun z => hat z)
      have hval := HP.out.val hxf hD (hat _)
      obtain ⟨hcf, hdx⟩ := hval
      subst hcf
      have HXF := hid hxf
      have HRG3 := hid hrg2
      have HB3 := hid (HB.out.grown hg2 HB.out.size (fun k e => by cases e; exact HRZ.out))
      have HCN := hid hlt
      have HKEY := hid hkey
      have hbd := hf x hxf
      clear hs2 hg2 hrg2 hlt hat hv hlk hkey hD hdx hwc
      have q0 := cell_new0 w3 (.int .i64 x.1) (.int .i64 x.2) 36
      have q1 := cell_new1 w3 (.int .i64 x.1) (.int .i64 x.2) 36
      have HB4 := hid (HB3.out.alloc HB3.out.size (.cells #[.int .i64 x.1, .int .i64 x.2] 36))
      have HRG4 := hid (HRG3.out.alloc (.cells #[.int .i64 x.1, .int .i64 x.2] 36))
      generalize hfx : f x = m at *
      have HFX := hid hfx
      clear hfx hf
      by_cases h3 : m = 3
      · have HK := hid (HP.out.keep HXF.out (by rw [HFX.out, h3]; rfl))
        subst h3
        go_wp2
        go_roundw
        case rel => exact ⟨_, cn2, D, HRG4.out, HK.out, HB4.out⟩
        case measure => rw [HRG4.out.left_eq, HRG.out.left_eq]; exact HCN.out
      · by_cases h2 : m = 2
        · subst h2
          cases hm : decide (x ∈ l)
          · have HK := hid (HP.out.drop HXF.out (by rw [HFX.out]; simp [kp]; simpa using hm))
            go_wp2_with fail
            refine (c_hasCell' a l ca x false hm _ (HS.out.below HB4.out) hl HR.out).mono ?_
            rintro e w5 ⟨rfl, hb5⟩
            have r0 := (hb5.cell (p := ⟨w3.heap.size, 0, none⟩) (by simp)).trans q0
            have r1 := (hb5.cell (p := ⟨w3.heap.size, 1, none⟩) (by simp)).trans q1
            have HB5 := hid (HB4.out.trans (hb5.mono HB4.out.size))
            have HRG5 := hid (HRG4.out.kept (grown_of_below hb5 none) (by simp) (by simp))
            clear hb5 q0 q1
            go_wp2_with (at_delete; refine wpList_delete_ranges _ rfl _ _ 95 36 rfl 3 law mund _ b r n _ _ _ rfl HRG5.out _ _ rfl HKEY.out ?_; intro w6 cn6 hrg6 hle6 htn6)
            go_frame
            have HB6 := hid (HB5.out.grown htn6.grown HB5.out.size (fun k e => by cases e; exact hb))
            have HRG6 := hid hrg6
            clear hrg6 htn6
            go_roundw
            case rel => exact ⟨_, cn6, _, HRG6.out, HK.out, HB6.out⟩
            case measure => rw [HRG6.out.left_eq, HRG.out.left_eq]; have := HCN.out; omega
          · have HK := hid (HP.out.keep HXF.out (by rw [HFX.out]; simp [kp]; simpa using hm))
            go_wp2_with fail
            refine (c_hasCell' a l ca x true hm _ (HS.out.below HB4.out) hl HR.out).mono ?_
            rintro e w5 ⟨rfl, hb5⟩
            have HB5 := hid (HB4.out.trans (hb5.mono HB4.out.size))
            have HRG5 := hid (HRG4.out.kept (grown_of_below hb5 none) (by simp) (by simp))
            clear hb5 q0 q1
            go_wp2
            go_roundw
            case rel => exact ⟨_, cn2, D, HRG5.out, HK.out, HB5.out⟩
            case measure => rw [HRG5.out.left_eq, HRG.out.left_eq]; exact HCN.out
        · have HK := hid (HP.out.drop HXF.out (by rw [HFX.out]; simp [kp, h3, h2]))
          go_wp2_with (at_delete; refine wpList_delete_ranges _ rfl _ _ 95 36 rfl 3 law mund _ b r n _ _ _ rfl HRG4.out _ _ rfl HKEY.out ?_; intro w6 cn6 hrg6 hle6 htn6)
          go_frame
          have HB6 := hid (HB4.out.grown htn6.grown HB4.out.size (fun k e => by cases e; exact hb))
          have HRG6 := hid hrg6
          clear hrg6 htn6
          go_roundw
          case rel => exact ⟨_, cn6, _, HRG6.out, HK.out, HB6.out⟩
          case measure => rw [HRG6.out.left_eq, HRG.out.left_eq]; have := HCN.out; omega
end Go.Proofs.Ytgfdkolhldbehaa
