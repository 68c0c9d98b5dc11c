/- Texts of this seat, one behind the other: CountsOf, CellsOf, Dead, Step. -/
import Derived.Test.YtgfdkolhldbehaaLc
namespace Go.Proofs.Ytgfdkolhldbehaa
open Go.RowKit Go.Maps
set_option linter.unusedVariables false

theorem range_cat (M : Nat → List Cl) (k : Nat) : (List.range (k + 1)).flatMap M = (List.range k).flatMap M ++ M k := by
  rw [List.range_succ, List.flatMap_append, List.flatMap_singleton]
theorem range_cat_len {M : Nat → List Cl} {m : Nat} : ∀ {k : Nat}, (∀ i, i < k → (M i).length ≤ m) → ((List.range k).flatMap M).length ≤ k * m
  | 0, _ => by simp
  | k + 1, h => by
    rw [range_cat, List.length_append]
    have h1 := range_cat_len (M := M) (m := m) (k := k) (fun i hi => h i (by omega))
    have h2 := h k (by omega)
    rw [Nat.succ_mul]; omega

set_option maxHeartbeats 1000000 in
theorem c_countsOf (g n : Nat) (A : Nat → Option Addr) (C : Nat → Nat) (M : Nat → List Cl) (w : World) (hn : n ≤ 2) (hg : g < w.heap.size)
    (hc : ∀ i, i < n → w.cell? ⟨g, i, none⟩ = some (.slice (A i) (M i).length (C i))) (hs : ∀ i, i < n → Seg w (A i) (M i)) (hl : ∀ i, i < n → (M i).length ≤ 1048576) (hf : ∀ i, i < n → ∀ c ∈ M i, fits c) :
    Calls Try.prog 80 #[.slice (some ⟨g, 0, none⟩) n n] w fun e w' => e = .returned (.map (some w.heap.size)) ∧ CntIs w' w.heap.size ((List.range n).flatMap M) ∧ Below w.heap.size w w' := by
  have hmm := @run_makeMap Try.prog
  have HF := hid hf
  have HS := hid hs
  have HL := hid hl
  have HC := hid hc
  clear hf hs hl hc
  go_enter Try.func80, Try.ntmps80
  go_wp2
  go_loopw [11] (fun i wr => ∃ k : Nat, k ≤ n ∧ i = .int .i64 k ∧ CntIs wr w.heap.size ((List.range k).flatMap M) ∧ Below w.heap.size w wr) (fun i _ => n - (intOf i).toNat)
  case atStart => exact ⟨0, Nat.zero_le _, rfl, CntIs.made w, (Below.refl _ _).alloc (Nat.le_refl _) _⟩
  case round =>
    clear hmm
    obtain ⟨k, hk, rfl, hC, hbel⟩ := hrel
    have HCN := hid hC
    have HB := hid hbel
    clear hC
    by_cases hlt : k < n
    · have g1 := (hbel.cell (p := ⟨g, k, none⟩) hg).trans (HC.out k hlt)
      have HSk := hid (HS.out k hlt)
      have HFk := hid (HF.out k hlt)
      have hlk := HL.out k hlt
      have HT := hid (range_cat M k)
      have HLN := hid (range_cat_len (M := M) (m := 1048576) (k := k) (fun i hi => HL.out i (by omega)))
      have k0 : (0 : Int) ≤ (k : Int) := by omega
      have k1 : (k : Int) < (n : Int) := by omega
      generalize M k = x at *
      generalize A k = ax at *
      generalize C k = cx at *
      clear hbel
      go_wp2_with fail
      go_loopw [17] (fun i wr => ∃ j : Nat, j ≤ x.length ∧ i = .int .i64 j ∧ CntIs wr w.heap.size ((List.range k).flatMap M ++ x.take j) ∧ Below w.heap.size w wr) (fun i _ => x.length - (intOf i).toNat)
      case atStart => exact ⟨0, Nat.zero_le _, rfl, by simpa using HCN.out, HB.out⟩
      case round =>
        clear HCN HB g1
        obtain ⟨j, hj, rfl, hC, hbel⟩ := hrel
        have HB := hid hbel
        have HCN := hid hC
        by_cases hjt : j < x.length
        · obtain ⟨b1, o1, rfl, hb1, p1, p2⟩ := HSk.out j hjt
          have g1 := (hbel.cell (p := ⟨b1, o1 + j * 2, none⟩) hb1).trans p1
          have g2 := (hbel.cell (p := ⟨b1, o1 + j * 2 + 1, none⟩) hb1).trans p2
          change _ = some (Value.int .i64 (at_ x j).1) at g1
          change _ = some (Value.int .i64 (at_ x j).2) at g2
          clear p1 p2
          have HFY := hid (HFk.out _ (mem_at.2 ⟨j, hjt, rfl⟩))
          have HSN := hid (take_snoc' (m := x) (j := j) hjt)
          have HLL : Hid (((List.range k).flatMap M ++ x.take j).length ≤ 67108864) := by
            show _ ≤ _
            have := HLN.out
            rw [List.length_append, List.length_take]
            have : k * 1048576 ≤ 2 * 1048576 := Nat.mul_le_mul_right _ (by omega)
            omega
          generalize at_ x j = y at *
          generalize hLL : (List.range k).flatMap M ++ x.take j = L at *
          have HEQ := hid hLL
          clear hLL hbel hC
          have j0 : (0 : Int) ≤ (j : Int) := by omega
          have j1 : (j : Int) < (x.length : Int) := by omega
          have hbd : Below wr.heap.size wr (wr.alloc (.cells #[.int .i64 y.1, .int .i64 y.2] 36)).drew := ((Below.refl wr.heap.size wr).alloc (Nat.le_refl _) _).drew
          have HB1 := hid (HB.out.trans (hbd.mono HB.out.size))
          obtain ⟨v0, st, W1, W2, e1, e2, e3, e4, hC2, hg2, hz2⟩ := (HCN.out.below hbd).step HFY.out HLL.out
          have q0 := cell_new0 wr (.int .i64 y.1) (.int .i64 y.2) 36
          have q1 := cell_new1 wr (.int .i64 y.1) (.int .i64 y.2) 36
          have hc1 := (cnt_le L y).1
          have hc2 : cnt L y ≤ 67108864 := by have := (cnt_le L y).2; have := HLL.out; omega
          have HC2 := hid hC2
          have HG2 := hid hg2
          clear hC2 hg2 hz2 hbd
          go_wp2
          go_region
          all_goals (try go_wp2)
          go_roundw
          case rel => exact ⟨j + 1, by omega, by go_num, by rw [HSN.out, ← List.append_assoc, HEQ.out]; exact HC2.out, HB1.out.grown HG2.out HB1.out.size (fun k e => by cases e; exact Nat.le_refl _)⟩
          case measure => simp [intOf]; omega
        · obtain rfl : j = x.length := by omega
          clear hC hbel
          go_wp2
          go_roundw
          case rel => exact ⟨k + 1, by omega, by go_num, by have := HCN.out; rw [List.take_length] at this; rw [HT.out]; exact this, HB.out⟩
          case measure => simp [intOf]; omega
    · clear hbel
      go_wp2
      go_ret
      have : k = n := by omega
      subst this
      exact ⟨rfl, HCN.out, HB.out⟩
end Go.Proofs.Ytgfdkolhldbehaa

namespace Go.Proofs.Ytgfdkolhldbehaa
open Go.RowKit Go.Maps
set_option linter.unusedVariables false

/-- What CellsOf answers. -/
noncomputable def cofOk (l : List Cl) : Bool := decide (l.length ≤ 200) && good (ordL l)
noncomputable def cofL (l : List Cl) : List Cl := if l.length ≤ 200 then tellV (ordL l) else []
theorem cofL_le (l : List Cl) : (cofL l).length ≤ 120 := by
  unfold cofL; split
  · exact tellV_le _
  · simp

theorem cell_one (w : World) (u : Value) (t : TypeId) : (w.alloc (.cells #[u] t)).cell? ⟨w.heap.size, 0, none⟩ = some u := by
  unfold World.cell?; rw [heap_alloc_new]; rfl
theorem cnt_one (l : List Cl) : (List.range 1).flatMap (fun _ => l) = l := by simp [List.range_succ]

end Go.Proofs.Ytgfdkolhldbehaa

namespace Go.Proofs.Ytgfdkolhldbehaa
open Go.RowKit Go.Maps
set_option linter.unusedVariables false

/-- Whether a cell with n near it is alive next. -/
def kp (l : List Cl) (n : Int) (c : Cl) : Bool := decide (n = 3) || (decide (n = 2) && decide (c ∈ l))

/-- What is so of the map while it is gone through. -/
def Pruned (l : List Cl) (dom : Cl → Bool) (f : Cl → Int) (D : DataW Unit) (left : Lit → Bool) : Prop :=
  ∀ c, fits c → Maps.has D (kap c) = (dom c && (left (kap c) || kp l (f c) c)) ∧ (Maps.has D (kap c) = true → D.atKey (kap c) (.lit (.int .i64 0)) = .lit (.int .i64 (f c)))
theorem Pruned.start {l : List Cl} {dom : Cl → Bool} {f : Cl → Int} {D : DataW Unit} (h1 : ∀ c, fits c → Maps.has D (kap c) = dom c) (h2 : ∀ c, fits c → D.atKey (kap c) (.lit (.int .i64 0)) = .lit (.int .i64 (f c))) : Pruned l dom f D (Maps.has D) := by
  intro c hc
  refine ⟨?_, fun _ => h2 c hc⟩
  rw [h1 c hc]; cases dom c <;> simp
theorem Pruned.val {l : List Cl} {dom : Cl → Bool} {f : Cl → Int} {D : DataW Unit} {left : Lit → Bool} (h : Pruned l dom f D left) {x : Cl} (hx : fits x) (hD : Maps.has D (kap x) = true) {n : Int} (hat : D.atKey (kap x) (.lit (.int .i64 0)) = .lit (.int .i64 n)) : n = f x ∧ dom x = true := by
  have h1 := (h x hx).2 hD
  rw [hat] at h1
  have h2 := (h x hx).1
  rw [hD] at h2
  simp at h1
  refine ⟨h1, ?_⟩
  cases e : dom x
  · rw [e] at h2; simp at h2
  · rfl
theorem Pruned.keep {l : List Cl} {dom : Cl → Bool} {f : Cl → Int} {D : DataW Unit} {left : Lit → Bool} (h : Pruned l dom f D left) {x : Cl} (hx : fits x) (hk : kp l (f x) x = true) : Pruned l dom f D (fun z => left z && !z.sameKey (kap x)) := by
  intro c hc
  refine ⟨?_, (h c hc).2⟩
  by_cases e : c = x
  · subst e
    have h1 := (h c hc).1
    rw [h1]; simp only [kap_same hc hc, hk]; simp
  · rw [(h c hc).1]; simp only [kap_same hc hx]; simp [e]
theorem Pruned.drop {l : List Cl} {dom : Cl → Bool} {f : Cl → Int} {D : DataW Unit} {left : Lit → Bool} (h : Pruned l dom f D left) {x : Cl} (hx : fits x) (hk : kp l (f x) x = false) : Pruned l dom f (D.del (kap x)) (fun z => (left z && !z.sameKey (kap x)) && !z.sameKey (kap x)) := by
  intro c hc
  by_cases e : c = x
  · subst e
    refine ⟨?_, fun hh => ?_⟩
    · rw [Maps.has_del_same]; simp only [kap_same hc hc, hk]; simp
    · rw [Maps.has_del_same] at hh; cases hh
  · have hne : kap c ≠ kap x := fun hh => e (kap_inj hc hx hh)
    rw [Maps.has_del_other hne, Maps.atKey_del_other hne]
    simp only [kap_same hc hx]
    refine ⟨?_, (h c hc).2⟩
    rw [(h c hc).1]; simp [e]
theorem Pruned.done {l : List Cl} {dom : Cl → Bool} {f : Cl → Int} {D : DataW Unit} {left : Lit → Bool} {w : World} {b n : Nat} (h : Pruned l dom f D left) (hl : ∀ k, left k = false) (ho : w.ownsMap Try.prog 36 (plainElem Try.prog 3) b n D) :
    MapIs w b n (fun c => dom c && kp l (f c) c) (fun c => if (dom c && kp l (f c) c) = true then f c else 0) := by
  refine ⟨D, ho, fun c hc => ?_, fun c hc => ?_⟩
  · rw [(h c hc).1, hl]; simp
  · by_cases e : (dom c && kp l (f c) c) = true
    · simp only [if_pos e]
      refine (h c hc).2 ?_
      rw [(h c hc).1, hl]; simpa using e
    · simp only [if_neg e]
      refine Maps.atKey_of_not_has ?_ _
      rw [(h c hc).1, hl]; simpa using e

theorem Seg.kept {w0 w : World} {a : Option Addr} {l : List Cl} (h : Seg w0 a l) (hB : Below w0.heap.size w0 w) : Seg w a l := h.below hB

set_option maxRecDepth 100000 in
set_option maxHeartbeats 1000000 in
theorem c_deleteDead (w0 : World) (a : Option Addr) (l : List Cl) (ca b n : Nat) (dom : Cl → Bool) (f : Cl → Int) (w : World) (hs : Seg w0 a l) (hl : l.length ≤ 1048576) (hr : risTo l l.length = true) (hB : Below w0.heap.size w0 w) (hb : w0.heap.size ≤ b) (h : MapIs w b n dom f) (hf : ∀ c, fits c → -9223372036854775808 ≤ f c ∧ f c ≤ 9223372036854775807) :
    Calls Try.prog 128 #[.map (some b), .slice a l.length ca] w fun e w' => e = .returned (.tuple #[]) ∧ MapIs w' b n (fun c => dom c && kp l (f c) c) (fun c => if (dom c && kp l (f c) c) = true then f c else 0) ∧ Below w0.heap.size w0 w' := by
  obtain ⟨D, hown, hdom, hfv⟩ := h
  have HO := hid hown
  have HP := hid (Pruned.start (l := l) hdom hfv)
  have HB := hid hB
  have HS := hid hs
  have HR := hid hr
  clear hown hdom hfv hB hs hr
  go_enter Try.func128, Try.ntmps128
  go_wp2_with (first | (at_range; refine wpList_range_own _ rfl _ 95 rfl 36 3 law mund _ b n D rfl HO.out ?_; intro w2 hrg2 hg2 hs2))
  go_frame
  have HB2 : Hid (Below w0.heap.size w0 w2) := HB.out.grown hg2 HB.out.size (fun k e => by cases e)
  have hwz := HB.out.size
  generalize w.heap.size = r at *
  have HRG2 := hid hrg2
  have HRZ : Hid (w0.heap.size ≤ r) := hwz
  clear hrg2 hs2 hg2 HO HB hwz
  go_loopw [9] (fun _ wr => ∃ (left : Lit → Bool) (cn : Nat) (D : DataW Unit), wr.ranges Try.prog 36 (plainElem Try.prog 3) b r n D left cn ∧ Pruned l dom f D left ∧ Below w0.heap.size w0 wr) (fun _ wr => wr.rangeLeft b r)
  case atStart => exact ⟨_, _, D, HRG2.out, HP.out, HB2.out⟩
  case round =>
    clear HRG2 HB2 HP
    obtain ⟨left, cn, D, hrg, hP, hB⟩ := hrel
    have HRG := hid hrg
    have HP := hid hP
    have HB := hid hB
    clear hrg hP hB
    go_wp2_with (at_next; refine wpList_next_ranges _ rfl _ rfl 36 law (plainElem Try.prog 3) (fun c : Cl => .agg #[.int .i64 c.1, .int .i64 c.2]) (Value.int .i64) (fun key kl hk => by obtain ⟨c, hc, _⟩ := key_inv hk; exact ⟨c, hc⟩) (fun v y hv => by obtain ⟨c, rfl, _⟩ := plainElem_int_inv Try.underlying3 hv; exact ⟨c, rfl⟩) b r n _ _ _ rfl HRG.out ?_ ?_)
    · intro _ hl0
      have HL0 := hid hl0
      clear hl0
      go_wp2
      go_end0
      exact ⟨rfl, HP.out.done HL0.out HRG.out.owns, HB.out⟩
    · intro x1 x2 c kl yd yp w3 cn2 hkey hlk hv hat hrg2 hlt hg2 hs2 hen
      obtain ⟨x, hxe, hxf, rfl⟩ := key_inv hkey
      simp only [Value.agg.injEq, Array.mk.injEq, List.cons.injEq, Value.int.injEq, true_and, and_true] at hxe
      obtain ⟨rfl, rfl⟩ := hxe
      obtain ⟨c', ec, eyy, hwc⟩ := plainElem_int_inv Try.underlying3 hv
      simp only [Value.int.injEq, true_and] at ec
      subst ec
      simp only [Prod.mk.injEq] at eyy
      obtain ⟨rfl, rfl⟩ := eyy
      have hD : Maps.has D (kap x) = true := Maps.has_true_of_atKey (y := _) (fun z => hat z)
      have hval := HP.out.val hxf hD (hat _)
      obtain ⟨hcf, hdx⟩ := hval
      subst hcf
      have HXF := hid hxf
      have HRG3 := hid hrg2
      have HB3 := hid (HB.out.grown hg2 HB.out.size (fun k e => by cases e; exact HRZ.out))
      have HCN := hid hlt
      have HKEY := hid hkey
      have hbd := hf x hxf
      clear hs2 hg2 hrg2 hlt hat hv hlk hkey hD hdx hwc
      have q0 := cell_new0 w3 (.int .i64 x.1) (.int .i64 x.2) 36
      have q1 := cell_new1 w3 (.int .i64 x.1) (.int .i64 x.2) 36
      have HB4 := hid (HB3.out.alloc HB3.out.size (.cells #[.int .i64 x.1, .int .i64 x.2] 36))
      have HRG4 := hid (HRG3.out.alloc (.cells #[.int .i64 x.1, .int .i64 x.2] 36))
      generalize hfx : f x = m at *
      have HFX := hid hfx
      clear hfx hf
      by_cases h3 : m = 3
      · have HK := hid (HP.out.keep HXF.out (by rw [HFX.out, h3]; rfl))
        subst h3
        go_wp2
        go_roundw
        case rel => exact ⟨_, cn2, D, HRG4.out, HK.out, HB4.out⟩
        case measure => rw [HRG4.out.left_eq, HRG.out.left_eq]; exact HCN.out
      · by_cases h2 : m = 2
        · subst h2
          cases hm : decide (x ∈ l)
          · have HK := hid (HP.out.drop HXF.out (by rw [HFX.out]; simp [kp]; simpa using hm))
            go_wp2_with fail
            refine (c_hasCell' a l ca x false hm _ (HS.out.below HB4.out) hl HR.out).mono ?_
            rintro e w5 ⟨rfl, hb5⟩
            have r0 := (hb5.cell (p := ⟨w3.heap.size, 0, none⟩) (by simp)).trans q0
            have r1 := (hb5.cell (p := ⟨w3.heap.size, 1, none⟩) (by simp)).trans q1
            have HB5 := hid (HB4.out.trans (hb5.mono HB4.out.size))
            have HRG5 := hid (HRG4.out.kept (grown_of_below hb5 none) (by simp) (by simp))
            clear hb5 q0 q1
            go_wp2_with (at_delete; refine wpList_delete_ranges _ rfl _ _ 95 36 rfl 3 law mund _ b r n _ _ _ rfl HRG5.out _ _ rfl HKEY.out ?_; intro w6 cn6 hrg6 hle6 htn6)
            go_frame
            have HB6 := hid (HB5.out.grown htn6.grown HB5.out.size (fun k e => by cases e; exact hb))
            have HRG6 := hid hrg6
            clear hrg6 htn6
            go_roundw
            case rel => exact ⟨_, cn6, _, HRG6.out, HK.out, HB6.out⟩
            case measure => rw [HRG6.out.left_eq, HRG.out.left_eq]; have := HCN.out; omega
          · have HK := hid (HP.out.keep HXF.out (by rw [HFX.out]; simp [kp]; simpa using hm))
            go_wp2_with fail
            refine (c_hasCell' a l ca x true hm _ (HS.out.below HB4.out) hl HR.out).mono ?_
            rintro e w5 ⟨rfl, hb5⟩
            have HB5 := hid (HB4.out.trans (hb5.mono HB4.out.size))
            have HRG5 := hid (HRG4.out.kept (grown_of_below hb5 none) (by simp) (by simp))
            clear hb5 q0 q1
            go_wp2
            go_roundw
            case rel => exact ⟨_, cn2, D, HRG5.out, HK.out, HB5.out⟩
            case measure => rw [HRG5.out.left_eq, HRG.out.left_eq]; exact HCN.out
        · have HK := hid (HP.out.drop HXF.out (by rw [HFX.out]; simp [kp, h3, h2]))
          go_wp2_with (at_delete; refine wpList_delete_ranges _ rfl _ _ 95 36 rfl 3 law mund _ b r n _ _ _ rfl HRG4.out _ _ rfl HKEY.out ?_; intro w6 cn6 hrg6 hle6 htn6)
          go_frame
          have HB6 := hid (HB4.out.grown htn6.grown HB4.out.size (fun k e => by cases e; exact hb))
          have HRG6 := hid hrg6
          clear hrg6 htn6
          go_roundw
          case rel => exact ⟨_, cn6, _, HRG6.out, HK.out, HB6.out⟩
          case measure => rw [HRG6.out.left_eq, HRG.out.left_eq]; have := HCN.out; omega
end Go.Proofs.Ytgfdkolhldbehaa

namespace Go.Proofs.Ytgfdkolhldbehaa
open Go.RowKit Go.Maps
set_option linter.unusedVariables false

theorem nearB_comm (x c : Cl) : nearB x c = nearB c x := by
  obtain ⟨a, b⟩ := x
  obtain ⟨u, v⟩ := c
  simp only [nearB]
  congr 1
  · congr 1
    · congr 1; apply propext; constructor <;> exact fun h e => h e.symm
    · rw [Bool.and_comm]; congr 1 <;> (congr 1; apply propext; constructor <;> intro h <;> omega)
  · rw [Bool.and_comm]; congr 1 <;> (congr 1; apply propext; constructor <;> intro h <;> omega)
theorem cnt_about (l : List Cl) (c : Cl) : cnt (l.flatMap about) c = (near l c : Int) := by
  unfold cnt near
  congr 1
  induction l with
  | nil => rfl
  | cons x r ih =>
    rw [List.flatMap_cons, List.countP_append, ih, countP_is (about x) c (about_nodup x), List.countP_cons, ← nearB_comm]
    by_cases h : c ∈ about x
    · rw [if_pos h, if_pos ((mem_about x c).1 h)]; omega
    · rw [if_neg h, if_neg (fun e => h ((mem_about x c).2 e))]; omega

/-- Whether a cell is alive next. -/
def nxtB (l : List Cl) (c : Cl) : Bool := kp l (near l c : Int) c
theorem nxt_near {l : List Cl} {c : Cl} (h : nxtB l c = true) : ∃ x ∈ l, nearB c x = true := by
  have h2 : 0 < near l c := by
    simp [nxtB, kp] at h
    omega
  unfold near at h2
  rw [List.countP_pos_iff] at h2
  exact h2
theorem about_mem_fits {l : List Cl} (h : ∀ i, i < l.length → inR (at_ l i) = true) {c : Cl} (hc : c ∈ l.flatMap about) : fits c := by
  rw [List.mem_flatMap] at hc
  obtain ⟨x, hx, hcx⟩ := hc
  obtain ⟨i, hi, rfl⟩ := mem_at.1 hx
  obtain ⟨j, hj, e⟩ := mem_at.1 hcx
  exact about_fits (inR_bd (h i hi)) (by simpa [about] using hj) e
theorem about_len (l : List Cl) : (l.flatMap about).length = l.length * 8 := by
  induction l with
  | nil => rfl
  | cons c r ih => rw [List.flatMap_cons, List.length_append, ih]; simp [about]; omega

/-- The cells that p names, in order, if a list can hold them. -/
noncomputable def pickL (p : Cl → Bool) : List Cl := open Classical in if h : ∃ l', risTo l' l'.length = true ∧ ∀ c, c ∈ l' ↔ p c = true then Classical.choose h else []
theorem pickL_eq {p : Cl → Bool} {l' : List Cl} (h1 : risTo l' l'.length = true) (h2 : ∀ c, c ∈ l' ↔ p c = true) : pickL p = l' := by
  unfold pickL
  have h : ∃ l', risTo l' l'.length = true ∧ ∀ c, c ∈ l' ↔ p c = true := ⟨l', h1, h2⟩
  rw [dif_pos h]
  exact ris_unique (Classical.choose_spec h).1 h1 (fun c => ((Classical.choose_spec h).2 c).trans (h2 c).symm)

/-- What StepCells answers. -/
noncomputable def stepOk (l : List Cl) : Bool := good l && good (pickL (nxtB l))
noncomputable def stepL (l : List Cl) : List Cl := if good l then tellV (pickL (nxtB l)) else []
theorem stepL_le (l : List Cl) : (stepL l).length ≤ 120 := by
  unfold stepL; split
  · exact tellV_le _
  · simp

set_option maxRecDepth 100000 in
set_option maxHeartbeats 1000000 in
theorem c_stepFreely (a : Option Addr) (l : List Cl) (ca : Nat) (w : World) (ha : Seg w a l) (hg : good l = true) :
    Calls Try.prog 78 #[.slice a l.length ca] w fun e w' => ∃ v m, e = .returned v ∧ OwnS w' w.heap.size v m ∧ risTo m m.length = true ∧ (∀ c, c ∈ m ↔ nxtB l c = true) ∧ m.length ≤ 960 ∧ Below w.heap.size w w' := by
  have hl := good_le hg
  have HIN := hid (good_in hg)
  have HR := hid (good_ris hg)
  have HA := hid ha
  have HLEN := hid (about_len l)
  clear ha hg
  go_enter Try.func78, Try.ntmps78
  go_wp2_with fail
  refine (c_nearCounts a l ca _ HA.out (by omega) HIN.out).mono ?_
  rintro e w1 ⟨rfl, hC1, hb1⟩
  have HC1 := hid hC1
  have HB1 := hid hb1
  clear hC1 hb1
  go_wp2_with fail
  refine (c_deleteDead w a l ca w.heap.size _ _ _ w1 HA.out (by omega) HR.out HB1.out (Nat.le_refl _) HC1.out (fun c _ => by have := cnt_le (l.flatMap about) c; have := HLEN.out; omega)).mono ?_
  rintro e w2 ⟨rfl, hM2, hb2⟩
  have HM2 := hid hM2
  have HB2 := hid hb2
  clear hM2 hb2
  go_wp2_with fail
  refine (c_inOrder _ _ _ _ w2 HM2.out (by have := HLEN.out; omega)).mono ?_
  rintro e w3 ⟨v, m, rfl, hO, hr, hm, hl3, hb3⟩
  have HO := hid (hO.mono HB2.out.size)
  have HRR := hid hr
  have HMM := hid hm
  have HB3 := hid (HB2.out.trans (hb3.mono HB2.out.size))
  have HLL := hid hl3
  clear hO hr hm hl3 hb3
  go_wp2
  go_ret
  refine ⟨_, m, rfl, HO.out, HRR.out, fun c => ?_, by have := HLL.out; have := HLEN.out; omega, HB3.out⟩
  rw [HMM.out, cnt_about]
  constructor
  · rintro ⟨_, h⟩
    rw [Bool.and_eq_true] at h
    exact h.2
  · intro h
    obtain ⟨x, hx, hn⟩ := nxt_near h
    have hm : c ∈ l.flatMap about := by
      rw [List.mem_flatMap]
      exact ⟨x, hx, (mem_about x c).2 (by rw [nearB_comm]; exact hn)⟩
    refine ⟨about_mem_fits HIN.out hm, ?_⟩
    rw [Bool.and_eq_true]
    exact ⟨by simpa using hm, h⟩

set_option maxRecDepth 100000 in
set_option maxHeartbeats 1000000 in
theorem c_iStepCells (a : Option Addr) (l : List Cl) (ca : Nat) (w : World) (ha : Seg w a l) (hl : l.length ≤ 1048576) :
    Calls Try.prog 25 #[.slice a l.length ca] w fun e w' => ∃ v, e = .returned (.tuple #[v, .bool (stepOk l)]) ∧ OwnS w' w.heap.size v (stepL l) ∧ Below w.heap.size w w' := by
  cases hg : good l
  · have HC := hid (c_iGood' a l ca false hg _ ha hl)
    have HV : Hid (stepL l = [] ∧ stepOk l = false) := by simp [Hid, stepL, stepOk, hg]
    clear ha
    go_enter Try.func25, Try.ntmps25
    go_wp2_with fail
    refine HC.out.mono ?_
    rintro e w1 ⟨rfl, hb1⟩
    go_wp2
    go_ret2
    exact ⟨_, by rw [HV.out.2]; rfl, by rw [HV.out.1]; exact OwnS.nil _ _, hb1⟩
  · have HC := hid (c_iGood' a l ca true hg _ ha hl)
    have HA := hid ha
    clear ha
    go_enter Try.func25, Try.ntmps25
    go_wp2_with fail
    refine HC.out.mono ?_
    rintro e w1 ⟨rfl, hb1⟩
    have HB1 := hid hb1
    clear hb1
    go_wp2_with fail
    refine (c_stepFreely a l ca w1 (HA.out.below HB1.out) hg).mono ?_
    rintro e w2 ⟨v, m, rfl, hO, hr, hm, hl3, hb2⟩
    have HV : Hid (stepL l = tellV m ∧ stepOk l = good m) := by simp [Hid, stepL, stepOk, hg, pickL_eq hr hm]
    obtain ⟨a2, c2, rfl, hs2⟩ := hO.form
    have HB2 := hid (HB1.out.trans (hb2.mono HB1.out.size))
    have HS := hid hs2
    have HO := hid hO
    clear hs2 hO hr hm hb2
    go_wp2_with fail
    refine (c_onlyGood a2 m c2 w1.heap.size w2 HO.out HS.out (by omega)).mono ?_
    rintro e w5 ⟨v, rfl, hO5, hB5⟩
    go_wp2
    go_ret2
    exact ⟨_, by rw [HV.out.2]; rfl, by rw [HV.out.1]; exact hO5.mono HB1.out.size, HB2.out.trans (hB5.mono HB2.out.size)⟩

end Go.Proofs.Ytgfdkolhldbehaa
