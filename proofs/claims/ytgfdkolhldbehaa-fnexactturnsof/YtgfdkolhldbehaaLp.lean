/- Texts of this seat, one behind the other: InW, KepW, FixS. -/
import Derived.Test.YtgfdkolhldbehaaLh
import Derived.Test.YtgfdkolhldbehaaLl
import Derived.Test.YtgfdkolhldbehaaLg
import Derived.Test.YtgfdkolhldbehaaLn
import Derived.Test.YtgfdkolhldbehaaLi
import Derived.Test.YtgfdkolhldbehaaLo
namespace Go.Proofs.Ytgfdkolhldbehaa
open Go.RowKit Go.Maps
set_option linter.unusedVariables false
set_option linter.unusedSimpArgs false

theorem va_set {vs : List Value} {i : Nat} {u : Value} (hi : i < vs.length) (j : Nat) : va (vs.set i u) j = if j = i then u else va vs j := by
  by_cases e : j = i
  · subst e; simp [va, hi]
  · simp only [va, List.getD_eq_getElem?_getD, List.getElem?_set, e, if_false]
    rw [if_neg (fun h => e h.symm)]
/-- One slice is put in the place of another. -/
theorem OwnH.put {w : World} {base g n ca i : Nat} {vs : List Value} {H : List (List Cl)} {u : Value} {m : List Cl} (h : OwnH w base (.slice (some ⟨g, 0, none⟩) n ca) vs H) (hn : H.length = n) (hi : i < n) (hu : OwnS w base u m)
    (hap : ∀ j, j < n → j ≠ i → ∀ k, (va vs j).ownBlock = some k → u.ownBlock ≠ some k) : OwnH (w.setCell ⟨g, i, none⟩ u) base (.slice (some ⟨g, 0, none⟩) n ca) (vs.set i u) (H.set i m) := by
  subst hn
  have hvl : i < vs.length := by rw [h.len]; exact hi
  obtain ⟨h1, h2⟩ := h.row.stored i u
  refine ⟨by simp [h.len], by rw [List.length_set]; exact h1, fun j hj => ?_, fun a b hab hb => ?_⟩
  · rw [List.length_set] at hj
    rw [va_set hvl, ht_set hi]
    split
    · exact own_keep hu h2 fun k hk e => by
        simp only [Option.some.injEq] at e
        exact row_ne h.row hu g rfl (by rw [hk, e])
    · exact own_keep (h.each j hj) h2 fun k hk e => by
        simp only [Option.some.injEq] at e
        exact row_ne h.row (h.each j hj) g rfl (by rw [hk, e])
  · rw [List.length_set] at hb
    intro k hk hk2
    rw [va_set hvl] at hk hk2
    by_cases ea : a = i
    · rw [if_pos ea] at hk
      by_cases eb : b = i
      · omega
      · rw [if_neg eb] at hk2
        exact hap b hb eb k hk2 hk
    · rw [if_neg ea] at hk
      by_cases eb : b = i
      · rw [if_pos eb] at hk2
        exact hap a (by omega) ea k hk hk2
      · rw [if_neg eb] at hk2
        exact h.apart a b hab hb k hk hk2

theorem make_CellSS8 (w : World) :
    (Instr.makeSlice 39 (.int .i64 8) (.int .i64 8)).run Try.prog w = .ok (.slice (some ⟨w.heap.size, 0, none⟩) 8 8) (w.alloc (.cells (madeCells #[.slice none 0 0] 8) 23)) := by
  obtain ⟨i, hi, hz, hs, hb⟩ := info_parts info_Cells
  have := run_make (P := Try.prog) w 39 23 i _ Try.underlying39 hi hz .i64 .i64 8 8 (by omega) (Int.le_refl _) (by rw [hb]; omega) (by omega)
  simpa [hs, Value.cells] using this
theorem made_H (w : World) : OwnH (w.alloc (.cells (madeCells #[.slice none 0 0] 8) 23)) w.heap.size (.slice (some ⟨w.heap.size, 0, none⟩) 8 8) (List.replicate 8 (.slice none 0 0)) (List.replicate 8 []) := by
  have hv : ∀ i, va (List.replicate 8 (.slice none 0 0)) i = .slice none 0 0 := by
    intro i
    simp only [va, List.getD_eq_getElem?_getD, List.getElem?_replicate]
    split <;> rfl
  have hr := World.ownsRow_lit (base := w.heap.size) (e := 23) (size := 1) w (madeCells #[.slice none 0 0] 8) 8 (Nat.le_refl _) (by unfold maxLen; omega) (size_madeCells _ _)
  have he : (madeCells #[.slice none 0 0] 8).toList = List.replicate 8 (.slice none 0 0) := by
    refine List.ext_getElem (by rw [Array.length_toList, size_madeCells]; rfl) fun i h1 h2 => ?_
    rw [List.getElem_replicate]
    simp [madeCells, Nat.mod_one]
  rw [he] at hr
  refine ⟨rfl, hr, fun i hi => ?_, fun i j _ _ k hk => ?_⟩
  · rw [hv, show ht (List.replicate 8 []) i = [] from by simp only [ht, List.getD_eq_getElem?_getD, List.getElem?_replicate]; split <;> rfl]
    exact OwnS.nil _ _
  · rw [hv] at hk; cases hk

/-- Cells in the ways below n, and in no other yet. -/
noncomputable def inTo (l : List Cl) (n : Nat) : List (List Cl) := (List.range 8).map fun k => if k < n then tuL k l else []
theorem inTo_len (l : List Cl) (n : Nat) : (inTo l n).length = 8 := by simp [inTo]
theorem inTo_zero (l : List Cl) : inTo l 0 = List.replicate 8 [] := by
  refine List.ext_getElem (by simp [inTo]) fun i h1 h2 => ?_
  rw [List.getElem_replicate]
  simp only [inTo, List.getElem_map, List.getElem_range]
  rw [if_neg (Nat.not_lt_zero _)]
theorem inTo_ht (l : List Cl) (n : Nat) {i : Nat} (hi : i < 8) : ht (inTo l n) i = if i < n then tuL i l else [] := by
  simp [ht, inTo, hi]
theorem inTo_set (l : List Cl) {n : Nat} (hn : n < 8) : (inTo l n).set n (tuL n l) = inTo l (n + 1) := by
  refine List.ext_getElem (by simp [inTo]) fun i h1 h2 => ?_
  simp only [inTo, List.getElem_set, List.getElem_map, List.getElem_range]
  by_cases e : n = i
  · subst e; simp
  · rw [if_neg e]
    by_cases e2 : i < n
    · rw [if_pos e2, if_pos (by omega)]
    · rw [if_neg e2, if_neg (by omega)]

set_option maxRecDepth 100000 in
set_option maxHeartbeats 4000000 in
theorem c_inAllWays (a : Option Addr) (l : List Cl) (ca : Nat) (w : World) (ha : Seg w a l) (hl : l.length ≤ 1048576) (hN : ∀ c ∈ l, bdC c) (hnd : l.Nodup) :
    Calls Try.prog 107 #[.slice a l.length ca] w fun e w' => ∃ g vs, e = .returned (.slice (some ⟨g, 0, none⟩) 8 8) ∧ OwnH w' w.heap.size (.slice (some ⟨g, 0, none⟩) 8 8) vs (inTo l 8) ∧ Below w.heap.size w w' := by
  have HA := hid ha
  have HNr := hid (fun (m : Nat) (hm : m < 8) c hc => nr_way hm (hN c hc))
  have HND := hid (fun (m : Nat) (hm : m < 8) => show (l.map (tnBy (tnW [m]))).Nodup by rw [tnW_one hm]; exact map_nodup hm hnd)
  have HOL := hid (fun (m : Nat) (hm : m < 8) => show ordL (l.map (tnBy (tnW [m]))) = tuL m l by rw [tnW_one hm]; rfl)
  have hmk := make_CellSS8
  have M0 := hid (made_H w)
  clear ha hN hnd
  go_enter Try.func107, Try.ntmps107
  go_wp2_with fail
  go_loopw [8] (fun i wr => ∃ (k : Nat) (vs : List Value), k ≤ 8 ∧ i = .int .i64 k ∧ OwnH wr w.heap.size (.slice (some ⟨w.heap.size, 0, none⟩) 8 8) vs (inTo l k) ∧ Below w.heap.size w wr) (fun i _ => 8 - (intOf i).toNat)
  case atStart => exact ⟨0, _, Nat.zero_le _, rfl, by rw [inTo_zero]; exact M0.out, (Below.refl _ _).alloc (Nat.le_refl _) _⟩
  case round =>
    clear M0 hmk
    obtain ⟨k, vs, hk, rfl, hO, hB⟩ := hrel
    have HO := hid hO
    have HB := hid hB
    clear hO hB
    by_cases hlt : k < 8
    · have k0 : (0 : Int) ≤ (k : Int) := by omega
      have k1 : (k : Int) < 8 := by omega
      have HM : Hid (∀ x ∈ [k], x < 8) := by show ∀ x ∈ [k], x < 8; simpa using hlt
      have HFw := hid (tnW_few hlt)
      have BA := (Below.refl wr.heap.size wr).alloc (Nat.le_refl _) (.cells #[.int .i64 (k : Int)] 3)
      have HA2 := hid ((HA.out.below HB.out).below BA)
      have HB2 := hid (HB.out.trans (BA.mono HB.out.size))
      have HO2 := hid (HO.out.below BA)
      have HI2 := hid (iseg_block (heap_alloc_new wr (.cells #[.int .i64 (k : Int)] 3)))
      clear BA HB HO
      go_wp2_with fail
      refine (c_turningsOf _ [k] 1 _ HI2.out (by simp) HM.out).mono ?_
      rintro e w3 ⟨v3, rfl, o3, b3⟩
      obtain ⟨a3, c3, rfl, s3⟩ := o3.form (tnW_ok _ _)
      have HA3 := hid (HA2.out.below b3)
      have HB3 := hid (HB2.out.trans (b3.mono HB2.out.size))
      have HO3 := hid (HO2.out.below b3)
      have S3 := hid s3
      clear o3 s3 b3 HA2 HB2 HO2
      go_wp2_with fail
      refine (c_allTurned a a3 l (tnW [k]) ca c3 w3 HA3.out S3.out (by omega) (by rw [tnW_len]; simp) (HNr.out k hlt) HFw.out (HND.out k hlt)).mono ?_
      rintro e w4 ⟨v4, rfl, o4, l4, b4⟩
      rw [HOL.out k hlt] at o4
      obtain ⟨a4, c4, rfl, s4⟩ := o4.form
      have HO4 := hid (HO3.out.below b4)
      have HB4 := hid (HB3.out.trans (b4.mono HB3.out.size))
      have HP := hid (HO4.out.put (by simp [inTo]) hlt (o4.mono HB3.out.size) (fun j hj hne x hx e => by
        have h1 := ((HO3.out.each j (by rw [inTo_len]; exact hj)).lt x hx).2
        have h2 := (o4.lt x e).1
        omega))
      have f0 := HO4.out.row
      rw [inTo_len] at f0
      have f1 := f0.frozenAt k
      have f2 := f0.cellAt k (by omega)
      rw [va_get (by have := HO4.out.len; rw [inTo_len] at this; omega)] at f2
      clear o4 b4 l4 HO3 f0 s4
      go_wp2_with fail
      go_roundw
      case rel => exact ⟨k + 1, vs.set k _, by omega, by go_num, by rw [← inTo_set l hlt]; exact HP.out, HB4.out.setCell (p := ⟨w.heap.size, k, none⟩) (Nat.le_refl _) _⟩
      case measure => simp [intOf]; omega
    · obtain rfl : k = 8 := by omega
      go_wp2
      go_ret
      exact ⟨_, _, rfl, HO.out, HB.out⟩
end Go.Proofs.Ytgfdkolhldbehaa

namespace Go.Proofs.Ytgfdkolhldbehaa
open Go.RowKit Go.Maps
set_option linter.unusedVariables false
set_option linter.unusedSimpArgs false

/-- The ways below n in which the list is that of way 0. -/
def kpW (H : List (List Cl)) (n : Nat) : List Int := ((List.range n).filter fun k => decide (ht H k = ht H 0)).map fun k : Nat => (k : Int)
theorem kpW_succ (H : List (List Cl)) (n : Nat) : kpW H (n + 1) = kpW H n ++ (if ht H n = ht H 0 then [(n : Int)] else []) := by
  unfold kpW
  rw [List.range_succ, List.filter_append, List.map_append]
  by_cases h : ht H n = ht H 0 <;> simp [h]
theorem kpW_le (H : List (List Cl)) (n : Nat) : (kpW H n).length ≤ n := by
  have h := List.length_filter_le (fun k => decide (ht H k = ht H 0)) (List.range n)
  rw [List.length_range] at h
  unfold kpW
  rw [List.length_map]; exact h

set_option maxRecDepth 100000 in
set_option maxHeartbeats 4000000 in
theorem c_keepingWays (a : Option Addr) (H : List (List Cl)) (ca : Nat) (w : World) (ha : HSeg w a H) (hl : H.length ≤ 1000) (h1 : ∀ i, i < H.length → (ht H i).length ≤ 1048576) :
    Calls Try.prog 101 #[.slice a H.length ca] w fun e w' => ∃ v, e = .returned v ∧ OwnI w' w.heap.size v (kpW H H.length) ∧ Below w.heap.size w w' := by
  have HA := hid ha
  have H1 := hid h1
  clear ha h1
  go_enter Try.func101, Try.ntmps101
  go_wp2_with fail
  go_loopw [3, 8] (fun v i wr => ∃ k : Nat, k ≤ H.length ∧ i = .int .i64 k ∧ OwnI wr w.heap.size v (kpW H k) ∧ Below w.heap.size w wr) (fun _ i _ => H.length - (intOf i).toNat)
  case atStart => exact ⟨0, Nat.zero_le _, rfl, OwnI.nil _ _, Below.refl _ _⟩
  case round =>
    obtain ⟨k, hk, rfl, hO, hB⟩ := hrel
    have HO := hid hO
    have HB := hid hB
    clear hO hB
    by_cases hlt : k < H.length
    · obtain ⟨b, o, rfl, hb, a1, c1, g1, s1, n1⟩ := HA.out k hlt
      obtain ⟨b', o', e', hb', a2, c2, g2, s2, n2⟩ := HA.out 0 (by omega)
      simp only [Option.some.injEq, Addr.mk.injEq, and_true] at e'
      obtain ⟨rfl, rfl⟩ := e'
      replace g1 := (HB.out.cell (p := ⟨b, o + k, none⟩) hb).trans g1
      replace g2 := (HB.out.cell (p := ⟨b, o + 0, none⟩) hb).trans g2
      have S1 := hid (s1.below HB.out)
      have S2 := hid (s2.below HB.out)
      have hx1 := H1.out k hlt
      have hx2 := H1.out 0 (by omega)
      have hp : 0 < H.length := by omega
      have HT := hid (kpW_succ H k)
      have hkl := kpW_le H k
      clear s1 s2 hb'
      rw [Nat.add_zero] at g2
      cases hq : decide (ht H k = ht H 0)
      · have hne : ¬ ht H k = ht H 0 := by simpa using hq
        rw [if_neg hne, List.append_nil] at HT
        have HQ := hid hq
        go_wp2_with fail
        refine (c_slicesEqual a1 a2 (ht H k) (ht H 0) c1 c2 _ S1.out S2.out hx1 hx2).mono ?_
        rintro e w3 ⟨rfl, b3⟩
        have HB3 := hid (HB.out.trans (b3.mono HB.out.size))
        have HO3 := hid (HO.out.below b3)
        clear b3
        rw [HQ.out]
        go_wp2_with fail
        go_roundw
        case rel => exact ⟨k + 1, by omega, by go_num, by rw [HT.out]; exact HO3.out, HB3.out⟩
        case measure => simp [intOf]; omega
      · have heq : ht H k = ht H 0 := by simpa using hq
        rw [if_pos heq] at HT
        have HQ := hid hq
        clear heq
        go_wp2_with fail
        refine (c_slicesEqual a1 a2 (ht H k) (ht H 0) c1 c2 _ S1.out S2.out hx1 hx2).mono ?_
        rintro e w3 ⟨rfl, b3⟩
        have BA := (Below.refl w3.heap.size w3).alloc (Nat.le_refl _) (.cells #[.int .i64 (k : Int)] 3)
        have HB3 := hid ((HB.out.trans (b3.mono HB.out.size)).alloc (by have := b3.size; have := HB.out.size; omega) (.cells #[.int .i64 (k : Int)] 3))
        have HO3 := hid ((HO.out.below b3).below BA)
        have HSg := hid (iseg_block (heap_alloc_new w3 (.cells #[.int .i64 (k : Int)] 3)))
        clear b3 BA
        rw [HQ.out]
        go_wp2_with (at_builtin; refine wpList_appI rfl _ _ rfl w.heap.size _ _ [(k : Int)] _ 1 1 rfl HO3.out rfl rfl HSg.out (by intro h; cases h) (by simp; omega) HB3.out.size ?_; intro v' w5 hO5 hG5 _; have HB7 := hid (below_grownI HB3.out HO3.out hG5); have HO7 := hid hO5; clear hO5 hG5)
        go_roundw
        case rel => exact ⟨k + 1, by omega, by go_num, by rw [HT.out]; exact HO7.out, HB7.out⟩
        case measure => simp [intOf]; omega
    · obtain rfl : k = H.length := by omega
      go_wp2
      go_ret
      exact ⟨_, rfl, HO.out, HB.out⟩

/-- Cells in all ways, those below n brought home. -/
noncomputable def fmTo (l : List Cl) (n : Nat) : List (List Cl) := (List.range 8).map fun k => if k < n then hm l k else tuL k l
theorem fmTo_len (l : List Cl) (n : Nat) : (fmTo l n).length = 8 := by simp [fmTo]
theorem fmTo_zero (l : List Cl) : inTo l 8 = fmTo l 0 := by
  refine List.ext_getElem (by simp [inTo, fmTo]) fun i h1 h2 => ?_
  have : i < 8 := by simpa [inTo] using h1
  simp [inTo, fmTo, this]
theorem fmTo_ht (l : List Cl) (n : Nat) {i : Nat} (hi : i < 8) : ht (fmTo l n) i = if i < n then hm l i else tuL i l := by
  simp [ht, fmTo, hi]
theorem fmTo_set (l : List Cl) {n : Nat} (hn : n < 8) : (fmTo l n).set n (hm l n) = fmTo l (n + 1) := by
  refine List.ext_getElem (by simp [fmTo]) fun i h1 h2 => ?_
  simp only [fmTo, List.getElem_set, List.getElem_map, List.getElem_range]
  by_cases e : n = i
  · subst e; simp
  · rw [if_neg e]
    by_cases e2 : i < n
    · rw [if_pos e2, if_pos (by omega)]
    · rw [if_neg e2, if_neg (by omega)]
theorem fix_is (l : List Cl) : kpW (fmTo l 8) 8 = fixTo l 8 := by
  have h : ∀ k ∈ List.range 8, decide (ht (fmTo l 8) k = ht (fmTo l 8) 0) = decide (hm l k = hm l 0) := fun k hk => by
    have h8 : k < 8 := List.mem_range.1 hk
    rw [fmTo_ht l 8 h8, fmTo_ht l 8 (by omega), if_pos h8, if_pos (by omega)]
  unfold kpW fixTo
  rw [List.filter_congr h]

set_option maxRecDepth 100000 in
set_option maxHeartbeats 4000000 in
theorem c_formsOf_no (a : Option Addr) (l : List Cl) (ca : Nat) (w : World) (ha : Seg w a l) (hl : l.length ≤ 1048576) (hh : homeOk l = false) :
    Calls Try.prog 95 #[.slice a l.length ca] w fun e w' => e = .returned (.tuple #[.slice none 0 0, .bool false]) ∧ Below w.heap.size w w' := by
  have HC := hid (c_iHomeOf a l ca w ha hl)
  rw [hh] at HC
  generalize homeC l = lo at *
  clear ha
  go_enter Try.func95, Try.ntmps95
  go_wp2_with fail
  refine HC.out.mono ?_
  rintro e w1 ⟨v1, rfl, o1, b1⟩
  obtain ⟨a1, c1, rfl, s1⟩ := o1.form
  have k2 := (Below.refl w1.heap.size w1).alloc (Nat.le_refl _) (.cells #[.int .i64 lo.1, .int .i64 lo.2] 36)
  have B1 := hid (b1.trans (k2.mono b1.size))
  clear o1 s1 b1 k2 HC
  go_wp2
  go_ret2
  exact ⟨rfl, B1.out⟩
set_option maxRecDepth 100000 in
set_option maxHeartbeats 4000000 in
theorem c_formsOf_yes (a : Option Addr) (l : List Cl) (ca : Nat) (w : World) (ha : Seg w a l) (hl : l.length ≤ 1048576) (hh : homeOk l = true) :
    Calls Try.prog 95 #[.slice a l.length ca] w fun e w' => ∃ g vs, e = .returned (.tuple #[.slice (some ⟨g, 0, none⟩) 8 8, .bool true]) ∧ OwnH w' w.heap.size (.slice (some ⟨g, 0, none⟩) 8 8) vs (fmTo l 8) ∧ Below w.heap.size w w' := by
  have HC := hid (c_iHomeOf a l ca w ha hl)
  have hg : good l = true := by simp only [homeOk, Bool.and_eq_true] at hh; exact hh.1
  rw [hh] at HC
  generalize homeC l = lo at *
  have HN := hid (nodup_near hg)
  have HND := hid (ris_nodup (good_ris hg))
  have HG := hid (fun (m : Nat) (hm : m < 8) => tu_good hm hg)
  have HA := hid ha
  clear ha hg hh
  go_enter Try.func95, Try.ntmps95
  go_wp2_with fail
  refine HC.out.mono ?_
  rintro e w1 ⟨v1, rfl, o1, b1⟩
  obtain ⟨a1, c1, rfl, s1⟩ := o1.form
  have k2 := (Below.refl w1.heap.size w1).alloc (Nat.le_refl _) (.cells #[.int .i64 lo.1, .int .i64 lo.2] 36)
  have B1 := hid (b1.trans (k2.mono b1.size))
  have A1 := hid (HA.out.below B1.out)
  clear o1 s1 b1 k2 HC HA
  go_wp2_with fail
  refine (c_inAllWays a l ca _ A1.out hl HN.out HND.out).mono ?_
  rintro e w2 ⟨g, vs, rfl, o2, b2⟩
  have O2 := hid (o2.mono B1.out.size)
  have B2 := hid (B1.out.trans (b2.mono B1.out.size))
  have hgb := hid (O2.out.lt g rfl).1
  clear o2 b2 B1 A1
  go_wp2_with fail
  go_loopw [22] (fun i wr => ∃ (k : Nat) (vs : List Value), k ≤ 8 ∧ i = .int .i64 k ∧ OwnH wr w.heap.size (.slice (some ⟨g, 0, none⟩) 8 8) vs (fmTo l k) ∧ Below w.heap.size w wr) (fun i _ => 8 - (intOf i).toNat)
  case atStart => exact ⟨0, vs, Nat.zero_le _, rfl, by rw [← fmTo_zero]; exact O2.out, B2.out⟩
  case round =>
    clear O2 B2
    obtain ⟨k, us, hk, rfl, hO, hB⟩ := hrel
    have HO := hid hO
    have HB := hid hB
    clear hO hB
    by_cases hlt : k < 8
    · have k0 : (0 : Int) ≤ (k : Int) := by omega
      have k1 : (k : Int) < 8 := by omega
      have f0 := HO.out.row
      rw [fmTo_len] at f0
      have f2 := f0.cellAt k (by omega)
      rw [va_get (by have := HO.out.len; rw [fmTo_len] at this; omega)] at f2
      have he := HO.out.each k (by rw [fmTo_len]; exact hlt)
      rw [fmTo_ht l k hlt, if_neg (Nat.lt_irrefl k)] at he
      obtain ⟨a1, c1, e1, s1⟩ := he.form
      rw [e1] at f2
      have S1 := hid s1
      have hgk := HG.out k hlt
      have hle := good_le hgk
      have HGk := hid hgk
      clear he s1 f0 e1 hgk
      go_wp2_with fail
      refine (c_homeward a1 (tuL k l) c1 wr S1.out (by omega) HGk.out).mono ?_
      rintro e w4 ⟨v4, rfl, o4, b4⟩
      change OwnS w4 wr.heap.size v4 (hm l k) at o4
      obtain ⟨a4, c4, rfl, s4⟩ := o4.form
      have HO4 := hid (HO.out.below b4)
      have HB4 := hid (HB.out.trans (b4.mono HB.out.size))
      have HP := hid (HO4.out.put (by simp [fmTo]) hlt (o4.mono HB.out.size) (fun j hj hne x hx e => by
        have h1 := ((HO.out.each j (by rw [fmTo_len]; exact hj)).lt x hx).2
        have h2 := (o4.lt x e).1
        omega))
      have f0 := HO4.out.row
      rw [fmTo_len] at f0
      have f1 := f0.frozenAt k
      have f2' := f0.cellAt k (by omega)
      rw [va_get (by have := HO4.out.len; rw [fmTo_len] at this; omega)] at f2'
      generalize boxLo (tuL k l) = lo2 at *
      clear o4 b4 f0 S1 f2 s4
      go_wp2_with fail
      go_roundw
      case rel => exact ⟨k + 1, us.set k _, by omega, by go_num, by rw [← fmTo_set l hlt]; exact HP.out, HB4.out.setCell (p := ⟨g, k, none⟩) hgb.out _⟩
      case measure => simp [intOf]; omega
    · obtain rfl : k = 8 := by omega
      go_wp2
      go_ret2
      exact ⟨_, _, rfl, HO.out, HB.out⟩

/-- What FixedBy answers. -/
noncomputable def fixL (l : List Cl) : List Int := if homeOk l then fixTo l 8 else []
theorem fixL_le (l : List Cl) : (fixL l).length ≤ 8 := by
  unfold fixL; split
  · exact fixTo_le l 8
  · simp
set_option maxRecDepth 100000 in
set_option maxHeartbeats 4000000 in
theorem c_iFixedBy (a : Option Addr) (l : List Cl) (ca : Nat) (w : World) (ha : Seg w a l) (hl : l.length ≤ 1048576) :
    Calls Try.prog 49 #[.slice a l.length ca] w fun e w' => ∃ v, e = .returned (.tuple #[v, .bool (homeOk l)]) ∧ OwnI w' w.heap.size v (fixL l) ∧ Below w.heap.size w w' := by
  cases hh : homeOk l
  · have HV : Hid (fixL l = []) := by simp [Hid, fixL, hh]
    have HC := hid (c_formsOf_no a l ca w ha hl hh)
    clear ha
    go_enter Try.func49, Try.ntmps49
    go_wp2_with fail
    refine HC.out.mono ?_
    rintro e w1 ⟨rfl, b1⟩
    go_wp2_with fail
    refine (c_keepingWays none [] 0 w1 (fun i hi => absurd hi (Nat.not_lt_zero _)) (by simp) (fun i hi => absurd hi (Nat.not_lt_zero _))).mono ?_
    rintro e w2 ⟨v2, rfl, o2, b2⟩
    go_wp2
    go_ret2
    exact ⟨_, rfl, by rw [HV.out]; exact o2.mono b1.size, b1.trans (b2.mono b1.size)⟩
  · have hg : good l = true := by have := hh; simp only [homeOk, Bool.and_eq_true] at this; exact this.1
    have HV : Hid (fixL l = kpW (fmTo l 8) 8) := by show _ = _; rw [fix_is]; simp [fixL, hh]
    have HL : Hid (∀ i, i < (fmTo l 8).length → (ht (fmTo l 8) i).length ≤ 1048576) := fun i hi => by
      rw [fmTo_len] at hi
      rw [fmTo_ht l 8 hi, if_pos hi]
      have := hm_le l i hi hg
      omega
    have HC := hid (c_formsOf_yes a l ca w ha hl hh)
    clear ha hh hg
    go_enter Try.func49, Try.ntmps49
    go_wp2_with fail
    refine HC.out.mono ?_
    rintro e w1 ⟨g, vs, rfl, o1, b1⟩
    have HK := hid (c_keepingWays (some ⟨g, 0, none⟩) (fmTo l 8) 8 w1 o1.seg (by rw [fmTo_len]; omega) HL.out)
    rw [fmTo_len] at HK
    go_wp2_with fail
    refine HK.out.mono ?_
    rintro e w2 ⟨v2, rfl, o2, b2⟩
    go_wp2
    go_ret2
    exact ⟨_, rfl, by rw [HV.out]; exact o2.mono b1.size, b1.trans (b2.mono b1.size)⟩
end Go.Proofs.Ytgfdkolhldbehaa

namespace Go.Proofs.Ytgfdkolhldbehaa
open Go.RowKit Go.Maps
set_option linter.unusedVariables false
set_option linter.unusedSimpArgs false

set_option maxRecDepth 100000 in
set_option maxHeartbeats 1000000 in
theorem c_l8Good (a : Option Addr) (l : List Cl) (ca : Nat) (v : Bool) (h : homeOk l = v) (w : World) (ha : Seg w a l) (hl : l.length ≤ 1048576) :
    Calls Try.prog 93 #[.slice a l.length ca] w fun e w' => e = .returned (.bool v) ∧ Below w.heap.size w w' := by
  have hle := home_le l
  cases hg : good l
  · have HV : Hid (v = false) := by show _ = _; rw [← h]; simp [homeOk, hg]
    have HC := hid (c_sGood' a l ca false hg _ ha hl)
    clear ha h
    go_enter Try.func93, Try.ntmps93
    go_wp2_with fail
    refine HC.out.mono ?_
    rintro e w1 ⟨rfl, b1⟩
    go_wp2
    go_ret
    exact ⟨by rw [HV.out]; rfl, b1⟩
  · have HV : Hid (good (home l) = v) := by show _ = _; rw [← h]; simp [homeOk, hg]
    have HC := hid (c_sGood' a l ca true hg _ ha hl)
    have HA := hid ha
    clear ha h
    go_enter Try.func93, Try.ntmps93
    go_wp2_with fail
    refine HC.out.mono ?_
    rintro e w1 ⟨rfl, b1⟩
    have B1 := hid b1
    have A1 := hid (HA.out.below b1)
    clear b1 HA
    go_wp2_with fail
    refine (c_l6Home a l ca _ A1.out hl).mono ?_
    rintro e w2 ⟨v2, rfl, o2, b2⟩
    obtain ⟨a2, c2, rfl, s2⟩ := o2.form
    have B2 := hid (B1.out.trans (b2.mono B1.out.size))
    have S2 := hid s2
    clear o2 s2 b2
    go_wp2_with fail
    refine (c_sGood' a2 (home l) c2 v HV.out _ S2.out (by omega)).mono ?_
    rintro e w3 ⟨rfl, b3⟩
    go_wp2
    go_ret
    exact ⟨rfl, B2.out.trans (b3.mono B2.out.size)⟩

set_option maxRecDepth 100000 in
set_option maxHeartbeats 4000000 in
theorem c_sFixedBy (a : Option Addr) (l : List Cl) (ca : Nat) (w : World) (ha : Seg w a l) (hl : l.length ≤ 1048576) :
    Calls Try.prog 48 #[.slice a l.length ca] w fun e w' => ∃ v, e = .returned (.tuple #[v, .bool (homeOk l)]) ∧ OwnI w' w.heap.size v (fixL l) ∧ Below w.heap.size w w' := by
  cases hh : homeOk l
  · have HV : Hid (fixL l = []) := by simp [Hid, fixL, hh]
    have HC := hid (c_l8Good a l ca false hh w ha hl)
    clear ha
    go_enter Try.func48, Try.ntmps48
    go_wp2_with fail
    refine HC.out.mono ?_
    rintro e w1 ⟨rfl, b1⟩
    go_wp2
    go_ret2
    exact ⟨_, rfl, by rw [HV.out]; exact OwnI.nil _ _, b1⟩
  · have hg : good l = true := by have := hh; simp only [homeOk, Bool.and_eq_true] at this; exact this.1
    have HV : Hid (fixL l = fixTo l 8) := by simp [Hid, fixL, hh]
    have HC := hid (c_l8Good a l ca true hh w ha hl)
    have HN := hid (nodup_near hg)
    have HL := hid (fun (m : Nat) (hm : m < 8) => good_le (tu_good hm hg))
    have HH := hid (fun (m : Nat) (hm8 : m < 8) => hm_le l m hm8 hg)
    have HZ : Hid (home l = hm l 0) := (hm_zero hg).symm
    have hlg := good_le hg
    have hle := home_le l
    have HA := hid ha
    clear ha hh hg
    go_enter Try.func48, Try.ntmps48
    go_wp2_with fail
    refine HC.out.mono ?_
    rintro e w1 ⟨rfl, b1⟩
    have B1 := hid b1
    clear b1 HC
    go_wp2_with fail
    go_loopw [4, 5] (fun v i wr => ∃ k : Nat, k ≤ 8 ∧ i = .int .i64 k ∧ OwnI wr w.heap.size v (fixTo l k) ∧ Below w.heap.size w wr) (fun _ i _ => 8 - (intOf i).toNat)
    case atStart => exact ⟨0, Nat.zero_le _, rfl, OwnI.nil _ _, B1.out⟩
    case round =>
      clear B1
      obtain ⟨k, hk, rfl, hO, hB⟩ := hrel
      have HO := hid hO
      have HB := hid hB
      clear hO hB
      by_cases hlt : k < 8
      · have k1 : (k : Int) < 8 := by omega
        have hx1 := HL.out k hlt
        have hx2 := HH.out k hlt
        have HT := hid (fixTo_succ l k)
        have hkl := fixTo_le l k
        go_wp2_with fail
        refine (c_l8All a l ca k hlt _ (HA.out.below HB.out) (by omega) HN.out).mono ?_
        rintro e w2 ⟨v2, rfl, o2, b2⟩
        obtain ⟨a2, c2, rfl, s2⟩ := o2.form
        have HB2 := hid (HB.out.trans (b2.mono HB.out.size))
        have HO2 := hid (HO.out.below b2)
        have S2 := hid s2
        clear o2 s2 b2
        go_wp2_with fail
        refine (c_l6Home a2 (tuL k l) c2 _ S2.out (by omega)).mono ?_
        rintro e w3 ⟨v3, rfl, o3, b3⟩
        change OwnS w3 w2.heap.size v3 (hm l k) at o3
        obtain ⟨a3, c3, rfl, s3⟩ := o3.form
        have HB3 := hid (HB2.out.trans (b3.mono HB2.out.size))
        have HO3 := hid (HO2.out.below b3)
        have S3 := hid s3
        clear o3 s3 b3 S2
        go_wp2_with fail
        refine (c_l6Home a l ca _ (HA.out.below HB3.out) hl).mono ?_
        rintro e w4 ⟨v4, rfl, o4, b4⟩
        rw [HZ.out] at o4
        obtain ⟨a4, c4, rfl, s4⟩ := o4.form
        have HB4 := hid (HB3.out.trans (b4.mono HB3.out.size))
        have HO4 := hid (HO3.out.below b4)
        have S4 := hid s4
        have S34 := hid (S3.out.below b4)
        clear o4 s4 b4 S3
        have hx0 := HH.out 0 (by omega)
        cases hq : decide (hm l k = hm l 0)
        · have hne : ¬ hm l k = hm l 0 := by simpa using hq
          rw [if_neg hne, List.append_nil] at HT
          go_wp2_with fail
          refine (c_l6Same' a3 a4 (hm l k) (hm l 0) c3 c4 false hq _ S34.out S4.out (by omega) (by omega)).mono ?_
          rintro e w5 ⟨rfl, b5⟩
          have HB5 := hid (HB4.out.trans (b5.mono HB4.out.size))
          have HO5 := hid (HO4.out.below b5)
          clear b5
          go_wp2_with fail
          go_roundw
          case rel => exact ⟨k + 1, by omega, by go_num, by rw [HT.out]; exact HO5.out, HB5.out⟩
          case measure => simp [intOf]; omega
        · have heq : hm l k = hm l 0 := by simpa using hq
          rw [if_pos heq] at HT
          clear heq
          go_wp2_with fail
          refine (c_l6Same' a3 a4 (hm l k) (hm l 0) c3 c4 true hq _ S34.out S4.out (by omega) (by omega)).mono ?_
          rintro e w5 ⟨rfl, b5⟩
          have BA := (Below.refl w5.heap.size w5).alloc (Nat.le_refl _) (.cells #[.int .i64 (k : Int)] 3)
          have HB5 := hid ((HB4.out.trans (b5.mono HB4.out.size)).alloc (by have := b5.size; have := HB4.out.size; omega) (.cells #[.int .i64 (k : Int)] 3))
          have HO5 := hid ((HO4.out.below b5).below BA)
          have HSg := hid (iseg_block (heap_alloc_new w5 (.cells #[.int .i64 (k : Int)] 3)))
          clear b5 BA
          go_wp2_with (at_builtin; refine wpList_appI rfl _ _ rfl w.heap.size _ _ [(k : Int)] _ 1 1 rfl HO5.out rfl rfl HSg.out (by intro h; cases h) (by simp; omega) HB5.out.size ?_; intro v' w6 hO6 hG6 _; have HB7 := hid (below_grownI HB5.out HO5.out hG6); have HO7 := hid hO6; clear hO6 hG6)
          go_roundw
          case rel => exact ⟨k + 1, by omega, by go_num, by rw [HT.out]; exact HO7.out, HB7.out⟩
          case measure => simp [intOf]; omega
      · obtain rfl : k = 8 := by omega
        go_wp2
        go_ret2
        exact ⟨_, rfl, by rw [HV.out]; exact HO.out, HB.out⟩
end Go.Proofs.Ytgfdkolhldbehaa
