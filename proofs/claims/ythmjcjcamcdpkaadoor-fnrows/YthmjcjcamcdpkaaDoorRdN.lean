/- What the small functions of the program's reading answer: isDigit, hasRoom, appendRun, runLong. -/
import Derived.Test.YthmjcjcamcdpkaaDoorRdP
import Derived.Test.YthmjcjcamcdpkaaDoorLibA
import Derived.Laws.DeepStrings4
import Derived.Maps.AppendAt
import Derived.Lib.AtoiErrMem
namespace Go.Proofs.YthmjcjcamcdpkaaDoor
open Go.RowKit
set_option linter.unusedVariables false

theorem c_isDigit (n : Int) (v : Bool) (h : (decide (48 ≤ n) && decide (n ≤ 57)) = v) (w : World) : Calls Tryd.prog 27 #[.int .i32 n] w fun e w' => e = .returned (.bool v) ∧ w' = w := by
  rw [← h]
  by_cases h1 : 48 ≤ n <;> by_cases h2 : n ≤ 57
  all_goals
    go_enter Tryd.func27, Tryd.ntmps27
    go_wp2
    go_ret
    exact ⟨ret_bool (by simp [h1, h2] <;> omega), rfl⟩

set_option maxHeartbeats 1000000 in
theorem c_hasRoom (x y len n : Nat) (v : Bool) (h : room x y len n = v) (hx : x ≤ 100000) (hy : y ≤ 100000) (hl : len ≤ 120) (hn : 1 ≤ n ∧ n ≤ 31) (w : World) :
    Calls Tryd.prog 54 #[.agg #[.int .i64 (x : Int), .int .i64 (y : Int)], .int .i64 (len : Int), .int .i64 (n : Int)] w fun e w' => e = .returned (.bool v) ∧ Below w.heap.size w w' := by
  rw [← h]
  obtain ⟨hn1, hn2⟩ := hn
  have er : room x y len n = (decide ((x : Int) + (n : Int) - 1 ≤ 30) && decide ((y : Int) ≤ 30) && decide ((len : Int) + (n : Int) ≤ 120)) := by
    unfold room
    rw [show decide (x + n ≤ 31) = decide ((x : Int) + (n : Int) - 1 ≤ 30) from decide_eq_decide.2 (by omega), show decide (y ≤ 30) = decide ((y : Int) ≤ 30) from decide_eq_decide.2 (by omega), show decide (len + n ≤ 120) = decide ((len : Int) + (n : Int) ≤ 120) from decide_eq_decide.2 (by omega)]
  rw [er]
  clear er h
  by_cases h1 : (x : Int) + (n : Int) - 1 ≤ 30 <;> by_cases h2 : (y : Int) ≤ 30 <;> by_cases h3 : (len : Int) + (n : Int) ≤ 120
  all_goals
    go_enter Tryd.func54, Tryd.ntmps54
    go_wp2
    go_ret
    refine ⟨ret_bool ?_, (Below.refl _ _).alloc (Nat.le_refl _) _⟩
    simp [h1, h2, h3] <;> omega

/-- One cell put behind cells that are owned: where the row then lies. -/
theorem wpList_app1 {w : World} {ops : Array Oper} {rest : List Oper} {o : Oper} {a : Act} {Q : Exit → Act → World → Prop} (hgd : o.guard = none) (s x : Operand)
    (ho : o.op = .call { callee := .builtin .append, args := #[s, x], argTypes := #[23, 23] })
    (base : Nat) (v : Value) (l : List Cl) (c : Cl) (ad : Addr) (hs : a.eval s = v) (hown : OwnS w base v l) (hx : a.eval x = .slice (some ad) 1 1) (hseg : Seg w (some ad) [c]) (hlen : l.length ≤ 4194303) (hbase : base ≤ w.heap.size)
    (h : ∀ v' w', OwnS w' base v' (l ++ [c]) → w.grownBy w' v.ownBlock → (v'.ownBlock = v.ownBlock ∨ v'.ownBlock = some w.heap.size) → wpList Tryd.prog ops Q rest (a.put o.dst v') w') : wpList Tryd.prog ops Q (o :: rest) a w := by
  obtain ⟨i, hi, hz, hsz, hb⟩ := info_parts info_Cell
  refine wpList_append_own_at w hgd s x 23 ho base 33 i _ 2 16 Tryd.underlying23 hi hz hsz hb rfl (by omega) v l.length (flat l) hs hown ad 1 1 (flat [c]) hx rfl (seg_news hseg) (flat_one [c])
    (by unfold maxLen; omega) (by omega) hbase ?_
  intro v' w' h1 h2 _ h4
  refine h v' w' ?_ h2 h4
  unfold OwnS
  rw [flat_append, List.length_append]
  exact h1

set_option maxHeartbeats 1000000 in
theorem c_appendRun (v : Value) (l : List Cl) (x y n base : Nat) (w : World) (ho : OwnS w base v l) (hx : x ≤ 100000) (hy : y ≤ 100000) (hl : l.length ≤ 120) (hn : n ≤ 31) (hB : base ≤ w.heap.size) :
    Calls Tryd.prog 55 #[v, .agg #[.int .i64 (x : Int), .int .i64 (y : Int)], .int .i64 (n : Int)] w fun e w' => ∃ v', e = .returned v' ∧ OwnS w' base v' (l ++ runC x y n) ∧ Below base w w' := by
  obtain ⟨av, cv, rfl, hSv⟩ := ho.form
  have HO := hid ho
  have HV := hid ho.lt
  clear ho hSv
  go_enter Tryd.func55, Tryd.ntmps55
  go_wp2
  go_loopw [0, 9] (fun v i wr => ∃ m : Nat, m ≤ n ∧ i = .int .i64 m ∧ Hid (OwnS wr base v (l ++ runC x y m) ∧ Below base w wr ∧ wr.cell? ⟨w.heap.size, 0, none⟩ = some (.int .i64 (x : Int)) ∧ wr.cell? ⟨w.heap.size, 1, none⟩ = some (.int .i64 (y : Int)) ∧ w.heap.size < wr.heap.size ∧ v.ownBlock ≠ some w.heap.size)) (fun _ i _ => n - (intOf i).toNat)
  case atStart => exact ⟨0, Nat.zero_le _, rfl, ⟨by simpa [runC] using HO.out.below ((Below.refl w.heap.size w).alloc (Nat.le_refl _) _), ((Below.refl w.heap.size w).alloc (Nat.le_refl _) _).mono hB, cell_new0 _ _ _ _, cell_new1 _ _ _ _, by simp, fun e => by have := (HV.out _ e).2; omega⟩⟩
  case round =>
    rename_i v
    obtain ⟨m, hm, rfl, hP⟩ := hrel
    by_cases hlt : (m : Int) < (n : Int)
    · have c0 := hP.out.2.2.1
      have c1 := hP.out.2.2.2.1
      have hsz := hP.out.2.2.2.2.1
      have HS5 := hid (hP.out.1.below ((Below.refl wr.heap.size wr).alloc (Nat.le_refl _) (.cells #[.int .i64 ((x : Int) + (m : Int)), .int .i64 (y : Int)] 33)))
      have HB5 := hid (hP.out.2.1.trans (((Below.refl wr.heap.size wr).alloc (Nat.le_refl _) (.cells #[.int .i64 ((x : Int) + (m : Int)), .int .i64 (y : Int)] 33)).mono (Nat.le_trans hB (by omega))))
      have HRS := hid (runC_succ x y m)
      have HSZ := hid (show base ≤ (wr.alloc (.cells #[.int .i64 ((x : Int) + (m : Int)), .int .i64 (y : Int)] 33)).heap.size by simp; omega)
      have HKC := hid (show (wr.alloc (.cells #[.int .i64 ((x : Int) + (m : Int)), .int .i64 (y : Int)] 33)).cell? ⟨w.heap.size, 0, none⟩ = some (.int .i64 (x : Int)) ∧ (wr.alloc (.cells #[.int .i64 ((x : Int) + (m : Int)), .int .i64 (y : Int)] 33)).cell? ⟨w.heap.size, 1, none⟩ = some (.int .i64 (y : Int)) from
        ⟨(((Below.refl wr.heap.size wr).alloc (Nat.le_refl _) _).cell (p := ⟨w.heap.size, 0, none⟩) hsz).trans c0, (((Below.refl wr.heap.size wr).alloc (Nat.le_refl _) _).cell (p := ⟨w.heap.size, 1, none⟩) hsz).trans c1⟩)
      have HNV := hid hP.out.2.2.2.2.2
      have hLL : (l ++ runC x y m).length ≤ 4194303 := by simp [runC_len]; omega
      have hcast : (((x + m : Nat) : Int)) = (x : Int) + (m : Int) := by omega
      rw [hcast] at HRS
      clear hcast
      go_wp2_with (at_builtin; refine wpList_app1 rfl _ _ rfl base _ (l ++ runC x y m) ((x : Int) + (m : Int), (y : Int)) ⟨wr.heap.size, 0, none⟩ rfl HS5.out rfl (seg_block (heap_alloc_new _ _)) hLL HSZ.out ?_; intro v6 w6 hO6 hG6 hW6)
      go_roundw
      case rel =>
        refine ⟨m + 1, by omega, by go_num, ⟨by rw [HRS.out, ← List.append_assoc]; exact hO6, HB5.out.grown hG6 (by simp; omega) (fun k e => (HS5.out.lt k e).1), ?_, ?_, ?_, ?_⟩⟩
        · exact hG6.cell HKC.out.1 (fun e => HNV.out e.symm)
        · exact hG6.cell HKC.out.2 (fun e => HNV.out e.symm)
        · have := hG6.size; simp at this; omega
        · rcases hW6 with e | e
          · rw [e]; exact HNV.out
          · rw [e]; simp; omega
      case measure => simp [intOf]; omega
    · obtain rfl : n = m := by omega
      go_wp2
      go_ret
      exact ⟨_, rfl, hP.out.1, hP.out.2.1⟩

/-- Is a number fit to stand ahead of a sign? -/
def okD (d : Tx) : Bool := decide (byt d 0 ≠ 48) && decide (2 ≤ numCut 0 (digs d.data.toList)) && decide (numCut 0 (digs d.data.toList) ≤ 31)
set_option maxHeartbeats 1000000 in
theorem c_runLong (d : Tx) (w : World) (ev : Value) (hd : allDig d.data.toList) (hs : d.size ≤ 400) (hv : w.cell? ⟨1, 0, none⟩ = some ev) (hev : ev = .nilIface ∨ ∃ te pe, ev = .iface te pe) (h1 : 0 < d.size) :
    Calls Tryd.prog 53 #[.string d] w fun e w' => ∃ z, e = .returned (.tuple #[.int .i64 z, .bool (okD d)]) ∧ Hid (okD d = true → z = (numCut 0 (digs d.data.toList) : Int)) ∧ Below w.heap.size w w' := by
  have hlen : d.data.toList.length = d.size := by cases d; rfl
  have hem : (ByteArray.toList d).isEmpty = false := by
    rw [ByteArray.toList_eq]
    cases hc : d.data.toList with
    | nil => rw [hc] at hlen; simp at hlen; omega
    | cons _ _ => rfl
  have hne : d.data.toList ≠ [] := by intro h; rw [h] at hlen; simp at hlen; omega
  have hb0 := byt_get d 0 h1
  have HAT := hid (atoi_digs hd hne)
  have HNV := hid (numCut_val (digs d.data.toList) 0)
  have h1' : (0 : Int) < (d.size : Int) := by omega
  have HOD : Hid (okD d = (decide (byt d 0 ≠ 48) && decide (2 ≤ numCut 0 (digs d.data.toList)) && decide (numCut 0 (digs d.data.toList) ≤ 31))) := rfl
  generalize okD d = ok at *
  generalize numCut 0 (digs d.data.toList) = N at *
  generalize val 0 (digs d.data.toList) = V at *
  generalize hq : byt d 0 = q at *
  clear hq hlen hne hd
  by_cases h48 : (q : Int) = 48
  · have HF : Hid (ok = false) := by rw [HOD.out]; show _ = _; simp; omega
    go_enter Tryd.func53, Tryd.ntmps53
    go_wp2_with fail
    go_ret2
    exact ⟨_, by rw [HF.out]; rfl, (fun h => by rw [HF.out] at h; cases h), Below.refl _ _⟩
  · rcases HAT.out with e | ⟨e, e2⟩
    · have HC := hid (Tryd.strconv_Atoi_ok d (by omega) _ e w)
      clear HAT e
      by_cases hV1 : 1 < (V : Int)
      · by_cases hV2 : (V : Int) ≤ 31
        · have hNV : N = V := by
            have h1 := HNV.out
            by_cases hn : N ≤ 31
            · exact (h1.1 hn).symm
            · have := h1.2 (by omega); omega
          have HF : Hid (ok = true ∧ V = N) := by rw [HOD.out]; refine ⟨?_, hNV.symm⟩; simp; omega
          clear hNV
          go_enter Tryd.func53, Tryd.ntmps53
          go_wp2_with fail
          refine HC.out.mono ?_
          rintro e w1 ⟨rfl, hw1⟩
          have hb1 : Below w.heap.size w w1 := by
            rcases hw1 with rfl | ⟨t, rfl⟩
            · exact Below.refl _ _
            · exact Lib.bytesWorld_below _ _ _
          clear hw1
          go_wp2
          go_ret2
          exact ⟨_, by rw [HF.out.1]; rfl, (fun h => by rw [HF.out.2]), hb1⟩
        · have hV3 : decide ((V : Int) ≤ 31) = false := by simp; omega
          have HF : Hid (ok = false) := by
            rw [HOD.out]
            have h1 := HNV.out
            show _ = _
            simp
            intro _ _
            by_cases hn : N ≤ 31
            · have := h1.1 hn; omega
            · omega
          go_enter Tryd.func53, Tryd.ntmps53
          go_wp2_with fail
          refine HC.out.mono ?_
          rintro e w1 ⟨rfl, hw1⟩
          have hb1 : Below w.heap.size w w1 := by
            rcases hw1 with rfl | ⟨t, rfl⟩
            · exact Below.refl _ _
            · exact Lib.bytesWorld_below _ _ _
          clear hw1
          go_wp2
          go_ret2
          exact ⟨_, by rw [HF.out]; rfl, (fun h => by rw [HF.out] at h; cases h), hb1⟩
      · have HF : Hid (ok = false) := by
          rw [HOD.out]
          have h1 := HNV.out
          show _ = _
          simp
          intro _ _
          by_cases hn : N ≤ 31
          · have := h1.1 hn; omega
          · omega
        go_enter Tryd.func53, Tryd.ntmps53
        go_wp2_with fail
        refine HC.out.mono ?_
        rintro e w1 ⟨rfl, hw1⟩
        have hb1 : Below w.heap.size w w1 := by
          rcases hw1 with rfl | ⟨t, rfl⟩
          · exact Below.refl _ _
          · exact Lib.bytesWorld_below _ _ _
        clear hw1
        go_wp2
        go_ret2
        exact ⟨_, by rw [HF.out]; rfl, (fun h => by rw [HF.out] at h; cases h), hb1⟩
    · have HC := hid (Tryd.strconv_Atoi_range d (by omega) e ev w hv hev)
      have HF : Hid (ok = false) := by
        rw [HOD.out]
        have h1 := HNV.out
        show _ = _
        simp
        intro _ _
        by_cases hn : N ≤ 31
        · have := h1.1 hn; omega
        · omega
      clear HAT e
      go_enter Tryd.func53, Tryd.ntmps53
      go_wp2_with fail
      refine HC.out.mono ?_
      rintro e w1 ⟨N', rfl, _, _, hb1⟩
      go_wp2
      go_ret2
      exact ⟨_, by rw [HF.out]; rfl, (fun h => by rw [HF.out] at h; cases h), hb1⟩
theorem c_runLong0 (w : World) : Calls Tryd.prog 53 #[.string ⟨#[]⟩] w fun e w' => e = .returned (.tuple #[.int .i64 1, .bool true]) ∧ w' = w := by
  have hem : (ByteArray.toList (⟨#[]⟩ : Tx)).isEmpty = true := by rw [ByteArray.toList_eq]; rfl
  go_enter Tryd.func53, Tryd.ntmps53
  go_wp2
  go_ret2
  exact ⟨rfl, rfl⟩
end Go.Proofs.YthmjcjcamcdpkaaDoor
