/- What the program's SharedIn answers. -/
import Derived.Test.YtphjfncgbahbdaaShr
import Derived.Test.YtphjfncgbahbdaaLawX
namespace Go.Proofs.Ytphjfncgbahbdaa
open Go.RowKit Go.Maps
set_option linter.unusedVariables false
set_option linter.unusedSimpArgs false
attribute [local go_sem ↓] Go.wp_at_zero Go.wp_at_succ

/-- Down, while the kids of k are marked: the first j are. -/
structure Down4 (F : List Qd) (q k j : Nat) (u : Nat → Bool) : Prop where
  down : Down F q k u
  at_ : u k = true
  first : ∀ i, i < j → u (kidq F k i) = true
theorem Down4.step {F : List Qd} {q k j : Nat} {u : Nat → Bool} (h : Down4 F q k j u) (h2 : 2 ≤ k) (hk : k ≤ q) (hj : j < 4) (hlt : kidq F k j < k) : Down4 F q k (j + 1) (fun x => if x = kidq F k j then true else u x) := by
  refine ⟨⟨fun x hx hu => ?_, ?_, fun y h1 h2' h3 hu i hi => ?_⟩, ?_, fun i hi => ?_⟩
  · by_cases e : x = kidq F k j
    · rw [e]; exact .kid (h.down.reach k hk h.at_) h2 hj
    · rw [if_neg e] at hu; exact h.down.reach x hx hu
  · by_cases e : q = kidq F k j
    · rw [if_pos e]
    · rw [if_neg e]; exact h.down.self
  · by_cases e : kidq F y i = kidq F k j
    · rw [if_pos e]
    · rw [if_neg e]
      by_cases e2 : y = kidq F k j
      · omega
      · rw [if_neg e2] at hu
        exact h.down.kids y h1 h2' h3 hu i hi
  · by_cases e : k = kidq F k j
    · rw [if_pos e]
    · rw [if_neg e]; exact h.at_
  · by_cases e : kidq F k i = kidq F k j
    · rw [if_pos e]
    · rw [if_neg e]
      by_cases e2 : i = j
      · rw [e2] at e; exact absurd rfl e
      · exact h.first i (by omega)
theorem Down4.done {F : List Qd} {q k : Nat} {u : Nat → Bool} (h : Down4 F q k 4 u) : Down F q (k - 1) u := by
  refine ⟨h.down.reach, h.down.self, fun y h1 h2 h3 hu i hi => ?_⟩
  by_cases e : y = k
  · subst e; exact h.first i hi
  · exact h.down.kids y (by omega) h2 h3 hu i hi
theorem Down.skip {F : List Qd} {q k : Nat} {u : Nat → Bool} (h : Down F q k u) (hu : u k = false) : Down F q (k - 1) u := by
  refine ⟨h.reach, h.self, fun y h1 h2 h3 hy i hi => ?_⟩
  by_cases e : y = k
  · subst e; rw [hu] at hy; cases hy
  · exact h.kids y (by omega) h2 h3 hy i hi
theorem BRow.below {w w' : World} {g n : Nat} {u : Nat → Bool} (h : BRow w g n u) (hb : Below w.heap.size w w') : BRow w' g n u := World.rowIs.of_block h (hb.block _ (World.rowIs.lt h))

theorem down_first (F : List Qd) (n0 : Nat) : Down F n0 n0 (fun j => if j = n0 then true else false) := by
  refine ⟨fun x hx hu => ?_, by simp, fun y h1 h2 => by omega⟩
  by_cases e : x = n0
  · rw [e]; exact .self
  · rw [if_neg e] at hu; cases hu
theorem brow_first (w : World) (n0 : Nat) : BRow (w.alloc (.cells ((madeCells #[.bool false] (n0 + 1)).setIfInBounds n0 (.bool true)) 4)) w.heap.size (n0 + 1) (fun j => if j = n0 then true else false) := by
  refine ⟨_, heap_alloc_new _ _, by simp [madeCells], fun i hi => ?_⟩
  rw [Array.getElem?_setIfInBounds]
  by_cases e : n0 = i
  · subst e; simp [madeCells]
  · have e2 : ¬ i = n0 := fun h => e h.symm
    simp [madeCells, hi, e, e2, Nat.mod_one]

set_option maxHeartbeats 2000000 in
set_option maxRecDepth 100000 in
theorem c_shared {F : List Qd} (hg : goodF F = true) (n0 : Nat) (w : World) {b0 p g cap mb : Nat} (hG : Grv w b0 p g cap mb F) (h1 : n0 < F.length) :
    Calls Try.prog 73 #[.pointer (some ⟨p, 0, none⟩), .int .i64 (n0 : Int)] w fun e w' => ∃ v', e = .returned v' ∧ OwnI w' (w.heap.size + 1) v' (shrL F n0) ∧ Below w.heap.size w w' := by
  have h400 := good_len2 hg
  have hmk : ∀ w : World, (Instr.makeSlice 118 (.int .i64 ((n0 : Int) + 1)) (.int .i64 ((n0 : Int) + 1))).run Try.prog w = .ok (.slice (some ⟨w.heap.size, 0, none⟩) (n0 + 1) (n0 + 1)) (w.alloc (.cells (madeCells #[.bool false] (n0 + 1)) 4)) := by
    intro w
    have := make_Bools (n0 + 1) (by omega) w
    rw [show ((n0 + 1 : Nat) : Int) = (n0 : Int) + 1 by omega] at this
    exact this
  have R0 := hid (show BRow (w.alloc (.cells (madeCells #[.bool false] (n0 + 1)) 4)) w.heap.size (n0 + 1) (fun _ => false) from (World.rowIs_made w (.bool false) (n0 + 1) 4))
  have c0 := World.rowIs.cell R0.out (i := n0) (by omega)
  have f0 := World.rowIs.frozen R0.out n0
  have R1 := hid (brow_first w n0)
  have B1 := hid ((Below.refl w.heap.size w).alloc (Nat.le_refl _) (.cells ((madeCells #[.bool false] (n0 + 1)).setIfInBounds n0 (.bool true)) 4))
  have D1 := hid (down_first F n0)
  have HG := hid hG
  clear hG R0
  go_enter Try.func73, Try.ntmps73
  go_wp2_with fail
  go_loopw [6] (fun i wr => ∃ (k : Nat) (u : Nat → Bool), k ≤ n0 ∧ i = .int .i64 k ∧ Hid (BRow wr w.heap.size (n0 + 1) u) ∧ Hid (Down F n0 k u) ∧ Hid (Below w.heap.size w wr)) (fun i _ => (intOf i).toNat)
  case atStart => exact ⟨n0, _, Nat.le_refl _, rfl, R1.out, D1.out, B1.out⟩
  case round =>
    clear R1 D1 B1 hmk c0 f0
    obtain ⟨k, u, hk, rfl, HR, HD, HB⟩ := hrel
    by_cases h2 : 2 ≤ k
    · have i2 : (2 : Int) ≤ (k : Int) := by omega
      have k0 : (0 : Int) ≤ (k : Int) := by omega
      have k1 : (k : Int) < ((n0 + 1 : Nat) : Int) := by omega
      have ck := World.rowIs.cell HR.out (i := k) (by omega)
      cases hu : u k
      · rw [hu] at ck
        have HD2 := hid (HD.out.skip hu)
        go_wp2_with fail
        go_roundw
        case rel => exact ⟨k - 1, u, by omega, by go_num, HR.out, HD2.out, HB.out⟩
        case measure => simp [intOf]; omega
      · rw [hu] at ck
        have G1 := HG.out.below HB.out
        have g0 := G1.c0
        have e0 := G1.kidAt (i := k) (by omega) (j := 0) (by omega)
        have e1 := G1.kidAt (i := k) (by omega) (j := 1) (by omega)
        have e2 := G1.kidAt (i := k) (by omega) (j := 2) (by omega)
        have e3 := G1.kidAt (i := k) (by omega) (j := 3) (by omega)
        rw [Nat.add_zero] at e0
        have l1 : (k : Int) < (F.length : Int) := by omega
        have D4 := hid (show Down4 F n0 k 0 u from ⟨HD.out, hu, fun i hi => by omega⟩)
        clear G1
        go_wp2_with fail
        go_loopw [35] (fun i wt => ∃ (j : Nat) (u' : Nat → Bool), j ≤ 4 ∧ i = .int .i64 j ∧ Hid (BRow wt w.heap.size (n0 + 1) u') ∧ Hid (Down4 F n0 k j u') ∧ Hid (Below w.heap.size w wt)) (fun i _ => 4 - (intOf i).toNat)
        case atStart => exact ⟨0, u, by omega, rfl, HR.out, D4.out, HB.out⟩
        case round =>
          clear HR HD HB D4 ck g0 e0 e1 e2 e3
          rename World => wt
          obtain ⟨j, u', hj, rfl, HR, HD, HB⟩ := hrel
          by_cases hlt : j < 4
          · have hidx := four_index (qa F k).2 j hlt
            unfold kv at hidx
            have j0 : (0 : Int) ≤ (j : Int) := by omega
            have j1 : (j : Int) < 4 := by omega
            have hki := (good_quad hg (q := k) (by omega) h2).2.2.2.1 j hlt
            have hkl := kid_lt hg (q := k) (by omega) h2 hlt
            have HD2 := hid (HD.out.step h2 hk hlt hkl)
            have hkk : kidq F k j = (ia (qa F k).2 j).toNat := rfl
            rw [hkk] at HD2 hkl
            clear hkk
            generalize ia (qa F k).2 j = x at *
            have x0 : 0 ≤ x := hki.1
            have x1 : x < ((n0 + 1 : Nat) : Int) := by omega
            have cx := World.rowIs.cell HR.out (i := x.toNat) (by omega)
            have fx := World.rowIs.frozen HR.out x.toNat
            have HR2 := hid (HR.out.put x.toNat)
            have HB2 := hid (HB.out.setCell (p := ⟨w.heap.size, x.toNat, none⟩) (Nat.le_refl _) (.bool true))
            go_wp2_with fail
            go_roundw
            case rel => exact ⟨j + 1, _, by omega, by go_num, HR2.out, HD2.out, HB2.out⟩
            case measure => simp [intOf]; omega
          · obtain rfl : j = 4 := by omega
            have HD2 := hid HD.out.done
            go_wp2_with fail
            go_roundw
            case rel => exact ⟨k - 1, u', by omega, by go_num, HR.out, HD2.out, HB.out⟩
            case measure => simp [intOf]; omega
    · have i2 : (k : Int) < 2 := by omega
      have HDN := hid (show Down F n0 1 u from ⟨HD.out.reach, HD.out.self, fun y h1 => HD.out.kids y (by omega)⟩)
      have HX := hid (fun x hx => HDN.out.done hg h1 x hx)
      have HLT := hid (World.rowIs.lt HR.out)
      go_wp2_with fail
      go_loopw [44, 9] (fun i v wt => ∃ j : Nat, j ≤ n0 + 1 ∧ i = .int .i64 j ∧ Hid (BRow wt w.heap.size (n0 + 1) u) ∧ Hid (OwnI wt (w.heap.size + 1) v (gotTo u j)) ∧ Hid (Below w.heap.size w wt)) (fun i _ _ => n0 + 1 - (intOf i).toNat)
      case atStart => exact ⟨0, by omega, rfl, HR.out, OwnI.nil _ _, HB.out⟩
      case round =>
        clear HR HB HD
        rename World => wt
        obtain ⟨j, hj, rfl, HR, HO, HB⟩ := hrel
        by_cases hlt : j < n0 + 1
        · have j0 : (0 : Int) ≤ (j : Int) := by omega
          have j1 : (j : Int) < ((n0 + 1 : Nat) : Int) := by omega
          have j2 : (j : Int) < (n0 : Int) + 1 := by omega
          have cj := World.rowIs.cell HR.out (i := j) (by omega)
          have HGS := hid (show gotTo u (j + 1) = if u j then gotTo u j ++ [(j : Int)] else gotTo u j from rfl)
          have hgl := gotTo_len u j
          cases hu : u j
          · rw [hu] at cj HGS
            go_wp2_with fail
            go_roundw
            case rel => exact ⟨j + 1, by omega, by go_num, HR.out, by (show OwnI _ _ _ _; rw [HGS.out]; exact HO.out), HB.out⟩
            case measure => simp [intOf]; omega
          · rw [hu] at cj HGS
            have HBA := hid ((Below.refl wt.heap.size wt).alloc (Nat.le_refl _) (.cells #[.int .i64 (j : Int)] 3))
            have HOA := hid (HO.out.below HBA.out)
            have HRA := hid (HR.out.below HBA.out)
            have HB2 := hid (HB.out.trans (HBA.out.mono HB.out.size))
            have HSZ := hid (show w.heap.size + 1 ≤ wt.heap.size from World.rowIs.lt HR.out)
            go_wp2_with (at_builtin; refine wpList_appI rfl (.tmp 50) (.tmp 52) rfl (w.heap.size + 1) _ (gotTo u j) [(j : Int)] (some ⟨wt.heap.size, 0, none⟩) 1 1 rfl HOA.out rfl rfl (iseg_block (heap_alloc_new wt _)) (by intro h; cases h) (by simp; omega) (Nat.le_trans HSZ.out HBA.out.size) ?_; intro v6 w6 hO6 hG6 _)
            have HR6 := hid (World.rowIs.of_block HRA.out (hG6.block _ (World.rowIs.lt HRA.out) (by intro e; have := (HOA.out.lt _ e.symm).1; omega)))
            have HB6 := hid (HB2.out.grown hG6 HB2.out.size fun k hk => by have := (HOA.out.lt k hk).1; omega)
            have HO6 := hid hO6
            clear hO6 hG6
            go_roundw
            case rel => exact ⟨j + 1, by omega, by go_num, HR6.out, by (show OwnI _ _ _ _; rw [HGS.out]; exact HO6.out), HB6.out⟩
            case measure => simp [intOf]; omega
        · obtain rfl : j = n0 + 1 := by omega
          have HE := hid (show shrL F n0 = gotTo u (n0 + 1) from shrL_eq (gotTo_asc u _) (fun x => by
            rw [gotTo_mem]
            constructor
            · rintro ⟨n, h1, h2, h3⟩; exact ⟨n, h1, (HX.out n (by omega)).1 h3⟩
            · rintro ⟨n, h1', h2⟩
              have := h2.le hg h1
              exact ⟨n, h1', by omega, (HX.out n this).2 h2⟩))
          go_wp2_with fail
          go_ret
          exact ⟨_, rfl, by rw [HE.out]; exact HO.out, HB.out⟩

theorem OwnI.iown {w : World} {base : Nat} {v : Value} {l : List Int} (h : OwnI w base v l) : IOwn w base w.heap.size v l := by
  have h0 := h
  rcases h.2 with ⟨rfl, hn⟩ | ⟨g, cap, cur, rfl, hb, hg, hcap, hm, hs, ht⟩
  · exact .inl ⟨rfl, List.eq_nil_of_length_eq_zero hn⟩
  · have hlt := (Array.getElem?_eq_some_iff.1 hg).1
    refine .inr ⟨g, cap, rfl, hcap, hb, hlt, Nat.le_refl _, fun j hj => ⟨?_, World.ownsRow.frozenAt h0 j, hlt⟩⟩
    have := World.ownsRow.cellAt h0 j (by omega)
    rw [iv_at hj] at this
    exact this
theorem shrV_le (F : List Qd) (q : Int) : (shrV F q).length ≤ 1048576 := by
  cases ht : thereB F q
  · simp [shrV, ht]
  · obtain ⟨hg, h0, h1⟩ := there_bd ht
    have h4 := good_len2 hg
    simp only [shrV, ht, if_true]
    unfold shrL
    split
    · rename_i h
      have hs := Classical.choose_spec h
      have := asc_len (N := F.length) hs.1 (fun x hx => by
        obtain ⟨n, rfl, hr⟩ := (hs.2 x).1 hx
        have := hr.le hg (by omega)
        omega)
      omega
    · simp

set_option maxHeartbeats 1000000 in
theorem c_iSharedIn' (a : Option Addr) (F : List Qd) (ca : Nat) (q : Int) (w : World) (ha : QSeg w a F) (hl : F.length ≤ 1048576) (hk : KidsLe F) (hca : F.length ≤ ca) (hcm : ca ≤ 9223372036854775807) :
    Calls Try.prog 42 #[.agg #[.slice a F.length ca], .int .i64 q] w fun e w' => ∃ v, e = .returned (.tuple #[v, .bool (thereB F q)]) ∧ OwnI w' w.heap.size v (shrV F q) ∧ Below w.heap.size w w' := by
  have BX := hid (Box1.new w (.slice a F.length ca) 24)
  have HC := hid (c_groveOf a F ca _ (ha.below BX.out.2.2) hl hk hca hcm)
  clear ha
  cases hg : goodF F
  · have HT : Hid (thereB F q = false) := by simp [Hid, thereB, hg]
    have HV : Hid (shrV F q = []) := by simp [Hid, shrV, HT.out]
    rw [hg] at HC
    go_enter Try.func42, Try.ntmps42
    go_wp2_with fail
    refine HC.out.mono ?_
    rintro e w1 ⟨pv, rfl, ho, hb⟩
    clear HC ho
    go_wp2
    go_ret2
    exact ⟨_, by rw [HT.out]; rfl, by rw [HV.out]; exact OwnI.nil _ _, (BX.out.step hb).2.2⟩
  · rw [hg] at HC
    have HG := hid hg
    go_enter Try.func42, Try.ntmps42
    go_wp2_with fail
    refine HC.out.mono ?_
    rintro e w1 ⟨pv, rfl, ho, hb⟩
    have X1 := hid (BX.out.step hb)
    clear HC hb BX
    rcases ho with ⟨_, p, g, cap, mb, base, _, rfl, hGr⟩ | ⟨e, _⟩
    · have H1 := hid hGr
      cases hin : inB 0 ((F.length : Int) - 1) q
      · have HT : Hid (thereB F q = false) := by simp [Hid, thereB, hin]
        have HV : Hid (shrV F q = []) := by simp [Hid, shrV, HT.out]
        have HH := hid (c_has' q false w1 hin H1.out)
        clear hGr hin hg
        go_wp2_with fail
        refine HH.out.mono ?_
        rintro e w2 ⟨rfl, hb⟩
        go_wp2
        go_ret2
        exact ⟨_, by rw [HT.out]; rfl, by rw [HV.out]; exact OwnI.nil _ _, (X1.out.step hb).2.2⟩
      · have HT : Hid (thereB F q = true) := by simp [Hid, thereB, hin, hg]
        have HV : Hid (shrV F q = shrL F q.toNat) := by simp [Hid, shrV, HT.out]
        have HH := hid (c_has' q true w1 hin H1.out)
        have hbd := inB_bd hin
        clear hGr hin hg
        go_wp2_with fail
        refine HH.out.mono ?_
        rintro e w2 ⟨rfl, hb⟩
        have H2 := hid (H1.out.below hb)
        have X2 := hid (X1.out.step hb)
        clear HH H1 X1 hb
        have HSH := hid (c_shared HG.out q.toNat w2 H2.out (by omega))
        rw [show ((q.toNat : Nat) : Int) = q by omega] at HSH
        go_wp2_with fail
        refine HSH.out.mono ?_
        rintro e w3 ⟨v3, rfl, hO3, hB3⟩
        have HO3 := hid hO3
        have X3 := hid (X2.out.step hB3)
        have HSZ := hid X2.out.2.2.size
        clear hO3 hB3
        go_wp2_with fail
        go_ret2
        exact ⟨_, by rw [HT.out]; rfl, by rw [HV.out]; exact HO3.out.mono (by have := HSZ.out; omega), X3.out.2.2⟩
    · rw [HG.out] at e; cases e
theorem c_iSharedIn (a : Option Addr) (F : List Qd) (ca : Nat) (q : Int) (w : World) (ha : QSeg w a F) (hl : F.length ≤ 1048576) (hk : KidsLe F) (hca : F.length ≤ ca) (hcm : ca ≤ 9223372036854775807) :
    Calls Try.prog 42 #[.agg #[.slice a F.length ca], .int .i64 q] w fun e w' => ∃ v, e = .returned (.tuple #[v, .bool (thereB F q)]) ∧ IOwn w' w.heap.size w'.heap.size v (shrV F q) ∧ Below w.heap.size w w' :=
  (c_iSharedIn' a F ca q w ha hl hk hca hcm).mono fun e w' ⟨v, h1, h2, h3⟩ => ⟨v, h1, h2.iown, h3⟩
theorem c_sSharedInI (a : Option Addr) (F : List Qd) (ca : Nat) (q : Int) (w : World) (ha : QSeg w a F) (hl : F.length ≤ 1048576) (hk : KidsLe F) (hca : F.length ≤ ca) (hcm : ca ≤ 9223372036854775807) :
    Calls Try.prog 41 #[.agg #[.slice a F.length ca], .int .i64 q] w fun e w' => ∃ v, e = .returned (.tuple #[v, .bool (thereB F q)]) ∧ IOwn w' w.heap.size w'.heap.size v (shrV F q) ∧ Below w.heap.size w w' :=
  (c_sSharedIn a F ca q w ha hl hk hca hcm).mono fun e w' ⟨v, h1, h2, h3⟩ => ⟨v, h1, h2.iown, h3⟩

end Go.Proofs.Ytphjfncgbahbdaa
