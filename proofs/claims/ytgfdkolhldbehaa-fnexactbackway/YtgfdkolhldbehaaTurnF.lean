/- Cells turned about: TurnCells of both sides. -/
import Derived.Test.YtgfdkolhldbehaaTuA
import Derived.Test.YtgfdkolhldbehaaQuadG
namespace Go.Proofs.Ytgfdkolhldbehaa
open Go.RowKit Go.Maps
set_option linter.unusedVariables false
set_option linter.unusedSimpArgs false

theorem bd_qt {c : Cl} (h : bdC c) : bdC (qt c) := by unfold bdC qt at *; dsimp only; omega
theorem bd_mir {c : Cl} (h : bdC c) : bdC (mir c) := by unfold bdC mir at *; dsimp only; omega
theorem bd_qts : ∀ (n : Nat) {c : Cl}, bdC c → bdC (qts n c)
  | 0, c, h => h
  | n + 1, c, h => bd_qts n (bd_qt h)
theorem bd_trn {w : Nat} (c : Cl) (h : bdC c) : bdC (trn w c) := by
  unfold trn; split
  · exact bd_qts _ (bd_mir h)
  · exact bd_qts _ h
theorem inW_inB (t : Int) : inB 0 7 t = inW t := by
  unfold inB inW; congr 1; rw [decide_eq_decide]; omega
theorem c_l8Way (t : Int) (v : Bool) (h : inW t = v) (w : World) : Calls Try.prog 85 #[.int .i64 t] w fun e w' => e = .returned (.bool v) ∧ w' = w := by
  go_enter Try.func85, Try.ntmps85
  go_wp2_with fail
  refine (c_l1In' t 0 7 v ((inW_inB t).trans h) _).mono ?_
  rintro e w1 ⟨rfl, rfl⟩
  go_wp2
  go_ret
  exact ⟨rfl, rfl⟩
theorem c_isWay (t : Int) (v : Bool) (h : inW t = v) (w : World) : Calls Try.prog 82 #[.int .i64 t] w fun e w' => e = .returned (.bool v) ∧ w' = w := by
  rw [← h]
  unfold inW
  by_cases h1 : (0 : Int) ≤ t
  · have d1 : decide ((0 : Int) ≤ t) = true := by simpa using h1
    go_enter Try.func82, Try.ntmps82
    go_wp2
    go_ret
    exact ⟨by simp [h1], rfl⟩
  · have d1 : decide ((0 : Int) ≤ t) = false := by simpa using h1
    go_enter Try.func82, Try.ntmps82
    go_wp2
    go_ret
    exact ⟨by simp [h1], rfl⟩

set_option maxRecDepth 100000 in
set_option maxHeartbeats 2000000 in
theorem c_l8Turn (c : Cl) (m : Nat) (hm : m < 8) (hc : bdC c) (w : World) :
    Calls Try.prog 89 #[.agg #[.int .i64 c.1, .int .i64 c.2], .int .i64 (m : Int)] w fun e w' => e = .returned (.agg #[.int .i64 (trn m c).1, .int .i64 (trn m c).2]) ∧ Below w.heap.size w w' := by
  obtain ⟨c0, hc0⟩ : ∃ c0, c0 = if 3 < m then mir c else c := ⟨_, rfl⟩
  obtain ⟨q, hq⟩ : ∃ q : Nat, q = m % 4 := ⟨_, rfl⟩
  have HE : Hid (trn m c = qts q c0) := by show _ = _; rw [hq, hc0]; rfl
  have hq3 : q < 4 := by omega
  have e1 : (m : Int) % 4 = (q : Int) := by omega
  have HB0 : Hid (bdC c0) := by show bdC _; rw [hc0]; split; exact bd_mir hc; exact hc
  have HC1 : Hid (3 < m → mir c = c0) := fun h => by rw [hc0, if_pos h]
  have HC2 : Hid (¬ 3 < m → c = c0) := fun h => by rw [hc0, if_neg h]
  clear hq hc0
  rw [HE.out]
  have P0 := hid ((WRow.new w (.int .i64 c.1) c.2 36).below ((Below.refl _ _).alloc (Nat.le_refl _) (.cells #[.int .i64 0, .int .i64 0] 36)))
  have P1 := hid (WRow.new (w.alloc (.cells #[.int .i64 c.1, .int .i64 c.2] 36)) (.int .i64 0) 0 36)
  have hz1 : (w.alloc (.cells #[.int .i64 c.1, .int .i64 c.2] 36)).heap.size = w.heap.size + 1 := by simp
  rw [hz1] at P1
  have B2 := hid (((Below.refl w.heap.size w).alloc (Nat.le_refl _) (.cells #[.int .i64 c.1, .int .i64 c.2] 36)).alloc (by simp) (.cells #[.int .i64 0, .int .i64 0] 36))
  have hne3 : ¬ w.heap.size + 1 = w.heap.size := by omega
  clear hz1
  have hm8 : (m : Int) < 8 := by omega
  have hcb := hc
  unfold bdC at hcb
  by_cases h3 : 3 < m
  · have k3 : (3 : Int) < (m : Int) := by omega
    have HM := hid (HC1.out h3)
    clear HC1 HC2 HE h3
    have x0 := P0.out.c0
    have x1 := P0.out.c1
    have f0 := P0.out.fr 0
    have f1 := P0.out.fr 1
    go_enter Try.func89, Try.ntmps89
    go_wp2_with fail
    go_loopw [5] (fun i wr => ∃ k : Nat, k ≤ q ∧ i = .int .i64 (k : Int) ∧ WRow wr w.heap.size (.int .i64 (qts (q - k) c0).1) (qts (q - k) c0).2 36 ∧ WRow wr (w.heap.size + 1) (.int .i64 0) 0 36 ∧ Below w.heap.size w wr) (fun i _ => (intOf i).toNat)
    case atStart =>
      have P1' := WRow.new (w.alloc (.cells #[.int .i64 (-c.1), .int .i64 c.2] 36)) (.int .i64 0) 0 36
      rw [show (w.alloc (.cells #[.int .i64 (-c.1), .int .i64 c.2] 36)).heap.size = w.heap.size + 1 by simp] at P1'
      refine ⟨q, Nat.le_refl _, by first | rfl | rw [e1], ?_, P1', ((Below.refl w.heap.size w).alloc (Nat.le_refl _) _).alloc (by simp) _⟩
      rw [Nat.sub_self]
      show WRow _ _ (.int .i64 c0.1) c0.2 _
      rw [← HM.out]
      exact (WRow.new w (.int .i64 (-c.1)) c.2 36).below ((Below.refl _ _).alloc (Nat.le_refl _) _)
    case round =>
      clear P0 P1 B2 x0 x1 f0 f1 hcb
      obtain ⟨k, hk, rfl, hP, hQ, hB⟩ := hrel
      have HP := hid hP
      have HQ := hid hQ
      have HB := hid hB
      clear hP hQ hB
      cases k with
      | zero =>
        obtain ⟨c1, hc1⟩ : ∃ c1, c1 = qts q c0 := ⟨_, rfl⟩
        replace HP : Hid (WRow wr w.heap.size (.int .i64 c1.1) c1.2 36) := by
          show WRow _ _ _ _ _
          rw [hc1]; exact HP.out
        have HT := hid hc1
        clear hc1
        have x0 := HP.out.c0
        have x1 := HP.out.c1
        have y0 := HQ.out.c0
        have y1 := HQ.out.c1
        have f0 := HQ.out.fr 0
        have f1 := HQ.out.fr 1
        have RZ := hid (HQ.out.put (.int .i64 c1.1) c1.2)
        have z0 := RZ.out.c0
        have z1 := RZ.out.c1
        go_wp2
        refine bodyPost_ret (v := .agg #[.int .i64 c1.1, .int .i64 c1.2]) (by simp [results, Try.results89, go_sem, z0, z1]) rfl ⟨by rw [← HT.out], ?_⟩
        exact (HB.out.setCell (p := ⟨w.heap.size + 1, 0, none⟩) (by simp) _).setCell (p := ⟨w.heap.size + 1, 1, none⟩) (by simp) _
      | succ k =>
        have HT : Hid (qts (q - k) c0 = qt (qts (q - (k + 1)) c0)) := by
          show _ = _
          rw [show q - k = q - (k + 1) + 1 by omega, qts_succ]
        have hbd := bd_qts (q - (k + 1)) HB0.out
        generalize qts (q - (k + 1)) c0 = c1 at *
        unfold bdC at hbd
        have x0 := HP.out.c0
        have x1 := HP.out.c1
        have f0 := HP.out.fr 0
        have f1 := HP.out.fr 1
        have k0 : (0 : Int) < ((k + 1 : Nat) : Int) := by omega
        have k1 : ((k + 1 : Nat) : Int) ≤ 4 := by omega
        have HKK : Hid (((k + 1 : Nat) : Int) - 1 = (k : Int)) := by show _ = _; omega
        generalize ((k + 1 : Nat) : Int) = S at *
        go_wp2_with fail
        go_roundw
        case rel =>
          refine ⟨k, by omega, by rw [HKK.out], ?_, (HQ.out.other hne3 _).other hne3 _, (HB.out.setCell (p := ⟨w.heap.size, 0, none⟩) (Nat.le_refl _) _).setCell (p := ⟨w.heap.size, 1, none⟩) (Nat.le_refl _) _⟩
          rw [HT.out]
          exact HP.out.put _ _
        case measure => simp [intOf]; omega
  · have k3 : ¬ (3 : Int) < (m : Int) := by omega
    have HM := hid (HC2.out h3)
    clear HC1 HC2 HE h3 hcb
    go_enter Try.func89, Try.ntmps89
    go_wp2_with fail
    go_loopw [5] (fun i wr => ∃ k : Nat, k ≤ q ∧ i = .int .i64 (k : Int) ∧ WRow wr w.heap.size (.int .i64 (qts (q - k) c0).1) (qts (q - k) c0).2 36 ∧ WRow wr (w.heap.size + 1) (.int .i64 0) 0 36 ∧ Below w.heap.size w wr) (fun i _ => (intOf i).toNat)
    case atStart =>
      refine ⟨q, Nat.le_refl _, by first | rfl | rw [e1], ?_, P1.out, B2.out⟩
      rw [Nat.sub_self]
      show WRow _ _ (.int .i64 c0.1) c0.2 _
      rw [← HM.out]
      exact P0.out
    case round =>
      clear P0 P1 B2
      obtain ⟨k, hk, rfl, hP, hQ, hB⟩ := hrel
      have HP := hid hP
      have HQ := hid hQ
      have HB := hid hB
      clear hP hQ hB
      cases k with
      | zero =>
        obtain ⟨c1, hc1⟩ : ∃ c1, c1 = qts q c0 := ⟨_, rfl⟩
        replace HP : Hid (WRow wr w.heap.size (.int .i64 c1.1) c1.2 36) := by
          show WRow _ _ _ _ _
          rw [hc1]; exact HP.out
        have HT := hid hc1
        clear hc1
        have x0 := HP.out.c0
        have x1 := HP.out.c1
        have y0 := HQ.out.c0
        have y1 := HQ.out.c1
        have f0 := HQ.out.fr 0
        have f1 := HQ.out.fr 1
        have RZ := hid (HQ.out.put (.int .i64 c1.1) c1.2)
        have z0 := RZ.out.c0
        have z1 := RZ.out.c1
        go_wp2
        refine bodyPost_ret (v := .agg #[.int .i64 c1.1, .int .i64 c1.2]) (by simp [results, Try.results89, go_sem, z0, z1]) rfl ⟨by rw [← HT.out], ?_⟩
        exact (HB.out.setCell (p := ⟨w.heap.size + 1, 0, none⟩) (by simp) _).setCell (p := ⟨w.heap.size + 1, 1, none⟩) (by simp) _
      | succ k =>
        have HT : Hid (qts (q - k) c0 = qt (qts (q - (k + 1)) c0)) := by
          show _ = _
          rw [show q - k = q - (k + 1) + 1 by omega, qts_succ]
        have hbd := bd_qts (q - (k + 1)) HB0.out
        generalize qts (q - (k + 1)) c0 = c1 at *
        unfold bdC at hbd
        have x0 := HP.out.c0
        have x1 := HP.out.c1
        have f0 := HP.out.fr 0
        have f1 := HP.out.fr 1
        have k0 : (0 : Int) < ((k + 1 : Nat) : Int) := by omega
        have k1 : ((k + 1 : Nat) : Int) ≤ 4 := by omega
        have HKK : Hid (((k + 1 : Nat) : Int) - 1 = (k : Int)) := by show _ = _; omega
        generalize ((k + 1 : Nat) : Int) = S at *
        go_wp2_with fail
        go_roundw
        case rel =>
          refine ⟨k, by omega, by rw [HKK.out], ?_, (HQ.out.other hne3 _).other hne3 _, (HB.out.setCell (p := ⟨w.heap.size, 0, none⟩) (Nat.le_refl _) _).setCell (p := ⟨w.heap.size, 1, none⟩) (Nat.le_refl _) _⟩
          rw [HT.out]
          exact HP.out.put _ _
        case measure => simp [intOf]; omega

theorem nodup_near {l : List Cl} (hg : good l = true) : ∀ c ∈ l, bdC c := by
  intro c hc
  have h := good_memT hg hc
  simp only [inR, Bool.and_eq_true, decide_eq_true_eq] at h
  unfold bdC; omega
set_option maxRecDepth 100000 in
set_option maxHeartbeats 2000000 in
theorem c_l8All (a : Option Addr) (l : List Cl) (ca m : Nat) (hm : m < 8) (w : World) (ha : Seg w a l) (hl : l.length ≤ 524288) (hN : ∀ c ∈ l, bdC c) :
    Calls Try.prog 87 #[.slice a l.length ca, .int .i64 (m : Int)] w fun e w' => ∃ v, e = .returned v ∧ OwnS w' w.heap.size v (tuL m l) ∧ Below w.heap.size w w' := by
  have HMm := hid (fun k (h : k < l.length) => hN (at_ l k) (by simp [at_, h]))
  have HAt := hid (fun k (h : k < l.length) => show (l.map (trn m)).take (k + 1) = (l.map (trn m)).take k ++ [trn m (at_ l k)] by rw [List.take_succ_eq_append_getElem (by simpa using h)]; simp [at_, h])
  have HAl := hid (show (l.map (trn m)).take l.length = l.map (trn m) by rw [List.take_of_length_le (by simp)])
  have HA := hid ha
  have HM8 := hid hm
  clear hN ha
  go_enter Try.func87, Try.ntmps87
  go_wp2
  go_loopw [5, 10] (fun v i wr => ∃ (k : Nat) (M : List Cl), k ≤ l.length ∧ i = .int .i64 k ∧ OwnS wr w.heap.size v M ∧ risTo M M.length = true ∧ (∀ c, c ∈ M ↔ c ∈ (l.map (trn m)).take k) ∧ M.length ≤ k ∧ Below w.heap.size w wr) (fun _ i _ => l.length - (intOf i).toNat)
  case atStart => exact ⟨0, [], Nat.zero_le _, rfl, OwnS.nil _ _, rfl, fun c => by simp, by simp, Below.refl _ _⟩
  case round =>
    obtain ⟨k, M, hk, rfl, hSL, hris, hmem, hml, hbel⟩ := hrel
    have HR := hid hris
    have HM := hid hmem
    have HB := hid hbel
    have HSL := hid hSL
    clear hris hmem hSL
    by_cases hlt : k < l.length
    · obtain ⟨b1, o1, rfl, hb1, p1, p2⟩ := HA.out k hlt
      have g1 := (hbel.cell (p := ⟨b1, o1 + k * 2, none⟩) hb1).trans p1
      have g2 := (hbel.cell (p := ⟨b1, o1 + k * 2 + 1, none⟩) hb1).trans p2
      change _ = some (Value.int .i64 (at_ l k).1) at g1
      change _ = some (Value.int .i64 (at_ l k).2) at g2
      have HT := hid (HAt.out k hlt)
      have HX := hid (HMm.out k hlt)
      generalize at_ l k = x at *
      clear p1 p2 hbel
      have q0 := cell_new0 wr (.int .i64 x.1) (.int .i64 x.2) 36
      have q1 := cell_new1 wr (.int .i64 x.1) (.int .i64 x.2) 36
      have HB1 := hid (HB.out.alloc HB.out.size (.cells #[.int .i64 x.1, .int .i64 x.2] 36))
      have HS1 := hid (HSL.out.below ((Below.refl wr.heap.size wr).alloc (Nat.le_refl _) (.cells #[.int .i64 x.1, .int .i64 x.2] 36)))
      go_wp2_with fail
      refine (c_l8Turn x m HM8.out HX.out _).mono ?_
      rintro e w2 ⟨rfl, b2⟩
      have HB2 := hid (HB1.out.trans (b2.mono HB1.out.size))
      have HS2 := hid (HS1.out.below b2)
      clear b2 HB1 HS1 q0 q1
      generalize trn m x = y at *
      go_wp2_with fail
      refine (c_l1AddO _ M y _ HS2.out.sl (by omega) HR.out).mono ?_
      rintro e w3 ⟨v3, m3, rfl, hS3, hW3, hb3, hO3⟩
      have HB3 := hid (HB2.out.trans (hb3.mono HB2.out.size))
      have HS3 : Hid (OwnS w3 w.heap.size v3 m3) := by
        rcases hO3 with h | ⟨rfl, rfl⟩
        · exact h.mono HB2.out.size
        · exact HS2.out.below hb3
      have HW3 := hid hW3
      clear hS3 hW3 hb3 hO3
      go_wp2
      go_roundw
      case rel => exact ⟨k + 1, m3, by omega, by go_num, HS3.out, HW3.out.1, fun c => by rw [HW3.out.2.1, HM.out, HT.out, List.mem_append, List.mem_singleton]; exact Or.comm, by have := HW3.out.2.2; omega, HB3.out⟩
      case measure => simp [intOf]; omega
    · clear hbel
      go_wp2
      go_ret
      have : k = l.length := by omega
      subst this
      refine ⟨_, rfl, ?_, HB.out⟩
      rw [← tu_is HR.out (fun c => by rw [HM.out, HAl.out])]
      exact HSL.out

/-- All cells that come by on a way are near. -/
theorem nr_way {m : Nat} (hm : m < 8) {c : Cl} (hc : bdC c) : Nr (tnW [m]) c := by
  have H : ∀ (T : List Tn), (∀ t ∈ T, t.1 = .mir ∨ t.1 = .qtr) → ∀ c, bdC c → Nr T c ∧ bdC (tnBy T c) := by
    intro T hT c hc
    have hN : ∀ (b : Kd), b = .mir ∨ b = .qtr → ∀ n c, bdC c → bdC (tnN b n c) := by
      intro b hb n
      induction n with
      | zero => intro c h; exact h
      | succ n ih =>
        intro c h
        rw [tnN]
        refine ih _ ?_
        rcases hb with rfl | rfl
        · exact bd_mir h
        · exact bd_qt h
    have hk : ∀ k, k ≤ T.length → bdC (tnBy (T.take k) c) := by
      intro k
      induction k with
      | zero => intro _; exact hc
      | succ k ih =>
        intro h
        rw [tnBy_succ (by omega)]
        exact hN _ (hT _ (ta_mem (by omega))) _ _ (ih (by omega))
    refine ⟨fun k hk' j hj => hN _ (hT _ (ta_mem hk')) _ _ (hk k (by omega)), ?_⟩
    have := hk T.length (Nat.le_refl _)
    rwa [List.take_length] at this
  exact (H _ (tnW_kinds _) c hc).1
theorem tnW_one {m : Nat} (hm : m < 8) : tnBy (tnW [m]) = trn m := funext fun c => tnBy_way hm c
theorem tnW_few {m : Nat} (hm : m < 8) : ∀ k, k < (tnW [m]).length → (ta (tnW [m]) k).2 ≤ 1000 := by
  intro k hk
  simp only [tnW, List.flatMap_cons, List.flatMap_nil, List.append_nil, List.length_cons, List.length_nil] at hk
  rcases (show k = 0 ∨ k = 1 by omega) with rfl | rfl
  · show m / 4 ≤ 1000; omega
  · show m % 4 ≤ 1000; omega

set_option maxRecDepth 100000 in
set_option maxHeartbeats 1000000 in
theorem c_sTurnCells (a : Option Addr) (l : List Cl) (ca : Nat) (t : Int) (w : World) (ha : Seg w a l) (hl : l.length ≤ 1048576) :
    Calls Try.prog 29 #[.slice a l.length ca, .int .i64 t] w fun e w' => ∃ v, e = .returned (.tuple #[v, .bool (turnOk l t)]) ∧ OwnS w' w.heap.size v (turnL l t) ∧ Below w.heap.size w w' := by
  cases hg : good l
  · have HC := hid (c_sGood' a l ca false hg _ ha hl)
    have HV : Hid (turnL l t = [] ∧ turnOk l t = false) := by simp [Hid, turnL, turnOk, hg]
    clear ha
    go_enter Try.func29, Try.ntmps29
    go_wp2_with fail
    refine HC.out.mono ?_
    rintro e w1 ⟨rfl, hb1⟩
    go_wp2
    go_ret2
    exact ⟨_, by rw [HV.out.2]; rfl, by rw [HV.out.1]; exact OwnS.nil _ _, hb1⟩
  · have HC := hid (c_sGood' a l ca true hg _ ha hl)
    cases ht : inW t
    · have HV : Hid (turnL l t = [] ∧ turnOk l t = false) := by simp [Hid, turnL, turnOk, hg, ht]
      clear ha
      go_enter Try.func29, Try.ntmps29
      go_wp2_with fail
      refine HC.out.mono ?_
      rintro e w1 ⟨rfl, hb1⟩
      go_wp2_with fail
      refine (c_l8Way t false ht _).mono ?_
      rintro e w2 ⟨rfl, rfl⟩
      go_wp2
      go_ret2
      exact ⟨_, by rw [HV.out.2]; rfl, by rw [HV.out.1]; exact OwnS.nil _ _, hb1⟩
    · obtain ⟨m, rfl⟩ : ∃ m : Nat, t = (m : Int) := ⟨t.toNat, by have := inW_bd ht; omega⟩
      have hm : m < 8 := by have := inW_bd ht; omega
      have HV : Hid (turnL l (m : Int) = tellV (tuL m l) ∧ turnOk l (m : Int) = good (tuL m l)) := by simp [Hid, turnL, turnOk, hg, ht, tu_good hm hg, tellV]
      have HL := hid (show (tuL m l).length ≤ 120 from good_len (tu_good hm hg))
      have HN := hid (nodup_near hg)
      have hlg := good_le hg
      have HA := hid ha
      have HT := hid ht
      clear ha hg ht
      go_enter Try.func29, Try.ntmps29
      go_wp2_with fail
      refine HC.out.mono ?_
      rintro e w1 ⟨rfl, hb1⟩
      have HA1 := hid (HA.out.below hb1)
      have HB1 := hid hb1
      clear hb1 HA HC
      go_wp2_with fail
      refine (c_l8Way (m : Int) true HT.out _).mono ?_
      rintro e w2 ⟨rfl, rfl⟩
      go_wp2_with fail
      refine (c_l8All a l ca m hm _ HA1.out (by omega) HN.out).mono ?_
      rintro e w3 ⟨v3, rfl, o3, b3⟩
      obtain ⟨a3, c3, rfl, s3, n3⟩ := o3.sl.form
      have HB3 := hid (HB1.out.trans (b3.mono HB1.out.size))
      have S3 := hid s3
      clear o3 s3 b3
      have hlt := HL.out
      go_wp2_with fail
      refine (c_l1Tell a3 (tuL m l) c3 _ S3.out (by omega) n3).mono ?_
      rintro e w5 ⟨v, rfl, hO5, hB5⟩
      go_wp2
      go_ret2
      exact ⟨_, by rw [HV.out.2]; rfl, by rw [HV.out.1]; exact hO5.mono HB3.out.size, HB3.out.trans (hB5.mono HB3.out.size)⟩

set_option maxRecDepth 100000 in
set_option maxHeartbeats 1000000 in
theorem c_iTurnCells (a : Option Addr) (l : List Cl) (ca : Nat) (t : Int) (w : World) (ha : Seg w a l) (hl : l.length ≤ 1048576) :
    Calls Try.prog 28 #[.slice a l.length ca, .int .i64 t] w fun e w' => ∃ v, e = .returned (.tuple #[v, .bool (turnOk l t)]) ∧ OwnS w' w.heap.size v (turnL l t) ∧ Below w.heap.size w w' := by
  cases hg : good l
  · have HC := hid (c_iGood' a l ca false hg _ ha hl)
    have HV : Hid (turnL l t = [] ∧ turnOk l t = false) := by simp [Hid, turnL, turnOk, hg]
    clear ha
    go_enter Try.func28, Try.ntmps28
    go_wp2_with fail
    refine HC.out.mono ?_
    rintro e w1 ⟨rfl, hb1⟩
    go_wp2
    go_ret2
    exact ⟨_, by rw [HV.out.2]; rfl, by rw [HV.out.1]; exact OwnS.nil _ _, hb1⟩
  · have HC := hid (c_iGood' a l ca true hg _ ha hl)
    cases ht : inW t
    · have HV : Hid (turnL l t = [] ∧ turnOk l t = false) := by simp [Hid, turnL, turnOk, hg, ht]
      clear ha
      go_enter Try.func28, Try.ntmps28
      go_wp2_with fail
      refine HC.out.mono ?_
      rintro e w1 ⟨rfl, hb1⟩
      go_wp2_with fail
      refine (c_isWay t false ht _).mono ?_
      rintro e w2 ⟨rfl, rfl⟩
      go_wp2
      go_ret2
      exact ⟨_, by rw [HV.out.2]; rfl, by rw [HV.out.1]; exact OwnS.nil _ _, hb1⟩
    · obtain ⟨m, rfl⟩ : ∃ m : Nat, t = (m : Int) := ⟨t.toNat, by have := inW_bd ht; omega⟩
      have hm : m < 8 := by have := inW_bd ht; omega
      have HV : Hid (turnL l (m : Int) = ordL (l.map (tnBy (tnW [m]))) ∧ turnOk l (m : Int) = true) := by simp [Hid, turnL, turnOk, hg, ht, tnW_one hm, tuL]
      have HND : Hid ((l.map (tnBy (tnW [m]))).Nodup) := by show List.Nodup _; rw [tnW_one hm]; exact map_nodup hm (ris_nodup (good_ris hg))
      have HNr := hid (fun c hc => nr_way hm (nodup_near hg c hc))
      have HFw := hid (tnW_few hm)
      have hlg := good_le hg
      have HA := hid ha
      have HT := hid ht
      have hm1000 : ∀ x ∈ [m], x < 8 := by simpa using hm
      have HM := hid hm1000
      clear ha hg ht hm1000
      go_enter Try.func28, Try.ntmps28
      go_wp2_with fail
      refine HC.out.mono ?_
      rintro e w1 ⟨rfl, hb1⟩
      have HA1 := hid (HA.out.below hb1)
      have HB1 := hid hb1
      clear hb1 HA HC
      go_wp2_with fail
      refine (c_isWay (m : Int) true HT.out _).mono ?_
      rintro e w2 ⟨rfl, rfl⟩
      have BA := (Below.refl w2.heap.size w2).alloc (Nat.le_refl _) (.cells #[.int .i64 (m : Int)] 3)
      have HA2 := hid (HA1.out.below BA)
      have HB2 := hid (HB1.out.trans (BA.mono HB1.out.size))
      have HI2 := hid (iseg_block (heap_alloc_new w2 (.cells #[.int .i64 (m : Int)] 3)))
      clear BA HA1 HB1
      go_wp2_with fail
      refine (c_turningsOf _ [m] 1 _ HI2.out (by simp) HM.out).mono ?_
      rintro e w3 ⟨v3, rfl, o3, b3⟩
      obtain ⟨a3, c3, rfl, s3⟩ := o3.form (tnW_ok _ _)
      have HA3 := hid (HA2.out.below b3)
      have HB3 := hid (HB2.out.trans (b3.mono HB2.out.size))
      have S3 := hid s3
      clear o3 s3 b3 HA2 HB2
      go_wp2_with fail
      refine (c_allTurned a a3 l (tnW [m]) ca c3 w3 HA3.out S3.out (by omega) (by rw [tnW_len]; simp) HNr.out HFw.out HND.out).mono ?_
      rintro e w4 ⟨v4, rfl, o4, l4, b4⟩
      go_wp2
      go_ret2
      exact ⟨_, by rw [HV.out.2]; rfl, by rw [HV.out.1]; exact o4.mono HB3.out.size, HB3.out.trans (b4.mono HB3.out.size)⟩
end Go.Proofs.Ytgfdkolhldbehaa
