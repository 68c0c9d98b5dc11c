/- What the specification's l2Read answers. -/
import Derived.Test.YthmjcjcamcdpkaaDoorRdP
import Derived.Test.YthmjcjcamcdpkaaDoorRowsT
import Derived.Laws.DeepStrings4
namespace Go.Proofs.YthmjcjcamcdpkaaDoor
open Go.RowKit
set_option linter.unusedVariables false

section
variable {s : Tx} {f a k x y : Nat} {l : List Cl} {T : List Tx}
theorem rd_stop (ha : ¬ a < s.size) : rd s f a x y l T = ([], [], 1) := by
  cases f with
  | zero => rfl
  | succ f => simp [rd, ha]
theorem rd_num (ha : a < s.size) (hk : sc s a = k) (ho : okN s a k = false) : rd s (f + 1) a x y l T = ([], [], 3) := by simp [rd, ha, hk, ho]
theorem rd_end (ha : a < s.size) (hk : sc s a = k) (ho : okN s a k = true) (hks : ¬ k < s.size) : rd s (f + 1) a x y l T = ([], [], 1) := by simp [rd, ha, hk, ho, hks]
theorem rd_33a (ha : a < s.size) (hk : sc s a = k) (ho : okN s a k = true) (hks : k < s.size) (hb : byt s k = 33) (h : a < k) : rd s (f + 1) a x y l T = ([], [], 1) := by simp [rd, ha, hk, ho, hks, hb, h]
theorem rd_33b (ha : a < s.size) (hk : sc s a = k) (ho : okN s a k = true) (hks : k < s.size) (hb : byt s k = 33) (h : ¬ a < k) (h2 : k + 1 < s.size) : rd s (f + 1) a x y l T = ([], [], 2) := by simp [rd, ha, hk, ho, hks, hb, h, h2]
theorem rd_33c (ha : a < s.size) (hk : sc s a = k) (ho : okN s a k = true) (hks : k < s.size) (hb : byt s k = 33) (h : ¬ a < k) (h2 : ¬ k + 1 < s.size) : rd s (f + 1) a x y l T = (l, T ++ [piece s a (k + 1)], 0) := by simp [rd, ha, hk, ho, hks, hb, h, h2]
theorem rd_36 (ha : a < s.size) (hk : sc s a = k) (ho : okN s a k = true) (hks : k < s.size) (hb : byt s k = 36) : rd s (f + 1) a x y l T = rd s f (k + 1) 0 (y + nOf s a k) l (T ++ [piece s a (k + 1)]) := by simp [rd, ha, hk, ho, hks, hb]
theorem rd_98 (ha : a < s.size) (hk : sc s a = k) (ho : okN s a k = true) (hks : k < s.size) (hb : byt s k = 98) : rd s (f + 1) a x y l T = rd s f (k + 1) (x + nOf s a k) y l (T ++ [piece s a (k + 1)]) := by simp [rd, ha, hk, ho, hks, hb]
theorem rd_111 (ha : a < s.size) (hk : sc s a = k) (ho : okN s a k = true) (hks : k < s.size) (hb : byt s k = 111) (hr : room x y l.length (nOf s a k) = true) : rd s (f + 1) a x y l T = rd s f (k + 1) (x + nOf s a k) y (l ++ runC x y (nOf s a k)) (T ++ [piece s a (k + 1)]) := by simp [rd, ha, hk, ho, hks, hb, hr]
theorem rd_111n (ha : a < s.size) (hk : sc s a = k) (ho : okN s a k = true) (hks : k < s.size) (hb : byt s k = 111) (hr : room x y l.length (nOf s a k) = false) : rd s (f + 1) a x y l T = ([], [], 4) := by simp [rd, ha, hk, ho, hks, hb, hr]
theorem rd_else (ha : a < s.size) (hk : sc s a = k) (ho : okN s a k = true) (hks : k < s.size) (h1 : ¬ byt s k = 33) (h2 : ¬ byt s k = 36) (h3 : ¬ byt s k = 98) (h4 : ¬ byt s k = 111) : rd s (f + 1) a x y l T = ([], [], 1) := by simp [rd, ha, hk, ho, hks, h1, h2, h3, h4]
end
theorem ext_piece (s : Tx) (i j : Nat) : s.extract i j = piece s i j := by
  apply ByteArray.ext
  simp only [piece, sg, ByteArray.data_extract]
  apply Array.toList_inj.1
  simp
theorem own_ne {w : World} {b1 b2 : Nat} {v1 v2 : Value} {l : List Cl} {T : List Tx} (h1 : OwnS w b1 v1 l) (h2 : OwnT w b2 v2 T) : ∀ k, v1.ownBlock = some k → v2.ownBlock ≠ some k := by
  intro k e1 e2
  rcases h1.2 with ⟨rfl, _⟩ | ⟨g, cap, cur, rfl, _, hg, _⟩
  · simp [Value.ownBlock] at e1
  · rcases h2.2 with ⟨rfl, _⟩ | ⟨g', cap', cur', rfl, _, hg', _⟩
    · simp [Value.ownBlock] at e2
    · simp only [Value.ownBlock, Option.some.injEq] at e1 e2
      subst e1
      subst e2
      rw [hg] at hg'
      injection hg' with h
      injection h with _ h3 _
      exact absurd h3 (by decide)
theorem okN_one {s : Tx} {a k : Nat} (h : ¬ a < k) : okN s a k = true ∧ nOf s a k = 1 := by simp [okN, nOf, h]
theorem okN_many {s : Tx} {a k n : Nat} (h : a < k) (hn : numCut 0 (digs (sg s a k)) = n) : nOf s a k = n ∧ okN s a k = (decide (byt s a ≠ 48) && decide (2 ≤ n) && decide (n ≤ 31)) := by
  have e : nOf s a k = n := by simp [nOf, h, hn]
  refine ⟨e, ?_⟩
  unfold okN
  rw [if_pos h, e]
theorem numCut_stop {n : Nat} (h : ¬ n ≤ 31) (r : List Nat) : numCut n r = n := by cases r <;> simp [numCut, h]

set_option maxHeartbeats 4000000 in
set_option maxRecDepth 100000 in
theorem c_l2Read (s : Tx) (w : World) (hs : s.size ≤ 400) :
    Calls Tryd.prog 30 #[.string s] w fun e w' => ∃ v1 v2, e = .returned (.tuple #[v1, v2, .int .i64 ((rdAll s).2.2 : Int)]) ∧ OwnS w' w.heap.size v1 (rdAll s).1 ∧ OwnT w' w.heap.size v2 (rdAll s).2.1 ∧ Below w.heap.size w w' := by
  go_enter Tryd.func30, Tryd.ntmps30
  go_wp2
  go_loopw [5, 6, 7, 8, 9] (fun v1 v2 xv yv av wr => ∃ (l : List Cl) (T : List Tx) (X Y a f : Nat), xv = .int .i64 X ∧ yv = .int .i64 Y ∧ av = .int .i64 a ∧ a ≤ s.size ∧ s.size + 1 ≤ a + f ∧ X ≤ 31 * a ∧ Y ≤ 31 * a ∧ l.length ≤ 120 ∧ T.length ≤ a ∧ Hid (rd s f a X Y l T = rdAll s) ∧
    Hid (OwnS wr w.heap.size v1 l ∧ OwnT wr w.heap.size v2 T ∧ Below w.heap.size w wr)) (fun _ _ _ _ av _ => s.size - (intOf av).toNat)
  case atStart => exact ⟨[], [], 0, 0, 0, s.size + 1, rfl, rfl, rfl, Nat.zero_le _, by omega, by omega, by omega, by simp, by simp, (show _ = _ from rfl), ⟨OwnS.nil _ _, OwnT.nil _ _, Below.refl _ _⟩⟩
  case round =>
    obtain ⟨l, T, X, Y, a, f, rfl, rfl, rfl, ha, hf, hX, hY, hl, hTl, hRD, hP⟩ := hrel
    by_cases hlt : a < s.size
    · obtain ⟨f, rfl⟩ : ∃ g, f = g + 1 := ⟨f - 1, by omega⟩
      have a0 : (0 : Int) ≤ (a : Int) := by omega
      have a1 : (a : Int) < (s.size : Int) := by omega
      go_wp2
      go_loop [10] (fun v => ∃ k : Nat, v = .int .i64 k ∧ a ≤ k ∧ k ≤ s.size ∧ Hid (∀ j, a ≤ j → j < k → dg s j = true)) (fun v => s.size - (intOf v).toNat)
      case atStart => exact ⟨a, rfl, Nat.le_refl _, ha, fun j h1 h2 => absurd h2 (by omega)⟩
      case round =>
        obtain ⟨k, rfl, hak, hks, hD⟩ := hrel
        have k0 : (0 : Int) ≤ (k : Int) := by omega
        by_cases hkt : k < s.size
        · have k1 : (k : Int) < (s.size : Int) := by omega
          have hbt := byt_get s k hkt
          have HBY := hid (show dg s k = (decide (48 ≤ byt s k) && decide (byt s k ≤ 57)) from rfl)
          generalize hq : byt s k = q at *
          have HQ := hid hq
          clear hq
          by_cases hdig : 48 ≤ (q : Int) ∧ (q : Int) ≤ 57
          · obtain ⟨h48, h57⟩ := hdig
            go_wp2
            go_round
            case rel =>
              refine ⟨k + 1, by go_num, by omega, by omega, fun j h1 h2 => ?_⟩
              by_cases e : j = k
              · rw [e, HBY.out]
                simp; omega
              · exact hD.out j h1 (by omega)
            case measure => simp [intOf]; omega
          · have HSC := hid (show sc s a = k from sc_eq hak (by omega) hD.out (fun _ => by rw [HBY.out]; simp; omega))
            have hqb := byt_lt s k
            rw [HQ.out] at hqb
            have hkne : ¬ (k : Int) = (s.size : Int) := by omega
            by_cases q33 : (q : Int) = 33
            · have HQ3 : Hid (byt s k = 33) := by rw [HQ.out]; show _ = _; omega
              have h48 : ¬ 48 ≤ (q : Int) := by omega
              by_cases hakl : a < k
              · have hak2 : (a : Int) < (k : Int) := by omega
                go_wp2
                go_loop [11, 12] (fun nv iv => ∃ n i : Nat, nv = .int .i64 n ∧ iv = .int .i64 i ∧ a ≤ i ∧ i ≤ k ∧ n ≤ 400 ∧ Hid (numCut n (digs ((sg s a k).drop (i - a))) = numCut 0 (digs (sg s a k)))) (fun _ iv => s.size - (intOf iv).toNat)
                case atStart => exact ⟨0, a, rfl, rfl, Nat.le_refl _, by omega, by omega, (show _ = _ by simp)⟩
                case round =>
                  obtain ⟨n, i, rfl, rfl, hai, hik, hn4, hN⟩ := hrel
                  have i0 : (0 : Int) ≤ (i : Int) := by omega
                  by_cases hit : i < k
                  · have hit' : (i : Int) < (k : Int) := by omega
                    have i1 : (i : Int) < (s.size : Int) := by omega
                    by_cases hn31 : n ≤ 31
                    · have hn31' : (n : Int) ≤ 31 := by omega
                      have hdi : 48 ≤ byt s i ∧ byt s i ≤ 57 := by
                        have := hD.out i hai (by omega)
                        simp only [dg, Bool.and_eq_true, decide_eq_true_eq] at this
                        exact this
                      have HNX : Hid (numCut (10 * n + (byt s i - 48)) (digs ((sg s a k).drop (i + 1 - a))) = numCut 0 (digs (sg s a k))) := by
                        have h1 := hN.out
                        have h2 := sg_drop (s := s) (i := a) (j := k) (t := i - a) (by omega) (by omega)
                        rw [h2, numCut, if_pos hn31, show a + (i - a) = i by omega, show i - a + 1 = i + 1 - a by omega] at h1
                        exact h1
                      have hbi := byt_get s i (by omega)
                      generalize byt s i = p at *
                      obtain ⟨hd1, hd2⟩ := hdi
                      have hp1 : 48 ≤ (p : Int) := by omega
                      have hp2 : (p : Int) ≤ 57 := by omega
                      go_wp2
                      go_round
                      case rel => exact ⟨10 * n + (p - 48), i + 1, by refine congrArg _ ?_; omega, by go_num, by omega, by omega, by omega, HNX.out⟩
                      case measure => simp [intOf]; omega
                    · have hn31' : ¬ (n : Int) ≤ 31 := by omega
                      have HNV : Hid (numCut 0 (digs (sg s a k)) = n) := by
                        have h1 := hN.out
                        rw [numCut_stop hn31] at h1
                        exact h1.symm
                      have HR : Hid (rdAll s = ([], [], 3)) := by
                        show _ = _
                        rw [← hRD.out]
                        refine rd_num hlt HSC.out ?_
                        rw [(okN_many (by omega) HNV.out).2]
                        simp; omega
                      have hba := byt_get s a hlt
                      generalize byt s a = q0 at *
                      by_cases h0 : (q0 : Int) = 48
                      · go_wp2
                        go_ret3
                        exact ⟨_, _, by rw [HR.out]; rfl, by rw [HR.out]; exact OwnS.nil _ _, by rw [HR.out]; exact OwnT.nil _ _, hP.out.2.2⟩
                      · have hn2 : ¬ (n : Int) < 2 := by omega
                        go_wp2
                        go_ret3
                        exact ⟨_, _, by rw [HR.out]; rfl, by rw [HR.out]; exact OwnS.nil _ _, by rw [HR.out]; exact OwnT.nil _ _, hP.out.2.2⟩
                  · obtain rfl : k = i := by omega
                    have hit' : ¬ (k : Int) < (k : Int) := by omega
                    have HNV : Hid (numCut 0 (digs (sg s a k)) = n) := by
                      have h1 := hN.out
                      rw [List.drop_eq_nil_of_le (by rw [sg_len (by omega)]; exact Nat.le_refl _)] at h1
                      exact h1.symm
                    have HOK := hid (okN_many (s := s) (a := a) (k := k) (by omega) HNV.out)
                    have hba := byt_get s a hlt
                    have HN3 := hid (fun h : okN s a k = false => show rdAll s = ([], [], 3) by rw [← hRD.out]; exact rd_num hlt HSC.out h)
                    generalize hq0 : byt s a = q0 at *
                    clear hq0
                    by_cases h0 : (q0 : Int) = 48
                    · have HR := hid (HN3.out (by rw [HOK.out.2]; simp; omega))
                      go_wp2
                      go_ret3
                      exact ⟨_, _, by rw [HR.out]; rfl, by rw [HR.out]; exact OwnS.nil _ _, by rw [HR.out]; exact OwnT.nil _ _, hP.out.2.2⟩
                    · by_cases hn2 : (n : Int) < 2
                      · have HR := hid (HN3.out (by rw [HOK.out.2]; simp; omega))
                        go_wp2
                        go_ret3
                        exact ⟨_, _, by rw [HR.out]; rfl, by rw [HR.out]; exact OwnS.nil _ _, by rw [HR.out]; exact OwnT.nil _ _, hP.out.2.2⟩
                      · by_cases hn31 : (n : Int) ≤ 31
                        · have HO : Hid (okN s a k = true ∧ nOf s a k = n) := ⟨by rw [HOK.out.2]; simp; omega, HOK.out.1⟩
                          have hn32 : ¬ 31 < (n : Int) := by omega
                          clear HOK HN3
                          have hne : ¬ (k : Int) = (s.size : Int) := by omega
                          have hkk : (k : Int) + 1 ≤ (s.size : Int) := by omega
                          have hak1 : (a : Int) ≤ (k : Int) + 1 := by omega
                          have hpc : s.extract a (k + 1) = piece s a (k + 1) := ext_piece s a (k + 1)
                          have HOS := hid (hP.out.1.below ((Below.refl wr.heap.size wr).alloc (Nat.le_refl _) (.cells #[.string (piece s a (k + 1))] 9)))
                          have HOT := hid (hP.out.2.1.below ((Below.refl wr.heap.size wr).alloc (Nat.le_refl _) (.cells #[.string (piece s a (k + 1))] 9)))
                          have HBL := hid (hP.out.2.2.alloc hP.out.2.2.size (.cells #[.string (piece s a (k + 1))] 9))

                          have HR : Hid (rdAll s = ([], [], 1)) := by
                            show _ = _
                            rw [← hRD.out]
                            exact rd_33a hlt HSC.out HO.out.1 hkt HQ3.out hakl
                          go_wp2_with (at_builtin; refine wpList_appT rfl _ _ rfl w.heap.size _ T (piece s a (k + 1)) ⟨wr.heap.size, 0, none⟩ rfl HOT.out rfl (segT_block (heap_alloc_new _ _)) (by omega) HBL.out.size ?_; intro v4 w4 hO4 hG4; have HO4 := hid hO4; have HS4 := hid (own_keep HOS.out hG4 (fun k e e2 => own_ne HOS.out HOT.out k e e2)); have HB4 := hid (below_grownT HBL.out HOT.out hG4); clear hO4 hG4)
                          go_ret3
                          exact ⟨_, _, by rw [HR.out]; rfl, by rw [HR.out]; exact OwnS.nil _ _, by rw [HR.out]; exact OwnT.nil _ _, HB4.out⟩
                        · have HR := hid (HN3.out (by rw [HOK.out.2]; simp; omega))
                          have hn32 : 31 < (n : Int) := by omega
                          go_wp2
                          go_ret3
                          exact ⟨_, _, by rw [HR.out]; rfl, by rw [HR.out]; exact OwnS.nil _ _, by rw [HR.out]; exact OwnT.nil _ _, hP.out.2.2⟩
              · have hak2 : ¬ (a : Int) < (k : Int) := by omega
                have HO : Hid (okN s a k = true ∧ nOf s a k = 1) := okN_one hakl
                have hne : ¬ (k : Int) = (s.size : Int) := by omega
                have hkk : (k : Int) + 1 ≤ (s.size : Int) := by omega
                have hak1 : (a : Int) ≤ (k : Int) + 1 := by omega
                have hpc : s.extract a (k + 1) = piece s a (k + 1) := ext_piece s a (k + 1)
                have HOS := hid (hP.out.1.below ((Below.refl wr.heap.size wr).alloc (Nat.le_refl _) (.cells #[.string (piece s a (k + 1))] 9)))
                have HOT := hid (hP.out.2.1.below ((Below.refl wr.heap.size wr).alloc (Nat.le_refl _) (.cells #[.string (piece s a (k + 1))] 9)))
                have HBL := hid (hP.out.2.2.alloc hP.out.2.2.size (.cells #[.string (piece s a (k + 1))] 9))

                by_cases hk1 : (k : Int) + 1 < (s.size : Int)
                · have HR : Hid (rdAll s = ([], [], 2)) := by
                    show _ = _
                    rw [← hRD.out]
                    exact rd_33b hlt HSC.out HO.out.1 hkt HQ3.out hakl (by omega)
                  go_wp2_with (at_builtin; refine wpList_appT rfl _ _ rfl w.heap.size _ T (piece s a (k + 1)) ⟨wr.heap.size, 0, none⟩ rfl HOT.out rfl (segT_block (heap_alloc_new _ _)) (by omega) HBL.out.size ?_; intro v4 w4 hO4 hG4; have HO4 := hid hO4; have HS4 := hid (own_keep HOS.out hG4 (fun k e e2 => own_ne HOS.out HOT.out k e e2)); have HB4 := hid (below_grownT HBL.out HOT.out hG4); clear hO4 hG4)
                  go_ret3
                  exact ⟨_, _, by rw [HR.out]; rfl, by rw [HR.out]; exact OwnS.nil _ _, by rw [HR.out]; exact OwnT.nil _ _, HB4.out⟩
                · have HR : Hid (rdAll s = (l, T ++ [piece s a (k + 1)], 0)) := by
                    show _ = _
                    rw [← hRD.out]
                    exact rd_33c hlt HSC.out HO.out.1 hkt HQ3.out hakl (by omega)
                  go_wp2_with (at_builtin; refine wpList_appT rfl _ _ rfl w.heap.size _ T (piece s a (k + 1)) ⟨wr.heap.size, 0, none⟩ rfl HOT.out rfl (segT_block (heap_alloc_new _ _)) (by omega) HBL.out.size ?_; intro v4 w4 hO4 hG4; have HO4 := hid hO4; have HS4 := hid (own_keep HOS.out hG4 (fun k e e2 => own_ne HOS.out HOT.out k e e2)); have HB4 := hid (below_grownT HBL.out HOT.out hG4); clear hO4 hG4)
                  go_ret3
                  exact ⟨_, _, by rw [HR.out]; rfl, by rw [HR.out]; exact HS4.out, by rw [HR.out]; exact HO4.out, HB4.out⟩
            · by_cases q36 : (q : Int) = 36
              · have HQ3 : Hid (byt s k = 36) := by rw [HQ.out]; show _ = _; omega
                have h48 : ¬ 48 ≤ (q : Int) := by omega
                by_cases hakl : a < k
                · have hak2 : (a : Int) < (k : Int) := by omega
                  go_wp2
                  go_loop [11, 12] (fun nv iv => ∃ n i : Nat, nv = .int .i64 n ∧ iv = .int .i64 i ∧ a ≤ i ∧ i ≤ k ∧ n ≤ 400 ∧ Hid (numCut n (digs ((sg s a k).drop (i - a))) = numCut 0 (digs (sg s a k)))) (fun _ iv => s.size - (intOf iv).toNat)
                  case atStart => exact ⟨0, a, rfl, rfl, Nat.le_refl _, by omega, by omega, (show _ = _ by simp)⟩
                  case round =>
                    obtain ⟨n, i, rfl, rfl, hai, hik, hn4, hN⟩ := hrel
                    have i0 : (0 : Int) ≤ (i : Int) := by omega
                    by_cases hit : i < k
                    · have hit' : (i : Int) < (k : Int) := by omega
                      have i1 : (i : Int) < (s.size : Int) := by omega
                      by_cases hn31 : n ≤ 31
                      · have hn31' : (n : Int) ≤ 31 := by omega
                        have hdi : 48 ≤ byt s i ∧ byt s i ≤ 57 := by
                          have := hD.out i hai (by omega)
                          simp only [dg, Bool.and_eq_true, decide_eq_true_eq] at this
                          exact this
                        have HNX : Hid (numCut (10 * n + (byt s i - 48)) (digs ((sg s a k).drop (i + 1 - a))) = numCut 0 (digs (sg s a k))) := by
                          have h1 := hN.out
                          have h2 := sg_drop (s := s) (i := a) (j := k) (t := i - a) (by omega) (by omega)
                          rw [h2, numCut, if_pos hn31, show a + (i - a) = i by omega, show i - a + 1 = i + 1 - a by omega] at h1
                          exact h1
                        have hbi := byt_get s i (by omega)
                        generalize byt s i = p at *
                        obtain ⟨hd1, hd2⟩ := hdi
                        have hp1 : 48 ≤ (p : Int) := by omega
                        have hp2 : (p : Int) ≤ 57 := by omega
                        go_wp2
                        go_round
                        case rel => exact ⟨10 * n + (p - 48), i + 1, by refine congrArg _ ?_; omega, by go_num, by omega, by omega, by omega, HNX.out⟩
                        case measure => simp [intOf]; omega
                      · have hn31' : ¬ (n : Int) ≤ 31 := by omega
                        have HNV : Hid (numCut 0 (digs (sg s a k)) = n) := by
                          have h1 := hN.out
                          rw [numCut_stop hn31] at h1
                          exact h1.symm
                        have HR : Hid (rdAll s = ([], [], 3)) := by
                          show _ = _
                          rw [← hRD.out]
                          refine rd_num hlt HSC.out ?_
                          rw [(okN_many (by omega) HNV.out).2]
                          simp; omega
                        have hba := byt_get s a hlt
                        generalize byt s a = q0 at *
                        by_cases h0 : (q0 : Int) = 48
                        · go_wp2
                          go_ret3
                          exact ⟨_, _, by rw [HR.out]; rfl, by rw [HR.out]; exact OwnS.nil _ _, by rw [HR.out]; exact OwnT.nil _ _, hP.out.2.2⟩
                        · have hn2 : ¬ (n : Int) < 2 := by omega
                          go_wp2
                          go_ret3
                          exact ⟨_, _, by rw [HR.out]; rfl, by rw [HR.out]; exact OwnS.nil _ _, by rw [HR.out]; exact OwnT.nil _ _, hP.out.2.2⟩
                    · obtain rfl : k = i := by omega
                      have hit' : ¬ (k : Int) < (k : Int) := by omega
                      have HNV : Hid (numCut 0 (digs (sg s a k)) = n) := by
                        have h1 := hN.out
                        rw [List.drop_eq_nil_of_le (by rw [sg_len (by omega)]; exact Nat.le_refl _)] at h1
                        exact h1.symm
                      have HOK := hid (okN_many (s := s) (a := a) (k := k) (by omega) HNV.out)
                      have hba := byt_get s a hlt
                      have HN3 := hid (fun h : okN s a k = false => show rdAll s = ([], [], 3) by rw [← hRD.out]; exact rd_num hlt HSC.out h)
                      generalize hq0 : byt s a = q0 at *
                      clear hq0
                      by_cases h0 : (q0 : Int) = 48
                      · have HR := hid (HN3.out (by rw [HOK.out.2]; simp; omega))
                        go_wp2
                        go_ret3
                        exact ⟨_, _, by rw [HR.out]; rfl, by rw [HR.out]; exact OwnS.nil _ _, by rw [HR.out]; exact OwnT.nil _ _, hP.out.2.2⟩
                      · by_cases hn2 : (n : Int) < 2
                        · have HR := hid (HN3.out (by rw [HOK.out.2]; simp; omega))
                          go_wp2
                          go_ret3
                          exact ⟨_, _, by rw [HR.out]; rfl, by rw [HR.out]; exact OwnS.nil _ _, by rw [HR.out]; exact OwnT.nil _ _, hP.out.2.2⟩
                        · by_cases hn31 : (n : Int) ≤ 31
                          · have HO : Hid (okN s a k = true ∧ nOf s a k = n) := ⟨by rw [HOK.out.2]; simp; omega, HOK.out.1⟩
                            have hn32 : ¬ 31 < (n : Int) := by omega
                            clear HOK HN3
                            have hne : ¬ (k : Int) = (s.size : Int) := by omega
                            have hkk : (k : Int) + 1 ≤ (s.size : Int) := by omega
                            have hak1 : (a : Int) ≤ (k : Int) + 1 := by omega
                            have hpc : s.extract a (k + 1) = piece s a (k + 1) := ext_piece s a (k + 1)
                            have HOS := hid (hP.out.1.below ((Below.refl wr.heap.size wr).alloc (Nat.le_refl _) (.cells #[.string (piece s a (k + 1))] 9)))
                            have HOT := hid (hP.out.2.1.below ((Below.refl wr.heap.size wr).alloc (Nat.le_refl _) (.cells #[.string (piece s a (k + 1))] 9)))
                            have HBL := hid (hP.out.2.2.alloc hP.out.2.2.size (.cells #[.string (piece s a (k + 1))] 9))

                            have HR : Hid (rd s f (k + 1) 0 (Y + n) l (T ++ [piece s a (k + 1)]) = rdAll s) := by
                              show _ = _
                              rw [← hRD.out, rd_36 hlt HSC.out HO.out.1 hkt HQ3.out, HO.out.2]
                            go_wp2_with (at_builtin; refine wpList_appT rfl _ _ rfl w.heap.size _ T (piece s a (k + 1)) ⟨wr.heap.size, 0, none⟩ rfl HOT.out rfl (segT_block (heap_alloc_new _ _)) (by omega) HBL.out.size ?_; intro v4 w4 hO4 hG4; have HO4 := hid hO4; have HS4 := hid (own_keep HOS.out hG4 (fun k e e2 => own_ne HOS.out HOT.out k e e2)); have HB4 := hid (below_grownT HBL.out HOT.out hG4); clear hO4 hG4)
                            go_roundw
                            case rel => exact ⟨l, T ++ [piece s a (k + 1)], 0, Y + n, k + 1, f, rfl, by go_num, by go_num, by omega, by omega, by omega, by omega, hl, by simp; omega, HR.out, ⟨HS4.out, HO4.out, HB4.out⟩⟩
                            case measure => simp [intOf]; omega
                          · have HR := hid (HN3.out (by rw [HOK.out.2]; simp; omega))
                            have hn32 : 31 < (n : Int) := by omega
                            go_wp2
                            go_ret3
                            exact ⟨_, _, by rw [HR.out]; rfl, by rw [HR.out]; exact OwnS.nil _ _, by rw [HR.out]; exact OwnT.nil _ _, hP.out.2.2⟩
                · have hak2 : ¬ (a : Int) < (k : Int) := by omega
                  have HO : Hid (okN s a k = true ∧ nOf s a k = 1) := okN_one hakl
                  have hne : ¬ (k : Int) = (s.size : Int) := by omega
                  have hkk : (k : Int) + 1 ≤ (s.size : Int) := by omega
                  have hak1 : (a : Int) ≤ (k : Int) + 1 := by omega
                  have hpc : s.extract a (k + 1) = piece s a (k + 1) := ext_piece s a (k + 1)
                  have HOS := hid (hP.out.1.below ((Below.refl wr.heap.size wr).alloc (Nat.le_refl _) (.cells #[.string (piece s a (k + 1))] 9)))
                  have HOT := hid (hP.out.2.1.below ((Below.refl wr.heap.size wr).alloc (Nat.le_refl _) (.cells #[.string (piece s a (k + 1))] 9)))
                  have HBL := hid (hP.out.2.2.alloc hP.out.2.2.size (.cells #[.string (piece s a (k + 1))] 9))

                  have HR : Hid (rd s f (k + 1) 0 (Y + 1) l (T ++ [piece s a (k + 1)]) = rdAll s) := by
                    show _ = _
                    rw [← hRD.out, rd_36 hlt HSC.out HO.out.1 hkt HQ3.out, HO.out.2]
                  go_wp2_with (at_builtin; refine wpList_appT rfl _ _ rfl w.heap.size _ T (piece s a (k + 1)) ⟨wr.heap.size, 0, none⟩ rfl HOT.out rfl (segT_block (heap_alloc_new _ _)) (by omega) HBL.out.size ?_; intro v4 w4 hO4 hG4; have HO4 := hid hO4; have HS4 := hid (own_keep HOS.out hG4 (fun k e e2 => own_ne HOS.out HOT.out k e e2)); have HB4 := hid (below_grownT HBL.out HOT.out hG4); clear hO4 hG4)
                  go_roundw
                  case rel => exact ⟨l, T ++ [piece s a (k + 1)], 0, Y + 1, k + 1, f, rfl, by go_num, by go_num, by omega, by omega, by omega, by omega, hl, by simp; omega, HR.out, ⟨HS4.out, HO4.out, HB4.out⟩⟩
                  case measure => simp [intOf]; omega
              · by_cases q98 : (q : Int) = 98
                · have HQ3 : Hid (byt s k = 98) := by rw [HQ.out]; show _ = _; omega
                  have h48 : 48 ≤ (q : Int) := by omega
                  have h57 : ¬ (q : Int) ≤ 57 := by omega
                  by_cases hakl : a < k
                  · have hak2 : (a : Int) < (k : Int) := by omega
                    go_wp2
                    go_loop [11, 12] (fun nv iv => ∃ n i : Nat, nv = .int .i64 n ∧ iv = .int .i64 i ∧ a ≤ i ∧ i ≤ k ∧ n ≤ 400 ∧ Hid (numCut n (digs ((sg s a k).drop (i - a))) = numCut 0 (digs (sg s a k)))) (fun _ iv => s.size - (intOf iv).toNat)
                    case atStart => exact ⟨0, a, rfl, rfl, Nat.le_refl _, by omega, by omega, (show _ = _ by simp)⟩
                    case round =>
                      obtain ⟨n, i, rfl, rfl, hai, hik, hn4, hN⟩ := hrel
                      have i0 : (0 : Int) ≤ (i : Int) := by omega
                      by_cases hit : i < k
                      · have hit' : (i : Int) < (k : Int) := by omega
                        have i1 : (i : Int) < (s.size : Int) := by omega
                        by_cases hn31 : n ≤ 31
                        · have hn31' : (n : Int) ≤ 31 := by omega
                          have hdi : 48 ≤ byt s i ∧ byt s i ≤ 57 := by
                            have := hD.out i hai (by omega)
                            simp only [dg, Bool.and_eq_true, decide_eq_true_eq] at this
                            exact this
                          have HNX : Hid (numCut (10 * n + (byt s i - 48)) (digs ((sg s a k).drop (i + 1 - a))) = numCut 0 (digs (sg s a k))) := by
                            have h1 := hN.out
                            have h2 := sg_drop (s := s) (i := a) (j := k) (t := i - a) (by omega) (by omega)
                            rw [h2, numCut, if_pos hn31, show a + (i - a) = i by omega, show i - a + 1 = i + 1 - a by omega] at h1
                            exact h1
                          have hbi := byt_get s i (by omega)
                          generalize byt s i = p at *
                          obtain ⟨hd1, hd2⟩ := hdi
                          have hp1 : 48 ≤ (p : Int) := by omega
                          have hp2 : (p : Int) ≤ 57 := by omega
                          go_wp2
                          go_round
                          case rel => exact ⟨10 * n + (p - 48), i + 1, by refine congrArg _ ?_; omega, by go_num, by omega, by omega, by omega, HNX.out⟩
                          case measure => simp [intOf]; omega
                        · have hn31' : ¬ (n : Int) ≤ 31 := by omega
                          have HNV : Hid (numCut 0 (digs (sg s a k)) = n) := by
                            have h1 := hN.out
                            rw [numCut_stop hn31] at h1
                            exact h1.symm
                          have HR : Hid (rdAll s = ([], [], 3)) := by
                            show _ = _
                            rw [← hRD.out]
                            refine rd_num hlt HSC.out ?_
                            rw [(okN_many (by omega) HNV.out).2]
                            simp; omega
                          have hba := byt_get s a hlt
                          generalize byt s a = q0 at *
                          by_cases h0 : (q0 : Int) = 48
                          · go_wp2
                            go_ret3
                            exact ⟨_, _, by rw [HR.out]; rfl, by rw [HR.out]; exact OwnS.nil _ _, by rw [HR.out]; exact OwnT.nil _ _, hP.out.2.2⟩
                          · have hn2 : ¬ (n : Int) < 2 := by omega
                            go_wp2
                            go_ret3
                            exact ⟨_, _, by rw [HR.out]; rfl, by rw [HR.out]; exact OwnS.nil _ _, by rw [HR.out]; exact OwnT.nil _ _, hP.out.2.2⟩
                      · obtain rfl : k = i := by omega
                        have hit' : ¬ (k : Int) < (k : Int) := by omega
                        have HNV : Hid (numCut 0 (digs (sg s a k)) = n) := by
                          have h1 := hN.out
                          rw [List.drop_eq_nil_of_le (by rw [sg_len (by omega)]; exact Nat.le_refl _)] at h1
                          exact h1.symm
                        have HOK := hid (okN_many (s := s) (a := a) (k := k) (by omega) HNV.out)
                        have hba := byt_get s a hlt
                        have HN3 := hid (fun h : okN s a k = false => show rdAll s = ([], [], 3) by rw [← hRD.out]; exact rd_num hlt HSC.out h)
                        generalize hq0 : byt s a = q0 at *
                        clear hq0
                        by_cases h0 : (q0 : Int) = 48
                        · have HR := hid (HN3.out (by rw [HOK.out.2]; simp; omega))
                          go_wp2
                          go_ret3
                          exact ⟨_, _, by rw [HR.out]; rfl, by rw [HR.out]; exact OwnS.nil _ _, by rw [HR.out]; exact OwnT.nil _ _, hP.out.2.2⟩
                        · by_cases hn2 : (n : Int) < 2
                          · have HR := hid (HN3.out (by rw [HOK.out.2]; simp; omega))
                            go_wp2
                            go_ret3
                            exact ⟨_, _, by rw [HR.out]; rfl, by rw [HR.out]; exact OwnS.nil _ _, by rw [HR.out]; exact OwnT.nil _ _, hP.out.2.2⟩
                          · by_cases hn31 : (n : Int) ≤ 31
                            · have HO : Hid (okN s a k = true ∧ nOf s a k = n) := ⟨by rw [HOK.out.2]; simp; omega, HOK.out.1⟩
                              have hn32 : ¬ 31 < (n : Int) := by omega
                              clear HOK HN3
                              have hne : ¬ (k : Int) = (s.size : Int) := by omega
                              have hkk : (k : Int) + 1 ≤ (s.size : Int) := by omega
                              have hak1 : (a : Int) ≤ (k : Int) + 1 := by omega
                              have hpc : s.extract a (k + 1) = piece s a (k + 1) := ext_piece s a (k + 1)
                              have HOS := hid (hP.out.1.below ((Below.refl wr.heap.size wr).alloc (Nat.le_refl _) (.cells #[.string (piece s a (k + 1))] 9)))
                              have HOT := hid (hP.out.2.1.below ((Below.refl wr.heap.size wr).alloc (Nat.le_refl _) (.cells #[.string (piece s a (k + 1))] 9)))
                              have HBL := hid (hP.out.2.2.alloc hP.out.2.2.size (.cells #[.string (piece s a (k + 1))] 9))

                              have HR : Hid (rd s f (k + 1) (X + n) Y l (T ++ [piece s a (k + 1)]) = rdAll s) := by
                                show _ = _
                                rw [← hRD.out, rd_98 hlt HSC.out HO.out.1 hkt HQ3.out, HO.out.2]
                              go_wp2_with (at_builtin; refine wpList_appT rfl _ _ rfl w.heap.size _ T (piece s a (k + 1)) ⟨wr.heap.size, 0, none⟩ rfl HOT.out rfl (segT_block (heap_alloc_new _ _)) (by omega) HBL.out.size ?_; intro v4 w4 hO4 hG4; have HO4 := hid hO4; have HS4 := hid (own_keep HOS.out hG4 (fun k e e2 => own_ne HOS.out HOT.out k e e2)); have HB4 := hid (below_grownT HBL.out HOT.out hG4); clear hO4 hG4)
                              go_roundw
                              case rel => exact ⟨l, T ++ [piece s a (k + 1)], X + n, Y, k + 1, f, by go_num, rfl, by go_num, by omega, by omega, by omega, by omega, hl, by simp; omega, HR.out, ⟨HS4.out, HO4.out, HB4.out⟩⟩
                              case measure => simp [intOf]; omega
                            · have HR := hid (HN3.out (by rw [HOK.out.2]; simp; omega))
                              have hn32 : 31 < (n : Int) := by omega
                              go_wp2
                              go_ret3
                              exact ⟨_, _, by rw [HR.out]; rfl, by rw [HR.out]; exact OwnS.nil _ _, by rw [HR.out]; exact OwnT.nil _ _, hP.out.2.2⟩
                  · have hak2 : ¬ (a : Int) < (k : Int) := by omega
                    have HO : Hid (okN s a k = true ∧ nOf s a k = 1) := okN_one hakl
                    have hne : ¬ (k : Int) = (s.size : Int) := by omega
                    have hkk : (k : Int) + 1 ≤ (s.size : Int) := by omega
                    have hak1 : (a : Int) ≤ (k : Int) + 1 := by omega
                    have hpc : s.extract a (k + 1) = piece s a (k + 1) := ext_piece s a (k + 1)
                    have HOS := hid (hP.out.1.below ((Below.refl wr.heap.size wr).alloc (Nat.le_refl _) (.cells #[.string (piece s a (k + 1))] 9)))
                    have HOT := hid (hP.out.2.1.below ((Below.refl wr.heap.size wr).alloc (Nat.le_refl _) (.cells #[.string (piece s a (k + 1))] 9)))
                    have HBL := hid (hP.out.2.2.alloc hP.out.2.2.size (.cells #[.string (piece s a (k + 1))] 9))

                    have HR : Hid (rd s f (k + 1) (X + 1) Y l (T ++ [piece s a (k + 1)]) = rdAll s) := by
                      show _ = _
                      rw [← hRD.out, rd_98 hlt HSC.out HO.out.1 hkt HQ3.out, HO.out.2]
                    go_wp2_with (at_builtin; refine wpList_appT rfl _ _ rfl w.heap.size _ T (piece s a (k + 1)) ⟨wr.heap.size, 0, none⟩ rfl HOT.out rfl (segT_block (heap_alloc_new _ _)) (by omega) HBL.out.size ?_; intro v4 w4 hO4 hG4; have HO4 := hid hO4; have HS4 := hid (own_keep HOS.out hG4 (fun k e e2 => own_ne HOS.out HOT.out k e e2)); have HB4 := hid (below_grownT HBL.out HOT.out hG4); clear hO4 hG4)
                    go_roundw
                    case rel => exact ⟨l, T ++ [piece s a (k + 1)], X + 1, Y, k + 1, f, by go_num, rfl, by go_num, by omega, by omega, by omega, by omega, hl, by simp; omega, HR.out, ⟨HS4.out, HO4.out, HB4.out⟩⟩
                    case measure => simp [intOf]; omega
                · by_cases q111 : (q : Int) = 111
                  · have HQ3 : Hid (byt s k = 111) := by rw [HQ.out]; show _ = _; omega
                    have h48 : 48 ≤ (q : Int) := by omega
                    have h57 : ¬ (q : Int) ≤ 57 := by omega
                    by_cases hakl : a < k
                    · have hak2 : (a : Int) < (k : Int) := by omega
                      go_wp2
                      go_loop [11, 12] (fun nv iv => ∃ n i : Nat, nv = .int .i64 n ∧ iv = .int .i64 i ∧ a ≤ i ∧ i ≤ k ∧ n ≤ 400 ∧ Hid (numCut n (digs ((sg s a k).drop (i - a))) = numCut 0 (digs (sg s a k)))) (fun _ iv => s.size - (intOf iv).toNat)
                      case atStart => exact ⟨0, a, rfl, rfl, Nat.le_refl _, by omega, by omega, (show _ = _ by simp)⟩
                      case round =>
                        obtain ⟨n, i, rfl, rfl, hai, hik, hn4, hN⟩ := hrel
                        have i0 : (0 : Int) ≤ (i : Int) := by omega
                        by_cases hit : i < k
                        · have hit' : (i : Int) < (k : Int) := by omega
                          have i1 : (i : Int) < (s.size : Int) := by omega
                          by_cases hn31 : n ≤ 31
                          · have hn31' : (n : Int) ≤ 31 := by omega
                            have hdi : 48 ≤ byt s i ∧ byt s i ≤ 57 := by
                              have := hD.out i hai (by omega)
                              simp only [dg, Bool.and_eq_true, decide_eq_true_eq] at this
                              exact this
                            have HNX : Hid (numCut (10 * n + (byt s i - 48)) (digs ((sg s a k).drop (i + 1 - a))) = numCut 0 (digs (sg s a k))) := by
                              have h1 := hN.out
                              have h2 := sg_drop (s := s) (i := a) (j := k) (t := i - a) (by omega) (by omega)
                              rw [h2, numCut, if_pos hn31, show a + (i - a) = i by omega, show i - a + 1 = i + 1 - a by omega] at h1
                              exact h1
                            have hbi := byt_get s i (by omega)
                            generalize byt s i = p at *
                            obtain ⟨hd1, hd2⟩ := hdi
                            have hp1 : 48 ≤ (p : Int) := by omega
                            have hp2 : (p : Int) ≤ 57 := by omega
                            go_wp2
                            go_round
                            case rel => exact ⟨10 * n + (p - 48), i + 1, by refine congrArg _ ?_; omega, by go_num, by omega, by omega, by omega, HNX.out⟩
                            case measure => simp [intOf]; omega
                          · have hn31' : ¬ (n : Int) ≤ 31 := by omega
                            have HNV : Hid (numCut 0 (digs (sg s a k)) = n) := by
                              have h1 := hN.out
                              rw [numCut_stop hn31] at h1
                              exact h1.symm
                            have HR : Hid (rdAll s = ([], [], 3)) := by
                              show _ = _
                              rw [← hRD.out]
                              refine rd_num hlt HSC.out ?_
                              rw [(okN_many (by omega) HNV.out).2]
                              simp; omega
                            have hba := byt_get s a hlt
                            generalize byt s a = q0 at *
                            by_cases h0 : (q0 : Int) = 48
                            · go_wp2
                              go_ret3
                              exact ⟨_, _, by rw [HR.out]; rfl, by rw [HR.out]; exact OwnS.nil _ _, by rw [HR.out]; exact OwnT.nil _ _, hP.out.2.2⟩
                            · have hn2 : ¬ (n : Int) < 2 := by omega
                              go_wp2
                              go_ret3
                              exact ⟨_, _, by rw [HR.out]; rfl, by rw [HR.out]; exact OwnS.nil _ _, by rw [HR.out]; exact OwnT.nil _ _, hP.out.2.2⟩
                        · obtain rfl : k = i := by omega
                          have hit' : ¬ (k : Int) < (k : Int) := by omega
                          have HNV : Hid (numCut 0 (digs (sg s a k)) = n) := by
                            have h1 := hN.out
                            rw [List.drop_eq_nil_of_le (by rw [sg_len (by omega)]; exact Nat.le_refl _)] at h1
                            exact h1.symm
                          have HOK := hid (okN_many (s := s) (a := a) (k := k) (by omega) HNV.out)
                          have hba := byt_get s a hlt
                          have HN3 := hid (fun h : okN s a k = false => show rdAll s = ([], [], 3) by rw [← hRD.out]; exact rd_num hlt HSC.out h)
                          generalize hq0 : byt s a = q0 at *
                          clear hq0
                          by_cases h0 : (q0 : Int) = 48
                          · have HR := hid (HN3.out (by rw [HOK.out.2]; simp; omega))
                            go_wp2
                            go_ret3
                            exact ⟨_, _, by rw [HR.out]; rfl, by rw [HR.out]; exact OwnS.nil _ _, by rw [HR.out]; exact OwnT.nil _ _, hP.out.2.2⟩
                          · by_cases hn2 : (n : Int) < 2
                            · have HR := hid (HN3.out (by rw [HOK.out.2]; simp; omega))
                              go_wp2
                              go_ret3
                              exact ⟨_, _, by rw [HR.out]; rfl, by rw [HR.out]; exact OwnS.nil _ _, by rw [HR.out]; exact OwnT.nil _ _, hP.out.2.2⟩
                            · by_cases hn31 : (n : Int) ≤ 31
                              · have HO : Hid (okN s a k = true ∧ nOf s a k = n) := ⟨by rw [HOK.out.2]; simp; omega, HOK.out.1⟩
                                have hn32 : ¬ 31 < (n : Int) := by omega
                                clear HOK HN3
                                have hne : ¬ (k : Int) = (s.size : Int) := by omega
                                have hkk : (k : Int) + 1 ≤ (s.size : Int) := by omega
                                have hak1 : (a : Int) ≤ (k : Int) + 1 := by omega
                                have hpc : s.extract a (k + 1) = piece s a (k + 1) := ext_piece s a (k + 1)
                                have HOS := hid (hP.out.1.below ((Below.refl wr.heap.size wr).alloc (Nat.le_refl _) (.cells #[.string (piece s a (k + 1))] 9)))
                                have HOT := hid (hP.out.2.1.below ((Below.refl wr.heap.size wr).alloc (Nat.le_refl _) (.cells #[.string (piece s a (k + 1))] 9)))
                                have HBL := hid (hP.out.2.2.alloc hP.out.2.2.size (.cells #[.string (piece s a (k + 1))] 9))

                                have HRY := hid (fun h : room X Y l.length n = true => show rd s f (k + 1) (X + n) Y (l ++ runC X Y n) (T ++ [piece s a (k + 1)]) = rdAll s by
                                  rw [← hRD.out, rd_111 hlt HSC.out HO.out.1 hkt HQ3.out (by rw [HO.out.2]; exact h), HO.out.2])
                                have HRN := hid (fun h : room X Y l.length n = false => show rdAll s = ([], [], 4) by
                                  rw [← hRD.out, rd_111n hlt HSC.out HO.out.1 hkt HQ3.out (by rw [HO.out.2]; exact h)])
                                have hn : 1 ≤ n ∧ n ≤ 31 := by omega
                                go_wp2_with (at_builtin; refine wpList_appT rfl _ _ rfl w.heap.size _ T (piece s a (k + 1)) ⟨wr.heap.size, 0, none⟩ rfl HOT.out rfl (segT_block (heap_alloc_new _ _)) (by omega) HBL.out.size ?_; intro v4 w4 hO4 hG4; have HO4 := hid hO4; have HS4 := hid (own_keep HOS.out hG4 (fun k e e2 => own_ne HOS.out HOT.out k e e2)); have HB4 := hid (below_grownT HBL.out HOT.out hG4); clear hO4 hG4)
                                clear HOS HOT HBL hbt
                                go_loopw [5, 7, 11] (fun lv xv nv w2 => ∃ m : Nat, m ≤ n ∧ xv = .int .i64 ((X + m : Nat) : Int) ∧ nv = .int .i64 ((n : Int) - (m : Int)) ∧ (0 < m → room X Y l.length m = true) ∧ Hid (OwnS w2 w.heap.size lv (l ++ runC X Y m) ∧ OwnT w2 w.heap.size v4 (T ++ [piece s a (k + 1)]) ∧ Below w.heap.size w w2)) (fun _ _ nv _ => (intOf nv).toNat)
                                case atStart => exact ⟨0, Nat.zero_le _, by go_num, by go_num, fun h => absurd h (by omega), ⟨by simpa [runC] using HS4.out, HO4.out, HB4.out⟩⟩
                                case round =>
                                  rename World => w5
                                  obtain ⟨m, hm, rfl, rfl, hrm, hP5⟩ := hrel
                                  by_cases hmn : m < n
                                  · have hmn' : 0 < (n : Int) - (m : Int) := by omega
                                    obtain ⟨av, cv, hlv, hSv⟩ := hP5.out.1.form
                                    have hll : (l ++ runC X Y m).length = l.length + m := by simp [runC_len]
                                    rw [hll] at hlv
                                    clear hSv hll
                                    subst hlv
                                    by_cases hx30 : X + m ≤ 30
                                    · by_cases hy30 : Y ≤ 30
                                      · by_cases hl120 : l.length + m = 120
                                        · have HR := hid (HRN.out (by simp [room]; omega))
                                          have h1 : ¬ 30 < ((X + m : Nat) : Int) := by omega
                                          have h2 : ¬ 30 < (Y : Int) := by omega
                                          have h3 : ((l.length + m : Nat) : Int) = 120 := by omega
                                          go_wp2
                                          go_ret3
                                          exact ⟨_, _, by rw [HR.out]; rfl, by rw [HR.out]; exact OwnS.nil _ _, by rw [HR.out]; exact OwnT.nil _ _, hP5.out.2.2⟩
                                        · have h1 : ¬ 30 < ((X + m : Nat) : Int) := by omega
                                          have h2 : ¬ 30 < (Y : Int) := by omega
                                          have h3 : ¬ ((l.length + m : Nat) : Int) = 120 := by omega
                                          have h3a : ¬ (l.length : Int) + (m : Int) = 120 := by omega
                                          have h3b : ((l.length : Int) + (m : Int) == 120) = false := by simp; omega
                                          have h3c : (((l.length + m : Nat) : Int) == 120) = false := by simp; omega
                                          have hlb : l.length + m ≤ 120 := by
                                            by_cases e : 0 < m
                                            · have := hrm e
                                              simp [room] at this; omega
                                            · omega
                                          have HS5 := hid (hP5.out.1.below ((Below.refl w5.heap.size w5).alloc (Nat.le_refl _) (.cells #[.int .i64 ((X + m : Nat) : Int), .int .i64 (Y : Int)] 33)))
                                          have HT5 := hid (hP5.out.2.1.below ((Below.refl w5.heap.size w5).alloc (Nat.le_refl _) (.cells #[.int .i64 ((X + m : Nat) : Int), .int .i64 (Y : Int)] 33)))
                                          have HB5 := hid (hP5.out.2.2.alloc hP5.out.2.2.size (.cells #[.int .i64 ((X + m : Nat) : Int), .int .i64 (Y : Int)] 33))
                                          have HRS := hid (runC_succ X Y m)
                                          go_wp2_with (at_builtin; refine wpList_app' rfl _ _ rfl w.heap.size _ (l ++ runC X Y m) [(((X + m : Nat) : Int), (Y : Int))] (some ⟨w5.heap.size, 0, none⟩) 1 1 rfl HS5.out rfl rfl (seg_block (heap_alloc_new _ _)) (by intro h; cases h) (by simp [runC_len]; omega) HB5.out.size ?_; intro v6 w6 hO6 hG6)
                                          go_roundw
                                          case rel => exact ⟨m + 1, by omega, by go_num, by go_num, fun _ => by simp [room]; omega, ⟨by rw [HRS.out, ← List.append_assoc]; exact hO6, ownT_keep HT5.out hG6 (fun k e e2 => own_ne HS5.out HT5.out k e2 e), below_grown HB5.out HS5.out hG6⟩⟩
                                          case measure => simp [intOf]; omega
                                      · have HR := hid (HRN.out (by simp [room]; omega))
                                        have h1 : ¬ 30 < ((X + m : Nat) : Int) := by omega
                                        have h2 : 30 < (Y : Int) := by omega
                                        go_wp2
                                        go_ret3
                                        exact ⟨_, _, by rw [HR.out]; rfl, by rw [HR.out]; exact OwnS.nil _ _, by rw [HR.out]; exact OwnT.nil _ _, hP5.out.2.2⟩
                                    · have HR := hid (HRN.out (by simp [room]; omega))
                                      have h1 : 30 < ((X + m : Nat) : Int) := by omega
                                      go_wp2
                                      go_ret3
                                      exact ⟨_, _, by rw [HR.out]; rfl, by rw [HR.out]; exact OwnS.nil _ _, by rw [HR.out]; exact OwnT.nil _ _, hP5.out.2.2⟩
                                  · obtain rfl : n = m := by omega
                                    have hmn' : ¬ 0 < (n : Int) - (n : Int) := by omega
                                    have hrn := hrm (by omega)
                                    have HR := hid (HRY.out hrn)
                                    have hlb : l.length + n ≤ 120 := by simp [room] at hrn; omega
                                    go_wp2
                                    go_roundw
                                    case rel => exact ⟨l ++ runC X Y n, T ++ [piece s a (k + 1)], X + n, Y, k + 1, f, rfl, rfl, by go_num, by omega, by omega, by omega, by omega, by simp [runC_len]; omega, by simp; omega, HR.out, hP5.out⟩
                                    case measure => simp [intOf]; omega
                              · have HR := hid (HN3.out (by rw [HOK.out.2]; simp; omega))
                                have hn32 : 31 < (n : Int) := by omega
                                go_wp2
                                go_ret3
                                exact ⟨_, _, by rw [HR.out]; rfl, by rw [HR.out]; exact OwnS.nil _ _, by rw [HR.out]; exact OwnT.nil _ _, hP.out.2.2⟩
                    · have hak2 : ¬ (a : Int) < (k : Int) := by omega
                      have HO : Hid (okN s a k = true ∧ nOf s a k = 1) := okN_one hakl
                      have hne : ¬ (k : Int) = (s.size : Int) := by omega
                      have hkk : (k : Int) + 1 ≤ (s.size : Int) := by omega
                      have hak1 : (a : Int) ≤ (k : Int) + 1 := by omega
                      have hpc : s.extract a (k + 1) = piece s a (k + 1) := ext_piece s a (k + 1)
                      have HOS := hid (hP.out.1.below ((Below.refl wr.heap.size wr).alloc (Nat.le_refl _) (.cells #[.string (piece s a (k + 1))] 9)))
                      have HOT := hid (hP.out.2.1.below ((Below.refl wr.heap.size wr).alloc (Nat.le_refl _) (.cells #[.string (piece s a (k + 1))] 9)))
                      have HBL := hid (hP.out.2.2.alloc hP.out.2.2.size (.cells #[.string (piece s a (k + 1))] 9))

                      have HRY := hid (fun h : room X Y l.length 1 = true => show rd s f (k + 1) (X + 1) Y (l ++ runC X Y 1) (T ++ [piece s a (k + 1)]) = rdAll s by
                        rw [← hRD.out, rd_111 hlt HSC.out HO.out.1 hkt HQ3.out (by rw [HO.out.2]; exact h), HO.out.2])
                      have HRN := hid (fun h : room X Y l.length 1 = false => show rdAll s = ([], [], 4) by
                        rw [← hRD.out, rd_111n hlt HSC.out HO.out.1 hkt HQ3.out (by rw [HO.out.2]; exact h)])
                      have h1 : 1 ≤ 1 ∧ 1 ≤ 31 := by omega
                      go_wp2_with (at_builtin; refine wpList_appT rfl _ _ rfl w.heap.size _ T (piece s a (k + 1)) ⟨wr.heap.size, 0, none⟩ rfl HOT.out rfl (segT_block (heap_alloc_new _ _)) (by omega) HBL.out.size ?_; intro v4 w4 hO4 hG4; have HO4 := hid hO4; have HS4 := hid (own_keep HOS.out hG4 (fun k e e2 => own_ne HOS.out HOT.out k e e2)); have HB4 := hid (below_grownT HBL.out HOT.out hG4); clear hO4 hG4)
                      clear HOS HOT HBL hbt
                      go_loopw [5, 7, 11] (fun lv xv nv w2 => ∃ m : Nat, m ≤ 1 ∧ xv = .int .i64 ((X + m : Nat) : Int) ∧ nv = .int .i64 ((1 : Int) - (m : Int)) ∧ (0 < m → room X Y l.length m = true) ∧ Hid (OwnS w2 w.heap.size lv (l ++ runC X Y m) ∧ OwnT w2 w.heap.size v4 (T ++ [piece s a (k + 1)]) ∧ Below w.heap.size w w2)) (fun _ _ nv _ => (intOf nv).toNat)
                      case atStart => exact ⟨0, Nat.zero_le _, by go_num, by go_num, fun h => absurd h (by omega), ⟨by simpa [runC] using HS4.out, HO4.out, HB4.out⟩⟩
                      case round =>
                        rename World => w5
                        obtain ⟨m, hm, rfl, rfl, hrm, hP5⟩ := hrel
                        by_cases hmn : m < 1
                        · have hmn' : 0 < (1 : Int) - (m : Int) := by omega
                          obtain ⟨av, cv, hlv, hSv⟩ := hP5.out.1.form
                          have hll : (l ++ runC X Y m).length = l.length + m := by simp [runC_len]
                          rw [hll] at hlv
                          clear hSv hll
                          subst hlv
                          by_cases hx30 : X + m ≤ 30
                          · by_cases hy30 : Y ≤ 30
                            · by_cases hl120 : l.length + m = 120
                              · have HR := hid (HRN.out (by simp [room]; omega))
                                have h1 : ¬ 30 < ((X + m : Nat) : Int) := by omega
                                have h2 : ¬ 30 < (Y : Int) := by omega
                                have h3 : ((l.length + m : Nat) : Int) = 120 := by omega
                                go_wp2
                                go_ret3
                                exact ⟨_, _, by rw [HR.out]; rfl, by rw [HR.out]; exact OwnS.nil _ _, by rw [HR.out]; exact OwnT.nil _ _, hP5.out.2.2⟩
                              · have h1 : ¬ 30 < ((X + m : Nat) : Int) := by omega
                                have h2 : ¬ 30 < (Y : Int) := by omega
                                have h3 : ¬ ((l.length + m : Nat) : Int) = 120 := by omega
                                have h3a : ¬ (l.length : Int) + (m : Int) = 120 := by omega
                                have h3b : ((l.length : Int) + (m : Int) == 120) = false := by simp; omega
                                have h3c : (((l.length + m : Nat) : Int) == 120) = false := by simp; omega
                                have hlb : l.length + m ≤ 120 := by
                                  by_cases e : 0 < m
                                  · have := hrm e
                                    simp [room] at this; omega
                                  · omega
                                have HS5 := hid (hP5.out.1.below ((Below.refl w5.heap.size w5).alloc (Nat.le_refl _) (.cells #[.int .i64 ((X + m : Nat) : Int), .int .i64 (Y : Int)] 33)))
                                have HT5 := hid (hP5.out.2.1.below ((Below.refl w5.heap.size w5).alloc (Nat.le_refl _) (.cells #[.int .i64 ((X + m : Nat) : Int), .int .i64 (Y : Int)] 33)))
                                have HB5 := hid (hP5.out.2.2.alloc hP5.out.2.2.size (.cells #[.int .i64 ((X + m : Nat) : Int), .int .i64 (Y : Int)] 33))
                                have HRS := hid (runC_succ X Y m)
                                go_wp2_with (at_builtin; refine wpList_app' rfl _ _ rfl w.heap.size _ (l ++ runC X Y m) [(((X + m : Nat) : Int), (Y : Int))] (some ⟨w5.heap.size, 0, none⟩) 1 1 rfl HS5.out rfl rfl (seg_block (heap_alloc_new _ _)) (by intro h; cases h) (by simp [runC_len]; omega) HB5.out.size ?_; intro v6 w6 hO6 hG6)
                                go_roundw
                                case rel => exact ⟨m + 1, by omega, by go_num, by go_num, fun _ => by simp [room]; omega, ⟨by rw [HRS.out, ← List.append_assoc]; exact hO6, ownT_keep HT5.out hG6 (fun k e e2 => own_ne HS5.out HT5.out k e2 e), below_grown HB5.out HS5.out hG6⟩⟩
                                case measure => simp [intOf]; omega
                            · have HR := hid (HRN.out (by simp [room]; omega))
                              have h1 : ¬ 30 < ((X + m : Nat) : Int) := by omega
                              have h2 : 30 < (Y : Int) := by omega
                              go_wp2
                              go_ret3
                              exact ⟨_, _, by rw [HR.out]; rfl, by rw [HR.out]; exact OwnS.nil _ _, by rw [HR.out]; exact OwnT.nil _ _, hP5.out.2.2⟩
                          · have HR := hid (HRN.out (by simp [room]; omega))
                            have h1 : 30 < ((X + m : Nat) : Int) := by omega
                            go_wp2
                            go_ret3
                            exact ⟨_, _, by rw [HR.out]; rfl, by rw [HR.out]; exact OwnS.nil _ _, by rw [HR.out]; exact OwnT.nil _ _, hP5.out.2.2⟩
                        · obtain rfl : 1 = m := by omega
                          have hmn' : ¬ 0 < (1 : Int) - (1 : Int) := by omega
                          have hrn := hrm (by omega)
                          have HR := hid (HRY.out hrn)
                          have hlb : l.length + 1 ≤ 120 := by simp [room] at hrn; omega
                          go_wp2
                          go_roundw
                          case rel => exact ⟨l ++ runC X Y 1, T ++ [piece s a (k + 1)], X + 1, Y, k + 1, f, rfl, rfl, by go_num, by omega, by omega, by omega, by omega, by simp [runC_len]; omega, by simp; omega, HR.out, hP5.out⟩
                          case measure => simp [intOf]; omega
                  · have HQ1 : Hid (¬ byt s k = 33 ∧ ¬ byt s k = 36 ∧ ¬ byt s k = 98 ∧ ¬ byt s k = 111) := by rw [HQ.out]; refine ⟨?_, ?_, ?_, ?_⟩ <;> omega
                    by_cases h48 : 48 ≤ (q : Int)
                    · have h57 : ¬ (q : Int) ≤ 57 := by omega
                      by_cases hakl : a < k
                      · have hak2 : (a : Int) < (k : Int) := by omega
                        go_wp2
                        go_loop [11, 12] (fun nv iv => ∃ n i : Nat, nv = .int .i64 n ∧ iv = .int .i64 i ∧ a ≤ i ∧ i ≤ k ∧ n ≤ 400 ∧ Hid (numCut n (digs ((sg s a k).drop (i - a))) = numCut 0 (digs (sg s a k)))) (fun _ iv => s.size - (intOf iv).toNat)
                        case atStart => exact ⟨0, a, rfl, rfl, Nat.le_refl _, by omega, by omega, (show _ = _ by simp)⟩
                        case round =>
                          obtain ⟨n, i, rfl, rfl, hai, hik, hn4, hN⟩ := hrel
                          have i0 : (0 : Int) ≤ (i : Int) := by omega
                          by_cases hit : i < k
                          · have hit' : (i : Int) < (k : Int) := by omega
                            have i1 : (i : Int) < (s.size : Int) := by omega
                            by_cases hn31 : n ≤ 31
                            · have hn31' : (n : Int) ≤ 31 := by omega
                              have hdi : 48 ≤ byt s i ∧ byt s i ≤ 57 := by
                                have := hD.out i hai (by omega)
                                simp only [dg, Bool.and_eq_true, decide_eq_true_eq] at this
                                exact this
                              have HNX : Hid (numCut (10 * n + (byt s i - 48)) (digs ((sg s a k).drop (i + 1 - a))) = numCut 0 (digs (sg s a k))) := by
                                have h1 := hN.out
                                have h2 := sg_drop (s := s) (i := a) (j := k) (t := i - a) (by omega) (by omega)
                                rw [h2, numCut, if_pos hn31, show a + (i - a) = i by omega, show i - a + 1 = i + 1 - a by omega] at h1
                                exact h1
                              have hbi := byt_get s i (by omega)
                              generalize byt s i = p at *
                              obtain ⟨hd1, hd2⟩ := hdi
                              have hp1 : 48 ≤ (p : Int) := by omega
                              have hp2 : (p : Int) ≤ 57 := by omega
                              go_wp2
                              go_round
                              case rel => exact ⟨10 * n + (p - 48), i + 1, by refine congrArg _ ?_; omega, by go_num, by omega, by omega, by omega, HNX.out⟩
                              case measure => simp [intOf]; omega
                            · have hn31' : ¬ (n : Int) ≤ 31 := by omega
                              have HNV : Hid (numCut 0 (digs (sg s a k)) = n) := by
                                have h1 := hN.out
                                rw [numCut_stop hn31] at h1
                                exact h1.symm
                              have HR : Hid (rdAll s = ([], [], 3)) := by
                                show _ = _
                                rw [← hRD.out]
                                refine rd_num hlt HSC.out ?_
                                rw [(okN_many (by omega) HNV.out).2]
                                simp; omega
                              have hba := byt_get s a hlt
                              generalize byt s a = q0 at *
                              by_cases h0 : (q0 : Int) = 48
                              · go_wp2
                                go_ret3
                                exact ⟨_, _, by rw [HR.out]; rfl, by rw [HR.out]; exact OwnS.nil _ _, by rw [HR.out]; exact OwnT.nil _ _, hP.out.2.2⟩
                              · have hn2 : ¬ (n : Int) < 2 := by omega
                                go_wp2
                                go_ret3
                                exact ⟨_, _, by rw [HR.out]; rfl, by rw [HR.out]; exact OwnS.nil _ _, by rw [HR.out]; exact OwnT.nil _ _, hP.out.2.2⟩
                          · obtain rfl : k = i := by omega
                            have hit' : ¬ (k : Int) < (k : Int) := by omega
                            have HNV : Hid (numCut 0 (digs (sg s a k)) = n) := by
                              have h1 := hN.out
                              rw [List.drop_eq_nil_of_le (by rw [sg_len (by omega)]; exact Nat.le_refl _)] at h1
                              exact h1.symm
                            have HOK := hid (okN_many (s := s) (a := a) (k := k) (by omega) HNV.out)
                            have hba := byt_get s a hlt
                            have HN3 := hid (fun h : okN s a k = false => show rdAll s = ([], [], 3) by rw [← hRD.out]; exact rd_num hlt HSC.out h)
                            generalize hq0 : byt s a = q0 at *
                            clear hq0
                            by_cases h0 : (q0 : Int) = 48
                            · have HR := hid (HN3.out (by rw [HOK.out.2]; simp; omega))
                              go_wp2
                              go_ret3
                              exact ⟨_, _, by rw [HR.out]; rfl, by rw [HR.out]; exact OwnS.nil _ _, by rw [HR.out]; exact OwnT.nil _ _, hP.out.2.2⟩
                            · by_cases hn2 : (n : Int) < 2
                              · have HR := hid (HN3.out (by rw [HOK.out.2]; simp; omega))
                                go_wp2
                                go_ret3
                                exact ⟨_, _, by rw [HR.out]; rfl, by rw [HR.out]; exact OwnS.nil _ _, by rw [HR.out]; exact OwnT.nil _ _, hP.out.2.2⟩
                              · by_cases hn31 : (n : Int) ≤ 31
                                · have HO : Hid (okN s a k = true ∧ nOf s a k = n) := ⟨by rw [HOK.out.2]; simp; omega, HOK.out.1⟩
                                  have hn32 : ¬ 31 < (n : Int) := by omega
                                  clear HOK HN3
                                  have hne : ¬ (k : Int) = (s.size : Int) := by omega
                                  have hkk : (k : Int) + 1 ≤ (s.size : Int) := by omega
                                  have hak1 : (a : Int) ≤ (k : Int) + 1 := by omega
                                  have hpc : s.extract a (k + 1) = piece s a (k + 1) := ext_piece s a (k + 1)
                                  have HOS := hid (hP.out.1.below ((Below.refl wr.heap.size wr).alloc (Nat.le_refl _) (.cells #[.string (piece s a (k + 1))] 9)))
                                  have HOT := hid (hP.out.2.1.below ((Below.refl wr.heap.size wr).alloc (Nat.le_refl _) (.cells #[.string (piece s a (k + 1))] 9)))
                                  have HBL := hid (hP.out.2.2.alloc hP.out.2.2.size (.cells #[.string (piece s a (k + 1))] 9))

                                  have HR : Hid (rdAll s = ([], [], 1)) := by
                                    show _ = _
                                    rw [← hRD.out]
                                    exact rd_else hlt HSC.out HO.out.1 hkt HQ1.out.1 HQ1.out.2.1 HQ1.out.2.2.1 HQ1.out.2.2.2
                                  go_wp2_with (at_builtin; refine wpList_appT rfl _ _ rfl w.heap.size _ T (piece s a (k + 1)) ⟨wr.heap.size, 0, none⟩ rfl HOT.out rfl (segT_block (heap_alloc_new _ _)) (by omega) HBL.out.size ?_; intro v4 w4 hO4 hG4; have HO4 := hid hO4; have HS4 := hid (own_keep HOS.out hG4 (fun k e e2 => own_ne HOS.out HOT.out k e e2)); have HB4 := hid (below_grownT HBL.out HOT.out hG4); clear hO4 hG4)
                                  go_ret3
                                  exact ⟨_, _, by rw [HR.out]; rfl, by rw [HR.out]; exact OwnS.nil _ _, by rw [HR.out]; exact OwnT.nil _ _, HB4.out⟩
                                · have HR := hid (HN3.out (by rw [HOK.out.2]; simp; omega))
                                  have hn32 : 31 < (n : Int) := by omega
                                  go_wp2
                                  go_ret3
                                  exact ⟨_, _, by rw [HR.out]; rfl, by rw [HR.out]; exact OwnS.nil _ _, by rw [HR.out]; exact OwnT.nil _ _, hP.out.2.2⟩
                      · have hak2 : ¬ (a : Int) < (k : Int) := by omega
                        have HO : Hid (okN s a k = true ∧ nOf s a k = 1) := okN_one hakl
                        have hne : ¬ (k : Int) = (s.size : Int) := by omega
                        have hkk : (k : Int) + 1 ≤ (s.size : Int) := by omega
                        have hak1 : (a : Int) ≤ (k : Int) + 1 := by omega
                        have hpc : s.extract a (k + 1) = piece s a (k + 1) := ext_piece s a (k + 1)
                        have HOS := hid (hP.out.1.below ((Below.refl wr.heap.size wr).alloc (Nat.le_refl _) (.cells #[.string (piece s a (k + 1))] 9)))
                        have HOT := hid (hP.out.2.1.below ((Below.refl wr.heap.size wr).alloc (Nat.le_refl _) (.cells #[.string (piece s a (k + 1))] 9)))
                        have HBL := hid (hP.out.2.2.alloc hP.out.2.2.size (.cells #[.string (piece s a (k + 1))] 9))

                        have HR : Hid (rdAll s = ([], [], 1)) := by
                          show _ = _
                          rw [← hRD.out]
                          exact rd_else hlt HSC.out HO.out.1 hkt HQ1.out.1 HQ1.out.2.1 HQ1.out.2.2.1 HQ1.out.2.2.2
                        go_wp2_with (at_builtin; refine wpList_appT rfl _ _ rfl w.heap.size _ T (piece s a (k + 1)) ⟨wr.heap.size, 0, none⟩ rfl HOT.out rfl (segT_block (heap_alloc_new _ _)) (by omega) HBL.out.size ?_; intro v4 w4 hO4 hG4; have HO4 := hid hO4; have HS4 := hid (own_keep HOS.out hG4 (fun k e e2 => own_ne HOS.out HOT.out k e e2)); have HB4 := hid (below_grownT HBL.out HOT.out hG4); clear hO4 hG4)
                        go_ret3
                        exact ⟨_, _, by rw [HR.out]; rfl, by rw [HR.out]; exact OwnS.nil _ _, by rw [HR.out]; exact OwnT.nil _ _, HB4.out⟩
                    · by_cases hakl : a < k
                      · have hak2 : (a : Int) < (k : Int) := by omega
                        go_wp2
                        go_loop [11, 12] (fun nv iv => ∃ n i : Nat, nv = .int .i64 n ∧ iv = .int .i64 i ∧ a ≤ i ∧ i ≤ k ∧ n ≤ 400 ∧ Hid (numCut n (digs ((sg s a k).drop (i - a))) = numCut 0 (digs (sg s a k)))) (fun _ iv => s.size - (intOf iv).toNat)
                        case atStart => exact ⟨0, a, rfl, rfl, Nat.le_refl _, by omega, by omega, (show _ = _ by simp)⟩
                        case round =>
                          obtain ⟨n, i, rfl, rfl, hai, hik, hn4, hN⟩ := hrel
                          have i0 : (0 : Int) ≤ (i : Int) := by omega
                          by_cases hit : i < k
                          · have hit' : (i : Int) < (k : Int) := by omega
                            have i1 : (i : Int) < (s.size : Int) := by omega
                            by_cases hn31 : n ≤ 31
                            · have hn31' : (n : Int) ≤ 31 := by omega
                              have hdi : 48 ≤ byt s i ∧ byt s i ≤ 57 := by
                                have := hD.out i hai (by omega)
                                simp only [dg, Bool.and_eq_true, decide_eq_true_eq] at this
                                exact this
                              have HNX : Hid (numCut (10 * n + (byt s i - 48)) (digs ((sg s a k).drop (i + 1 - a))) = numCut 0 (digs (sg s a k))) := by
                                have h1 := hN.out
                                have h2 := sg_drop (s := s) (i := a) (j := k) (t := i - a) (by omega) (by omega)
                                rw [h2, numCut, if_pos hn31, show a + (i - a) = i by omega, show i - a + 1 = i + 1 - a by omega] at h1
                                exact h1
                              have hbi := byt_get s i (by omega)
                              generalize byt s i = p at *
                              obtain ⟨hd1, hd2⟩ := hdi
                              have hp1 : 48 ≤ (p : Int) := by omega
                              have hp2 : (p : Int) ≤ 57 := by omega
                              go_wp2
                              go_round
                              case rel => exact ⟨10 * n + (p - 48), i + 1, by refine congrArg _ ?_; omega, by go_num, by omega, by omega, by omega, HNX.out⟩
                              case measure => simp [intOf]; omega
                            · have hn31' : ¬ (n : Int) ≤ 31 := by omega
                              have HNV : Hid (numCut 0 (digs (sg s a k)) = n) := by
                                have h1 := hN.out
                                rw [numCut_stop hn31] at h1
                                exact h1.symm
                              have HR : Hid (rdAll s = ([], [], 3)) := by
                                show _ = _
                                rw [← hRD.out]
                                refine rd_num hlt HSC.out ?_
                                rw [(okN_many (by omega) HNV.out).2]
                                simp; omega
                              have hba := byt_get s a hlt
                              generalize byt s a = q0 at *
                              by_cases h0 : (q0 : Int) = 48
                              · go_wp2
                                go_ret3
                                exact ⟨_, _, by rw [HR.out]; rfl, by rw [HR.out]; exact OwnS.nil _ _, by rw [HR.out]; exact OwnT.nil _ _, hP.out.2.2⟩
                              · have hn2 : ¬ (n : Int) < 2 := by omega
                                go_wp2
                                go_ret3
                                exact ⟨_, _, by rw [HR.out]; rfl, by rw [HR.out]; exact OwnS.nil _ _, by rw [HR.out]; exact OwnT.nil _ _, hP.out.2.2⟩
                          · obtain rfl : k = i := by omega
                            have hit' : ¬ (k : Int) < (k : Int) := by omega
                            have HNV : Hid (numCut 0 (digs (sg s a k)) = n) := by
                              have h1 := hN.out
                              rw [List.drop_eq_nil_of_le (by rw [sg_len (by omega)]; exact Nat.le_refl _)] at h1
                              exact h1.symm
                            have HOK := hid (okN_many (s := s) (a := a) (k := k) (by omega) HNV.out)
                            have hba := byt_get s a hlt
                            have HN3 := hid (fun h : okN s a k = false => show rdAll s = ([], [], 3) by rw [← hRD.out]; exact rd_num hlt HSC.out h)
                            generalize hq0 : byt s a = q0 at *
                            clear hq0
                            by_cases h0 : (q0 : Int) = 48
                            · have HR := hid (HN3.out (by rw [HOK.out.2]; simp; omega))
                              go_wp2
                              go_ret3
                              exact ⟨_, _, by rw [HR.out]; rfl, by rw [HR.out]; exact OwnS.nil _ _, by rw [HR.out]; exact OwnT.nil _ _, hP.out.2.2⟩
                            · by_cases hn2 : (n : Int) < 2
                              · have HR := hid (HN3.out (by rw [HOK.out.2]; simp; omega))
                                go_wp2
                                go_ret3
                                exact ⟨_, _, by rw [HR.out]; rfl, by rw [HR.out]; exact OwnS.nil _ _, by rw [HR.out]; exact OwnT.nil _ _, hP.out.2.2⟩
                              · by_cases hn31 : (n : Int) ≤ 31
                                · have HO : Hid (okN s a k = true ∧ nOf s a k = n) := ⟨by rw [HOK.out.2]; simp; omega, HOK.out.1⟩
                                  have hn32 : ¬ 31 < (n : Int) := by omega
                                  clear HOK HN3
                                  have hne : ¬ (k : Int) = (s.size : Int) := by omega
                                  have hkk : (k : Int) + 1 ≤ (s.size : Int) := by omega
                                  have hak1 : (a : Int) ≤ (k : Int) + 1 := by omega
                                  have hpc : s.extract a (k + 1) = piece s a (k + 1) := ext_piece s a (k + 1)
                                  have HOS := hid (hP.out.1.below ((Below.refl wr.heap.size wr).alloc (Nat.le_refl _) (.cells #[.string (piece s a (k + 1))] 9)))
                                  have HOT := hid (hP.out.2.1.below ((Below.refl wr.heap.size wr).alloc (Nat.le_refl _) (.cells #[.string (piece s a (k + 1))] 9)))
                                  have HBL := hid (hP.out.2.2.alloc hP.out.2.2.size (.cells #[.string (piece s a (k + 1))] 9))

                                  have HR : Hid (rdAll s = ([], [], 1)) := by
                                    show _ = _
                                    rw [← hRD.out]
                                    exact rd_else hlt HSC.out HO.out.1 hkt HQ1.out.1 HQ1.out.2.1 HQ1.out.2.2.1 HQ1.out.2.2.2
                                  go_wp2_with (at_builtin; refine wpList_appT rfl _ _ rfl w.heap.size _ T (piece s a (k + 1)) ⟨wr.heap.size, 0, none⟩ rfl HOT.out rfl (segT_block (heap_alloc_new _ _)) (by omega) HBL.out.size ?_; intro v4 w4 hO4 hG4; have HO4 := hid hO4; have HS4 := hid (own_keep HOS.out hG4 (fun k e e2 => own_ne HOS.out HOT.out k e e2)); have HB4 := hid (below_grownT HBL.out HOT.out hG4); clear hO4 hG4)
                                  go_ret3
                                  exact ⟨_, _, by rw [HR.out]; rfl, by rw [HR.out]; exact OwnS.nil _ _, by rw [HR.out]; exact OwnT.nil _ _, HB4.out⟩
                                · have HR := hid (HN3.out (by rw [HOK.out.2]; simp; omega))
                                  have hn32 : 31 < (n : Int) := by omega
                                  go_wp2
                                  go_ret3
                                  exact ⟨_, _, by rw [HR.out]; rfl, by rw [HR.out]; exact OwnS.nil _ _, by rw [HR.out]; exact OwnT.nil _ _, hP.out.2.2⟩
                      · have hak2 : ¬ (a : Int) < (k : Int) := by omega
                        have HO : Hid (okN s a k = true ∧ nOf s a k = 1) := okN_one hakl
                        have hne : ¬ (k : Int) = (s.size : Int) := by omega
                        have hkk : (k : Int) + 1 ≤ (s.size : Int) := by omega
                        have hak1 : (a : Int) ≤ (k : Int) + 1 := by omega
                        have hpc : s.extract a (k + 1) = piece s a (k + 1) := ext_piece s a (k + 1)
                        have HOS := hid (hP.out.1.below ((Below.refl wr.heap.size wr).alloc (Nat.le_refl _) (.cells #[.string (piece s a (k + 1))] 9)))
                        have HOT := hid (hP.out.2.1.below ((Below.refl wr.heap.size wr).alloc (Nat.le_refl _) (.cells #[.string (piece s a (k + 1))] 9)))
                        have HBL := hid (hP.out.2.2.alloc hP.out.2.2.size (.cells #[.string (piece s a (k + 1))] 9))

                        have HR : Hid (rdAll s = ([], [], 1)) := by
                          show _ = _
                          rw [← hRD.out]
                          exact rd_else hlt HSC.out HO.out.1 hkt HQ1.out.1 HQ1.out.2.1 HQ1.out.2.2.1 HQ1.out.2.2.2
                        go_wp2_with (at_builtin; refine wpList_appT rfl _ _ rfl w.heap.size _ T (piece s a (k + 1)) ⟨wr.heap.size, 0, none⟩ rfl HOT.out rfl (segT_block (heap_alloc_new _ _)) (by omega) HBL.out.size ?_; intro v4 w4 hO4 hG4; have HO4 := hid hO4; have HS4 := hid (own_keep HOS.out hG4 (fun k e e2 => own_ne HOS.out HOT.out k e e2)); have HB4 := hid (below_grownT HBL.out HOT.out hG4); clear hO4 hG4)
                        go_ret3
                        exact ⟨_, _, by rw [HR.out]; rfl, by rw [HR.out]; exact OwnS.nil _ _, by rw [HR.out]; exact OwnT.nil _ _, HB4.out⟩
        · obtain rfl : k = s.size := by omega
          have HSC := hid (show sc s a = s.size from sc_eq hak (Nat.le_refl _) hD.out (fun h => absurd h hkt))
          have hak' : a < s.size := hlt
          have hak2 : (a : Int) < (s.size : Int) := a1
          go_wp2
          go_loop [11, 12] (fun nv iv => ∃ n i : Nat, nv = .int .i64 n ∧ iv = .int .i64 i ∧ a ≤ i ∧ i ≤ s.size ∧ n ≤ 400 ∧ Hid (numCut n (digs ((sg s a s.size).drop (i - a))) = numCut 0 (digs (sg s a s.size)))) (fun _ iv => s.size - (intOf iv).toNat)
          case atStart => exact ⟨0, a, rfl, rfl, Nat.le_refl _, by omega, by omega, (show _ = _ by simp)⟩
          case round =>
            obtain ⟨n, i, rfl, rfl, hai, hik, hn4, hN⟩ := hrel
            have i0 : (0 : Int) ≤ (i : Int) := by omega
            by_cases hit : i < s.size
            · have hit' : (i : Int) < (s.size : Int) := by omega
              have i1 : (i : Int) < (s.size : Int) := by omega
              by_cases hn31 : n ≤ 31
              · have hn31' : (n : Int) ≤ 31 := by omega
                have hdi : 48 ≤ byt s i ∧ byt s i ≤ 57 := by
                  have := hD.out i hai (by omega)
                  simp only [dg, Bool.and_eq_true, decide_eq_true_eq] at this
                  exact this
                have HNX : Hid (numCut (10 * n + (byt s i - 48)) (digs ((sg s a s.size).drop (i + 1 - a))) = numCut 0 (digs (sg s a s.size))) := by
                  have h1 := hN.out
                  have h2 := sg_drop (s := s) (i := a) (j := s.size) (t := i - a) (by omega) (by omega)
                  rw [h2, numCut, if_pos hn31, show a + (i - a) = i by omega, show i - a + 1 = i + 1 - a by omega] at h1
                  exact h1
                have hbi := byt_get s i (by omega)
                generalize byt s i = p at *
                obtain ⟨hd1, hd2⟩ := hdi
                have hp1 : 48 ≤ (p : Int) := by omega
                have hp2 : (p : Int) ≤ 57 := by omega
                go_wp2
                go_round
                case rel => exact ⟨10 * n + (p - 48), i + 1, by refine congrArg _ ?_; omega, by go_num, by omega, by omega, by omega, HNX.out⟩
                case measure => simp [intOf]; omega
              · have hn31' : ¬ (n : Int) ≤ 31 := by omega
                have HNV : Hid (numCut 0 (digs (sg s a s.size)) = n) := by
                  have h1 := hN.out
                  rw [numCut_stop hn31] at h1
                  exact h1.symm
                have HR : Hid (rdAll s = ([], [], 3)) := by
                  show _ = _
                  rw [← hRD.out]
                  refine rd_num hlt HSC.out ?_
                  rw [(okN_many (by omega) HNV.out).2]
                  simp; omega
                have hba := byt_get s a hlt
                generalize byt s a = q0 at *
                by_cases h0 : (q0 : Int) = 48
                · go_wp2
                  go_ret3
                  exact ⟨_, _, by rw [HR.out]; rfl, by rw [HR.out]; exact OwnS.nil _ _, by rw [HR.out]; exact OwnT.nil _ _, hP.out.2.2⟩
                · have hn2 : ¬ (n : Int) < 2 := by omega
                  go_wp2
                  go_ret3
                  exact ⟨_, _, by rw [HR.out]; rfl, by rw [HR.out]; exact OwnS.nil _ _, by rw [HR.out]; exact OwnT.nil _ _, hP.out.2.2⟩
            · obtain rfl : s.size = i := by omega
              have hit' : ¬ (s.size : Int) < (s.size : Int) := by omega
              have HNV : Hid (numCut 0 (digs (sg s a s.size)) = n) := by
                have h1 := hN.out
                rw [List.drop_eq_nil_of_le (by rw [sg_len (by omega)]; exact Nat.le_refl _)] at h1
                exact h1.symm
              have HOK := hid (okN_many (s := s) (a := a) (k := s.size) (by omega) HNV.out)
              have hba := byt_get s a hlt
              have HN3 := hid (fun h : okN s a s.size = false => show rdAll s = ([], [], 3) by rw [← hRD.out]; exact rd_num hlt HSC.out h)
              generalize hq0 : byt s a = q0 at *
              clear hq0
              by_cases h0 : (q0 : Int) = 48
              · have HR := hid (HN3.out (by rw [HOK.out.2]; simp; omega))
                go_wp2
                go_ret3
                exact ⟨_, _, by rw [HR.out]; rfl, by rw [HR.out]; exact OwnS.nil _ _, by rw [HR.out]; exact OwnT.nil _ _, hP.out.2.2⟩
              · by_cases hn2 : (n : Int) < 2
                · have HR := hid (HN3.out (by rw [HOK.out.2]; simp; omega))
                  go_wp2
                  go_ret3
                  exact ⟨_, _, by rw [HR.out]; rfl, by rw [HR.out]; exact OwnS.nil _ _, by rw [HR.out]; exact OwnT.nil _ _, hP.out.2.2⟩
                · by_cases hn31 : (n : Int) ≤ 31
                  · have HO : Hid (okN s a s.size = true ∧ nOf s a s.size = n) := ⟨by rw [HOK.out.2]; simp; omega, HOK.out.1⟩
                    have hn32 : ¬ 31 < (n : Int) := by omega
                    clear HOK HN3
                    
                    have HR : Hid (rdAll s = ([], [], 1)) := by
                      show _ = _
                      rw [← hRD.out]
                      exact rd_end hlt HSC.out HO.out.1 hkt
                    go_wp2
                    go_ret3
                    exact ⟨_, _, by rw [HR.out]; rfl, by rw [HR.out]; exact OwnS.nil _ _, by rw [HR.out]; exact OwnT.nil _ _, hP.out.2.2⟩

                  · have HR := hid (HN3.out (by rw [HOK.out.2]; simp; omega))
                    have hn32 : 31 < (n : Int) := by omega
                    go_wp2
                    go_ret3
                    exact ⟨_, _, by rw [HR.out]; rfl, by rw [HR.out]; exact OwnS.nil _ _, by rw [HR.out]; exact OwnT.nil _ _, hP.out.2.2⟩
    · have HR : Hid (rdAll s = ([], [], 1)) := by rw [← hRD.out]; exact rd_stop hlt
      have hlt' : ¬ (a : Int) < (s.size : Int) := by omega
      go_wp2
      go_ret3
      exact ⟨_, _, by rw [HR.out]; rfl, by rw [HR.out]; exact OwnS.nil _ _, by rw [HR.out]; exact OwnT.nil _ _, hP.out.2.2⟩
end Go.Proofs.YthmjcjcamcdpkaaDoor
