/- Squares by their numbers: SquareBy of both sides. -/
import Derived.Test.YtgfdkolhldbehaaBitW
import Derived.Test.YtgfdkolhldbehaaApp
import Derived.Test.YtgfdkolhldbehaaQuadG
namespace Go.Proofs.Ytgfdkolhldbehaa
open Go.RowKit
set_option linter.unusedVariables false
set_option linter.unusedSimpArgs false

theorem c_isSide (s : Int) (v : Bool) (h : sidB s = v) (w : World) :
    Calls Try.prog 105 #[.int .i64 s] w fun e w' => e = .returned (.bool v) ∧ w' = w := by
  rw [← h]
  unfold sidB
  by_cases h1 : (1 : Int) ≤ s
  · have d1 : decide ((1 : Int) ≤ s) = true := by simpa using h1
    go_enter Try.func105, Try.ntmps105
    go_wp2
    go_ret
    exact ⟨by simp [h1], rfl⟩
  · have d1 : decide ((1 : Int) ≤ s) = false := by simpa using h1
    go_enter Try.func105, Try.ntmps105
    go_wp2
    go_ret
    exact ⟨by simp [h1], rfl⟩
theorem side_three {s : Int} (h : sidB s = true) : s = 1 ∨ s = 2 ∨ s = 3 := by
  simp only [sidB, Bool.and_eq_true, decide_eq_true_eq] at h
  omega
theorem c_manySquares (s : Int) (v : Int) (h : (s = 1 ∧ v = 2) ∨ (s = 2 ∧ v = 16) ∨ (s = 3 ∧ v = 512)) (w : World) :
    Calls Try.prog 106 #[.int .i64 s] w fun e w' => e = .returned (.int .i64 v) ∧ w' = w := by
  rcases h with ⟨rfl, rfl⟩ | ⟨rfl, rfl⟩ | ⟨rfl, rfl⟩
  all_goals
    go_enter Try.func106, Try.ntmps106
    go_wp2
    go_ret
    exact ⟨by rfl, rfl⟩
/-- The bits in two loops. -/
theorem sq_row {s n y : Nat} (hs : 0 < s) {x : Nat} (hx : x < s) : sqTo s n (y * s + x + 1) = sqTo s n (y * s + x) ++ (if bitN n (y * s + x) then [((x : Int), (y : Int))] else []) := by
  have h1 : (y * s + x) % s = x := by rw [Nat.mul_comm, Nat.mul_add_mod]; exact Nat.mod_eq_of_lt hx
  have h2 : (y * s + x) / s = y := by rw [Nat.mul_comm, Nat.mul_add_div hs, Nat.div_eq_of_lt hx]; rfl
  rw [sqTo, h1, h2]

set_option maxRecDepth 100000 in
set_option maxHeartbeats 2000000 in
theorem c_iSquare_yes (s n : Nat) (hs : s = 1 ∨ s = 2 ∨ s = 3) (hn : n < 2 ^ (s * s)) (w : World) :
    Calls Try.prog 56 #[.int .i64 (s : Int), .int .i64 (n : Int)] w fun e w' => ∃ v, e = .returned (.tuple #[v, .bool true]) ∧ OwnS w' w.heap.size v (sqTo s n (s * s)) ∧ Below w.heap.size w w' := by
  obtain ⟨M, hM⟩ : ∃ M : Int, M = 2 ^ (s * s) ∧ ((s : Int) = 1 ∧ M = 2 ∨ (s : Int) = 2 ∧ M = 16 ∨ (s : Int) = 3 ∧ M = 512) := by
    rcases hs with rfl | rfl | rfl
    · exact ⟨2, rfl, .inl ⟨rfl, rfl⟩⟩
    · exact ⟨16, rfl, .inr (.inl ⟨rfl, rfl⟩)⟩
    · exact ⟨512, rfl, .inr (.inr ⟨rfl, rfl⟩)⟩
  have hS : sidB (s : Int) = true := by rcases hs with rfl | rfl | rfl <;> rfl
  have hs0 : 0 < s := by omega
  have hs3 : s ≤ 3 := by omega
  have hnM : (n : Int) < M := by
    rw [hM.1]; exact_mod_cast hn
  have hn5 : n < 4096 := by
    rcases hs with rfl | rfl | rfl <;> omega
  have HM := hid hM.2
  have dn : decide ((n : Int) < 0) = false := by simp
  have dm : decide ((n : Int) ≥ M) = false := by simp; omega
  clear hM
  go_enter Try.func56, Try.ntmps56
  go_wp2_with fail
  refine (c_isSide _ _ hS _).mono ?_
  rintro e w1 ⟨rfl, rfl⟩
  go_wp2_with fail
  refine (c_manySquares _ _ HM.out _).mono ?_
  rintro e w1 ⟨rfl, rfl⟩
  go_wp2_with fail
  go_loopw [6, 23] (fun v i wr => ∃ y : Nat, y ≤ s ∧ i = .int .i64 y ∧ OwnS wr w1.heap.size v (sqTo s n (y * s)) ∧ Below w1.heap.size w1 wr) (fun _ i _ => s - (intOf i).toNat)
  case atStart => exact ⟨0, Nat.zero_le _, rfl, by rw [Nat.zero_mul]; exact OwnS.nil _ _, Below.refl _ _⟩
  case round =>
    obtain ⟨y, hy, rfl, hO, hB⟩ := hrel
    have HO := hid hO
    have HB := hid hB
    clear hO hB
    by_cases hlt : y < s
    · go_wp2_with fail
      go_loopw [6, 27] (fun v i wr => ∃ x : Nat, x ≤ s ∧ i = .int .i64 x ∧ OwnS wr w1.heap.size v (sqTo s n (y * s + x)) ∧ Below w1.heap.size w1 wr) (fun _ i _ => s - (intOf i).toNat)
      case atStart => exact ⟨0, Nat.zero_le _, rfl, HO.out, HB.out⟩
      case round =>
        clear HO HB
        obtain ⟨x, hx, rfl, hO, hB⟩ := hrel
        have HO := hid hO
        have HB := hid hB
        clear hO hB
        by_cases hlx : x < s
        · have HT := hid (sq_row (n := n) hs0 (y := y) hlx)
          have hyx : y * s + x < s * s := by
            have : (y + 1) * s ≤ s * s := Nat.mul_le_mul_right s hlt
            rw [Nat.add_mul] at this; omega
          have hss : s * s ≤ 9 := Nat.mul_le_mul hs3 hs3
          have HL := hid (sqTo_len s n (y * s + x))
          have HK : Hid (y * s + (x + 1) = y * s + x + 1) := by show _ = _; omega
          obtain ⟨k, hk⟩ : ∃ k : Nat, k = y * s + x := ⟨_, rfl⟩
          obtain ⟨p, hp⟩ : ∃ p : Int, p = (y : Int) * (s : Int) := ⟨_, rfl⟩
          have hmul : (y : Int) * (s : Int) = p := hp.symm
          have hpk : p + (x : Int) = (k : Int) := by rw [hp, hk]; simp
          have hp9 : 0 ≤ p ∧ p ≤ 9 := by omega
          rw [← hk] at HL HK HT hyx
          replace HO : Hid (OwnS wr w1.heap.size u6 (sqTo s n k)) := hid (hk ▸ HO.out)
          have hk9 : k ≤ 9 := by omega
          clear hp hk
          cases hbit : bitN n k
          · have hb := bit_is n k _ hbit hn5 hk9
            rw [hbit] at HT
            go_wp2_with fail
            go_roundw
            case rel => exact ⟨x + 1, by omega, by go_num, by rw [HK.out, HT.out]; simpa using HO.out, HB.out⟩
            case measure => simp [intOf]; omega
          · have hb := bit_is n k _ hbit hn5 hk9
            rw [hbit] at HT
            have HO6 := hid (HO.out.below ((Below.refl wr.heap.size wr).alloc (Nat.le_refl _) (.cells #[.int .i64 (x : Int), .int .i64 (y : Int)] 36)))
            have HB6 := hid (HB.out.alloc HB.out.size (.cells #[.int .i64 (x : Int), .int .i64 (y : Int)] 36))
            have HSg := hid (seg_block (c := ((x : Int), (y : Int))) (heap_alloc_new wr (.cells #[.int .i64 (x : Int), .int .i64 (y : Int)] 36)))
            have hl1 := HL.out
            go_wp2_with (at_builtin; refine wpList_app rfl _ _ rfl w1.heap.size _ _ [((x : Int), (y : Int))] _ 1 rfl HO6.out rfl HSg.out (by intro h; cases h) (by simp; omega) HB6.out.size ?_; intro v' w5 hO5 hG5; have HB7 := hid (below_grown HB6.out HO6.out hG5); have HO7 := hid hO5; clear hO5 hG5)
            go_roundw
            case rel => exact ⟨x + 1, by omega, by go_num, by rw [HK.out, HT.out]; exact HO7.out, HB7.out⟩
            case measure => simp [intOf]; omega
        · obtain rfl : x = s := by omega
          have HK : Hid ((y + 1) * x = y * x + x) := by show _ = _; rw [Nat.add_mul, Nat.one_mul]
          go_wp2_with fail
          go_roundw
          case rel => exact ⟨y + 1, by omega, by go_num, by rw [HK.out]; exact HO.out, HB.out⟩
          case measure => simp [intOf]; omega
    · obtain rfl : y = s := by omega
      go_wp2
      go_ret2
      exact ⟨_, rfl, HO.out, HB.out⟩

/-- Appending cells, at a step of a region that draws its order. -/
theorem step_appC {w : World} {ops : Array Oper} {o : Oper} {a : Act} {K : Act → World → Prop} {Q : Exit → Act → World → Prop} {E : Prop} (hgd : o.guard = none) (s x : Operand)
    (ho : o.op = .call { callee := .builtin .append, args := #[s, x], argTypes := #[23, 23] })
    (base : Nat) (v : Value) (l m : List Cl) (ad : Addr) (k : Nat) (hs : a.eval s = v) (hown : OwnS w base v l) (hx : a.eval x = .slice (some ad) m.length k) (hseg : Seg w (some ad) m) (hlen : l.length + m.length ≤ 4194304) (hbase : base ≤ w.heap.size)
    (h : ∀ v' w', OwnS w' base v' (l ++ m) → w.grownBy w' v.ownBlock → K (a.put o.dst v') w') : if Region.wanted o (yielded ops a.tmps) = true then Oper.wp Try.prog o a w K Q else E := by
  have hw : Region.wanted o (yielded ops a.tmps) = true := by simp [Region.wanted, hgd]
  rw [if_pos hw]
  obtain ⟨i, hi, hz, hsz, hb⟩ := info_parts info_Cell
  obtain ⟨v', w', hr, h1, h2, _, h4⟩ := run_append_own_at (P := Try.prog) w base 23 o.type 36 i _ 2 16 Try.underlying23 hi hz hsz hb rfl (by omega) v l.length (flat l) hown ad m.length k (flat m) (flat_length m) (seg_news hseg) (flat_one m) (by unfold maxLen; omega) (by omega) hbase
  unfold Oper.wp execOp
  simp only [ho, resolve, invoke, builtin, Sem.run_bind, Sem.run_pure, Result.andThen_ok, List.map_toArray, List.map_cons, List.map_nil, hs, hx, hr]
  refine h v' w' ?_ h2
  unfold OwnS
  rw [flat_append, List.length_append]
  exact h1

set_option maxRecDepth 100000 in
set_option maxHeartbeats 2000000 in
theorem c_l8Square (s n : Nat) (hs : s = 1 ∨ s = 2 ∨ s = 3) (hn : n < 4096) (w : World) :
    Calls Try.prog 109 #[.int .i64 (s : Int), .int .i64 (n : Int)] w fun e w' => ∃ v, e = .returned v ∧ OwnS w' w.heap.size v (sqTo s n (s * s)) ∧ Below w.heap.size w w' := by
  have hs0 : 0 < s := by omega
  have hs3 : s ≤ 3 := by omega
  have hss : s * s ≤ 9 := Nat.mul_le_mul hs3 hs3
  have hsi : ((s : Int) == 0) = false := by simp; omega
  have hsn : ¬ (s : Int) = 0 := by omega
  have hsm : s ≠ 0 := by omega
  have hsp : (0 : Int) < (s : Int) := by omega
  obtain ⟨p, hp⟩ : ∃ p : Nat, p = s * s := ⟨_, rfl⟩
  have hpi : (s : Int) * (s : Int) = (p : Int) := by rw [hp]; simp
  rw [← hp] at hss
  go_enter Try.func109, Try.ntmps109
  go_wp2_with fail
  go_loopw [5, 6] (fun v i wr => ∃ k : Nat, k ≤ s * s ∧ i = .int .i64 k ∧ OwnS wr w.heap.size v (sqTo s n k) ∧ Below w.heap.size w wr) (fun _ i _ => s * s - (intOf i).toNat)
  case atStart => exact ⟨0, Nat.zero_le _, rfl, OwnS.nil _ _, Below.refl _ _⟩
  case round =>
    obtain ⟨k, hk, rfl, hO, hB⟩ := hrel
    rw [← hp] at hk
    have HO := hid hO
    have HB := hid hB
    clear hO hB
    by_cases hlt : k < p
    · have HT : Hid (sqTo s n (k + 1) = sqTo s n k ++ (if bitN n k then [(((k % s : Nat) : Int), ((k / s : Nat) : Int))] else [])) := rfl
      have HL := hid (sqTo_len s n k)
      have HP := hid hp
      clear hp
      cases hbit : bitN n k
      · have hb := bit_is n k _ hbit hn (by omega)
        rw [hbit] at HT
        go_wp2_with fail
        go_roundw
        case rel => exact ⟨k + 1, by rw [← HP.out]; omega, by go_num, by rw [HT.out]; simpa using HO.out, HB.out⟩
        case measure => rw [← HP.out]; simp [intOf]; omega
      · have hb := bit_is n k _ hbit hn (by omega)
        rw [hbit] at HT
        have e1 : (k : Int).tmod (s : Int) = ((k % s : Nat) : Int) := by rw [Int.tmod_eq_emod_of_nonneg (by omega)]; simp
        have hq0 : (k : Int) / (s : Int) = ((k / s : Nat) : Int) := by simp
        have hq1 : k / s ≤ k := Nat.div_le_self _ _
        have e2 : IntKind.i64.wrap ((k : Int) / (s : Int)) = ((k / s : Nat) : Int) := by rw [hq0]; clear hq0; generalize k / s = q at *; exact IntWalk.i64_in _ ⟨by omega, by omega⟩
        clear hq0 hq1
        generalize k % s = r at *
        generalize k / s = q at *
        have HO6 := hid (HO.out.below (((Below.refl wr.heap.size wr).alloc (Nat.le_refl _) (.cells #[.int .i64 (r : Int), .int .i64 (q : Int)] 36)).drew))
        have HB6 := hid ((HB.out.alloc HB.out.size (.cells #[.int .i64 (r : Int), .int .i64 (q : Int)] 36)).drew)
        have HSg := hid (seg_block (c := ((r : Int), (q : Int))) (heap_alloc_new wr (.cells #[.int .i64 (r : Int), .int .i64 (q : Int)] 36)))
        have hl1 := HL.out
        go_wp2_with fail
        go_region_law (refine step_appC rfl _ _ rfl w.heap.size _ _ [((r : Int), (q : Int))] _ 1 (by simp [Act.eval, Act.put]) HO6.out (by simp [Act.eval, Act.put]) HSg.out (by simp; omega) HB6.out.size ?_; intro v' w5 hO5 hG5; have HB7 := hid (below_grown HB6.out HO6.out hG5); have HO7 := hid hO5; clear hO5 hG5)
        all_goals
          go_wp2_with fail
          go_roundw
          case rel => exact ⟨k + 1, by rw [← HP.out]; omega, by go_num, by rw [HT.out]; exact HO7.out, HB7.out⟩
          case measure => rw [← HP.out]; simp [intOf]; omega
    · obtain rfl : k = p := by omega
      have HP := hid hp
      clear hp
      go_wp2
      go_ret
      exact ⟨_, rfl, by rw [← HP.out]; exact HO.out, HB.out⟩

theorem sqb_yes {s n : Int} (h : sqbOk s n = true) : ∃ s' n' : Nat, s = s' ∧ n = n' ∧ (s' = 1 ∨ s' = 2 ∨ s' = 3) ∧ n' < 2 ^ (s' * s') ∧ sqbL s n = sqTo s' n' (s' * s') := by
  have h0 := h
  simp only [sqbOk, sidB, Bool.and_eq_true, decide_eq_true_eq] at h
  obtain ⟨⟨⟨h1, h2⟩, h3⟩, h4⟩ := h
  refine ⟨s.toNat, n.toNat, by omega, by omega, by omega, ?_, ?_⟩
  · have : ((n.toNat : Nat) : Int) < ((2 ^ (s.toNat * s.toNat) : Nat) : Int) := by
      rw [Int.toNat_of_nonneg h3]; simpa using h4
    exact_mod_cast this
  · simp only [sqbL, h0, if_true]
theorem sqb_pow {s' n' : Nat} (h1 : s' = 1 ∨ s' = 2 ∨ s' = 3) (h2 : n' < 2 ^ (s' * s')) : n' < 4096 := by
  rcases h1 with rfl | rfl | rfl <;> omega
theorem c_iSquareBy (s n : Int) (w : World) (hs : -9223372036854775808 ≤ s ∧ s ≤ 9223372036854775807) (hn : -9223372036854775808 ≤ n ∧ n ≤ 9223372036854775807) :
    Calls Try.prog 56 #[.int .i64 s, .int .i64 n] w fun e w' => ∃ v, e = .returned (.tuple #[v, .bool (sqbOk s n)]) ∧ OwnS w' w.heap.size v (sqbL s n) ∧ Below w.heap.size w w' := by
  cases h : sqbOk s n
  · have HV : Hid (sqbL s n = []) := by simp [Hid, sqbL, h]
    cases hS : sidB s
    · go_enter Try.func56, Try.ntmps56
      go_wp2_with fail
      refine (c_isSide _ _ hS _).mono ?_
      rintro e w1 ⟨rfl, rfl⟩
      go_wp2
      go_ret2
      exact ⟨_, rfl, by rw [HV.out]; exact OwnS.nil _ _, Below.refl _ _⟩
    · by_cases h0 : n < 0
      · have d0 : decide (n < 0) = true := by simpa using h0
        go_enter Try.func56, Try.ntmps56
        go_wp2_with fail
        refine (c_isSide _ _ hS _).mono ?_
        rintro e w1 ⟨rfl, rfl⟩
        go_wp2
        go_ret2
        exact ⟨_, rfl, by rw [HV.out]; exact OwnS.nil _ _, Below.refl _ _⟩
      · obtain ⟨M, hM⟩ : ∃ M : Int, (s = 1 ∧ M = 2 ∨ s = 2 ∧ M = 16 ∨ s = 3 ∧ M = 512) := by
          rcases side_three hS with rfl | rfl | rfl
          · exact ⟨2, .inl ⟨rfl, rfl⟩⟩
          · exact ⟨16, .inr (.inl ⟨rfl, rfl⟩)⟩
          · exact ⟨512, .inr (.inr ⟨rfl, rfl⟩)⟩
        have hnM : M ≤ n := by
          simp only [sqbOk, hS, Bool.true_and, Bool.and_eq_false_iff, decide_eq_false_iff_not] at h
          rcases h with h | h
          · exact absurd (Int.not_lt.1 h0) h
          · rcases hM with ⟨rfl, rfl⟩ | ⟨rfl, rfl⟩ | ⟨rfl, rfl⟩ <;> exact Int.not_lt.1 h
        have HM := hid hM
        have d0 : decide (n < 0) = false := by simpa using h0
        have d1 : decide (n ≥ M) = true := by simpa using hnM
        clear hM h
        go_enter Try.func56, Try.ntmps56
        go_wp2_with fail
        refine (c_isSide _ _ hS _).mono ?_
        rintro e w1 ⟨rfl, rfl⟩
        go_wp2_with fail
        refine (c_manySquares _ _ HM.out _).mono ?_
        rintro e w1 ⟨rfl, rfl⟩
        go_wp2
        go_ret2
        exact ⟨_, rfl, by rw [HV.out]; exact OwnS.nil _ _, Below.refl _ _⟩
  · obtain ⟨s', n', rfl, rfl, h1, h2, h3⟩ := sqb_yes h
    rw [h3]
    exact c_iSquare_yes s' n' h1 h2 w
theorem c_sSquareBy (s n : Int) (w : World) (hs : -9223372036854775808 ≤ s ∧ s ≤ 9223372036854775807) (hn : -9223372036854775808 ≤ n ∧ n ≤ 9223372036854775807) :
    Calls Try.prog 55 #[.int .i64 s, .int .i64 n] w fun e w' => ∃ v, e = .returned (.tuple #[v, .bool (sqbOk s n)]) ∧ OwnS w' w.heap.size v (sqbL s n) ∧ Below w.heap.size w w' := by
  cases hS : inB 1 3 s
  · have HV : Hid (sqbL s n = [] ∧ sqbOk s n = false) := by
      have : sidB s = false := hS
      simp [Hid, sqbL, sqbOk, this]
    go_enter Try.func55, Try.ntmps55
    go_wp2_with fail
    refine (c_l1In' _ _ _ _ hS _).mono ?_
    rintro e w1 ⟨rfl, rfl⟩
    go_wp2
    go_ret2
    exact ⟨_, by rw [HV.out.2]; rfl, by rw [HV.out.1]; exact OwnS.nil _ _, Below.refl _ _⟩
  · have hS' : sidB s = true := hS
    obtain ⟨M, hM⟩ : ∃ M : Int, (s = 1 ∧ M = 1 ∨ s = 2 ∧ M = 15 ∨ s = 3 ∧ M = 511) := by
      rcases side_three hS' with rfl | rfl | rfl
      · exact ⟨1, .inl ⟨rfl, rfl⟩⟩
      · exact ⟨15, .inr (.inl ⟨rfl, rfl⟩)⟩
      · exact ⟨511, .inr (.inr ⟨rfl, rfl⟩)⟩
    have hV : sqbOk s n = inB 0 M n := by
      rcases hM with ⟨rfl, rfl⟩ | ⟨rfl, rfl⟩ | ⟨rfl, rfl⟩
      all_goals
        simp only [sqbOk, hS', Bool.true_and, inB]
        congr 1
        rw [decide_eq_decide]
        show n < _ ↔ _
        first
          | (rw [show (2 : Int) ^ (Int.toNat 1 * Int.toNat 1) = 2 from rfl]; omega)
          | (rw [show (2 : Int) ^ (Int.toNat 2 * Int.toNat 2) = 16 from rfl]; omega)
          | (rw [show (2 : Int) ^ (Int.toNat 3 * Int.toNat 3) = 512 from rfl]; omega)
    cases hN : inB 0 M n
    · have HV : Hid (sqbL s n = [] ∧ sqbOk s n = false) := by
        rw [hN] at hV
        simp [Hid, sqbL, hV]
      clear hV
      rcases hM with ⟨rfl, rfl⟩ | ⟨rfl, rfl⟩ | ⟨rfl, rfl⟩
      all_goals
        go_enter Try.func55, Try.ntmps55
        go_wp2_with fail
        refine (c_l1In' _ _ _ _ hS _).mono ?_
        rintro e w1 ⟨rfl, rfl⟩
        go_wp2_with fail
        refine (c_l1In' _ _ _ _ hN _).mono ?_
        rintro e w1 ⟨rfl, rfl⟩
        go_wp2
        go_ret2
        exact ⟨_, by rw [HV.out.2]; rfl, by rw [HV.out.1]; exact OwnS.nil _ _, Below.refl _ _⟩
    · rw [hN] at hV
      obtain ⟨s', n', rfl, rfl, h1, h2, h3⟩ := sqb_yes hV
      have HV : Hid (sqbL (s' : Int) (n' : Int) = sqTo s' n' (s' * s') ∧ sqbOk (s' : Int) (n' : Int) = true) := ⟨h3, hV⟩
      have HC := hid (fun W => c_l8Square s' n' h1 (sqb_pow h1 h2) W)
      clear hV h1 h2 h3
      have HI : Hid ((s' = 1 ∧ M = 1) ∨ (s' = 2 ∧ M = 15) ∨ (s' = 3 ∧ M = 511)) := by
        show _ ∨ _
        rcases hM with ⟨h, rfl⟩ | ⟨h, rfl⟩ | ⟨h, rfl⟩ <;> omega
      clear hM
      rcases HI.out with ⟨rfl, rfl⟩ | ⟨rfl, rfl⟩ | ⟨rfl, rfl⟩
      all_goals
        go_enter Try.func55, Try.ntmps55
        go_wp2_with fail
        refine (c_l1In' _ _ _ _ hS _).mono ?_
        rintro e w1 ⟨rfl, rfl⟩
        go_wp2_with fail
        refine (c_l1In' _ _ _ _ hN _).mono ?_
        rintro e w1 ⟨rfl, rfl⟩
        go_wp2_with fail
        refine (HC.out _).mono ?_
        rintro e w2 ⟨v, rfl, hO, hB⟩
        go_wp2
        go_ret2
        exact ⟨_, by rw [HV.out.2]; rfl, by rw [HV.out.1]; exact hO, hB⟩
end Go.Proofs.Ytgfdkolhldbehaa
