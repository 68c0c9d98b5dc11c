/- Texts of this seat, one behind the other: SquB, ClsN, ClsI. -/
import Derived.Test.YtgfdkolhldbehaaLf
import Derived.Test.YtgfdkolhldbehaaLa
import Derived.Test.YtgfdkolhldbehaaLb
import Derived.Test.YtgfdkolhldbehaaLh
import Derived.Test.YtgfdkolhldbehaaLp
namespace Go.Proofs.Ytgfdkolhldbehaa
open Go.RowKit
set_option linter.unusedVariables false
set_option linter.unusedSimpArgs false

theorem c_isSide (s : Int) (v : Bool) (h : sidB s = v) (w : World) :
    Calls Try.prog 105 #[.int .i64 s] w fun e w' => e = .returned (.bool v) ∧ w' = w := by
  rw [← h]
  unfold sidB
  by_cases h1 : (1 : Int) ≤ s
  · have d1 : decide ((1 : Int) ≤ s) = true := by simpa using h1
    go_enter Try.func105, Try.ntmps105
    go_wp2
    go_ret
    exact ⟨by simp [h1], rfl⟩
  · have d1 : decide ((1 : Int) ≤ s) = false := by simpa using h1
    go_enter Try.func105, Try.ntmps105
    go_wp2
    go_ret
    exact ⟨by simp [h1], rfl⟩
theorem side_three {s : Int} (h : sidB s = true) : s = 1 ∨ s = 2 ∨ s = 3 := by
  simp only [sidB, Bool.and_eq_true, decide_eq_true_eq] at h
  omega
theorem c_manySquares (s : Int) (v : Int) (h : (s = 1 ∧ v = 2) ∨ (s = 2 ∧ v = 16) ∨ (s = 3 ∧ v = 512)) (w : World) :
    Calls Try.prog 106 #[.int .i64 s] w fun e w' => e = .returned (.int .i64 v) ∧ w' = w := by
  rcases h with ⟨rfl, rfl⟩ | ⟨rfl, rfl⟩ | ⟨rfl, rfl⟩
  all_goals
    go_enter Try.func106, Try.ntmps106
    go_wp2
    go_ret
    exact ⟨by rfl, rfl⟩
/-- The bits in two loops. -/
theorem sq_row {s n y : Nat} (hs : 0 < s) {x : Nat} (hx : x < s) : sqTo s n (y * s + x + 1) = sqTo s n (y * s + x) ++ (if bitN n (y * s + x) then [((x : Int), (y : Int))] else []) := by
  have h1 : (y * s + x) % s = x := by rw [Nat.mul_comm, Nat.mul_add_mod]; exact Nat.mod_eq_of_lt hx
  have h2 : (y * s + x) / s = y := by rw [Nat.mul_comm, Nat.mul_add_div hs, Nat.div_eq_of_lt hx]; rfl
  rw [sqTo, h1, h2]

set_option maxRecDepth 100000 in
set_option maxHeartbeats 2000000 in
theorem c_iSquare_yes (s n : Nat) (hs : s = 1 ∨ s = 2 ∨ s = 3) (hn : n < 2 ^ (s * s)) (w : World) :
    Calls Try.prog 56 #[.int .i64 (s : Int), .int .i64 (n : Int)] w fun e w' => ∃ v, e = .returned (.tuple #[v, .bool true]) ∧ OwnS w' w.heap.size v (sqTo s n (s * s)) ∧ Below w.heap.size w w' := by
  obtain ⟨M, hM⟩ : ∃ M : Int, M = 2 ^ (s * s) ∧ ((s : Int) = 1 ∧ M = 2 ∨ (s : Int) = 2 ∧ M = 16 ∨ (s : Int) = 3 ∧ M = 512) := by
    rcases hs with rfl | rfl | rfl
    · exact ⟨2, rfl, .inl ⟨rfl, rfl⟩⟩
    · exact ⟨16, rfl, .inr (.inl ⟨rfl, rfl⟩)⟩
    · exact ⟨512, rfl, .inr (.inr ⟨rfl, rfl⟩)⟩
  have hS : sidB (s : Int) = true := by rcases hs with rfl | rfl | rfl <;> rfl
  have hs0 : 0 < s := by omega
  have hs3 : s ≤ 3 := by omega
  have hnM : (n : Int) < M := by
    rw [hM.1]; exact_mod_cast hn
  have hn5 : n < 4096 := by
    rcases hs with rfl | rfl | rfl <;> omega
  have HM := hid hM.2
  have dn : decide ((n : Int) < 0) = false := by simp
  have dm : decide ((n : Int) ≥ M) = false := by simp; omega
  clear hM
  go_enter Try.func56, Try.ntmps56
  go_wp2_with fail
  refine (c_isSide _ _ hS _).mono ?_
  rintro e w1 ⟨rfl, rfl⟩
  go_wp2_with fail
  refine (c_manySquares _ _ HM.out _).mono ?_
  rintro e w1 ⟨rfl, rfl⟩
  go_wp2_with fail
  go_loopw [6, 23] (fun v i wr => ∃ y : Nat, y ≤ s ∧ i = .int .i64 y ∧ OwnS wr w1.heap.size v (sqTo s n (y * s)) ∧ Below w1.heap.size w1 wr) (fun _ i _ => s - (intOf i).toNat)
  case atStart => exact ⟨0, Nat.zero_le _, rfl, by rw [Nat.zero_mul]; exact OwnS.nil _ _, Below.refl _ _⟩
  case round =>
    obtain ⟨y, hy, rfl, hO, hB⟩ := hrel
    have HO := hid hO
    have HB := hid hB
    clear hO hB
    by_cases hlt : y < s
    · go_wp2_with fail
      go_loopw [6, 27] (fun v i wr => ∃ x : Nat, x ≤ s ∧ i = .int .i64 x ∧ OwnS wr w1.heap.size v (sqTo s n (y * s + x)) ∧ Below w1.heap.size w1 wr) (fun _ i _ => s - (intOf i).toNat)
      case atStart => exact ⟨0, Nat.zero_le _, rfl, HO.out, HB.out⟩
      case round =>
        clear HO HB
        obtain ⟨x, hx, rfl, hO, hB⟩ := hrel
        have HO := hid hO
        have HB := hid hB
        clear hO hB
        by_cases hlx : x < s
        · have HT := hid (sq_row (n := n) hs0 (y := y) hlx)
          have hyx : y * s + x < s * s := by
            have : (y + 1) * s ≤ s * s := Nat.mul_le_mul_right s hlt
            rw [Nat.add_mul] at this; omega
          have hss : s * s ≤ 9 := Nat.mul_le_mul hs3 hs3
          have HL := hid (sqTo_len s n (y * s + x))
          have HK : Hid (y * s + (x + 1) = y * s + x + 1) := by show _ = _; omega
          obtain ⟨k, hk⟩ : ∃ k : Nat, k = y * s + x := ⟨_, rfl⟩
          obtain ⟨p, hp⟩ : ∃ p : Int, p = (y : Int) * (s : Int) := ⟨_, rfl⟩
          have hmul : (y : Int) * (s : Int) = p := hp.symm
          have hpk : p + (x : Int) = (k : Int) := by rw [hp, hk]; simp
          have hp9 : 0 ≤ p ∧ p ≤ 9 := by omega
          rw [← hk] at HL HK HT hyx
          replace HO : Hid (OwnS wr w1.heap.size u6 (sqTo s n k)) := hid (hk ▸ HO.out)
          have hk9 : k ≤ 9 := by omega
          clear hp hk
          cases hbit : bitN n k
          · have hb := bit_is n k _ hbit hn5 hk9
            rw [hbit] at HT
            go_wp2_with fail
            go_roundw
            case rel => exact ⟨x + 1, by omega, by go_num, by rw [HK.out, HT.out]; simpa using HO.out, HB.out⟩
            case measure => simp [intOf]; omega
          · have hb := bit_is n k _ hbit hn5 hk9
            rw [hbit] at HT
            have HO6 := hid (HO.out.below ((Below.refl wr.heap.size wr).alloc (Nat.le_refl _) (.cells #[.int .i64 (x : Int), .int .i64 (y : Int)] 36)))
            have HB6 := hid (HB.out.alloc HB.out.size (.cells #[.int .i64 (x : Int), .int .i64 (y : Int)] 36))
            have HSg := hid (seg_block (c := ((x : Int), (y : Int))) (heap_alloc_new wr (.cells #[.int .i64 (x : Int), .int .i64 (y : Int)] 36)))
            have hl1 := HL.out
            go_wp2_with (at_builtin; refine wpList_app rfl _ _ rfl w1.heap.size _ _ [((x : Int), (y : Int))] _ 1 rfl HO6.out rfl HSg.out (by intro h; cases h) (by simp; omega) HB6.out.size ?_; intro v' w5 hO5 hG5; have HB7 := hid (below_grown HB6.out HO6.out hG5); have HO7 := hid hO5; clear hO5 hG5)
            go_roundw
            case rel => exact ⟨x + 1, by omega, by go_num, by rw [HK.out, HT.out]; exact HO7.out, HB7.out⟩
            case measure => simp [intOf]; omega
        · obtain rfl : x = s := by omega
          have HK : Hid ((y + 1) * x = y * x + x) := by show _ = _; rw [Nat.add_mul, Nat.one_mul]
          go_wp2_with fail
          go_roundw
          case rel => exact ⟨y + 1, by omega, by go_num, by rw [HK.out]; exact HO.out, HB.out⟩
          case measure => simp [intOf]; omega
    · obtain rfl : y = s := by omega
      go_wp2
      go_ret2
      exact ⟨_, rfl, HO.out, HB.out⟩

/-- Appending cells, at a step of a region that draws its order. -/
theorem step_appC {w : World} {ops : Array Oper} {o : Oper} {a : Act} {K : Act → World → Prop} {Q : Exit → Act → World → Prop} {E : Prop} (hgd : o.guard = none) (s x : Operand)
    (ho : o.op = .call { callee := .builtin .append, args := #[s, x], argTypes := #[23, 23] })
    (base : Nat) (v : Value) (l m : List Cl) (ad : Addr) (k : Nat) (hs : a.eval s = v) (hown : OwnS w base v l) (hx : a.eval x = .slice (some ad) m.length k) (hseg : Seg w (some ad) m) (hlen : l.length + m.length ≤ 4194304) (hbase : base ≤ w.heap.size)
    (h : ∀ v' w', OwnS w' base v' (l ++ m) → w.grownBy w' v.ownBlock → K (a.put o.dst v') w') : if Region.wanted o (yielded ops a.tmps) = true then Oper.wp Try.prog o a w K Q else E := by
  have hw : Region.wanted o (yielded ops a.tmps) = true := by simp [Region.wanted, hgd]
  rw [if_pos hw]
  obtain ⟨i, hi, hz, hsz, hb⟩ := info_parts info_Cell
  obtain ⟨v', w', hr, h1, h2, _, h4⟩ := run_append_own_at (P := Try.prog) w base 23 o.type 36 i _ 2 16 Try.underlying23 hi hz hsz hb rfl (by omega) v l.length (flat l) hown ad m.length k (flat m) (flat_length m) (seg_news hseg) (flat_one m) (by unfold maxLen; omega) (by omega) hbase
  unfold Oper.wp execOp
  simp only [ho, resolve, invoke, builtin, Sem.run_bind, Sem.run_pure, Result.andThen_ok, List.map_toArray, List.map_cons, List.map_nil, hs, hx, hr]
  refine h v' w' ?_ h2
  unfold OwnS
  rw [flat_append, List.length_append]
  exact h1

set_option maxRecDepth 100000 in
set_option maxHeartbeats 2000000 in
theorem c_l8Square (s n : Nat) (hs : s = 1 ∨ s = 2 ∨ s = 3) (hn : n < 4096) (w : World) :
    Calls Try.prog 109 #[.int .i64 (s : Int), .int .i64 (n : Int)] w fun e w' => ∃ v, e = .returned v ∧ OwnS w' w.heap.size v (sqTo s n (s * s)) ∧ Below w.heap.size w w' := by
  have hs0 : 0 < s := by omega
  have hs3 : s ≤ 3 := by omega
  have hss : s * s ≤ 9 := Nat.mul_le_mul hs3 hs3
  have hsi : ((s : Int) == 0) = false := by simp; omega
  have hsn : ¬ (s : Int) = 0 := by omega
  have hsm : s ≠ 0 := by omega
  have hsp : (0 : Int) < (s : Int) := by omega
  obtain ⟨p, hp⟩ : ∃ p : Nat, p = s * s := ⟨_, rfl⟩
  have hpi : (s : Int) * (s : Int) = (p : Int) := by rw [hp]; simp
  rw [← hp] at hss
  go_enter Try.func109, Try.ntmps109
  go_wp2_with fail
  go_loopw [5, 6] (fun v i wr => ∃ k : Nat, k ≤ s * s ∧ i = .int .i64 k ∧ OwnS wr w.heap.size v (sqTo s n k) ∧ Below w.heap.size w wr) (fun _ i _ => s * s - (intOf i).toNat)
  case atStart => exact ⟨0, Nat.zero_le _, rfl, OwnS.nil _ _, Below.refl _ _⟩
  case round =>
    obtain ⟨k, hk, rfl, hO, hB⟩ := hrel
    rw [← hp] at hk
    have HO := hid hO
    have HB := hid hB
    clear hO hB
    by_cases hlt : k < p
    · have HT : Hid (sqTo s n (k + 1) = sqTo s n k ++ (if bitN n k then [(((k % s : Nat) : Int), ((k / s : Nat) : Int))] else [])) := rfl
      have HL := hid (sqTo_len s n k)
      have HP := hid hp
      clear hp
      cases hbit : bitN n k
      · have hb := bit_is n k _ hbit hn (by omega)
        rw [hbit] at HT
        go_wp2_with fail
        go_roundw
        case rel => exact ⟨k + 1, by rw [← HP.out]; omega, by go_num, by rw [HT.out]; simpa using HO.out, HB.out⟩
        case measure => rw [← HP.out]; simp [intOf]; omega
      · have hb := bit_is n k _ hbit hn (by omega)
        rw [hbit] at HT
        have e1 : (k : Int).tmod (s : Int) = ((k % s : Nat) : Int) := by rw [Int.tmod_eq_emod_of_nonneg (by omega)]; simp
        have hq0 : (k : Int) / (s : Int) = ((k / s : Nat) : Int) := by simp
        have hq1 : k / s ≤ k := Nat.div_le_self _ _
        have e2 : IntKind.i64.wrap ((k : Int) / (s : Int)) = ((k / s : Nat) : Int) := by rw [hq0]; clear hq0; generalize k / s = q at *; exact IntWalk.i64_in _ ⟨by omega, by omega⟩
        clear hq0 hq1
        generalize k % s = r at *
        generalize k / s = q at *
        have HO6 := hid (HO.out.below (((Below.refl wr.heap.size wr).alloc (Nat.le_refl _) (.cells #[.int .i64 (r : Int), .int .i64 (q : Int)] 36)).drew))
        have HB6 := hid ((HB.out.alloc HB.out.size (.cells #[.int .i64 (r : Int), .int .i64 (q : Int)] 36)).drew)
        have HSg := hid (seg_block (c := ((r : Int), (q : Int))) (heap_alloc_new wr (.cells #[.int .i64 (r : Int), .int .i64 (q : Int)] 36)))
        have hl1 := HL.out
        go_wp2_with fail
        go_region_law (refine step_appC rfl _ _ rfl w.heap.size _ _ [((r : Int), (q : Int))] _ 1 (by simp [Act.eval, Act.put]) HO6.out (by simp [Act.eval, Act.put]) HSg.out (by simp; omega) HB6.out.size ?_; intro v' w5 hO5 hG5; have HB7 := hid (below_grown HB6.out HO6.out hG5); have HO7 := hid hO5; clear hO5 hG5)
        all_goals
          go_wp2_with fail
          go_roundw
          case rel => exact ⟨k + 1, by rw [← HP.out]; omega, by go_num, by rw [HT.out]; exact HO7.out, HB7.out⟩
          case measure => rw [← HP.out]; simp [intOf]; omega
    · obtain rfl : k = p := by omega
      have HP := hid hp
      clear hp
      go_wp2
      go_ret
      exact ⟨_, rfl, by rw [← HP.out]; exact HO.out, HB.out⟩

theorem sqb_yes {s n : Int} (h : sqbOk s n = true) : ∃ s' n' : Nat, s = s' ∧ n = n' ∧ (s' = 1 ∨ s' = 2 ∨ s' = 3) ∧ n' < 2 ^ (s' * s') ∧ sqbL s n = sqTo s' n' (s' * s') := by
  have h0 := h
  simp only [sqbOk, sidB, Bool.and_eq_true, decide_eq_true_eq] at h
  obtain ⟨⟨⟨h1, h2⟩, h3⟩, h4⟩ := h
  refine ⟨s.toNat, n.toNat, by omega, by omega, by omega, ?_, ?_⟩
  · have : ((n.toNat : Nat) : Int) < ((2 ^ (s.toNat * s.toNat) : Nat) : Int) := by
      rw [Int.toNat_of_nonneg h3]; simpa using h4
    exact_mod_cast this
  · simp only [sqbL, h0, if_true]
theorem sqb_pow {s' n' : Nat} (h1 : s' = 1 ∨ s' = 2 ∨ s' = 3) (h2 : n' < 2 ^ (s' * s')) : n' < 4096 := by
  rcases h1 with rfl | rfl | rfl <;> omega
theorem c_iSquareBy (s n : Int) (w : World) (hs : -9223372036854775808 ≤ s ∧ s ≤ 9223372036854775807) (hn : -9223372036854775808 ≤ n ∧ n ≤ 9223372036854775807) :
    Calls Try.prog 56 #[.int .i64 s, .int .i64 n] w fun e w' => ∃ v, e = .returned (.tuple #[v, .bool (sqbOk s n)]) ∧ OwnS w' w.heap.size v (sqbL s n) ∧ Below w.heap.size w w' := by
  cases h : sqbOk s n
  · have HV : Hid (sqbL s n = []) := by simp [Hid, sqbL, h]
    cases hS : sidB s
    · go_enter Try.func56, Try.ntmps56
      go_wp2_with fail
      refine (c_isSide _ _ hS _).mono ?_
      rintro e w1 ⟨rfl, rfl⟩
      go_wp2
      go_ret2
      exact ⟨_, rfl, by rw [HV.out]; exact OwnS.nil _ _, Below.refl _ _⟩
    · by_cases h0 : n < 0
      · have d0 : decide (n < 0) = true := by simpa using h0
        go_enter Try.func56, Try.ntmps56
        go_wp2_with fail
        refine (c_isSide _ _ hS _).mono ?_
        rintro e w1 ⟨rfl, rfl⟩
        go_wp2
        go_ret2
        exact ⟨_, rfl, by rw [HV.out]; exact OwnS.nil _ _, Below.refl _ _⟩
      · obtain ⟨M, hM⟩ : ∃ M : Int, (s = 1 ∧ M = 2 ∨ s = 2 ∧ M = 16 ∨ s = 3 ∧ M = 512) := by
          rcases side_three hS with rfl | rfl | rfl
          · exact ⟨2, .inl ⟨rfl, rfl⟩⟩
          · exact ⟨16, .inr (.inl ⟨rfl, rfl⟩)⟩
          · exact ⟨512, .inr (.inr ⟨rfl, rfl⟩)⟩
        have hnM : M ≤ n := by
          simp only [sqbOk, hS, Bool.true_and, Bool.and_eq_false_iff, decide_eq_false_iff_not] at h
          rcases h with h | h
          · exact absurd (Int.not_lt.1 h0) h
          · rcases hM with ⟨rfl, rfl⟩ | ⟨rfl, rfl⟩ | ⟨rfl, rfl⟩ <;> exact Int.not_lt.1 h
        have HM := hid hM
        have d0 : decide (n < 0) = false := by simpa using h0
        have d1 : decide (n ≥ M) = true := by simpa using hnM
        clear hM h
        go_enter Try.func56, Try.ntmps56
        go_wp2_with fail
        refine (c_isSide _ _ hS _).mono ?_
        rintro e w1 ⟨rfl, rfl⟩
        go_wp2_with fail
        refine (c_manySquares _ _ HM.out _).mono ?_
        rintro e w1 ⟨rfl, rfl⟩
        go_wp2
        go_ret2
        exact ⟨_, rfl, by rw [HV.out]; exact OwnS.nil _ _, Below.refl _ _⟩
  · obtain ⟨s', n', rfl, rfl, h1, h2, h3⟩ := sqb_yes h
    rw [h3]
    exact c_iSquare_yes s' n' h1 h2 w
theorem c_sSquareBy (s n : Int) (w : World) (hs : -9223372036854775808 ≤ s ∧ s ≤ 9223372036854775807) (hn : -9223372036854775808 ≤ n ∧ n ≤ 9223372036854775807) :
    Calls Try.prog 55 #[.int .i64 s, .int .i64 n] w fun e w' => ∃ v, e = .returned (.tuple #[v, .bool (sqbOk s n)]) ∧ OwnS w' w.heap.size v (sqbL s n) ∧ Below w.heap.size w w' := by
  cases hS : inB 1 3 s
  · have HV : Hid (sqbL s n = [] ∧ sqbOk s n = false) := by
      have : sidB s = false := hS
      simp [Hid, sqbL, sqbOk, this]
    go_enter Try.func55, Try.ntmps55
    go_wp2_with fail
    refine (c_l1In' _ _ _ _ hS _).mono ?_
    rintro e w1 ⟨rfl, rfl⟩
    go_wp2
    go_ret2
    exact ⟨_, by rw [HV.out.2]; rfl, by rw [HV.out.1]; exact OwnS.nil _ _, Below.refl _ _⟩
  · have hS' : sidB s = true := hS
    obtain ⟨M, hM⟩ : ∃ M : Int, (s = 1 ∧ M = 1 ∨ s = 2 ∧ M = 15 ∨ s = 3 ∧ M = 511) := by
      rcases side_three hS' with rfl | rfl | rfl
      · exact ⟨1, .inl ⟨rfl, rfl⟩⟩
      · exact ⟨15, .inr (.inl ⟨rfl, rfl⟩)⟩
      · exact ⟨511, .inr (.inr ⟨rfl, rfl⟩)⟩
    have hV : sqbOk s n = inB 0 M n := by
      rcases hM with ⟨rfl, rfl⟩ | ⟨rfl, rfl⟩ | ⟨rfl, rfl⟩
      all_goals
        simp only [sqbOk, hS', Bool.true_and, inB]
        congr 1
        rw [decide_eq_decide]
        show n < _ ↔ _
        first
          | (rw [show (2 : Int) ^ (Int.toNat 1 * Int.toNat 1) = 2 from rfl]; omega)
          | (rw [show (2 : Int) ^ (Int.toNat 2 * Int.toNat 2) = 16 from rfl]; omega)
          | (rw [show (2 : Int) ^ (Int.toNat 3 * Int.toNat 3) = 512 from rfl]; omega)
    cases hN : inB 0 M n
    · have HV : Hid (sqbL s n = [] ∧ sqbOk s n = false) := by
        rw [hN] at hV
        simp [Hid, sqbL, hV]
      clear hV
      rcases hM with ⟨rfl, rfl⟩ | ⟨rfl, rfl⟩ | ⟨rfl, rfl⟩
      all_goals
        go_enter Try.func55, Try.ntmps55
        go_wp2_with fail
        refine (c_l1In' _ _ _ _ hS _).mono ?_
        rintro e w1 ⟨rfl, rfl⟩
        go_wp2_with fail
        refine (c_l1In' _ _ _ _ hN _).mono ?_
        rintro e w1 ⟨rfl, rfl⟩
        go_wp2
        go_ret2
        exact ⟨_, by rw [HV.out.2]; rfl, by rw [HV.out.1]; exact OwnS.nil _ _, Below.refl _ _⟩
    · rw [hN] at hV
      obtain ⟨s', n', rfl, rfl, h1, h2, h3⟩ := sqb_yes hV
      have HV : Hid (sqbL (s' : Int) (n' : Int) = sqTo s' n' (s' * s') ∧ sqbOk (s' : Int) (n' : Int) = true) := ⟨h3, hV⟩
      have HC := hid (fun W => c_l8Square s' n' h1 (sqb_pow h1 h2) W)
      clear hV h1 h2 h3
      have HI : Hid ((s' = 1 ∧ M = 1) ∨ (s' = 2 ∧ M = 15) ∨ (s' = 3 ∧ M = 511)) := by
        show _ ∨ _
        rcases hM with ⟨h, rfl⟩ | ⟨h, rfl⟩ | ⟨h, rfl⟩ <;> omega
      clear hM
      rcases HI.out with ⟨rfl, rfl⟩ | ⟨rfl, rfl⟩ | ⟨rfl, rfl⟩
      all_goals
        go_enter Try.func55, Try.ntmps55
        go_wp2_with fail
        refine (c_l1In' _ _ _ _ hS _).mono ?_
        rintro e w1 ⟨rfl, rfl⟩
        go_wp2_with fail
        refine (c_l1In' _ _ _ _ hN _).mono ?_
        rintro e w1 ⟨rfl, rfl⟩
        go_wp2_with fail
        refine (HC.out _).mono ?_
        rintro e w2 ⟨v, rfl, hO, hB⟩
        go_wp2
        go_ret2
        exact ⟨_, by rw [HV.out.2]; rfl, by rw [HV.out.1]; exact hO, hB⟩
end Go.Proofs.Ytgfdkolhldbehaa

namespace Go.Proofs.Ytgfdkolhldbehaa
open Go.RowKit
set_option linter.unusedVariables false
set_option linter.unusedSimpArgs false

theorem numL_take {s m : Nat} {l : List Cl} {k : Nat} (h : k < l.length) : numL s m (l.take (k + 1)) = numL s m (l.take k) ||| 2 ^ posC s (trn m (midC s (at_ l k))) := by
  unfold numL
  rw [List.take_succ_eq_append_getElem h, List.foldl_append]
  simp [at_, h]
theorem pos_is {s m : Nat} (hm : m < 8) (hs : 0 < s) {c : Cl} (hc : 0 ≤ c.1 ∧ c.1 < s ∧ 0 ≤ c.2 ∧ c.2 < s) :
    -((s : Int) - 1) ≤ (trn m (midC s c)).1 ∧ (trn m (midC s c)).1 ≤ (s : Int) - 1 ∧ -((s : Int) - 1) ≤ (trn m (midC s c)).2 ∧ (trn m (midC s c)).2 ≤ (s : Int) - 1 ∧ (posC s (trn m (midC s c)) : Int) = ((trn m (midC s c)).2 + s - 1) / 2 * s + ((trn m (midC s c)).1 + s - 1) / 2 := by
  have h := trn_reach hm (c := midC s c) (n := (s : Int) - 1) (by simp only [midC]; omega)
  generalize trn m (midC s c) = t at *
  refine ⟨h.1, h.2.1, h.2.2.1, h.2.2.2, ?_⟩
  have e1 : (t.2 + (s : Int) - 1).tdiv 2 = (t.2 + s - 1) / 2 := Int.tdiv_eq_ediv_of_nonneg (by omega)
  have e2 : (t.1 + (s : Int) - 1).tdiv 2 = (t.1 + s - 1) / 2 := Int.tdiv_eq_ediv_of_nonneg (by omega)
  unfold posC
  rw [e1, e2]
  refine Int.toNat_of_nonneg ?_
  have h1 : 0 ≤ (t.2 + (s : Int) - 1) / 2 := by omega
  have h2 : 0 ≤ (t.1 + (s : Int) - 1) / 2 := by omega
  have h3 := Int.mul_nonneg h1 (show (0 : Int) ≤ s by omega)
  omega
theorem pos_lt {s m : Nat} (hm : m < 8) (hs : 0 < s) (hs3 : s ≤ 3) {c : Cl} (hc : 0 ≤ c.1 ∧ c.1 < s ∧ 0 ≤ c.2 ∧ c.2 < s) : posC s (trn m (midC s c)) ≤ 8 := by
  obtain ⟨h1, h2, h3, h4, h5⟩ := pos_is hm hs hc
  generalize trn m (midC s c) = t at *
  rcases (show s = 1 ∨ s = 2 ∨ s = 3 by omega) with rfl | rfl | rfl <;> omega
theorem numL_lt {s m : Nat} (hm : m < 8) (hs : 0 < s) (hs3 : s ≤ 3) : ∀ {l : List Cl}, (∀ c ∈ l, 0 ≤ c.1 ∧ c.1 < s ∧ 0 ≤ c.2 ∧ c.2 < s) → ∀ k, k ≤ l.length → numL s m (l.take k) < 512 := by
  intro l hc k
  induction k with
  | zero => intro _; simp [numL]
  | succ k ih =>
    intro h
    rw [numL_take (by omega)]
    have h1 := pos_lt hm hs hs3 (hc (at_ l k) (by simp [at_, show k < l.length by omega]))
    have h2 : 2 ^ posC s (trn m (midC s (at_ l k))) < 2 ^ 9 := Nat.pow_lt_pow_right (by omega) (by omega)
    exact Nat.or_lt_two_pow (n := 9) (ih (by omega)) h2

theorem or_pow (a P : Nat) (ha : a < 512) (hP : P ≤ 8) : bits .or .i64 (a : Int) (wrap64 (2 ^ P)) = ((a ||| 2 ^ P : Nat) : Int) := by
  have hp : 2 ^ P ≤ 2 ^ 8 := Nat.pow_le_pow_right (by omega) hP
  have hc : ((2 : Int) ^ P) = ((2 ^ P : Nat) : Int) := by simp
  rw [hc]
  generalize 2 ^ P = z at *
  have hz : z ≤ 256 := hp
  rw [IntWalk.wrap64_in _ ⟨by omega, by omega⟩]
  exact bits_or_i64_nat a z (by omega) (by omega)

set_option maxRecDepth 100000 in
set_option maxHeartbeats 4000000 in
theorem c_l8Number (s n m : Nat) (hs : s = 1 ∨ s = 2 ∨ s = 3) (hn : n < 4096) (hm : m < 8) (w : World) :
    Calls Try.prog 104 #[.int .i64 (s : Int), .int .i64 (n : Int), .int .i64 (m : Int)] w fun e w' => e = .returned (.int .i64 ((numL s m (sqTo s n (s * s)) : Nat) : Int)) ∧ Below w.heap.size w w' := by
  have hs0 : 0 < s := by omega
  have hs3 : s ≤ 3 := by omega
  have HC := hid (fun W => c_l8Square s n hs hn W)
  have HIN := hid (fun c (h : c ∈ sqTo s n (s * s)) => sqTo_in hs0 (Nat.le_refl _) h)
  have HLT := hid (numL_lt hm hs0 hs3 (l := sqTo s n (s * s)) (fun c h => sqTo_in hs0 (Nat.le_refl _) h))
  have hll : (sqTo s n (s * s)).length ≤ 9 := by
    have := sqTo_len s n (s * s)
    have : s * s ≤ 9 := Nat.mul_le_mul hs3 hs3
    omega
  have HM := hid hm
  have HTL : Hid (numL s m ((sqTo s n (s * s)).take (sqTo s n (s * s)).length) = numL s m (sqTo s n (s * s))) := by show _ = _; rw [List.take_length]
  clear hs hn
  generalize sqTo s n (s * s) = l at *
  go_enter Try.func104, Try.ntmps104
  go_wp2_with fail
  refine (HC.out _).mono ?_
  rintro e w1 ⟨v, rfl, o1, b1⟩
  obtain ⟨a, ca, rfl, s1⟩ := o1.form
  have HA := hid s1
  have HB1 := hid b1
  clear HC o1 s1 b1
  go_wp2_with fail
  go_loopw [7, 17] (fun v i wr => ∃ k : Nat, k ≤ l.length ∧ i = .int .i64 (k : Int) ∧ v = .int .i64 ((numL s m (l.take k) : Nat) : Int) ∧ Below w1.heap.size w1 wr) (fun _ i _ => l.length - (intOf i).toNat)
  case atStart => exact ⟨0, Nat.zero_le _, rfl, rfl, Below.refl _ _⟩
  case round =>
    obtain ⟨k, hk, rfl, rfl, hB⟩ := hrel
    have HB := hid hB
    by_cases hlt : k < l.length
    · obtain ⟨b1, o1, rfl, hb1, p1, p2⟩ := HA.out k hlt
      have g1 := (hB.cell (p := ⟨b1, o1 + k * 2, none⟩) hb1).trans p1
      have g2 := (hB.cell (p := ⟨b1, o1 + k * 2 + 1, none⟩) hb1).trans p2
      change _ = some (Value.int .i64 (at_ l k).1) at g1
      change _ = some (Value.int .i64 (at_ l k).2) at g2
      have hx := HIN.out (at_ l k) (by simp [at_, hlt])
      have HNT := hid (numL_take (s := s) (m := m) hlt)
      have hN := HLT.out k hk
      obtain ⟨t1, t2, t3, t4, t5⟩ := pos_is HM.out hs0 hx
      have t6 := pos_lt HM.out hs0 hs3 hx
      have hN2 := HLT.out (k + 1) (by omega)
      generalize at_ l k = x at *
      have hmid : midC s x = (2 * x.1 - s + 1, 2 * x.2 - s + 1) := by simp only [midC, Prod.mk.injEq]; omega
      rw [hmid] at t1 t2 t3 t4 t5 t6 HNT
      have CT := hid (fun W => c_l8Turn (2 * x.1 - s + 1, 2 * x.2 - s + 1) m HM.out (by unfold bdC; dsimp only; omega) W)
      clear p1 p2 hB hmid
      generalize trn m (2 * x.1 - s + 1, 2 * x.2 - s + 1) = t at *
      generalize posC s t = P at *
      have q0 := cell_new0 wr (.int .i64 x.1) (.int .i64 x.2) 36
      have q1 := cell_new1 wr (.int .i64 x.1) (.int .i64 x.2) 36
      have HB2 := hid (HB.out.alloc HB.out.size (.cells #[.int .i64 x.1, .int .i64 x.2] 36))
      have hs1 : (1 : Int) ≤ s := by omega
      have hs2 : (s : Int) ≤ 3 := by omega
      go_wp2_with fail
      refine (CT.out _).mono ?_
      rintro e w3 ⟨rfl, b3⟩
      have HB3 := hid ((HB2.out.trans (b3.mono HB2.out.size)).alloc (HB2.out.trans (b3.mono HB2.out.size)).size (.cells #[.int .i64 t.1, .int .i64 t.2] 36))
      have y0 := cell_new0 w3 (.int .i64 t.1) (.int .i64 t.2) 36
      have y1 := cell_new1 w3 (.int .i64 t.1) (.int .i64 t.2) 36
      clear b3 HB2 q0 q1 g1 g2
      have hXb : 0 ≤ (t.1 + s - 1) / 2 ∧ (t.1 + s - 1) / 2 ≤ 2 := by omega
      have hYb : 0 ≤ (t.2 + s - 1) / 2 ∧ (t.2 + s - 1) / 2 ≤ 2 := by omega
      obtain ⟨Z, hZ⟩ : ∃ Z : Int, (t.2 + s - 1) / 2 * s = Z := ⟨_, rfl⟩
      have hZ0 : 0 ≤ Z := by rw [← hZ]; exact Int.mul_nonneg hYb.1 (by omega)
      rw [hZ] at t5
      have hZc : 0 ≤ Z ∧ Z ≤ 8 := by omega
      have hZb : Z + (t.1 + s - 1) / 2 = (P : Int) := t5.symm
      clear t5 hZ0
      have HOR : Hid (bits .or .i64 ((numL s m (l.take k) : Nat) : Int) (wrap64 (2 ^ P)) = ((numL s m (l.take (k + 1)) : Nat) : Int)) := by
        show _ = _
        rw [HNT.out]
        exact or_pow _ P hN t6
      go_wp2_with fail
      go_roundw
      case rel => exact ⟨k + 1, by omega, by go_num, by rw [HOR.out], HB3.out⟩
      case measure => simp [intOf]; omega
    · obtain rfl : k = l.length := by omega
      go_wp2
      go_ret
      exact ⟨by rw [HTL.out]; rfl, HB1.out.trans (hB.mono HB1.out.size)⟩
end Go.Proofs.Ytgfdkolhldbehaa

namespace Go.Proofs.Ytgfdkolhldbehaa
open Go.RowKit Go.Maps
set_option linter.unusedVariables false
set_option linter.unusedSimpArgs false

/-- What ClassesOf answers. -/
def clsV (s : Int) : Int := if sidB s then ((manyTo s.toNat (2 ^ (s.toNat * s.toNat)) : Nat) : Int) else 0
theorem cls_no {s : Int} (h : sidB s = false) : clsV s = 0 := by simp [clsV, h]
theorem cls_is {s : Nat} {M : Nat} {v : Int} (h : (s = 1 ∧ M = 2 ∧ v = 2) ∨ (s = 2 ∧ M = 16 ∧ v = 6) ∨ (s = 3 ∧ M = 512 ∧ v = 102)) : sidB (s : Int) = true ∧ clsV (s : Int) = v ∧ ((manyTo s M : Nat) : Int) = v ∧ ((keptTo s M : Nat) : Int) = 8 * v := by
  obtain ⟨m1, m2, m3⟩ := many_is
  obtain ⟨k1, k2, k3⟩ := kept_is
  rcases h with ⟨rfl, rfl, rfl⟩ | ⟨rfl, rfl, rfl⟩ | ⟨rfl, rfl, rfl⟩
  · exact ⟨rfl, by show ((manyTo 1 2 : Nat) : Int) = _; rw [m1]; rfl, by rw [m1]; rfl, by rw [k1]; rfl⟩
  · exact ⟨rfl, by show ((manyTo 2 16 : Nat) : Int) = _; rw [m2]; rfl, by rw [m2]; rfl, by rw [k2]; rfl⟩
  · exact ⟨rfl, by show ((manyTo 3 512 : Nat) : Int) = _; rw [m3]; rfl, by rw [m3]; rfl, by rw [k3]; rfl⟩
theorem least_le (s n : Nat) : ∀ w, leastTo s n w ≤ n
  | 0 => Nat.le_refl _
  | w + 1 => by
    have := least_le s n w
    rw [leastTo]
    split <;> omega
theorem many_le (s : Nat) : ∀ n, manyTo s n ≤ n
  | 0 => Nat.le_refl _
  | n + 1 => by
    have := many_le s n
    rw [manyTo]
    split <;> omega
theorem cntTo_le (M : List Cl) : ∀ w, cntTo M w ≤ w
  | 0 => Nat.le_refl _
  | w + 1 => by
    have := cntTo_le M w
    rw [cntTo]
    split <;> omega
theorem kept_le (s : Nat) : ∀ n, keptTo s n ≤ 8 * n
  | 0 => Nat.le_refl _
  | n + 1 => by
    have := kept_le s n
    have := cntTo_le ((sqTo s n (s * s)).map (midC s)) 8
    rw [keptTo]
    omega
theorem kp_len (s n : Nat) : ∀ w, w ≤ 8 → (kpW (inTo (midL s n) 8) w).length = cntTo ((sqTo s n (s * s)).map (midC s)) w
  | 0, _ => rfl
  | w + 1, h => by
    rw [kpW_succ, List.length_append, kp_len s n w (by omega), cntTo, inTo_ht (midL s n) 8 (show w < 8 by omega), if_pos (show w < 8 by omega), inTo_ht (midL s n) 8 (show 0 < 8 by omega), if_pos (show 0 < 8 by omega)]
    by_cases hk : keepB w ((sqTo s n (s * s)).map (midC s)) = true
    · rw [if_pos ((keep_iff (by omega) s n).2 hk), if_pos hk]; rfl
    · rw [if_neg (fun e => hk ((keep_iff (by omega) s n).1 e)), if_neg hk]; rfl

set_option maxRecDepth 100000 in
set_option maxHeartbeats 4000000 in
theorem c_sClassesOf (s : Int) (w : World) (hs : -9223372036854775808 ≤ s ∧ s ≤ 9223372036854775807) :
    Calls Try.prog 53 #[.int .i64 s] w fun e w' => e = .returned (.tuple #[.int .i64 (clsV s), .bool (sidB s)]) ∧ Below w.heap.size w w' := by
  cases hS : sidB s
  · have HV := hid (cls_no hS)
    go_enter Try.func53, Try.ntmps53
    go_wp2_with fail
    refine (c_l1In' s 1 3 false hS _).mono ?_
    rintro e w1 ⟨rfl, rfl⟩
    go_wp2
    go_ret2
    exact ⟨by rw [HV.out]; rfl, Below.refl _ _⟩
  · obtain ⟨n, M, v, hn, rfl, h⟩ : ∃ (n M : Nat) (v : Int), (n = 1 ∨ n = 2 ∨ n = 3) ∧ s = (n : Int) ∧ ((n = 1 ∧ M = 2 ∧ v = 2) ∨ (n = 2 ∧ M = 16 ∧ v = 6) ∨ (n = 3 ∧ M = 512 ∧ v = 102)) := by
      rcases side_three hS with rfl | rfl | rfl
      · exact ⟨1, 2, 2, .inl rfl, rfl, .inl ⟨rfl, rfl, rfl⟩⟩
      · exact ⟨2, 16, 6, .inr (.inl rfl), rfl, .inr (.inl ⟨rfl, rfl, rfl⟩)⟩
      · exact ⟨3, 512, 102, .inr (.inr rfl), rfl, .inr (.inr ⟨rfl, rfl, rfl⟩)⟩
    have HV := hid (cls_is h)
    have HN := hid (fun (k : Nat) (hk : k < 512) (j : Nat) (hj : j < 8) W => c_l8Number n k j hn (by omega) hj W)
    have hLL := hid (least_le n)
    have hML := hid (many_le n)
    have HMS := hid (fun k => show manyTo n (k + 1) = if leastTo n k 8 = k then manyTo n k + 1 else manyTo n k from rfl)
    have HLS := hid (fun k j => show leastTo n k (j + 1) = if numL n j (sqTo n k (n * n)) < leastTo n k j then numL n j (sqTo n k (n * n)) else leastTo n k j from rfl)
    have hM : M ≤ 512 := by omega
    obtain ⟨S, hSn⟩ : ∃ S : Int, (n : Int) = S := ⟨_, rfl⟩
    obtain ⟨T, hTn⟩ : ∃ T : Int, (M : Int) = T := ⟨_, rfl⟩
    have hST : (S = 1 ∧ T = 2) ∨ (S = 2 ∧ T = 16) ∨ (S = 3 ∧ T = 512) := by omega
    rw [hSn] at HV HN hS ⊢
    clear h hn hSn
    rcases hST with ⟨rfl, rfl⟩ | ⟨rfl, rfl⟩ | ⟨rfl, rfl⟩
    all_goals
      go_enter Try.func53, Try.ntmps53
      go_wp2_with fail
      refine (c_l1In' _ 1 3 true hS _).mono ?_
      rintro e w1 ⟨rfl, rfl⟩
      go_wp2_with fail
      go_loopw [4, 5] (fun v i wr => ∃ k : Nat, k ≤ M ∧ i = .int .i64 (k : Int) ∧ v = .int .i64 ((manyTo n k : Nat) : Int) ∧ Below w1.heap.size w1 wr) (fun _ i _ => M - (intOf i).toNat)
      case atStart => exact ⟨0, Nat.zero_le _, rfl, rfl, Below.refl _ _⟩
      case round =>
        obtain ⟨k, hk, rfl, rfl, hB⟩ := hrel
        have HB := hid hB
        have hmk := hML.out k
        have HMk := hid (HMS.out k)
        have hl8 := hLL.out k 8
        clear hB
        by_cases hlt : k < M
        · have hk5 : k < 512 := by omega
          have HNk := hid (HN.out k hk5)
          generalize manyTo n k = mk at *
          have hkT := show (k : Int) < (M : Int) by omega
          rw [hTn] at hkT
          go_wp2_with fail
          go_loopw [6, 7] (fun v i wq => ∃ j : Nat, j ≤ 8 ∧ i = .int .i64 (j : Int) ∧ v = .int .i64 ((leastTo n k j : Nat) : Int) ∧ Below w1.heap.size w1 wq) (fun _ i _ => 8 - (intOf i).toNat)
          case atStart => exact ⟨0, Nat.zero_le _, rfl, rfl, HB.out⟩
          case round =>
            clear HB
            obtain ⟨j, hj, rfl, rfl, hB⟩ := hrel
            have HB := hid hB
            have hlj := hLL.out k j
            clear hB
            by_cases hlj8 : j < 8
            · have CN := hid (HNk.out j hlj8)
              have HST := hid (HLS.out k j)
              have hlj1 := hLL.out k (j + 1)
              obtain ⟨L1, hL1⟩ : ∃ L1, L1 = leastTo n k (j + 1) := ⟨_, rfl⟩
              rw [← hL1] at HST hlj1
              have HL1 := hid hL1
              clear hL1
              generalize numL n j (sqTo n k (n * n)) = N at *
              generalize leastTo n k j = L0 at *
              have hmin : (if (N : Int) < (L0 : Int) then (N : Int) else (L0 : Int)) = (L1 : Int) := by
                have h := HST.out
                by_cases h2 : N < L0
                · rw [if_pos h2] at h; rw [if_pos (by omega), h]
                · rw [if_neg h2] at h; rw [if_neg (by omega), h]
              go_wp2_with fail
              refine (CN.out _).mono ?_
              rintro e w3 ⟨rfl, b3⟩
              have HB3 := hid (HB.out.trans (b3.mono HB.out.size))
              clear b3
              go_wp2_with fail
              refine (c_l1Least' _ _ _ hmin _).mono ?_
              rintro e w4 ⟨rfl, rfl⟩
              go_wp2_with fail
              go_roundw
              case rel => exact ⟨j + 1, by omega, by go_num, by rw [HL1.out], HB3.out⟩
              case measure => simp [intOf]; omega
            · obtain rfl : j = 8 := by omega
              by_cases hek : leastTo n k 8 = k
              · have HM1 := HMk.out
                rw [if_pos hek] at HM1
                have HM1 := hid HM1
                rw [hek]
                clear hek HMk hl8 hlj
                go_wp2_with fail
                go_roundw
                case rel => exact ⟨k + 1, by omega, by go_num, by rw [HM1.out]; go_num, HB.out⟩
                case measure => simp [intOf]; omega
              · have HM1 := HMk.out
                rw [if_neg hek] at HM1
                have HM1 := hid HM1
                generalize leastTo n k 8 = L8 at *
                have hne : ((L8 : Int) == (k : Int)) = false := beq_eq_false_iff_ne.2 (by omega)
                clear hek HMk
                go_wp2_with fail
                go_roundw
                case rel => exact ⟨k + 1, by omega, by go_num, by rw [HM1.out], HB.out⟩
                case measure => simp [intOf]; omega
        · obtain rfl : k = M := by omega
          go_wp2_with fail
          go_ret2
          exact ⟨by rw [HV.out.2.1, ← HV.out.2.2.1]; rfl, HB.out⟩

set_option maxHeartbeats 1000000 in
theorem c_fromMiddle (s : Nat) (hs : s ≤ 3) (w : World) :
    Calls Try.prog 108 #[.int .i64 (s : Int)] w fun e w' => e = .returned (.agg #[tnV (.mid w.heap.size s), .int .i64 1]) ∧ KdOk w' (.mid w.heap.size s) ∧ Below w.heap.size w w' := by
  have k1 : (w.alloc (.cells #[.int .i64 (s : Int)] 3)).cell? ⟨w.heap.size, 0, none⟩ = some (.int .i64 (s : Int)) := by
    unfold World.cell?; rw [heap_alloc_new]; rfl
  have k2 := cell_old (w.alloc (.cells #[.int .i64 (s : Int)] 3)) (.cells #[.func (.func 137) #[] #[.pointer (some ⟨w.heap.size, 0, none⟩)], .int .i64 1] 119) k1 (by simp)
  have z0 := cell_new0 (w.alloc (.cells #[.int .i64 (s : Int)] 3)) (.func (.func 137) #[] #[.pointer (some ⟨w.heap.size, 0, none⟩)]) (.int .i64 1) 119
  have z1 := cell_new1 (w.alloc (.cells #[.int .i64 (s : Int)] 3)) (.func (.func 137) #[] #[.pointer (some ⟨w.heap.size, 0, none⟩)]) (.int .i64 1) 119
  simp only [World.size_alloc] at z0 z1
  go_enter Try.func108, Try.ntmps108
  go_wp2
  refine bodyPost_ret (v := .agg #[.func (.func 137) #[] #[.pointer (some ⟨w.heap.size, 0, none⟩)], .int .i64 1]) (by simp [results, Try.results108, go_sem, z0, z1]) rfl ⟨rfl, ⟨by simp; omega, k2, hs⟩, ?_⟩
  exact ((Below.refl _ _).alloc (Nat.le_refl _) _).alloc (by simp) _
theorem tseg_one {w : World} {B : Nat} {k : Kd} {t : Nat} {fr : Nat × Nat} (hb : w.heap[B]? = some (.cells #[tnV k, .int .i64 (t : Int)] 119 fr)) (hk : KdOk w k) : TSeg w (some ⟨B, 0, none⟩) [(k, t)] := by
  have hlt : B < w.heap.size := (Array.getElem?_eq_some_iff.1 hb).1
  intro i hi
  have h0 : i = 0 := by simpa using hi
  subst h0
  refine ⟨B, 0, rfl, hlt, ?_, ?_, hk⟩
  · unfold World.cell?; rw [hb]; rfl
  · unfold World.cell?; rw [hb]; rfl
theorem by_mid (p s : Nat) : tnBy [(Kd.mid p s, 1)] = midC s := rfl
theorem few_mid (p s : Nat) : ∀ i, i < [(Kd.mid p s, 1)].length → (ta [(Kd.mid p s, 1)] i).2 ≤ 1000 := by
  intro i hi
  have h0 : i = 0 := by simpa using hi
  subst h0
  show 1 ≤ 1000
  omega
theorem nr_mid (p s : Nat) {c : Cl} (hc : bdC c) : Nr [(Kd.mid p s, 1)] c := by
  intro k hk j hj
  have hk0 : k = 0 := by simpa using hk
  subst hk0
  have hj0 : j = 0 := by
    change j < 1 at hj
    omega
  subst hj0
  exact hc

set_option maxRecDepth 100000 in
set_option maxHeartbeats 8000000 in
theorem c_iClassesOf (s : Int) (w : World) (hs : -9223372036854775808 ≤ s ∧ s ≤ 9223372036854775807) :
    Calls Try.prog 54 #[.int .i64 s] w fun e w' => e = .returned (.tuple #[.int .i64 (clsV s), .bool (sidB s)]) ∧ Below w.heap.size w w' := by
  cases hS : sidB s
  · have HV := hid (cls_no hS)
    go_enter Try.func54, Try.ntmps54
    go_wp2_with fail
    refine (c_isSide s false hS _).mono ?_
    rintro e w1 ⟨rfl, rfl⟩
    go_wp2
    go_ret2
    exact ⟨by rw [HV.out]; rfl, Below.refl _ _⟩
  · obtain ⟨n, M, v, hn, rfl, h⟩ : ∃ (n M : Nat) (v : Int), (n = 1 ∨ n = 2 ∨ n = 3) ∧ s = (n : Int) ∧ ((n = 1 ∧ M = 2 ∧ v = 2) ∨ (n = 2 ∧ M = 16 ∧ v = 6) ∨ (n = 3 ∧ M = 512 ∧ v = 102)) := by
      rcases side_three hS with rfl | rfl | rfl
      · exact ⟨1, 2, 2, .inl rfl, rfl, .inl ⟨rfl, rfl, rfl⟩⟩
      · exact ⟨2, 16, 6, .inr (.inl rfl), rfl, .inr (.inl ⟨rfl, rfl, rfl⟩)⟩
      · exact ⟨3, 512, 102, .inr (.inr rfl), rfl, .inr (.inr ⟨rfl, rfl, rfl⟩)⟩
    have HV := hid (cls_is h)
    have hn3 : n ≤ 3 := by omega
    have hn0 : 0 < n := by omega
    have HMS := hid (fun W => c_manySquares (n : Int) (M : Int) (by omega) W)
    have HSQ := hid (fun (k : Nat) (hk : k < M) W => c_iSquareBy (n : Int) (k : Int) W (by omega) (by omega))
    have HSV := hid (fun (k : Nat) (hk : k < M) => show sqbOk (n : Int) (k : Int) = true ∧ sqbL (n : Int) (k : Int) = sqTo n k (n * n) from by
      have hp : (k : Int) < 2 ^ (n * n) := by
        rcases h with ⟨rfl, rfl, rfl⟩ | ⟨rfl, rfl, rfl⟩ | ⟨rfl, rfl, rfl⟩
        · rw [show (2 : Int) ^ (1 * 1) = 2 from rfl]; omega
        · rw [show (2 : Int) ^ (2 * 2) = 16 from rfl]; omega
        · rw [show (2 : Int) ^ (3 * 3) = 512 from rfl]; omega
      have h1 : sqbOk (n : Int) (k : Int) = true := by
        simp only [sqbOk, hS, Bool.true_and, Bool.and_eq_true, decide_eq_true_eq, Int.toNat_natCast]
        exact ⟨by omega, hp⟩
      refine ⟨h1, ?_⟩
      simp only [sqbL, h1, if_true, Int.toNat_natCast])
    have HFM := hid (fun W => c_fromMiddle n hn3 W)
    have HIN := hid (fun (k : Nat) c (h : c ∈ sqTo n k (n * n)) => show bdC c from by have := sqTo_in hn0 (Nat.le_refl _) h; unfold bdC; omega)
    have HND := hid (fun (k : Nat) => show ((sqTo n k (n * n)).map (midC n)).Nodup from by
      have := sqTo_nodup (n := k) hn0 (n * n)
      rw [List.nodup_iff_pairwise_ne] at this ⊢
      exact List.Pairwise.map _ (fun a b hab e => hab (midC_inj e)) this)
    have HSL := hid (fun (k : Nat) => show (sqTo n k (n * n)).length ≤ 9 from Nat.le_trans (sqTo_len n k (n * n)) (Nat.mul_le_mul hn3 hn3))
    have HML := hid (fun (k : Nat) => mid_len n k hn3 hn0)
    have HMI := hid (fun (k : Nat) c (h : c ∈ midL n k) => show bdC c from by have := mid_in n k hn3 hn0 h; unfold bdC; omega)
    have HMD := hid (fun (k : Nat) => ris_nodup (mid_ris n k))
    have HTL := hid (fun (k : Nat) i (hi : i < (inTo (midL n k) 8).length) => show (ht (inTo (midL n k) 8) i).length ≤ 1048576 from by
      rw [inTo_len] at hi
      rw [inTo_ht _ _ hi, if_pos hi, tu_len hi (ris_nodup (mid_ris n k))]
      have := mid_len n k hn3 hn0
      omega)
    have HKP := hid (fun (k : Nat) => kp_len n k 8 (Nat.le_refl _))
    have HKS := hid (fun (k : Nat) => show keptTo n (k + 1) = keptTo n k + cntTo ((sqTo n k (n * n)).map (midC n)) 8 from rfl)
    have HKL := hid (kept_le n)
    have hM : M ≤ 512 := by omega
    have hv1 : (8 * v) / 8 = v := by omega
    have hvb : 0 ≤ v ∧ v ≤ 102 := by omega
    have HS := hid hS
    clear h hn hS
    go_enter Try.func54, Try.ntmps54
    go_wp2_with fail
    refine (c_isSide (n : Int) true HS.out _).mono ?_
    rintro e w1 ⟨rfl, rfl⟩
    go_wp2_with fail
    refine (HMS.out _).mono ?_
    rintro e w2 ⟨rfl, rfl⟩
    go_wp2_with fail
    go_loopw [4, 13] (fun v i wr => ∃ k : Nat, k ≤ M ∧ i = .int .i64 (k : Int) ∧ v = .int .i64 ((keptTo n k : Nat) : Int) ∧ Below w2.heap.size w2 wr) (fun _ i _ => M - (intOf i).toNat)
    case atStart => exact ⟨0, Nat.zero_le _, rfl, rfl, Below.refl _ _⟩
    case round =>
      obtain ⟨k, hk, rfl, rfl, hB⟩ := hrel
      have HB := hid hB
      have hkl := HKL.out k
      clear hB
      by_cases hlt : k < M
      · have CS := hid (HSQ.out k hlt)
        rw [(HSV.out k hlt).1, (HSV.out k hlt).2] at CS
        have hkT : (k : Int) < (M : Int) := by omega
        have HKk := hid (HKS.out k)
        have HKPk := hid (HKP.out k)
        have hc8 := cntTo_le ((sqTo n k (n * n)).map (midC n)) 8
        have hsl := HSL.out k
        generalize keptTo n k = q at *
        generalize cntTo ((sqTo n k (n * n)).map (midC n)) 8 = cn at *
        go_wp2_with fail
        refine (CS.out _).mono ?_
        rintro e w3 ⟨v3, rfl, o3, b3⟩
        obtain ⟨a3, c3, rfl, s3⟩ := o3.form
        have S3 := hid s3
        have HB3 := hid (HB.out.trans (b3.mono HB.out.size))
        clear o3 s3 b3 HB CS
        go_wp2_with fail
        refine (HFM.out _).mono ?_
        rintro e w4 ⟨rfl, kd, b4⟩
        have BA := (Below.refl w4.heap.size w4).alloc (Nat.le_refl _) (.cells #[tnV (.mid w3.heap.size n), .int .i64 1] 119)
        have S4 := hid ((S3.out.below b4).below BA)
        have HT4 := hid (tseg_one (t := 1) (heap_alloc_new w4 (.cells #[tnV (.mid w3.heap.size n), .int .i64 1] 119)) (kd.below BA))
        have HB4 := hid ((HB3.out.trans (b4.mono HB3.out.size)).trans (BA.mono (HB3.out.trans (b4.mono HB3.out.size)).size))
        have CA := hid (fun W a b (h1 : Seg W a (sqTo n k (n * n))) (h2 : TSeg W b [(Kd.mid w3.heap.size n, 1)]) => c_allTurned a b (sqTo n k (n * n)) [(Kd.mid w3.heap.size n, 1)] c3 1 W h1 h2 (by omega) (by simp) (fun c hc => nr_mid _ _ (HIN.out k c hc)) (few_mid _ _) (HND.out k))
        dsimp only [tnV] at *
        clear kd b4 BA S3 HB3
        go_wp2_with fail
        refine (CA.out _ _ _ S4.out HT4.out).mono ?_
        rintro e w5 ⟨v5, rfl, o5, l5, b5⟩
        change OwnS w5 _ v5 (midL n k) at o5
        obtain ⟨a5, c5, rfl, s5⟩ := o5.form
        have S5 := hid s5
        have HB5 := hid (HB4.out.trans (b5.mono HB4.out.size))
        have hml := HML.out k
        clear o5 s5 b5 S4 HT4 HB4 CA l5
        go_wp2_with fail
        refine (c_inAllWays a5 (midL n k) c5 _ S5.out (by omega) (HMI.out k) (HMD.out k)).mono ?_
        rintro e w6 ⟨g6, vs, rfl, o6, b6⟩
        have HB6 := hid (HB5.out.trans (b6.mono HB5.out.size))
        have HK := hid (c_keepingWays (some ⟨g6, 0, none⟩) (inTo (midL n k) 8) 8 w6 o6.seg (by rw [inTo_len]; omega) (HTL.out k))
        rw [inTo_len] at HK
        clear o6 b6 HB5 S5
        go_wp2_with fail
        refine HK.out.mono ?_
        rintro e w7 ⟨v7, rfl, o7, b7⟩
        obtain ⟨a7, c7, rfl, s7⟩ := o7.seg
        have HB7 := hid (HB6.out.trans (b7.mono HB6.out.size))
        rw [HKPk.out]
        clear o7 s7 b7 HB6 HK
        go_wp2_with fail
        go_roundw
        case rel => exact ⟨k + 1, by omega, by go_num, by rw [HKk.out]; go_num, HB7.out⟩
        case measure => simp [intOf]; omega
      · obtain rfl : k = M := by omega
        rw [HV.out.2.2.2]
        go_wp2
        go_ret2
        exact ⟨by rw [HV.out.2.1]; rfl, HB.out⟩
end Go.Proofs.Ytgfdkolhldbehaa
