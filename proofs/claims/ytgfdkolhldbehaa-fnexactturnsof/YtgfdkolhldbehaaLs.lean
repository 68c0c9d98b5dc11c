/- Texts of this seat, one behind the other: CmpW, LessS, FrmS. -/
import Derived.Test.YtgfdkolhldbehaaLp
import Derived.Test.YtgfdkolhldbehaaLn
import Derived.Maps.AppendAt
import Derived.Laws.AppendOwnNone
namespace Go.Proofs.Ytgfdkolhldbehaa
open Go.RowKit Go.Maps
set_option linter.unusedVariables false
set_option linter.unusedSimpArgs false

theorem cmpL_at : ∀ {a b : List Cl} {i : Nat}, a.take i = b.take i → i < a.length → i < b.length → cmpC (at_ a i) (at_ b i) ≠ 0 → cmpL a b = cmpC (at_ a i) (at_ b i)
  | [], _, i, _, h, _, _ => by simp at h
  | _ :: _, [], i, _, _, h, _ => by simp at h
  | x :: l, y :: m, 0, _, _, _, hne => by
    change cmpC x y ≠ 0 at hne
    show cmpL (x :: l) (y :: m) = cmpC x y
    rw [cmpL, if_neg hne]
  | x :: l, y :: m, i + 1, ht, h1, h2, hne => by
    simp only [List.take_succ_cons, List.cons.injEq] at ht
    obtain ⟨rfl, ht⟩ := ht
    have h0 : cmpC x x = 0 := by simp [cmpC, cmpI]
    rw [cmpL, if_pos h0]
    exact cmpL_at (i := i) ht (by simpa using h1) (by simpa using h2) hne
theorem cmpL_long : ∀ {a b : List Cl}, a.take b.length = b → b.length < a.length → cmpL a b = 1
  | [], b, _, h => by simp at h
  | x :: l, [], _, _ => rfl
  | x :: l, y :: m, ht, h => by
    simp only [List.length_cons, List.take_succ_cons, List.cons.injEq] at ht
    obtain ⟨rfl, ht⟩ := ht
    have h0 : cmpC x x = 0 := by simp [cmpC, cmpI]
    rw [cmpL, if_pos h0]
    exact cmpL_long ht (by simpa using h)
theorem cmpL_short : ∀ {a b : List Cl}, b.take a.length = a → a.length < b.length → cmpL a b = -1
  | [], [], _, h => by simp at h
  | [], y :: m, _, _ => rfl
  | x :: l, [], _, h => by simp at h
  | x :: l, y :: m, ht, h => by
    simp only [List.length_cons, List.take_succ_cons, List.cons.injEq] at ht
    obtain ⟨rfl, ht⟩ := ht
    have h0 : cmpC y y = 0 := by simp [cmpC, cmpI]
    rw [cmpL, if_pos h0]
    exact cmpL_short ht (by simpa using h)
theorem cmpL_same : ∀ a : List Cl, cmpL a a = 0
  | [] => rfl
  | x :: l => by
    have h0 : cmpC x x = 0 := by simp [cmpC, cmpI]
    rw [cmpL, if_pos h0, cmpL_same l]
theorem cmpC_bd (a b : Cl) : -1 ≤ cmpC a b ∧ cmpC a b ≤ 1 := by
  rcases cmpC_cases a b with ⟨h, _⟩ | ⟨h, _⟩ | ⟨h, _⟩ <;> omega
theorem cmpC_zero' {a b : Cl} (h : cmpC a b = 0) : a = b := by
  rcases cmpC_cases a b with ⟨_, e⟩ | ⟨h2, _⟩ | ⟨h2, _⟩
  · exact e
  · omega
  · omega

set_option maxRecDepth 100000 in
set_option maxHeartbeats 4000000 in
theorem c_compareFunc (a b : Option Addr) (l m : List Cl) (ca cb : Nat) (w : World) (ha : Seg w a l) (hb : Seg w b m) (hl : l.length ≤ 1048576) (hm : m.length ≤ 1048576) :
    Calls Try.prog 134 #[.slice a l.length ca, .slice b m.length cb, .func (.func 125) #[] #[]] w fun e w' => e = .returned (.int .i64 (cmpL l m)) ∧ Below w.heap.size w w' := by
  have HA := hid ha
  have HB := hid hb
  have HT1 := hid (fun (h : l.take m.length = m) (h2 : m.length < l.length) => cmpL_long h h2)
  have HT2 := hid (fun (h : m.take l.length = l) (h2 : l.length < m.length) => cmpL_short h h2)
  have HT3 := hid (fun (h : l = m) => show cmpL l m = 0 from by rw [h]; exact cmpL_same m)
  have HT4 := hid (fun (i : Nat) (h : l.take i = m.take i) (h1 : i < l.length) (h2 : i < m.length) (h3 : cmpC (at_ l i) (at_ m i) ≠ 0) => cmpL_at h h1 h2 h3)
  clear ha hb
  go_enter Try.func134, Try.ntmps134
  go_wp2_with fail
  go_loopw [13] (fun i wr => ∃ k : Nat, k ≤ l.length ∧ k ≤ m.length ∧ i = .int .i64 (k : Int) ∧ Hid (l.take k = m.take k) ∧ Below w.heap.size w wr) (fun i _ => l.length - (intOf i).toNat)
  case atStart => exact ⟨0, Nat.zero_le _, Nat.zero_le _, rfl, (rfl : _ = _), Below.refl _ _⟩
  case round =>
    obtain ⟨k, hk, hk2, rfl, ht, hB⟩ := hrel
    have HBl := hid hB
    by_cases hlt : k < l.length
    · obtain ⟨b1, o1, rfl, hb1, p1, p2⟩ := HA.out k hlt
      have g1 := (hB.cell (p := ⟨b1, o1 + k * 2, none⟩) hb1).trans p1
      have g2 := (hB.cell (p := ⟨b1, o1 + k * 2 + 1, none⟩) hb1).trans p2
      change _ = some (Value.int .i64 (at_ l k).1) at g1
      change _ = some (Value.int .i64 (at_ l k).2) at g2
      clear p1 p2 hB
      have B1 := hid (HBl.out.alloc HBl.out.size (.cells #[.int .i64 (at_ l k).1, .int .i64 (at_ l k).2] 36))
      by_cases hlt2 : k < m.length
      · obtain ⟨b2, o2, rfl, hb2, q1, q2⟩ := HB.out k hlt2
        have BA := (Below.refl wr.heap.size wr).alloc (Nat.le_refl _) (.cells #[.int .i64 (at_ l k).1, .int .i64 (at_ l k).2] 36)
        have g3 := ((HBl.out.trans (BA.mono HBl.out.size)).cell (p := ⟨b2, o2 + k * 2, none⟩) hb2).trans q1
        have g4 := ((HBl.out.trans (BA.mono HBl.out.size)).cell (p := ⟨b2, o2 + k * 2 + 1, none⟩) hb2).trans q2
        change _ = some (Value.int .i64 (at_ m k).1) at g3
        change _ = some (Value.int .i64 (at_ m k).2) at g4
        have hx1 : ¬ (k : Int) ≥ (m.length : Int) := by omega
        have HTT := hid (fun (h3 : cmpC (at_ l k) (at_ m k) = 0) => take_oneW hlt hlt2 ht.out (cmpC_zero' h3))
        have HTF := hid (fun (h3 : cmpC (at_ l k) (at_ m k) ≠ 0) => HT4.out k ht.out hlt hlt2 h3)
        have hcb := cmpC_bd (at_ l k) (at_ m k)
        clear q1 q2 BA ht HT4
        generalize at_ l k = x at *
        generalize at_ m k = y at *
        have R1 := hid (WRow.new wr (.int .i64 x.1) x.2 36)
        have BB := (Below.refl (wr.alloc (.cells #[.int .i64 x.1, .int .i64 x.2] 36)).heap.size (wr.alloc (.cells #[.int .i64 x.1, .int .i64 x.2] 36))).alloc (Nat.le_refl _) (.cells #[.int .i64 y.1, .int .i64 y.2] 36)
        have R1b := hid (R1.out.below BB)
        have B2 := hid (B1.out.trans (BB.mono B1.out.size))
        have R2 := hid (WRow.new (wr.alloc (.cells #[.int .i64 x.1, .int .i64 x.2] 36)) (.int .i64 y.1) y.2 36)
        simp only [World.size_alloc] at R2
        have x0 := R1b.out.c0
        have x1 := R1b.out.c1
        have y0 := R2.out.c0
        have y1 := R2.out.c1
        have CC := hid (fun W => c_compareCells x y W)
        clear BB R1 B1
        cases hz : decide (cmpC x y = 0)
        · have hne : cmpC x y ≠ 0 := by simpa using hz
          have HV := hid (HTF.out hne)
          generalize cmpC x y = z at *
          have hzb : (z != 0) = true := by simp [hne]
          clear HTF HTT hz
          go_wp2_with fail
          refine (CC.out _).mono ?_
          rintro e w3 ⟨rfl, b3⟩
          go_wp2
          go_ret
          exact ⟨by rw [HV.out]; rfl, B2.out.trans (b3.mono B2.out.size)⟩
        · have heq : cmpC x y = 0 := by simpa using hz
          have HT' := hid (HTT.out heq)
          rw [heq] at CC
          clear HTF HTT hz
          go_wp2_with fail
          refine (CC.out _).mono ?_
          rintro e w3 ⟨rfl, b3⟩
          have B3 := hid (B2.out.trans (b3.mono B2.out.size))
          clear b3 x0 x1 y0 y1
          go_wp2_with fail
          go_roundw
          case rel => exact ⟨k + 1, by omega, by omega, by go_num, HT'.out, B3.out⟩
          case measure => simp [intOf]; omega
      · have hx1 : (k : Int) ≥ (m.length : Int) := by omega
        have HV := hid (HT1.out (by have h := ht.out; rw [show m.length = k by omega, h, List.take_of_length_le (by omega)]) (by omega))
        go_wp2
        go_ret
        exact ⟨by rw [HV.out]; rfl, B1.out⟩
    · obtain rfl : k = l.length := by omega
      have htt := ht.out
      rw [List.take_length] at htt
      clear hB
      by_cases hlm : l.length < m.length
      · have HV := hid (HT2.out htt.symm hlm)
        clear htt ht
        have h1 : (l.length : Int) < (m.length : Int) := by omega
        go_wp2
        go_ret
        exact ⟨by rw [HV.out]; rfl, HBl.out⟩
      · have HV := hid (HT3.out (by rw [htt, List.take_of_length_le (by omega)]))
        clear htt ht
        have h1 : ¬ (l.length : Int) < (m.length : Int) := by omega
        go_wp2
        go_ret
        exact ⟨by rw [HV.out]; rfl, HBl.out⟩

set_option maxHeartbeats 1000000 in
theorem c_compareLists (a b : Option Addr) (l m : List Cl) (ca cb : Nat) (w : World) (ha : Seg w a l) (hb : Seg w b m) (hl : l.length ≤ 1048576) (hm : m.length ≤ 1048576) :
    Calls Try.prog 97 #[.slice a l.length ca, .slice b m.length cb] w fun e w' => e = .returned (.int .i64 (cmpL l m)) ∧ Below w.heap.size w w' := by
  have HC := hid (c_compareFunc a b l m ca cb w ha hb hl hm)
  clear ha hb
  go_enter Try.func97, Try.ntmps97
  go_wp2_with fail
  refine HC.out.mono ?_
  rintro e w1 ⟨rfl, b1⟩
  go_wp2
  go_ret
  exact ⟨rfl, b1⟩

set_option maxRecDepth 100000 in
set_option maxHeartbeats 4000000 in
/-- The least of some lists. -/
theorem c_minFunc (a : Option Addr) (H : List (List Cl)) (ca : Nat) (w : World) (ha : HSeg w a H) (h0 : 0 < H.length) (hl : H.length ≤ 1000) (h1 : ∀ i, i < H.length → (ht H i).length ≤ 1048576) :
    Calls Try.prog 96 #[.slice a H.length ca, .func (.func 97) #[] #[]] w fun e w' => ∃ (j : Nat) (b : Nat) (o : Nat) (v : Value), j < H.length ∧ a = some ⟨b, o, none⟩ ∧ e = .returned v ∧ w.cell? ⟨b, o + j, none⟩ = some v ∧ (∀ i, i < H.length → ltL (ht H i) (ht H j) = false) ∧ Below w.heap.size w w' := by
  have HA := hid ha
  have H1 := hid h1
  obtain ⟨b, o, rfl, hb, a0, c0, g0, s0, n0⟩ := ha 0 h0
  have hAt := fun i (hi : i < H.length) => show ∃ a' c', w.cell? ⟨b, o + i, none⟩ = some (.slice a' (ht H i).length c') ∧ Seg w a' (ht H i) from by
    obtain ⟨b', o', e, _, a', c', g, s, _⟩ := ha i hi
    simp only [Option.some.injEq, Addr.mk.injEq, and_true] at e
    obtain ⟨rfl, rfl⟩ := e
    exact ⟨a', c', g, s⟩
  have HAt := hid hAt
  have G0 := hid g0
  have S0 := hid s0
  rw [Nat.add_zero] at g0
  have hp : ¬ (H.length : Int) < 1 := by omega
  clear ha h1 s0 n0 hAt HA
  go_enter Try.func96, Try.ntmps96
  go_wp2_with fail
  go_loopw [5, 6] (fun v i wr => ∃ (k j : Nat) (a' : Option Addr) (c' : Nat), k ≤ H.length ∧ j < k ∧ i = .int .i64 (k : Int) ∧ v = .slice a' (ht H j).length c' ∧ Hid (w.cell? ⟨b, o + j, none⟩ = some (.slice a' (ht H j).length c')) ∧ Hid (Seg w a' (ht H j)) ∧ Hid (∀ i, i < k → ltL (ht H i) (ht H j) = false) ∧ Below w.heap.size w wr) (fun _ i _ => H.length - (intOf i).toNat)
  case atStart => exact ⟨1, 0, a0, c0, h0, by omega, rfl, rfl, G0.out, S0.out, fun i hi => by rw [show i = 0 by omega]; exact ltL_no _, Below.refl _ _⟩
  case round =>
    clear G0 S0 g0
    obtain ⟨k, j, a', c', hk, hj, rfl, rfl, hC, hS, hM, hB⟩ := hrel
    have HBl := hid hB
    by_cases hlt : k < H.length
    · obtain ⟨a1, c1, g1, s1⟩ := HAt.out k hlt
      have g1' := (hB.cell (p := ⟨b, o + k, none⟩) hb).trans g1
      have S1 := hid (s1.below hB)
      have S2 := hid (hS.out.below hB)
      have G1 := hid g1
      have S1w := hid s1
      have hx1 := H1.out k hlt
      have hx2 := H1.out j (by omega)
      have k0 : (0 : Int) ≤ (k : Int) := by omega
      have k1 : (k : Int) < (H.length : Int) := by omega
      have HC := hid (fun W (h1 : Seg W a1 (ht H k)) (h2 : Seg W a' (ht H j)) => c_compareLists a1 a' (ht H k) (ht H j) c1 c' W h1 h2 hx1 hx2)
      have hN := cmpL_neg (a := ht H k) (b := ht H j)
      have HTR := hid (fun i (h : ltL (ht H k) (ht H j) = true) (h2 : ltL (ht H i) (ht H j) = false) => show ltL (ht H i) (ht H k) = false from by
        rw [Bool.eq_false_iff]
        intro h3
        rw [ltL_tr h3 h] at h2; cases h2)
      clear g1 s1 hB
      have hcz : -1 ≤ cmpL (ht H k) (ht H j) ∧ cmpL (ht H k) (ht H j) ≤ 1 := by
        rcases cmpL_cases (ht H k) (ht H j) with ⟨h, _⟩ | ⟨h, _⟩ | ⟨h, _⟩ <;> omega
      generalize cmpL (ht H k) (ht H j) = z at *
      by_cases hz : z < 0
      · have hlt1 := hid (hN.1 hz)
        clear hN
        go_wp2_with fail
        refine (HC.out _ S1.out S2.out).mono ?_
        rintro e w3 ⟨rfl, b3⟩
        have B3 := hid (HBl.out.trans (b3.mono HBl.out.size))
        have g3 := (B3.out.cell (p := ⟨b, o + k, none⟩) hb).trans G1.out
        clear b3 g1'
        go_wp2_with fail
        go_roundw
        case rel => exact ⟨k + 1, k, a1, c1, by omega, by omega, by go_num, rfl, G1.out, S1w.out, (fun i hi => by
          by_cases e : i = k
          · rw [e]; exact ltL_no _
          · exact HTR.out i hlt1.out (hM.out i (by omega))), B3.out⟩
        case measure => simp [intOf]; omega
      · have hge := hid (show ltL (ht H k) (ht H j) = false by
          rw [Bool.eq_false_iff]; intro h; exact hz (hN.2 h))
        clear hN
        go_wp2_with fail
        refine (HC.out _ S1.out S2.out).mono ?_
        rintro e w3 ⟨rfl, b3⟩
        have B3 := hid (HBl.out.trans (b3.mono HBl.out.size))
        clear b3 g1'
        go_wp2_with fail
        go_roundw
        case rel => exact ⟨k + 1, j, a', c', by omega, by omega, by go_num, rfl, hC.out, hS.out, (fun i hi => by
          by_cases e : i = k
          · rw [e]; exact hge.out
          · exact hM.out i (by omega)), B3.out⟩
        case measure => simp [intOf]; omega
    · obtain rfl : k = H.length := by omega
      go_wp2
      go_ret
      exact ⟨j, b, o, _, by omega, rfl, rfl, hC.out, hM.out, hB⟩
end Go.Proofs.Ytgfdkolhldbehaa

namespace Go.Proofs.Ytgfdkolhldbehaa
open Go.RowKit Go.Maps
set_option linter.unusedVariables false
set_option linter.unusedSimpArgs false

theorem ltL_at {a b : List Cl} {i : Nat} (ht : a.take i = b.take i) (h1 : i < a.length) (h2 : i < b.length) (hne : at_ a i ≠ at_ b i) : ltL a b = ltC (at_ a i) (at_ b i) := by
  have h := cmpL_at ht h1 h2 (fun e => hne (cmpC_zero' e))
  rw [Bool.eq_iff_iff, ← cmpL_neg, h]
  exact cmpC_neg _ _
theorem ltL_long {a b : List Cl} (ht : a.take b.length = b) (h : b.length < a.length) : ltL a b = false := by
  rw [Bool.eq_false_iff]; intro h2
  have := cmpL_neg.2 h2
  rw [cmpL_long ht h] at this
  omega
theorem ltL_short {a b : List Cl} (ht : b.take a.length = a) (h : a.length < b.length) : ltL a b = true := by
  rw [← cmpL_neg, cmpL_short ht h]; omega

set_option maxRecDepth 100000 in
set_option maxHeartbeats 4000000 in
theorem c_l8Less (a b : Option Addr) (l m : List Cl) (ca cb : Nat) (v : Bool) (hv : ltL l m = v) (w : World) (ha : Seg w a l) (hb : Seg w b m) (hl : l.length ≤ 1048576) (hm : m.length ≤ 1048576) :
    Calls Try.prog 133 #[.slice a l.length ca, .slice b m.length cb] w fun e w' => e = .returned (.bool v) ∧ Below w.heap.size w w' := by
  have HA := hid ha
  have HB := hid hb
  have HT1 := hid (fun (h : l.take m.length = m) (h2 : m.length < l.length) => hv.symm.trans (ltL_long h h2))
  have HT2 := hid (fun (h : m.take l.length = l) (h2 : l.length < m.length) => hv.symm.trans (ltL_short h h2))
  have HT3 := hid (fun (h : l = m) => show v = false from by rw [← hv, h]; exact ltL_no m)
  have HT4 := hid (fun (i : Nat) (h : l.take i = m.take i) (h1 : i < l.length) (h2 : i < m.length) (h3 : at_ l i ≠ at_ m i) => hv.symm.trans (ltL_at h h1 h2 h3))
  clear ha hb hv
  go_enter Try.func133, Try.ntmps133
  go_wp2_with fail
  go_loopw [8] (fun i wr => ∃ k : Nat, k ≤ l.length ∧ k ≤ m.length ∧ i = .int .i64 (k : Int) ∧ Hid (l.take k = m.take k) ∧ Below w.heap.size w wr) (fun i _ => l.length - (intOf i).toNat)
  case atStart => exact ⟨0, Nat.zero_le _, Nat.zero_le _, rfl, (rfl : _ = _), Below.refl _ _⟩
  case round =>
    obtain ⟨k, hk, hk2, rfl, ht, hB⟩ := hrel
    have HBl := hid hB
    by_cases hlt : k < l.length
    · obtain ⟨b1, o1, rfl, hb1, p1, p2⟩ := HA.out k hlt
      have g1 := (hB.cell (p := ⟨b1, o1 + k * 2, none⟩) hb1).trans p1
      have g2 := (hB.cell (p := ⟨b1, o1 + k * 2 + 1, none⟩) hb1).trans p2
      change _ = some (Value.int .i64 (at_ l k).1) at g1
      change _ = some (Value.int .i64 (at_ l k).2) at g2
      by_cases hlt2 : k < m.length
      · obtain ⟨b2, o2, rfl, hb2, q1, q2⟩ := HB.out k hlt2
        have g3 := (hB.cell (p := ⟨b2, o2 + k * 2, none⟩) hb2).trans q1
        have g4 := (hB.cell (p := ⟨b2, o2 + k * 2 + 1, none⟩) hb2).trans q2
        change _ = some (Value.int .i64 (at_ m k).1) at g3
        change _ = some (Value.int .i64 (at_ m k).2) at g4
        have hbz1 : b1 < wr.heap.size := Nat.lt_of_lt_of_le hb1 hB.size
        have hbz2 : b2 < wr.heap.size := Nat.lt_of_lt_of_le hb2 hB.size
        have k0 : (0 : Int) ≤ (k : Int) := by omega
        have k1 : (k : Int) < (l.length : Int) := by omega
        have k2 : (k : Int) < (m.length : Int) := by omega
        have hbq : ((k : Int) == (m.length : Int)) = false := beq_eq_false_iff_ne.2 (by omega)
        have HTT := hid (fun (h3 : at_ l k = at_ m k) => take_oneW hlt hlt2 ht.out h3)
        have HTF := hid (fun (h3 : at_ l k ≠ at_ m k) => HT4.out k ht.out hlt hlt2 h3)
        have BD := hid (HBl.out.trans (((Below.refl wr.heap.size wr).drew).mono HBl.out.size))
        clear p1 p2 q1 q2 hB HT4 ht
        generalize at_ l k = x at *
        generalize at_ m k = y at *
        have q1 := fun z : Gr wr => z.cell g1 hbz1
        have q2 := fun z : Gr wr => z.cell g2 hbz1
        have q3 := fun z : Gr wr => z.cell g3 hbz2
        have q4 := fun z : Gr wr => z.cell g4 hbz2
        have hneg := Gr.ne wr
        clear g1 g2 g3 g4
        by_cases hx1 : x.1 = y.1
        · by_cases hx2 : x.2 = y.2
          · have HT' := hid (HTT.out (Prod.ext hx1 hx2))
            clear BD
            go_wp2
            refine wp_region_gr (by kernel_rfl) (by kernel_rfl) ?_
            repeat (go_big_quiet_step (fail))
            refine wpQuiet_nil ?_
            rintro _ ⟨z, rfl⟩
            have BD := hid (HBl.out.trans (z.below.mono HBl.out.size))
            clear q1 q2 q3 q4 hneg
            go_wp2
            go_roundw
            case rel => exact ⟨k + 1, by omega, by omega, by go_num, HT'.out, BD.out⟩
            case measure => simp [intOf]; omega
          · have hF := HTF.out (fun e => hx2 (by rw [e]))
            have hb2 : (x.2 == y.2) = false := beq_eq_false_iff_ne.2 hx2
            have CC := hid (fun W => c_l1Less' (y.1, x.2) y v (by rw [← hx1]; exact hF.symm) W)
            clear hF BD
            go_wp2
            refine wp_region_gr (by kernel_rfl) (by kernel_rfl) ?_
            repeat (go_big_quiet_step (fail))
            refine wpQuiet_nil ?_
            rintro _ ⟨z, rfl⟩
            have BD := hid (HBl.out.trans (z.below.mono HBl.out.size))
            have hz1 := Nat.lt_of_lt_of_le hbz1 z.below.size
            have hz2 := Nat.lt_of_lt_of_le hbz2 z.below.size
            have n1 := fun u : Gr z.val => u.cell (q1 z) hz1
            have n2 := fun u : Gr z.val => u.cell (q2 z) hz1
            have n3 := fun u : Gr z.val => u.cell (q3 z) hz2
            have n4 := fun u : Gr z.val => u.cell (q4 z) hz2
            have hnez := Gr.ne z.val
            clear q1 q2 q3 q4 hneg
            go_wp2
            refine wp_region_gr (by kernel_rfl) (by kernel_rfl) ?_
            repeat (go_big_quiet_step (first | (go_at_call 120; exact Calls.gr _ (CC.out _))))
            refine wpQuiet_nil ?_
            rintro _ ⟨u, rfl⟩
            go_wp2
            go_ret
            exact ⟨rfl, BD.out.trans (u.below.mono BD.out.size)⟩
        · have hF := HTF.out (fun e => hx1 (by rw [e]))
          have hb2 : (x.1 == y.1) = false := beq_eq_false_iff_ne.2 hx1
          have CC := hid (fun W => c_l1Less' x y v hF.symm W)
          clear hF BD
          go_wp2
          refine wp_region_gr (by kernel_rfl) (by kernel_rfl) ?_
          repeat (go_big_quiet_step (fail))
          refine wpQuiet_nil ?_
          rintro _ ⟨z, rfl⟩
          have BD := hid (HBl.out.trans (z.below.mono HBl.out.size))
          have hz1 := Nat.lt_of_lt_of_le hbz1 z.below.size
          have hz2 := Nat.lt_of_lt_of_le hbz2 z.below.size
          have n1 := fun u : Gr z.val => u.cell (q1 z) hz1
          have n2 := fun u : Gr z.val => u.cell (q2 z) hz1
          have n3 := fun u : Gr z.val => u.cell (q3 z) hz2
          have n4 := fun u : Gr z.val => u.cell (q4 z) hz2
          have hnez := Gr.ne z.val
          clear q1 q2 q3 q4 hneg
          go_wp2
          refine wp_region_gr (by kernel_rfl) (by kernel_rfl) ?_
          repeat (go_big_quiet_step (first | (go_at_call 120; exact Calls.gr _ (CC.out _))))
          refine wpQuiet_nil ?_
          rintro _ ⟨u, rfl⟩
          go_wp2
          go_ret
          exact ⟨rfl, BD.out.trans (u.below.mono BD.out.size)⟩
      · have hbq : ((k : Int) == (m.length : Int)) = true := by simp; omega
        have HV := hid (HT1.out (by have h := ht.out; rw [show m.length = k by omega, h, List.take_of_length_le (by omega)]) (by omega))
        clear ht hB p1 p2
        go_wp2
        go_ret
        exact ⟨by rw [HV.out]; rfl, HBl.out⟩
    · obtain rfl : k = l.length := by omega
      have htt := ht.out
      rw [List.take_length] at htt
      clear hB
      by_cases hlm : l.length < m.length
      · have HV := hid (HT2.out htt.symm hlm)
        clear htt ht
        have h1 : (l.length : Int) < (m.length : Int) := by omega
        go_wp2
        go_ret
        exact ⟨by rw [HV.out]; simp [h1], HBl.out⟩
      · have HV := hid (HT3.out (by rw [htt, List.take_of_length_le (by omega)]))
        clear htt ht
        have h1 : ¬ (l.length : Int) < (m.length : Int) := by omega
        go_wp2
        go_ret
        exact ⟨by rw [HV.out]; simp [h1], HBl.out⟩

/-- What LeastTurn answers. -/
noncomputable def leastL (l : List Cl) : List Cl := if homeOk l then (frmTo l 8).headD [] else []
theorem leastL_le (l : List Cl) : (leastL l).length ≤ 120 := by
  unfold leastL
  split
  · rename_i hh
    have hg : good l = true := by simp only [homeOk, Bool.and_eq_true] at hh; exact hh.1
    cases hF : frmTo l 8 with
    | nil => exact absurd hF (frmTo_pos l)
    | cons x r =>
      obtain ⟨m, hm, e⟩ := (frmTo_mem l x 8).1 (by rw [hF]; exact List.mem_cons_self)
      show x.length ≤ 120
      rw [e]; exact hm_le l m hm hg
  · simp
theorem least_is {l : List Cl} (hh : homeOk l = true) {j : Nat} (hj : j < 8) (h : ∀ i, i < 8 → ltL (ht (fmTo l 8) i) (ht (fmTo l 8) j) = false) : leastL l = hm l j := by
  have h2 : ∀ i, i < 8 → ltL (hm l i) (hm l j) = false := fun i hi => by
    have := h i hi
    rwa [fmTo_ht l 8 hi, if_pos hi, fmTo_ht l 8 hj, if_pos hj] at this
  have h3 := asl_head (frmTo_asl l 8) ((frmTo_mem l (hm l j) 8).2 ⟨j, hj, rfl⟩) (fun z hz => by
    obtain ⟨i, hi, rfl⟩ := (frmTo_mem l z 8).1 hz
    exact h2 i hi)
  simp only [leastL, hh, if_true]
  cases hF : frmTo l 8 with
  | nil => exact absurd hF (frmTo_pos l)
  | cons x r => rw [hF] at h3; simpa using h3

set_option maxRecDepth 100000 in
set_option maxHeartbeats 4000000 in
theorem c_iLeastTurn (a : Option Addr) (l : List Cl) (ca : Nat) (w : World) (ha : Seg w a l) (hl : l.length ≤ 1048576) :
    Calls Try.prog 42 #[.slice a l.length ca] w fun e w' => ∃ v, e = .returned (.tuple #[v, .bool (homeOk l)]) ∧ OwnS w' w.heap.size v (leastL l) ∧ Below w.heap.size w w' := by
  cases hh : homeOk l
  · have HV : Hid (leastL l = []) := by simp [Hid, leastL, hh]
    have HC := hid (c_formsOf_no a l ca w ha hl hh)
    clear ha
    go_enter Try.func42, Try.ntmps42
    go_wp2_with fail
    refine HC.out.mono ?_
    rintro e w1 ⟨rfl, b1⟩
    go_wp2
    go_ret2
    exact ⟨_, rfl, by rw [HV.out]; exact OwnS.nil _ _, b1⟩
  · have hg : good l = true := by have := hh; simp only [homeOk, Bool.and_eq_true] at this; exact this.1
    have HV := hid (fun (j : Nat) (hj : j < 8) h => least_is hh hj h)
    have HL : Hid (∀ i, i < (fmTo l 8).length → (ht (fmTo l 8) i).length ≤ 1048576) := fun i hi => by
      rw [fmTo_len] at hi
      rw [fmTo_ht l 8 hi, if_pos hi]
      have := hm_le l i hi hg
      omega
    have HF := hid (fun (i : Nat) (hi : i < 8) => show ht (fmTo l 8) i = hm l i from by rw [fmTo_ht l 8 hi, if_pos hi])
    have HC := hid (c_formsOf_yes a l ca w ha hl hh)
    clear ha hh hg
    go_enter Try.func42, Try.ntmps42
    go_wp2_with fail
    refine HC.out.mono ?_
    rintro e w1 ⟨g, vs, rfl, o1, b1⟩
    have HK := hid (c_minFunc (some ⟨g, 0, none⟩) (fmTo l 8) 8 w1 o1.seg (by rw [fmTo_len]; omega) (by rw [fmTo_len]; omega) HL.out)
    rw [fmTo_len] at HK
    go_wp2_with fail
    refine HK.out.mono ?_
    rintro e w2 ⟨j, g', o, v2, hj, e1, rfl, hc, hmin, b2⟩
    simp only [Option.some.injEq, Addr.mk.injEq, and_true] at e1
    obtain ⟨rfl, rfl⟩ := e1
    have f0 := o1.row
    rw [fmTo_len] at f0
    have f2 := f0.cellAt j (by omega)
    rw [va_get (by have := o1.len; rw [fmTo_len] at this; omega)] at f2
    rw [Nat.zero_add, f2] at hc
    simp only [Option.some.injEq] at hc
    have he := o1.each j (by rw [fmTo_len]; exact hj)
    rw [hc, HF.out j hj] at he
    have hO := he.below b2
    have hV := HV.out j hj hmin
    obtain ⟨a2, c2, rfl, s2⟩ := hO.form
    clear f0 f2 hc he s2 hmin HK
    go_wp2
    go_ret2
    exact ⟨_, rfl, by rw [hV]; exact hO, b1.trans (b2.mono b1.size)⟩
end Go.Proofs.Ytgfdkolhldbehaa

namespace Go.Proofs.Ytgfdkolhldbehaa
open Go.RowKit Go.Maps
set_option linter.unusedVariables false
set_option linter.unusedSimpArgs false

/-- Slices put behind slices, in a row of its own. -/
theorem wpList_appV {w : World} {ops : Array Oper} {rest : List Oper} {o : Oper} {a : Act} {Q : Exit → Act → World → Prop} (hgd : o.guard = none) (s x : Operand)
    (ho : o.op = .call { callee := .builtin .append, args := #[s, x], argTypes := #[39, 39] })
    (base : Nat) (v : Value) (xs ys : List Value) (ad : Option Addr) (n k : Nat) (hs : a.eval s = v) (hown : w.ownsRow base 23 1 v xs.length xs) (hx : a.eval x = .slice ad n k) (hn : ys.length = n)
    (hseg : ∀ j u, ys[j]? = some u → ∃ b o, ad = some ⟨b, o, none⟩ ∧ w.cell? ⟨b, o + j, none⟩ = some u) (hone : ∀ u ∈ ys, u.oneCell' = true) (hk : ad = none → k = 0) (hlen : xs.length + ys.length ≤ 100000) (hbase : base ≤ w.heap.size)
    (h : ∀ v' w', w'.ownsRow base 23 1 v' (xs ++ ys).length (xs ++ ys) → w.grownBy w' v.ownBlock → wpList Try.prog ops Q rest (a.put o.dst v') w') : wpList Try.prog ops Q (o :: rest) a w := by
  subst hn
  obtain ⟨i, hi, hz, hsz, hb⟩ := info_parts info_Cells
  cases ad with
  | none =>
    have hm : ys = [] := by
      cases ys with
      | nil => rfl
      | cons c r => obtain ⟨b, o, e, _⟩ := hseg 0 c (by simp); cases e
    subst hm
    have hx' : a.eval x = .slice none 0 0 := by rw [hx, hk rfl]; rfl
    refine wpList_append_own_none hgd s x 39 ho base 23 i 1 Try.underlying39 hi v xs.length xs hs hown hx' ?_
    exact h v w (by simpa using hown) (grown_refl _ _)
  | some ad =>
    refine wpList_append_own w hgd s x 39 ho base 23 i _ 1 24 Try.underlying39 hi hz hsz hb rfl (by omega) v xs.length xs hs hown ad ys.length k ys hx (by simp) (fun j u hu => ?_) hone
      (by unfold maxLen; omega) (by omega) hbase ?_
    · obtain ⟨b, o, e, hc⟩ := hseg j u hu
      simp only [Option.some.injEq] at e
      subst e
      have hadd : (⟨b, o, none⟩ : Addr).add j = ⟨b, o + j, none⟩ := by unfold Addr.add; split <;> simp_all
      rw [hadd]; exact hc
    · intro v' w' h1 h2 _
      refine h v' w' ?_ h2
      rw [List.length_append]; exact h1
theorem wpList_appV0 {w : World} {ops : Array Oper} {rest : List Oper} {o : Oper} {a : Act} {Q : Exit → Act → World → Prop} (hgd : o.guard = none) (s x : Operand)
    (ho : o.op = .call { callee := .builtin .append, args := #[s, x], argTypes := #[39, 39] })
    (base : Nat) (v : Value) (xs : List Value) (hs : a.eval s = v) (hown : w.ownsRow base 23 1 v xs.length xs) (hx : ∃ ad n k, a.eval x = .slice ad n k ∧ n = 0 ∧ (ad = none → k = 0)) (hlen : xs.length ≤ 100000) (hbase : base ≤ w.heap.size)
    (h : ∀ v' w', w'.ownsRow base 23 1 v' xs.length xs → w.grownBy w' v.ownBlock → wpList Try.prog ops Q rest (a.put o.dst v') w') : wpList Try.prog ops Q (o :: rest) a w := by
  obtain ⟨ad, n, k, h1, h2, h3⟩ := hx
  subst h2
  exact wpList_appV hgd s x ho base v xs [] ad 0 k hs hown h1 rfl (fun j u hu => by simp at hu) (fun u hu => by simp at hu) h3 (by simpa using hlen) hbase (by simpa using h)

theorem ins_getD {α : Type} {l : List α} {x d : α} {k : Nat} (hk : k ≤ l.length) (i : Nat) : (l.take k ++ x :: l.drop k).getD i d = if i < k then l.getD i d else if i = k then x else l.getD (i - 1) d := by
  rw [List.getD_eq_getElem?_getD]
  have hl : (l.take k).length = k := by rw [List.length_take]; omega
  by_cases h : i < k
  · rw [List.getElem?_append_left (by omega), if_pos h, List.getElem?_take, if_pos h, List.getD_eq_getElem?_getD]
  · rw [List.getElem?_append_right (by omega), if_neg h, hl]
    by_cases e : i = k
    · subst e; simp
    · rw [if_neg e, show i - k = (i - 1 - k) + 1 by omega, List.getElem?_cons_succ, List.getElem?_drop, List.getD_eq_getElem?_getD, show k + (i - 1 - k) = i - 1 by omega]
/-- A list put between the others, in a new row. -/
theorem OwnH.ins {w : World} {base k : Nat} {v v' u : Value} {vs : List Value} {H : List (List Cl)} {m : List Cl} (h : OwnH w base v vs H) (hk : k ≤ H.length) (hr : w.ownsRow base 23 1 v' (vs.take k ++ u :: vs.drop k).length (vs.take k ++ u :: vs.drop k)) (hu : OwnS w base u m)
    (ha : ∀ i, i < H.length → ∀ q, (va vs i).ownBlock = some q → u.ownBlock ≠ some q) : OwnH w base v' (vs.take k ++ u :: vs.drop k) (H.take k ++ m :: H.drop k) := by
  have hkv : k ≤ vs.length := by rw [h.len]; exact hk
  have hlen : (vs.take k ++ u :: vs.drop k).length = (H.take k ++ m :: H.drop k).length := by
    simp only [List.length_append, List.length_take, List.length_cons, List.length_drop, h.len]
  have hl2 : (H.take k ++ m :: H.drop k).length = H.length + 1 := by
    simp only [List.length_append, List.length_take, List.length_cons, List.length_drop]; omega
  have hva : ∀ i, va (vs.take k ++ u :: vs.drop k) i = if i < k then va vs i else if i = k then u else va vs (i - 1) := fun i => ins_getD hkv i
  have hht : ∀ i, ht (H.take k ++ m :: H.drop k) i = if i < k then ht H i else if i = k then m else ht H (i - 1) := fun i => ins_getD hk i
  refine ⟨hlen, by rw [← hlen]; exact hr, fun i hi => ?_, fun i j hij hj q hq hq2 => ?_⟩
  · rw [hl2] at hi
    rw [hva, hht]
    by_cases h1 : i < k
    · rw [if_pos h1, if_pos h1]; exact h.each i (by omega)
    · rw [if_neg h1, if_neg h1]
      by_cases h2 : i = k
      · rw [if_pos h2, if_pos h2]; exact hu
      · rw [if_neg h2, if_neg h2]; exact h.each (i - 1) (by omega)
  · rw [hl2] at hj
    rw [hva] at hq hq2
    by_cases h1 : i < k
    · rw [if_pos h1] at hq
      by_cases h3 : j < k
      · rw [if_pos h3] at hq2; exact h.apart i j hij (by omega) q hq hq2
      · rw [if_neg h3] at hq2
        by_cases h4 : j = k
        · rw [if_pos h4] at hq2; exact ha i (by omega) q hq hq2
        · rw [if_neg h4] at hq2; exact h.apart i (j - 1) (by omega) (by omega) q hq hq2
    · rw [if_neg h1] at hq
      rw [if_neg (by omega), if_neg (by omega)] at hq2
      by_cases h2 : i = k
      · rw [if_pos h2] at hq; exact ha (j - 1) (by omega) q hq2 hq
      · rw [if_neg h2] at hq; exact h.apart (i - 1) (j - 1) (by omega) (by omega) q hq hq2

theorem frm_same {l : List Cl} {n k : Nat} (hk : k < (frmTo l n).length) (h1 : ∀ i, i < k → ltL (ht (frmTo l n) i) (hm l n) = true) (h2 : ltL (ht (frmTo l n) k) (hm l n) = false) (h3 : ht (frmTo l n) k = hm l n) : frmTo l (n + 1) = frmTo l n := by
  rw [frmTo, insF_at (hm l n) (H := frmTo l n) (k := k) (by omega) (fun i hi hik => by have := h1 i hik; simpa [ht, hi] using this) (fun h => by simpa [ht, h] using h2), if_pos (by simpa [ht, hk] using h3)]
theorem frm_new {l : List Cl} {n k : Nat} (hk : k ≤ (frmTo l n).length) (h1 : ∀ i, i < k → ltL (ht (frmTo l n) i) (hm l n) = true) (h2 : k < (frmTo l n).length → ltL (ht (frmTo l n) k) (hm l n) = false ∧ ht (frmTo l n) k ≠ hm l n) : frmTo l (n + 1) = (frmTo l n).take k ++ hm l n :: (frmTo l n).drop k := by
  rw [frmTo, insF_at (hm l n) (H := frmTo l n) (k := k) hk (fun i hi hik => by have := h1 i hik; simpa [ht, hi] using this) (fun h => by have := (h2 h).1; simpa [ht, h] using this), if_neg ?_]
  intro e
  have hlt := (List.getElem?_eq_some_iff.1 e).1
  exact (h2 hlt).2 (by simp [ht, e])
theorem frm_each {l : List Cl} (hg : good l = true) {n : Nat} (hn : n ≤ 8) {i : Nat} (hi : i < (frmTo l n).length) : (ht (frmTo l n) i).length ≤ 120 := by
  have hmem : ht (frmTo l n) i ∈ frmTo l n := by simp [ht, hi]
  obtain ⟨w, hw, e⟩ := (frmTo_mem l _ n).1 hmem
  rw [e]; exact hm_le l w (by omega) hg
theorem row_empty (w : World) : (w.alloc (.cells #[] 23)).ownsRow w.heap.size 23 1 (.slice (some ⟨w.heap.size, 0, none⟩) 0 0) ([] : List Value).length [] :=
  World.ownsRow_made w #[] 0 (Nat.le_refl _) (by simp [maxLen]) rfl
theorem below_grownV {w W W' : World} {v : Value} {n : Nat} {xs : List Value} (hB : Below w.heap.size w W) (hown : W.ownsRow w.heap.size 23 1 v n xs) (hg : W.grownBy W' v.ownBlock) : Below w.heap.size w W' :=
  hB.grown hg hB.size fun k hk => (hown.lt k hk).1
theorem row_block {w : World} {B : Nat} {u : Value} {fr : Nat × Nat} (hb : w.heap[B]? = some (.cells #[u] 23 fr)) : ∀ j x, [u][j]? = some x → ∃ b o, some (⟨B, 0, none⟩ : Addr) = some ⟨b, o, none⟩ ∧ w.cell? ⟨b, o + j, none⟩ = some x := by
  intro j x hx
  have hj : j = 0 := by
    have := (List.getElem?_eq_some_iff.1 hx).1
    simpa using this
  subst hj
  simp at hx
  subst hx
  refine ⟨B, 0, rfl, ?_⟩
  unfold World.cell?; rw [hb]; rfl
theorem OwnH.cellsAt {w : World} {base g n ca : Nat} {vs : List Value} {H : List (List Cl)} (h : OwnH w base (.slice (some ⟨g, 0, none⟩) n ca) vs H) : n = H.length ∧ g < w.heap.size ∧ n ≤ ca ∧ (∀ j u, vs[j]? = some u → w.cell? ⟨g, j, none⟩ = some u) ∧ ∀ u ∈ vs, u.oneCell' = true := by
  rcases h.row.2 with ⟨e, _⟩ | ⟨g', cap, cur, e, hb, hg, hcap, _⟩
  · simp at e
  · simp only [Value.slice.injEq, Option.some.injEq, Addr.mk.injEq, and_true, true_and] at e
    obtain ⟨rfl, rfl, rfl⟩ := e
    refine ⟨rfl, (Array.getElem?_eq_some_iff.1 hg).1, hcap, fun j u hu => ?_, fun u hu => ?_⟩
    · have hj := (List.getElem?_eq_some_iff.1 hu).1
      rw [h.len] at hj
      rw [World.ownsRow.cellAt h.row j (by omega)]; exact hu
    · obtain ⟨i, hi, e⟩ := List.getElem_of_mem hu
      obtain ⟨a', c', e2, _⟩ := (h.each i (by rw [← h.len]; exact hi)).form
      have : va vs i = u := by simp [va, hi, e]
      rw [← this, e2]; rfl

set_option maxRecDepth 100000 in
set_option maxHeartbeats 16000000 in
theorem c_l8Forms (a : Option Addr) (l : List Cl) (ca : Nat) (w : World) (ha : Seg w a l) (hg : good l = true) :
    Calls Try.prog 94 #[.slice a l.length ca] w fun e w' => ∃ v vs, e = .returned v ∧ OwnH w' w.heap.size v vs (frmTo l 8) ∧ Below w.heap.size w w' := by
  have HN := hid (nodup_near hg)
  have HL := hid (fun (m : Nat) (hm : m < 8) => good_le (tu_good hm hg))
  have HH := hid (fun (m : Nat) (hm8 : m < 8) => hm_le l m hm8 hg)
  have HEach := hid (fun (n : Nat) (hn : n ≤ 8) (i : Nat) (hi : i < (frmTo l n).length) => frm_each hg hn hi)
  have hlg := good_le hg
  have HA := hid ha
  clear ha hg
  go_enter Try.func94, Try.ntmps94
  go_wp2_with fail
  go_loopw [3, 4] (fun v i wr => ∃ (k : Nat) (vs : List Value), k ≤ 8 ∧ i = .int .i64 (k : Int) ∧ OwnH wr w.heap.size v vs (frmTo l k) ∧ Below w.heap.size w wr) (fun _ i _ => 8 - (intOf i).toNat)
  case atStart => exact ⟨0, [], Nat.zero_le _, rfl, OwnH.nil _ _, Below.refl _ _⟩
  case round =>
    obtain ⟨n, vs, hn, rfl, hO, hB⟩ := hrel
    have HO := hid hO
    have HB := hid hB
    clear hO hB
    by_cases hlt : n < 8
    · have n1 : (n : Int) < 8 := by omega
      have hx1 := HL.out n hlt
      have hx2 := HH.out n hlt
      have HE := hid (HEach.out n hn)
      have HF1 := hid (fun (k : Nat) (hk : k < (frmTo l n).length) h1 h2 h3 => frm_same (l := l) (n := n) hk h1 h2 h3)
      have HF2 := hid (fun (k : Nat) (hk : k ≤ (frmTo l n).length) h1 h2 => frm_new (l := l) (n := n) hk h1 h2)
      have hfl := frmTo_len l n
      go_wp2_with fail
      refine (c_l8All a l ca n hlt _ (HA.out.below HB.out) (by omega) HN.out).mono ?_
      rintro e w2 ⟨v2, rfl, o2, b2⟩
      obtain ⟨a2, c2, rfl, s2⟩ := o2.form
      have HB2 := hid (HB.out.trans (b2.mono HB.out.size))
      have HO2 := hid (HO.out.below b2)
      have S2 := hid s2
      have Z2 := hid b2.size
      clear o2 s2 b2
      go_wp2_with fail
      refine (c_l6Home a2 (tuL n l) c2 _ S2.out (by omega)).mono ?_
      rintro e w3 ⟨v3, rfl, o3, b3⟩
      change OwnS w3 w2.heap.size v3 (hm l n) at o3
      obtain ⟨a3, c3, rfl, s3⟩ := o3.form
      have HB3 := hid (HB2.out.trans (b3.mono HB2.out.size))
      have HO3 := hid (HO2.out.below b3)
      have X3 := hid (o3.mono HB2.out.size)
      have HAP := hid (fun i (hi : i < (frmTo l n).length) q (hq : (va vs i).ownBlock = some q) => show (Value.slice a3 (hm l n).length c3).ownBlock ≠ some q from fun e => by
        have h1 := ((HO2.out.each i hi).lt q hq).2
        have h2 := (o3.lt q e).1
        omega)
      clear o3 s3 b3 S2 HB HO HB2 HO2
      generalize hXm : hm l n = X at *
      have HXm := hid hXm
      generalize hHf : frmTo l n = H at *
      have HHf := hid hHf
      clear hXm hHf
      rcases HO3.out.row.2 with ⟨rfl, h0⟩ | ⟨g, cap, cur, rfl, hb0, hg0, hc0⟩
      · have hH : H = [] := List.eq_nil_of_length_eq_zero h0
        have hV : vs = [] := List.eq_nil_of_length_eq_zero (by rw [HO3.out.len, h0])
        subst hH
        subst hV
        have HNEW := hid (HF2.out 0 (by simp) (fun i hi => absurd hi (Nat.not_lt_zero _)) (fun h => absurd h (by simp)))
        clear HF1 HF2 HE h0
        go_wp2_with fail
        go_loopw [6] (fun i wq => i = .int .i64 0 ∧ wq = w3) (fun _ _ => 0)
        case atStart => exact ⟨rfl, rfl⟩
        case round =>
          obtain ⟨rfl, rfl⟩ := hrel
          have B6 := hid ((Below.refl wr.heap.size wr).alloc (Nat.le_refl _) (.cells #[] 23))
          have R6 := hid (row_empty wr)
          go_wp2_with (first
            | (at_builtin; refine wpList_appV rfl (.tmp 42) (.tmp 45) rfl wr.heap.size _ [] [] none 0 0 rfl R6.out rfl rfl (fun j u hu => by simp at hu) (fun u hu => by simp at hu) (by intro h; first | rfl | cases h) (by simp; try omega) B6.out.size ?_; intro v6 w6 r6 g6; have B7 := hid (below_grownV B6.out R6.out g6); have R7 := hid r6; clear r6 g6)
            | (at_builtin; refine wpList_appV rfl (.tmp 47) (.tmp 49) rfl wr.heap.size v6 ([] ++ []) [(.slice a3 X.length c3)] (some ⟨w6.heap.size, 0, none⟩) 1 1 rfl (R7.out.alloc _) rfl rfl (row_block (heap_alloc_new w6 _)) (by intro u hu; simp only [List.mem_singleton] at hu; subst hu; rfl) (by intro h; cases h) (by simp; try omega) (B7.out.alloc B7.out.size _).size ?_; intro v7 w7 r7 g7; have B8 := hid (below_grownV (B7.out.alloc B7.out.size _) (R7.out.alloc _) g7); have R8 := hid r7; clear r7 g7)
            | (at_builtin; refine wpList_appV0 rfl (.tmp 51) (.tmp 54) rfl wr.heap.size v7 ([] ++ [] ++ [(.slice a3 X.length c3)]) rfl R8.out ⟨_, _, _, rfl, by first | rfl | omega | simp, by intro h; first | rfl | (split at h <;> cases h) | cases h⟩ (by simp; try omega) B8.out.size ?_; intro v8 w8 r8 g8; have B9 := hid (below_grownV B8.out R8.out g8); have R9 := hid r8; clear r8 g8))
          all_goals
            have HOf := hid (((OwnH.nil w8 w.heap.size).ins (k := 0) (v' := v8) (u := (.slice a3 X.length c3)) (m := X) (Nat.zero_le _) (World.ownsRow.mono (by simpa using R9.out) HB3.out.size) (X3.out.below B9.out) (fun i hi => absurd hi (Nat.not_lt_zero _))))
            have HBf := hid (HB3.out.trans (B9.out.mono HB3.out.size))
            clear R6 R7 R8 R9 B6 B7 B8 B9
            go_roundw
            case rel => exact ⟨n + 1, _, by omega, by go_num, by rw [HNEW.out]; exact HOf.out, HBf.out⟩
            case measure => simp [intOf]; omega
      · obtain ⟨hnl, hgz, hcap, hca1, hca2⟩ := HO3.out.cellsAt
        have HCA := hid (show (∀ j u, vs[j]? = some u → w3.cell? ⟨g, j, none⟩ = some u) ∧ ∀ u ∈ vs, u.oneCell' = true from ⟨hca1, hca2⟩)
        have hcapI : (H.length : Int) ≤ (cap : Int) := by omega
        clear hnl hca1 hca2 hb0 hg0 hc0
        go_wp2_with fail
        go_loopw [6] (fun i wq => ∃ j : Nat, j ≤ H.length ∧ i = .int .i64 (j : Int) ∧ Hid (∀ i, i < j → ltL (ht H i) X = true) ∧ Below w3.heap.size w3 wq) (fun i _ => H.length - (intOf i).toNat)
        case atStart => exact ⟨0, Nat.zero_le _, rfl, (fun i hi => absurd hi (Nat.not_lt_zero _)), Below.refl _ _⟩
        case round =>
          obtain ⟨j, hj, rfl, hlow, hBW⟩ := hrel
          have BW := hid hBW
          have j0 : (0 : Int) ≤ (j : Int) := by omega
          have j2 : (j : Int) ≤ (H.length : Int) := by omega
          have j3 : (j : Int) ≤ (cap : Int) := by omega
          clear hBW
          by_cases hjl : j < H.length
          · have j1 : (j : Int) < (H.length : Int) := by omega
            obtain ⟨g', a4, c4, e4, -, -, e5, p4⟩ := HO3.out.at hjl
            simp only [Option.some.injEq, Addr.mk.injEq, and_true] at e4
            subst e4
            have s4 := HO3.out.each j hjl
            rw [e5] at s4
            have q4 := (BW.out.cell (p := ⟨g, j, none⟩) hgz).trans p4
            have S4 := hid (s4.seg.below BW.out)
            have S3 := hid (X3.out.seg.below BW.out)
            have hx4 := HE.out j hjl
            clear s4 e5
            cases hv : ltL (ht H j) X
            · have HV := hid hv
              go_wp2_with fail
              refine (c_l8Less a4 a3 (ht H j) X c4 c3 false HV.out _ S4.out S3.out (by omega) (by omega)).mono ?_
              rintro e w5 ⟨rfl, b5⟩
              replace S4 := hid (S4.out.below b5)
              replace S3 := hid (S3.out.below b5)
              replace BW := hid (BW.out.trans (b5.mono BW.out.size))
              clear b5 q4
              have q4 := (BW.out.cell (p := ⟨g, j, none⟩) hgz).trans p4
              cases hs : decide (ht H j = X)
              · have hne : ht H j ≠ X := by simpa using hs
                have HNEW := hid (HF2.out j (by omega) hlow.out (fun _ => ⟨HV.out, hne⟩))
                have HS := hid hs
                clear HF1 HF2 hne hs hlow
                go_wp2_with fail
                refine (c_l6Same' a4 a3 (ht H j) X c4 c3 false HS.out _ S4.out S3.out (by omega) (by omega)).mono ?_
                rintro e w9 ⟨rfl, b9⟩
                replace BW := hid (BW.out.trans (b9.mono BW.out.size))
                clear b9 q4 p4 S4 S3
                have HT1 := hid (show (vs.take j).length = j by rw [List.length_take, HO3.out.len]; omega)
                have HT2 := hid (fun i u (hu : (vs.take j)[i]? = some u) => show ∃ b o, (some ⟨g, 0, none⟩ : Option Addr) = some ⟨b, o, none⟩ ∧ (w9.alloc (.cells #[] 23)).cell? ⟨b, o + i, none⟩ = some u from ⟨g, 0, rfl, by
                  rw [List.getElem?_take] at hu
                  split at hu
                  · rw [Nat.zero_add]; exact ((BW.out.alloc BW.out.size _).cell (p := ⟨g, i, none⟩) hgz).trans (HCA.out.1 i u hu)
                  · cases hu⟩)
                have HT3 := hid (fun u (hu : u ∈ vs.take j) => HCA.out.2 u (List.mem_of_mem_take hu))
                have HD1 := hid (show (vs.drop j).length = H.length - j by rw [List.length_drop, HO3.out.len])
                have HD2 := hid (fun (W : World) (hW : Below w3.heap.size w3 W) i u (hu : (vs.drop j)[i]? = some u) => show ∃ b o, (some ⟨g, 0 + j, none⟩ : Option Addr) = some ⟨b, o, none⟩ ∧ W.cell? ⟨b, o + i, none⟩ = some u from ⟨g, 0 + j, rfl, by
                  rw [List.getElem?_drop] at hu
                  rw [Nat.zero_add]; exact (hW.cell (p := ⟨g, j + i, none⟩) hgz).trans (HCA.out.1 _ u hu)⟩)
                have HD3 := hid (fun u (hu : u ∈ vs.drop j) => HCA.out.2 u (List.mem_of_mem_drop hu))
                have B6 := hid ((Below.refl w9.heap.size w9).alloc (Nat.le_refl _) (.cells #[] 23))
                have R6 := hid (row_empty w9)
                go_wp2_with (first
                  | (at_builtin; refine wpList_appV rfl (.tmp 42) (.tmp 45) rfl w9.heap.size _ [] (vs.take j) (some ⟨g, 0, none⟩) j cap rfl R6.out rfl HT1.out HT2.out HT3.out (by intro h; first | rfl | cases h) (by have := HO3.out.len; simp; try omega) B6.out.size ?_; intro v6 w6 r6 g6; have B7 := hid (below_grownV B6.out R6.out g6); have R7 := hid r6; clear r6 g6)
                  | (at_builtin; refine wpList_appV rfl (.tmp 47) (.tmp 49) rfl w9.heap.size v6 ([] ++ (vs.take j)) [(.slice a3 X.length c3)] (some ⟨w6.heap.size, 0, none⟩) 1 1 rfl (R7.out.alloc _) rfl rfl (row_block (heap_alloc_new w6 _)) (by intro u hu; simp only [List.mem_singleton] at hu; subst hu; rfl) (by intro h; cases h) (by have := HO3.out.len; simp; try omega) (B7.out.alloc B7.out.size _).size ?_; intro v7 w7 r7 g7; have B8 := hid (below_grownV (B7.out.alloc B7.out.size _) (R7.out.alloc _) g7); have R8 := hid r7; clear r7 g7)
                  | (at_builtin; refine wpList_appV rfl (.tmp 51) (.tmp 54) rfl w9.heap.size v7 ([] ++ (vs.take j) ++ [(.slice a3 X.length c3)]) (vs.drop j) (some ⟨g, 0 + j, none⟩) (H.length - j) (cap - j) rfl R8.out (by first | rfl | (rw [Nat.zero_add]; rfl)) HD1.out (HD2.out _ (BW.out.trans (B8.out.mono BW.out.size))) HD3.out (by intro h; cases h) (by have := HO3.out.len; simp; try omega) B8.out.size ?_; intro v8 w8 r8 g8; have B9 := hid (below_grownV B8.out R8.out g8); have R9 := hid r8; clear r8 g8))
                all_goals
                  have HOf := hid (((HO3.out.below BW.out).below B9.out).ins (k := j) (v' := v8) (u := (.slice a3 X.length c3)) (m := X) (by omega) (World.ownsRow.mono (by simpa using R9.out) (by have := HB3.out.size; have := BW.out.size; omega)) ((X3.out.below BW.out).below B9.out) HAP.out)
                  have HBf := hid ((HB3.out.trans (BW.out.mono HB3.out.size)).trans (B9.out.mono (HB3.out.trans (BW.out.mono HB3.out.size)).size))
                  clear R6 R7 R8 R9 B6 B7 B8 B9
                  go_roundw
                  case rel => exact ⟨n + 1, _, by omega, by go_num, by rw [HNEW.out]; exact HOf.out, HBf.out⟩
                  case measure => simp [intOf]; omega
              · have heq : ht H j = X := by simpa using hs
                have HNEW := hid (HF1.out j hjl hlow.out HV.out heq)
                have HS := hid hs
                clear HF1 HF2 heq hs hlow
                go_wp2_with fail
                refine (c_l6Same' a4 a3 (ht H j) X c4 c3 true HS.out _ S4.out S3.out (by omega) (by omega)).mono ?_
                rintro e w9 ⟨rfl, b9⟩
                replace BW := hid (BW.out.trans (b9.mono BW.out.size))
                have HOf := hid (HO3.out.below BW.out)
                have HBf := hid (HB3.out.trans (BW.out.mono HB3.out.size))
                clear b9 q4 p4 S4 S3
                go_wp2_with fail
                go_roundw
                case rel => exact ⟨n + 1, vs, by omega, by go_num, by rw [HNEW.out]; exact HOf.out, HBf.out⟩
                case measure => simp [intOf]; omega
            · have HV := hid hv
              go_wp2_with fail
              refine (c_l8Less a4 a3 (ht H j) X c4 c3 true HV.out _ S4.out S3.out (by omega) (by omega)).mono ?_
              rintro e w5 ⟨rfl, b5⟩
              replace BW := hid (BW.out.trans (b5.mono BW.out.size))
              clear b5 q4 S4 S3
              go_wp2_with fail
              go_roundw
              case rel => exact ⟨j + 1, by omega, by go_num, (fun i hi => by
                by_cases e : i = j
                · rw [e]; exact HV.out
                · exact hlow.out i (by omega)), BW.out⟩
              case measure => simp [intOf]; omega
          · obtain rfl : j = H.length := by omega
            have HNEW := hid (HF2.out H.length (Nat.le_refl _) hlow.out (fun h => absurd h (Nat.lt_irrefl _)))
            clear HF1 HF2 hlow HE
            have HT1 := hid (show (vs.take H.length).length = H.length by rw [List.length_take, HO3.out.len]; omega)
            have HT2 := hid (fun i u (hu : (vs.take H.length)[i]? = some u) => show ∃ b o, (some ⟨g, 0, none⟩ : Option Addr) = some ⟨b, o, none⟩ ∧ (wr.alloc (.cells #[] 23)).cell? ⟨b, o + i, none⟩ = some u from ⟨g, 0, rfl, by
              rw [List.getElem?_take] at hu
              split at hu
              · rw [Nat.zero_add]; exact ((BW.out.alloc BW.out.size _).cell (p := ⟨g, i, none⟩) hgz).trans (HCA.out.1 i u hu)
              · cases hu⟩)
            have HT3 := hid (fun u (hu : u ∈ vs.take H.length) => HCA.out.2 u (List.mem_of_mem_take hu))
            have HD1 := hid (show (vs.drop H.length).length = H.length - H.length by rw [List.length_drop, HO3.out.len])
            have HD2 := hid (fun (W : World) (hW : Below w3.heap.size w3 W) i u (hu : (vs.drop H.length)[i]? = some u) => show ∃ b o, (some ⟨g, 0 + H.length, none⟩ : Option Addr) = some ⟨b, o, none⟩ ∧ W.cell? ⟨b, o + i, none⟩ = some u from ⟨g, 0 + H.length, rfl, by
              rw [List.getElem?_drop] at hu
              rw [Nat.zero_add]; exact (hW.cell (p := ⟨g, H.length + i, none⟩) hgz).trans (HCA.out.1 _ u hu)⟩)
            have HD3 := hid (fun u (hu : u ∈ vs.drop H.length) => HCA.out.2 u (List.mem_of_mem_drop hu))
            have B6 := hid ((Below.refl wr.heap.size wr).alloc (Nat.le_refl _) (.cells #[] 23))
            have R6 := hid (row_empty wr)
            go_wp2_with (first
              | (at_builtin; refine wpList_appV rfl (.tmp 42) (.tmp 45) rfl wr.heap.size _ [] (vs.take H.length) (some ⟨g, 0, none⟩) H.length cap rfl R6.out rfl HT1.out HT2.out HT3.out (by intro h; first | rfl | cases h) (by have := HO3.out.len; simp; try omega) B6.out.size ?_; intro v6 w6 r6 g6; have B7 := hid (below_grownV B6.out R6.out g6); have R7 := hid r6; clear r6 g6)
              | (at_builtin; refine wpList_appV rfl (.tmp 47) (.tmp 49) rfl wr.heap.size v6 ([] ++ (vs.take H.length)) [(.slice a3 X.length c3)] (some ⟨w6.heap.size, 0, none⟩) 1 1 rfl (R7.out.alloc _) rfl rfl (row_block (heap_alloc_new w6 _)) (by intro u hu; simp only [List.mem_singleton] at hu; subst hu; rfl) (by intro h; cases h) (by have := HO3.out.len; simp; try omega) (B7.out.alloc B7.out.size _).size ?_; intro v7 w7 r7 g7; have B8 := hid (below_grownV (B7.out.alloc B7.out.size _) (R7.out.alloc _) g7); have R8 := hid r7; clear r7 g7)
              | (at_builtin; refine wpList_appV0 rfl (.tmp 51) (.tmp 54) rfl wr.heap.size v7 ([] ++ (vs.take H.length) ++ [(.slice a3 X.length c3)]) rfl R8.out ⟨_, _, _, rfl, by first | rfl | omega | simp, by intro h; first | rfl | (split at h <;> cases h) | cases h⟩ (by have := HO3.out.len; simp; try omega) B8.out.size ?_; intro v8 w8 r8 g8; have B9 := hid (below_grownV B8.out R8.out g8); have R9 := hid r8; clear r8 g8))
            all_goals
              have HOf := hid (((HO3.out.below BW.out).below B9.out).ins (k := H.length) (v' := v8) (u := (.slice a3 X.length c3)) (m := X) (by omega) (World.ownsRow.mono (by have e : vs.drop H.length = [] := List.eq_nil_of_length_eq_zero (by rw [HD1.out]; omega); rw [e]; simpa using R9.out) (by have := HB3.out.size; have := BW.out.size; omega)) ((X3.out.below BW.out).below B9.out) HAP.out)
              have HBf := hid ((HB3.out.trans (BW.out.mono HB3.out.size)).trans (B9.out.mono (HB3.out.trans (BW.out.mono HB3.out.size)).size))
              clear R6 R7 R8 R9 B6 B7 B8 B9
              go_roundw
              case rel => exact ⟨n + 1, _, by omega, by go_num, by rw [HNEW.out]; exact HOf.out, HBf.out⟩
              case measure => simp [intOf]; omega
    · obtain rfl : n = 8 := by omega
      go_wp2
      go_ret
      exact ⟨_, _, rfl, HO.out, HB.out⟩

set_option maxRecDepth 100000 in
set_option maxHeartbeats 4000000 in
theorem c_sLeastTurn (a : Option Addr) (l : List Cl) (ca : Nat) (w : World) (ha : Seg w a l) (hl : l.length ≤ 1048576) :
    Calls Try.prog 41 #[.slice a l.length ca] w fun e w' => ∃ v, e = .returned (.tuple #[v, .bool (homeOk l)]) ∧ OwnS w' w.heap.size v (leastL l) ∧ Below w.heap.size w w' := by
  cases hh : homeOk l
  · have HV : Hid (leastL l = []) := by simp [Hid, leastL, hh]
    have HC := hid (c_l8Good a l ca false hh w ha hl)
    clear ha
    go_enter Try.func41, Try.ntmps41
    go_wp2_with fail
    refine HC.out.mono ?_
    rintro e w1 ⟨rfl, b1⟩
    go_wp2
    go_ret2
    exact ⟨_, rfl, by rw [HV.out]; exact OwnS.nil _ _, b1⟩
  · have hg : good l = true := by have := hh; simp only [homeOk, Bool.and_eq_true] at this; exact this.1
    have hp : 0 < (frmTo l 8).length := List.length_pos_iff.2 (frmTo_pos l)
    have HV : Hid (leastL l = ht (frmTo l 8) 0) := by
      show _ = _
      simp only [leastL, hh, if_true]
      cases hF : frmTo l 8 with
      | nil => exact absurd hF (frmTo_pos l)
      | cons x r => rfl
    have HC := hid (c_l8Good a l ca true hh w ha hl)
    have HF := hid (fun W (h : Seg W a l) => c_l8Forms a l ca W h hg)
    have HA := hid ha
    clear ha hh hg
    generalize frmTo l 8 = H at *
    go_enter Try.func41, Try.ntmps41
    go_wp2_with fail
    refine HC.out.mono ?_
    rintro e w1 ⟨rfl, b1⟩
    have B1 := hid b1
    have A1 := hid (HA.out.below b1)
    clear b1 HA HC
    go_wp2_with fail
    refine (HF.out _ A1.out).mono ?_
    rintro e w2 ⟨v2, vs, rfl, o2, b2⟩
    obtain ⟨a2, c2, rfl, _, _⟩ := o2.form
    obtain ⟨g, a3, c3, rfl, -, hgz, e3, p3⟩ := o2.at hp
    have O3 := o2.each 0 hp
    rw [e3] at O3
    have O3 := hid (O3.mono B1.out.size)
    have B2 := hid (B1.out.trans (b2.mono B1.out.size))
    clear o2 b2 e3 hgz
    go_wp2
    go_ret2
    exact ⟨_, rfl, by rw [HV.out]; exact O3.out, B2.out⟩

/-- What TurnsOf answers. -/
noncomputable def turnsL (l : List Cl) : List (List Cl) := if homeOk l then frmTo l 8 else []
theorem turnsL_len (l : List Cl) : (turnsL l).length ≤ 8 := by
  unfold turnsL; split
  · exact frmTo_len l 8
  · simp
theorem turnsL_each (l : List Cl) {i : Nat} (hi : i < (turnsL l).length) : (ht (turnsL l) i).length ≤ 120 := by
  unfold turnsL at *
  split at hi
  · rename_i hh
    have hg : good l = true := by simp only [homeOk, Bool.and_eq_true] at hh; exact hh.1
    simp only [hh, if_true]
    exact frm_each hg (Nat.le_refl _) hi
  · simp at hi
set_option maxRecDepth 100000 in
set_option maxHeartbeats 4000000 in
theorem c_sTurnsOf (a : Option Addr) (l : List Cl) (ca : Nat) (w : World) (ha : Seg w a l) (hl : l.length ≤ 1048576) :
    Calls Try.prog 43 #[.slice a l.length ca] w fun e w' => ∃ v vs, e = .returned (.tuple #[v, .bool (homeOk l)]) ∧ OwnH w' w.heap.size v vs (turnsL l) ∧ Below w.heap.size w w' := by
  cases hh : homeOk l
  · have HV : Hid (turnsL l = []) := by simp [Hid, turnsL, hh]
    have HC := hid (c_l8Good a l ca false hh w ha hl)
    clear ha
    go_enter Try.func43, Try.ntmps43
    go_wp2_with fail
    refine HC.out.mono ?_
    rintro e w1 ⟨rfl, b1⟩
    go_wp2
    go_ret2
    exact ⟨_, [], rfl, by rw [HV.out]; exact OwnH.nil _ _, b1⟩
  · have hg : good l = true := by have := hh; simp only [homeOk, Bool.and_eq_true] at this; exact this.1
    have HV : Hid (turnsL l = frmTo l 8) := by simp [Hid, turnsL, hh]
    have HC := hid (c_l8Good a l ca true hh w ha hl)
    have HF := hid (fun W (h : Seg W a l) => c_l8Forms a l ca W h hg)
    have HA := hid ha
    clear ha hh hg
    generalize frmTo l 8 = H at *
    go_enter Try.func43, Try.ntmps43
    go_wp2_with fail
    refine HC.out.mono ?_
    rintro e w1 ⟨rfl, b1⟩
    have B1 := hid b1
    have A1 := hid (HA.out.below b1)
    clear b1 HA HC
    go_wp2_with fail
    refine (HF.out _ A1.out).mono ?_
    rintro e w2 ⟨v2, vs, rfl, o2, b2⟩
    obtain ⟨a2, c2, rfl, _, _⟩ := o2.form
    go_wp2
    go_ret2
    exact ⟨_, vs, rfl, by rw [HV.out]; exact o2.mono B1.out.size, B1.out.trans (b2.mono B1.out.size)⟩
end Go.Proofs.Ytgfdkolhldbehaa
