/- firstPart. -/
import Derived.Test.YtgppcocfnbalfaaJnd
import Derived.Test.YtgppcocfnbalfaaCountsOf
import Derived.Test.YtgppcocfnbalfaaStepO
import Derived.Test.YtgppcocfnbalfaaRgC
import Derived.Test.YtgppcocfnbalfaaKnown
import Derived.Test.YtgppcocfnbalfaaAppAt
namespace Go.Proofs.Ytgppcocfnbalfaa
open Go.RowKit
set_option linter.unusedVariables false
set_option linter.unusedSimpArgs false
attribute [local go_sem ↓] Go.wp_at_zero Go.wp_at_succ

theorem seg_far {W W' : World} {a : Option Addr} {s : List Cl} {row : Option Nat} (h : Seg W a s) (hg : W.grownBy W' row) (hne : ∀ A, a = some A → row ≠ some A.block) : Seg W' a s := by
  intro i hi
  obtain ⟨b, o, e, hb, p0, p1⟩ := h i hi
  exact ⟨b, o, e, Nat.lt_of_lt_of_le hb hg.size, hg.cell p0 (fun e2 => hne _ e e2.symm), hg.cell p1 (fun e2 => hne _ e e2.symm)⟩
theorem filter_more (f : Cl → Bool) {s : List Cl} {k : Nat} (hk : k < s.length) : (s.take (k + 1)).filter f = (s.take k).filter f ++ if f (at_ s k) then [at_ s k] else [] := by
  have e : at_ s k = s[k] := by simp [at_, hk]
  rw [List.take_succ_eq_append_getElem hk, List.filter_append, ← e]
  congr 1
  cases h : f (at_ s k) <;> simp [List.filter_cons, h]
theorem near_far {W : World} {v v' : Value} {b : Nat} (hn : Near' W v v') (hv : v.ownBlock ≠ some b) (hb : b < W.heap.size) : v'.ownBlock ≠ some b := by
  intro e
  rcases hn with h | ⟨k, h, hk⟩
  · exact hv (h.symm.trans e)
  · rw [h] at e; simp only [Option.some.injEq] at e; omega

/-- A slice lies in a row of cells. -/
def Ty (W : World) (a : Option Addr) : Prop := ∀ A, a = some A → ∃ cur f, W.heap[A.block]? = some (.cells cur 44 f)
theorem Ty.below {W W' : World} {a : Option Addr} (h : Ty W a) (hb : Below W.heap.size W W') : Ty W' a := fun A e => by
  obtain ⟨cur, f, h1⟩ := h A e
  exact ⟨cur, f, (hb.block _ (Array.getElem?_eq_some_iff.1 h1).1).trans h1⟩
theorem Ty.far {W W' : World} {a : Option Addr} {row : Option Nat} (h : Ty W a) (hg : W.grownBy W' row) (hne : ∀ A, a = some A → row ≠ some A.block) : Ty W' a := fun A e => by
  obtain ⟨cur, f, h1⟩ := h A e
  exact ⟨cur, f, (hg.block _ (Array.getElem?_eq_some_iff.1 h1).1 (fun e2 => hne A e e2.symm)).trans h1⟩
theorem OwnS.ty {W : World} {base n c : Nat} {a : Option Addr} {l : List Cl} (h : OwnS W base (.slice a n c) l) : Ty W a := fun A e => by
  subst e
  rcases h.2 with ⟨e, _⟩ | ⟨g, cap, cur, e, _, hg, _⟩
  · cases e
  · simp only [Value.slice.injEq, Option.some.injEq] at e
    obtain ⟨rfl, -⟩ := e
    exact ⟨cur, _, hg⟩

theorem OwnS.cap_le {W : World} {base n c : Nat} {a : Option Addr} {l : List Cl} (h : OwnS W base (.slice a n c) l) : l.length ≤ c := by
  rcases h.2 with ⟨e, h0⟩ | ⟨g, cap, cur, e, _, _, h1, _⟩
  · omega
  · simp only [Value.slice.injEq] at e
    obtain ⟨-, -, rfl⟩ := e
    exact h1

/-- A part and a rest, as they lie in memory. -/
structure FP (w W : World) (v : Value) (p : List Cl) (a2 : Option Addr) (s : List Cl) : Prop where
  own : OwnS W w.heap.size v p
  seg : Seg W a2 s
  ne : ∀ A, a2 = some A → v.ownBlock ≠ some A.block
  bel : Below w.heap.size w W
  ty : Ty W a2

set_option maxHeartbeats 4000000 in
set_option maxRecDepth 100000 in
theorem c_firstPart (a : Addr) (c : Cl) (r : List Cl) (ca : Nat) (w : World) (ha : Seg w (some a) (c :: r)) (hlt : a.block < w.heap.size) (hty : Ty w (some a)) (hca : (c :: r).length ≤ ca) (hl : (c :: r).length ≤ 120) (hin : ∀ x ∈ c :: r, inR x = true) :
    Calls Try.prog 69 #[.slice (some a) (c :: r).length ca] w fun e w' => ∃ v1 v2 l', e = .returned (.tuple #[v1, v2]) ∧ OwnS w' w.heap.size v1 l' ∧ l'.Perm (grown 0 [c] r).1 ∧ Sorted l' ∧ (∃ a2 c2, v2 = .slice a2 (grown 0 [c] r).2.length c2 ∧ Seg w' a2 (grown 0 [c] r).2 ∧ Ty w' a2 ∧ (grown 0 [c] r).2.length ≤ c2) ∧ Below w.heap.size w w' := by
  obtain ⟨b, o, e, hb, p0, p1⟩ := ha 0 (by simp)
  simp only [Option.some.injEq] at e
  subst e
  simp only [Nat.zero_mul, Nat.add_zero, List.getD_cons_zero] at p0 p1
  have hc0 : (0 : Int) < (r.length : Int) + 1 := by omega
  have hc1 : (1 : Int) ≤ (r.length : Int) + 1 := by omega
  have hc2 : (r.length : Int) + 1 ≤ (ca : Int) := by simp at hca; omega
  have D := hid ((Below.refl w.heap.size w).drew)
  have K := hid (((Below.refl w.drew.heap.size w.drew).alloc (Nat.le_refl _) (.cells #[.int .i64 c.1, .int .i64 c.2] 44)))
  go_enter Try.func69, Try.ntmps69
  go_wp2_with fail
  go_region_held3 (fun W => W.cell? ⟨b, o, none⟩ = some (.int .i64 c.1) ∧ W.cell? ⟨b, o + 1, none⟩ = some (.int .i64 c.2))
    (first | exact ⟨p0, p1⟩ | exact ⟨(D.out.cell hb).trans p0, (D.out.cell hb).trans p1⟩ | exact ⟨(K.out.cell hb).trans ((D.out.cell hb).trans p0), (K.out.cell hb).trans ((D.out.cell hb).trans p1)⟩ | go_keep) (fail)
  have K0 := (((Below.refl w.heap.size w).alloc (Nat.le_refl _) (.cells #[.int .i64 c.1, .int .i64 c.2] 44)).drew)
  have O0 := (own_lit w [c] #[.int .i64 c.1, .int .i64 c.2] 1 rfl (by omega) rfl).below ((Below.refl _ _).drew)
  obtain ⟨a0, e0⟩ : ∃ a0, (if ca = 1 then some (⟨b, o, none⟩ : Addr) else some ⟨b, o + 2, none⟩) = a0 := ⟨_, rfl⟩
  have S0 : Seg (w.alloc (.cells #[.int .i64 c.1, .int .i64 c.2] 44)).drew a0 r := by
    have h := (ha.drop 1).below K0
    by_cases h1 : ca = 1
    · have : r = [] := by
        cases r with
        | nil => rfl
        | cons x r => simp at hca; omega
      subst this; intro i hi; simp at hi
    · rw [if_neg h1] at e0; subst e0; simpa using h
  have N0 : ∀ A, a0 = some A → A.block = b := fun A e => by
    subst e
    split at e0 <;> (simp only [Option.some.injEq] at e0; subst e0; rfl)
  have T0 : Ty (w.alloc (.cells #[.int .i64 c.1, .int .i64 c.2] 44)).drew a0 := fun A e => by
    obtain ⟨cur, f, h1⟩ := hty _ rfl
    rw [N0 A e]
    exact ⟨cur, f, (K0.block b hb).trans h1⟩
  rw [e0]
  clear e0
  generalize (w.alloc (.cells #[.int .i64 c.1, .int .i64 c.2] 44)).drew = w1 at *
  have FP0 : FP w w1 (.slice (some ⟨w.heap.size, 0, none⟩) 1 1) [c] a0 r := ⟨O0, S0, fun A e => by have := N0 A e; simp [Value.ownBlock]; omega, K0, T0⟩
  clear ha p0 p1 O0 S0 N0 K0 K D T0 hty
  have HIN := hid hin
  go_wp2_with fail
  go_loopw [4, 5, 6] (fun pv rv iv wr => ∃ (i : Nat) (p s : List Cl) (a2 : Option Addr) (c2 : Nat), i ≤ p.length ∧ iv = .int .i64 (i : Int) ∧ rv = .slice a2 s.length c2 ∧ s.length ≤ c2 ∧ p.length + s.length = r.length + 1 ∧ Hid (FP w wr pv p a2 s ∧ grown i p s = grown 0 [c] r ∧ (∀ x ∈ p ++ s, x ∈ c :: r) ∧ 0 < p.length)) (fun _ _ iv _ => r.length + 1 - (intOf iv).toNat)
  case atStart => exact ⟨0, [c], r, a0, ca - 1, Nat.zero_le _, rfl, rfl, by simp at hca; omega, by simp; omega, FP0, rfl, (fun x hx => by simpa using hx), by simp⟩
  case round =>
    obtain ⟨i, p, s, a2, c2, hi, rfl, rfl, hcs, hps, hF⟩ := hrel
    obtain ⟨ap, cp, rfl, sp⟩ := hF.out.1.own.form
    have hr9 : r.length ≤ 119 := by simp at hl; omega
    by_cases hlt : i < p.length
    · have i0 : (0 : Int) ≤ (i : Int) := by omega
      have i1 : (i : Int) < (p.length : Int) := by omega
      have SP := hid sp
      clear sp
      go_wp2_with fail
      go_loopw [4, 7, 24] (fun pv uv kv wk => ∃ (k : Nat) (u : List Cl), k ≤ s.length ∧ kv = .int .i64 (k : Int) ∧ Hid (FP w wk pv (p ++ (s.take k).filter (joined (at_ p i))) a2 s ∧ OwnS wk w.heap.size uv ((s.take k).filter fun x => !joined (at_ p i) x) ∧ (∀ b, uv.ownBlock = some b → pv.ownBlock ≠ some b ∧ ∀ A, a2 = some A → A.block ≠ b))) (fun _ _ kv _ => s.length - (intOf kv).toNat)
      case atStart => exact ⟨0, [], Nat.zero_le _, rfl, by simpa using hF.out.1, by simpa using OwnS.nil _ _, fun b h => by simp [Value.ownBlock] at h⟩
      case round =>
        obtain ⟨k, u, hk, rfl, hJ⟩ := hrel
        by_cases hkl : k < s.length
        · have k0 : (0 : Int) ≤ (k : Int) := by omega
          have k1 : (k : Int) < (s.length : Int) := by omega
          obtain ⟨P2, hP2⟩ : ∃ P2, P2 = p ++ (s.take k).filter (joined (at_ p i)) := ⟨_, rfl⟩
          obtain ⟨U2, hU2⟩ : ∃ U2, U2 = (s.take k).filter fun x => !joined (at_ p i) x := ⟨_, rfl⟩
          rw [← hP2, ← hU2] at hJ
          have hPi : at_ P2 i = at_ p i := by rw [hP2]; simp [at_, List.getElem?_append_left hlt]
          have hPl : i < P2.length := by rw [hP2, List.length_append]; omega
          have hPl2 : P2.length ≤ 120 := by
            have h1 := List.length_filter_le (joined (at_ p i)) (s.take k)
            have h2 := List.length_take_le k s
            rw [hP2, List.length_append]; omega
          have hUl2 : U2.length ≤ 120 := by
            have h1 := List.length_filter_le (fun x => !joined (at_ p i) x) (s.take k)
            have h2 := List.length_take_le k s
            rw [hU2]; omega
          have i2 : (i : Int) < (P2.length : Int) := by omega
          have hI1 : inR (at_ p i) = true := HIN.out _ (hF.out.2.2.1 _ (List.mem_append_left _ (by simp [at_, hlt])))
          have hI2 : inR (at_ s k) = true := HIN.out _ (hF.out.2.2.1 _ (List.mem_append_right _ (by simp [at_, hkl])))
          obtain ⟨b3, o3, rfl, hb3, q0, q1⟩ := hJ.out.1.seg k hkl
          obtain ⟨a5, c5, rfl, s5⟩ := hJ.out.1.own.form
          obtain ⟨a6, c6, rfl, s6⟩ := hJ.out.2.1.form
          obtain ⟨b5, o5, rfl, hb5, z0, z1⟩ := s5 i hPl
          change _ = some (Value.int .i64 (at_ P2 i).1) at z0
          change _ = some (Value.int .i64 (at_ P2 i).2) at z1
          change _ = some (Value.int .i64 (at_ s k).1) at q0
          change _ = some (Value.int .i64 (at_ s k).2) at q1
          rw [hPi] at z0 z1
          have HP2 := hid hP2
          have HU2 := hid hU2
          clear hP2 hU2 s5 s6 hPi
          obtain ⟨y, hy⟩ : ∃ y, y = at_ s k := ⟨_, rfl⟩
          obtain ⟨x, hx⟩ : ∃ x, x = at_ p i := ⟨_, rfl⟩
          rw [← hy] at q0 q1 hI2
          rw [← hx] at z0 z1 hI1
          have HX := hid hx
          have HY := hid hy
          clear hx hy
          have ky := (Below.refl wr.heap.size wr).alloc (Nat.le_refl _) (.cells #[.int .i64 y.1, .int .i64 y.2] 44)
          have KD := hid (ky.trans ((Below.refl _ (wr.alloc (.cells #[.int .i64 y.1, .int .i64 y.2] 44))).drew.mono ky.size))
          have KY := hid ky
          have Y1 := WRow.new wr (.int .i64 y.1) y.2 44
          have YD := hid (Y1.below ((Below.refl _ _).drew))
          have y0 := Y1.c0
          have y1 := Y1.c1
          clear ky
          have CJ := hid (fun W => c_areJoined x y W hI1 hI2)
          have z2 := (KY.out.cell (p := ⟨b5, o5 + i * 2, none⟩) hb5).trans z0
          have z3 := (KY.out.cell (p := ⟨b5, o5 + i * 2 + 1, none⟩) hb5).trans z1
          have K2 := KD
          clear KD KY
          cases hj : joined x y
          · rw [hj] at CJ
            go_wp2_with fail
            generalize hW2 : wr.alloc (.cells #[.int .i64 y.1, .int .i64 y.2] 44) = w2 at *
            go_region_held3 (fun W => (W.cell? ⟨wr.heap.size, 0, none⟩ = some (.int .i64 y.1) ∧ W.cell? ⟨wr.heap.size, 1, none⟩ = some (.int .i64 y.2)) ∧ (W.cell? ⟨b5, o5 + i * 2, none⟩ = some (.int .i64 x.1) ∧ W.cell? ⟨b5, o5 + i * 2 + 1, none⟩ = some (.int .i64 x.2)))
              (first | exact ⟨⟨y0, y1⟩, z2, z3⟩ | exact ⟨⟨(YD.out.below b4).c0, (YD.out.below b4).c1⟩, ((K2.out.trans (b4.mono K2.out.size)).cell hb5).trans z0, ((K2.out.trans (b4.mono K2.out.size)).cell hb5).trans z1⟩ | exact ⟨⟨YD.out.c0, YD.out.c1⟩, (K2.out.cell hb5).trans z0, (K2.out.cell hb5).trans z1⟩ | go_keep)
              (first | (go_at_call 91; refine (CJ.out w2.drew).mono ?_; rintro e w4 ⟨rfl, b4⟩))
            have K4 := hid (K2.out.trans (b4.mono K2.out.size))
            have Y4 := hid (YD.out.below b4)
            have v0 := Y4.out.c0
            have v1 := Y4.out.c1
            have A4 := hid (hJ.out.1.own.below K4.out)
            have U4 := hid (hJ.out.2.1.below K4.out)
            have S4 := hid (hJ.out.1.seg.below K4.out)
            have T4 := hid (hJ.out.1.ty.below K4.out)
            have B4 := hid (hJ.out.1.bel.trans (K4.out.mono hJ.out.1.bel.size))
            clear b4 y0 y1 z0 z1 z2 z3 YD K2 CJ
            have kz := (Below.refl w4.heap.size w4).alloc (Nat.le_refl _) (.cells #[.int .i64 y.1, .int .i64 y.2] 44)
            have SN := hid (seg_block (heap_alloc_last w4 (.cells #[.int .i64 y.1, .int .i64 y.2] 44)))
            have A5 := hid (A4.out.below kz)
            have U5 := hid (U4.out.below kz)
            have S5 := hid (S4.out.below kz)
            have T5 := hid (T4.out.below kz)
            have B5 := hid (B4.out.trans (kz.mono B4.out.size))
            have hb3' := hid (show b3 < (w4.alloc (.cells #[.int .i64 y.1, .int .i64 y.2] 44)).heap.size from Nat.lt_of_lt_of_le hb3 (Nat.le_trans K4.out.size kz.size))
            clear kz A4 U4 S4 B4
            go_wp2_with (first | (at_builtin; refine wpList_appAt rfl (.tmp 38) (.tmp 40) rfl w.heap.size _ U2 [y] ⟨w4.heap.size, 0, none⟩ 1 rfl U5.out rfl SN.out (by simp; omega) B5.out.size ?_; intro v6 w6 hO6 hG6 hN6))
            go_roundw
            case rel =>
              have e1 : p ++ (s.take (k + 1)).filter (joined (at_ p i)) = P2 := by rw [filter_more _ hkl, ← HX.out, ← HY.out, hj, HP2.out, ← HX.out]; simp
              have e2 : (s.take (k + 1)).filter (fun x => !joined (at_ p i) x) = U2 ++ [y] := by rw [filter_more _ hkl, ← HX.out, ← HY.out, hj, HU2.out, ← HX.out]; simp
              refine ⟨k + 1, [], by omega, by go_num, ?_⟩
              rw [e1, e2]
              refine ⟨⟨own_keep A5.out hG6 (fun z hz e => (hJ.out.2.2 z e).1 hz), seg_far S5.out hG6 (fun A e e2 => (hJ.out.2.2 _ e2).2 A e rfl), hJ.out.1.ne, below_row B5.out hG6 (fun z e => (U5.out.lt z e).1), T5.out.far hG6 (fun A e e2 => (hJ.out.2.2 _ e2).2 A e rfl)⟩, hO6, fun z hz => ⟨fun e => ?_, fun A e e2 => ?_⟩⟩
              · exact near_far hN6 (fun e3 => (hJ.out.2.2 z e3).1 e) (A5.out.lt z e).2 hz
              · exact near_far (b := A.block) hN6 (fun e3 => (hJ.out.2.2 _ e3).2 A e rfl) (by have := hb3'.out; cases e; exact this) (by rw [e2]; exact hz)
            case measure => simp [intOf]; omega
          · rw [hj] at CJ
            go_wp2_with fail
            generalize hW2 : wr.alloc (.cells #[.int .i64 y.1, .int .i64 y.2] 44) = w2 at *
            go_region_held3 (fun W => (W.cell? ⟨wr.heap.size, 0, none⟩ = some (.int .i64 y.1) ∧ W.cell? ⟨wr.heap.size, 1, none⟩ = some (.int .i64 y.2)) ∧ (W.cell? ⟨b5, o5 + i * 2, none⟩ = some (.int .i64 x.1) ∧ W.cell? ⟨b5, o5 + i * 2 + 1, none⟩ = some (.int .i64 x.2)))
              (first | exact ⟨⟨y0, y1⟩, z2, z3⟩ | exact ⟨⟨(YD.out.below b4).c0, (YD.out.below b4).c1⟩, ((K2.out.trans (b4.mono K2.out.size)).cell hb5).trans z0, ((K2.out.trans (b4.mono K2.out.size)).cell hb5).trans z1⟩ | exact ⟨⟨YD.out.c0, YD.out.c1⟩, (K2.out.cell hb5).trans z0, (K2.out.cell hb5).trans z1⟩ | go_keep)
              (first | (go_at_call 91; refine (CJ.out w2.drew).mono ?_; rintro e w4 ⟨rfl, b4⟩))
            have K4 := hid (K2.out.trans (b4.mono K2.out.size))
            have Y4 := hid (YD.out.below b4)
            have v0 := Y4.out.c0
            have v1 := Y4.out.c1
            have A4 := hid (hJ.out.1.own.below K4.out)
            have U4 := hid (hJ.out.2.1.below K4.out)
            have S4 := hid (hJ.out.1.seg.below K4.out)
            have T4 := hid (hJ.out.1.ty.below K4.out)
            have B4 := hid (hJ.out.1.bel.trans (K4.out.mono hJ.out.1.bel.size))
            clear b4 y0 y1 z0 z1 z2 z3 YD K2 CJ
            have kz := (Below.refl w4.heap.size w4).alloc (Nat.le_refl _) (.cells #[.int .i64 y.1, .int .i64 y.2] 44)
            have SN := hid (seg_block (heap_alloc_last w4 (.cells #[.int .i64 y.1, .int .i64 y.2] 44)))
            have A5 := hid (A4.out.below kz)
            have U5 := hid (U4.out.below kz)
            have S5 := hid (S4.out.below kz)
            have T5 := hid (T4.out.below kz)
            have B5 := hid (B4.out.trans (kz.mono B4.out.size))
            have hb3' := hid (show b3 < (w4.alloc (.cells #[.int .i64 y.1, .int .i64 y.2] 44)).heap.size from Nat.lt_of_lt_of_le hb3 (Nat.le_trans K4.out.size kz.size))
            clear kz A4 U4 S4 B4
            go_wp2_with (first | (at_builtin; refine wpList_appAt rfl (.tmp 34) (.tmp 36) rfl w.heap.size _ P2 [y] ⟨w4.heap.size, 0, none⟩ 1 rfl A5.out rfl SN.out (by simp; omega) B5.out.size ?_; intro v6 w6 hO6 hG6 hN6))
            go_roundw
            case rel =>
              have e1 : p ++ (s.take (k + 1)).filter (joined (at_ p i)) = P2 ++ [y] := by rw [filter_more _ hkl, ← HX.out, ← HY.out, hj, HP2.out, ← HX.out]; simp
              have e2 : (s.take (k + 1)).filter (fun x => !joined (at_ p i) x) = U2 := by rw [filter_more _ hkl, ← HX.out, ← HY.out, hj, HU2.out, ← HX.out]; simp
              refine ⟨k + 1, [], by omega, by go_num, ?_⟩
              rw [e1, e2]
              refine ⟨⟨hO6, seg_far S5.out hG6 (fun A e e2 => hJ.out.1.ne A e e2), fun A e e2 => ?_, below_row B5.out hG6 (fun z e => (A5.out.lt z e).1), T5.out.far hG6 (fun A e e2 => hJ.out.1.ne A e e2)⟩, own_keep U5.out hG6 (fun z hz e => (hJ.out.2.2 z hz).1 e), fun z hz => ⟨fun e => ?_, (hJ.out.2.2 z hz).2⟩⟩
              · exact near_far hN6 (fun e3 => hJ.out.1.ne A e e3) (by have := hb3'.out; cases e; exact this) e2
              · exact near_far hN6 (fun e3 => (hJ.out.2.2 z hz).1 e3) (U5.out.lt z hz).2 e
            case measure => simp [intOf]; omega
        · have hke : k = s.length := by omega
          subst hke
          obtain ⟨a6, c6, rfl, s6⟩ := hJ.out.2.1.form
          have S6 := hid s6
          have C6 := hid hJ.out.2.1.cap_le
          have T6 := hid hJ.out.2.1.ty
          have h2 := filter_two (joined (at_ p i)) s
          have HG := hid (grown_step (r := s) hlt)
          rw [List.take_length] at hJ S6 C6
          clear s6
          go_wp2_with fail
          go_roundw
          case rel =>
            refine ⟨i + 1, p ++ s.filter (joined (at_ p i)), s.filter (fun x => !joined (at_ p i) x), a6, c6, by rw [List.length_append]; omega, by go_num, by rw [List.take_length], C6.out, by rw [List.length_append]; omega, ⟨hJ.out.1.own, S6.out, fun A e => ?_, hJ.out.1.bel, T6.out⟩, HG.out.symm.trans hF.out.2.1, fun x hx => ?_, by rw [List.length_append]; omega⟩
            · subst e; exact (hJ.out.2.2 A.block (by simp [Value.ownBlock])).1
            · simp only [List.mem_append, List.mem_filter] at hx
              rcases hx with (h | ⟨h, _⟩) | ⟨h, _⟩
              · exact hF.out.2.2.1 x (List.mem_append_left _ h)
              · exact hF.out.2.2.1 x (List.mem_append_right _ h)
              · exact hF.out.2.2.1 x (List.mem_append_right _ h)
          case measure => simp [intOf]; omega
    · have hie : i = p.length := by omega
      subst hie
      have HG := hid ((grown_end p s).symm.trans hF.out.2.1)
      obtain ⟨g, cap, e9, -, -⟩ := World.ownsRow.form hF.out.1.own hF.out.2.2.2
      simp only [Value.slice.injEq, true_and] at e9
      obtain ⟨rfl, rfl⟩ := e9
      go_wp2_with fail
      refine (c_sortOwn w.heap.size g cp p wr hF.out.1.own (by omega)).mono ?_
      rintro e w5 ⟨rfl, l', hpm, hso, ho, hg, hll⟩
      rw [hll] at ho
      have SO := hid ho
      have S5 := hid (seg_far hF.out.1.seg hg (fun A e e2 => hF.out.1.ne A e e2))
      have B5 := hid (below_row hF.out.1.bel hg (fun z e => (hF.out.1.own.lt z e).1))
      have T5 := hid (hF.out.1.ty.far hg (fun A e e2 => hF.out.1.ne A e e2))
      have PM := hid hpm
      have SD := hid hso
      clear ho hg hpm hso
      go_wp2_with fail
      go_ret2
      rw [← HG.out]
      exact ⟨_, _, l', rfl, SO.out, PM.out, SD.out, ⟨a2, c2, rfl, S5.out, T5.out, hcs⟩, B5.out⟩
end Go.Proofs.Ytgppcocfnbalfaa
