/- Texts of this seat, one behind the other: SOwn. -/
import Derived.Test.YtokemdbgcegjiaaGreatB04
namespace Go.Proofs.YtokemdbgcegjiaaGreat
open Go.RowKit
set_option linter.unusedVariables false
set_option linter.unusedSimpArgs false
attribute [local go_sem ↓] Go.wp_at_zero Go.wp_at_succ

theorem GF.ne_row {gg : Option Nat} {w : World} {base : Nat} {v : Value} {F : List Qd} (h : GF w base v F gg) {p n : Nat} {t : TypeId} {f : Nat → Value} (hr : w.rowIs p t n f) (ht : t ≠ 92) : some p ≠ v.ownBlock := by
  intro e
  obtain ⟨cur, hc⟩ := h.type e.symm
  obtain ⟨c, hc2, _⟩ := hr
  rw [hc] at hc2
  simp at hc2
  exact ht hc2.2.symm
theorem GF.setRow {gg : Option Nat} {w : World} {base : Nat} {v : Value} {F : List Qd} (h : GF w base v F gg) {p o n : Nat} {t : TypeId} {f : Nat → Value} (hr : w.rowIs p t n f) (h1 : t ≠ 3) (h2 : t ≠ 92) (u : Value) : GF (w.setCell ⟨p, o, none⟩ u) base v F gg := by
  obtain ⟨c, hc, _⟩ := hr
  exact h.set hc h1 h2 u

/-- Appending numbers, at a step of a region that draws its order. -/
theorem step_appI {w : World} {ops : Array Oper} {o : Oper} {a : Act} {K : Act → World → Prop} {Q : Exit → Act → World → Prop} {E : Prop} (hgd : o.guard = none) (s x : Operand)
    (ho : o.op = .call { callee := .builtin .append, args := #[s, x], argTypes := #[46, 46] })
    (base : Nat) (v : Value) (m : List Int) (ad : Option Addr) (k : Nat) (hs : a.eval s = v) (hown : OwnI w base v []) (hx : a.eval x = .slice ad m.length k) (hseg : ISeg w ad m) (hk : ad = none → k = 0) (hlen : m.length ≤ 1048576) (hbase : base ≤ w.heap.size)
    (h : ∀ v' w', OwnI w' base v' m → w.grownBy w' v.ownBlock → K (a.put o.dst v') w') : if Region.wanted o (yielded ops a.tmps) = true then Oper.wp Tryz.prog o a w K Q else E := by
  have hw : Region.wanted o (yielded ops a.tmps) = true := by simp [Region.wanted, hgd]
  rw [if_pos hw]
  obtain ⟨i, hi, hz, hsz, hb⟩ := info_parts info_int
  cases ad with
  | none =>
    have hm : m = [] := by
      cases m with
      | nil => rfl
      | cons c r => obtain ⟨b, o, e, _⟩ := hseg 0 (by simp); cases e
    subst hm
    have hx' : a.eval x = .slice none 0 0 := by rw [hx, hk rfl]; rfl
    have hr := run_append_owned_none (P := Tryz.prog) (w := w) base 46 o.type 3 i 1 Tryz.underlying46 hi v 0 (iv []) hown
    unfold Oper.wp execOp
    simp only [ho, resolve, invoke, builtin, Sem.run_bind, Sem.run_pure, Result.andThen_ok, List.map_toArray, List.map_cons, List.map_nil, hs, hx', hr]
    exact h v w hown (grown_refl _ _)
  | some ad =>
    obtain ⟨v', w', hr, h1, h2, _, h4⟩ := run_append_own_at (P := Tryz.prog) w base 46 o.type 3 i _ 1 8 Tryz.underlying46 hi hz hsz hb rfl (by omega) v 0 (iv []) hown ad m.length k (iv m) (iv_length m) (iseg_news hseg) (iv_one m) (by unfold maxLen; omega) (by omega) hbase
    unfold Oper.wp execOp
    simp only [ho, resolve, invoke, builtin, Sem.run_bind, Sem.run_pure, Result.andThen_ok, List.map_toArray, List.map_cons, List.map_nil, hs, hx, hr]
    refine h v' w' ?_ h2
    unfold OwnI
    simpa [iv] using h1

theorem take_snocF {F : List Qd} {k : Nat} (h : k < F.length) : F.take (k + 1) = F.take k ++ [qa F k] := by
  rw [List.take_succ_eq_append_getElem h]; simp [qa, h]
/-- What a round of l3Own reads, in all that has grown out of W. -/
theorem own_cells {W w5 : World} (h : Below W.heap.size W w5) {B2 B3 : Nat} {v u1 u2 : Value} (h2 : W.cell? ⟨B2, 0, none⟩ = some v) (l2 : B2 < W.heap.size) (h3 : W.cell? ⟨B3, 0, none⟩ = some u1) (h4 : W.cell? ⟨B3, 1, none⟩ = some u2) (l3 : B3 < W.heap.size) :
    w5.cell? ⟨B2, 0, none⟩ = some v ∧ w5.cell? ⟨B3, 0, none⟩ = some u1 ∧ w5.cell? ⟨B3, 1, none⟩ = some u2 :=
  ⟨(h.cell (p := ⟨B2, 0, none⟩) l2).trans h2, (h.cell (p := ⟨B3, 0, none⟩) l3).trans h3, (h.cell (p := ⟨B3, 1, none⟩) l3).trans h4⟩

theorem own_next {w : World} {p : Nat} {v : Value} (h : w.rowIs p 25 1 (fun _ => v)) (u : Value) : (w.setCell ⟨p, 0, none⟩ u).rowIs p 25 1 (fun _ => u) := by
  refine (h.set 0 u).congr fun j hj => ?_
  have : j = 0 := by omega
  subst this; simp

set_option maxHeartbeats 8000000 in
set_option maxRecDepth 100000 in
theorem c_l3Own (a : Option Addr) (F : List Qd) (ca : Nat) (w : World) (ha : QSeg w a F) (hl : F.length ≤ 1048576) (hk : KidsLe F) (hkn : NoneCap w a F) :
    Calls Tryz.prog 56 #[.agg #[.slice a F.length ca]] w fun e w' => ∃ v, e = .returned (.agg #[v]) ∧ GF w' w.heap.size v F ∧ Below w.heap.size w w' := by
  obtain ⟨W1, hW1⟩ : ∃ W1, W1 = w.alloc (.cells #[.slice a F.length ca] 25) := ⟨_, rfl⟩
  obtain ⟨W2, hW2⟩ : ∃ W2, W2 = W1.alloc (.cells #[.slice none 0 0] 25) := ⟨_, rfl⟩
  obtain ⟨W3, hW3⟩ : ∃ W3, W3 = W2.alloc (.cells #[.slice none 0 0] 25) := ⟨_, rfl⟩
  have s1 : W1.heap.size = w.heap.size + 1 := by rw [hW1]; simp
  have s2 : W2.heap.size = w.heap.size + 1 + 1 := by rw [hW2]; simp [s1]
  have R1 : W3.rowIs (w.heap.size + 1) 25 1 (fun _ => .slice none 0 0) := by
    rw [hW3]
    refine World.rowIs.alloc ?_ _
    rw [← s1, hW2]; exact one_row (heap_alloc_new _ _)
  have R2 : W3.rowIs (w.heap.size + 1 + 1) 25 1 (fun _ => .slice none 0 0) := by
    rw [← s2, hW3]; exact one_row (heap_alloc_new _ _)
  have B3 : Below w.heap.size w W3 := by
    rw [hW3, hW2, hW1]
    exact (((Below.refl _ _).alloc (Nat.le_refl _) _).alloc (by simp) _).alloc (by simp; omega) _
  rw [hW3, hW2, hW1] at R1 R2 B3
  have H1 := hid R1
  have H2 := hid R2
  have HB := hid B3
  have HKN := hid hkn
  clear R1 R2 B3 s1 s2 hW3 hW2 hW1 hkn
  clear W1 W2 W3
  go_enter Tryz.func56, Tryz.ntmps56
  go_wp2
  go_loopw [9] (fun i wr => ∃ (k : Nat) (v : Value), k ≤ F.length ∧ i = .int .i64 k ∧ Hid (GF wr w.heap.size v (F.take k)) ∧ Hid (wr.rowIs (w.heap.size + 1 + 1) 25 1 (fun _ => v)) ∧ Hid (wr.rowIs (w.heap.size + 1) 25 1 (fun _ => .slice none 0 0)) ∧ Hid (Below w.heap.size w wr)) (fun i _ => F.length - (intOf i).toNat)
  case atStart => exact ⟨0, .slice none 0 0, Nat.zero_le _, rfl, GF.nil _ _, H2.out, H1.out, HB.out⟩
  case round =>
    clear H1 H2 HB
    obtain ⟨k, v, hkk, rfl, HG, HR2, HR1, HB⟩ := hrel
    by_cases hlt : k < F.length
    · obtain ⟨b1, o1, ak, ck, rfl, hb1, p1, p2, p3, p4⟩ := ha k hlt
      have HKN0 := hid (HKN.out k hlt ak _ ck ⟨b1, o1, rfl, p2⟩)
      have g1 := (HB.out.cell (p := ⟨b1, o1 + k * 2, none⟩) hb1).trans p1
      have g2 := (HB.out.cell (p := ⟨b1, o1 + k * 2 + 1, none⟩) hb1).trans p2
      have k0 : (0 : Int) ≤ (k : Int) := by omega
      have k1 : (k : Int) < (F.length : Int) := by omega
      have hkl := hk k hlt
      have HTS := hid (take_snocF hlt)
      have P3 := hid (p3.below HB.out)
      have hT : (F.take k).length ≤ 1048576 := by simp; omega
      have HT := hid hT
      clear p1 p2 p3 p4 hT
      generalize qa F k = q at *
      have hb4 := (Below.refl wr.heap.size wr).alloc (Nat.le_refl _) (.cells #[.int .i64 q.1, .slice ak q.2.length ck] 92)
      have HG4 := hid (HG.out.below hb4)
      have HR24 := hid (HR2.out.alloc (.cells #[.int .i64 q.1, .slice ak q.2.length ck] 92))
      have HR14 := hid (HR1.out.alloc (.cells #[.int .i64 q.1, .slice ak q.2.length ck] 92))
      have HB4 := hid (HB.out.trans (hb4.mono HB.out.size))
      have P34 := hid (P3.out.below hb4)
      have BQ := hid (Box2.new wr (.int .i64 q.1) (.slice ak q.2.length ck) 92)
      clear hb4
      go_wp2
      generalize wr.alloc (.cells #[.int .i64 q.1, .slice ak q.2.length ck] 92) = W4 at *
      have x2 := HR24.out.cell (i := 0) (by omega)
      have lx := HR24.out.lt
      have y0 := BQ.out.1
      have y1 := BQ.out.2.1
      have ly := BQ.out.2.2.1
      clear g1 g2
      have hbA := ((Below.refl W4.heap.size W4).alloc (Nat.le_refl _) (.cells #[] 3)).drew
      have HOA := hid ((slice_empty_int W4).below ((Below.refl _ _).drew))
      have HPA := hid (P34.out.below hbA)
      have HBA := hid hbA
      have HSZ := hid HB4.out.size
      have HLE := hid (show (F.take k ++ [q]).length = k + 1 by rw [List.length_append, List.length_take, List.length_singleton]; omega)
      clear hbA
      go_region_law (first
        | (refine step_appI rfl (.tmp 17) (.tmp 19) rfl W4.heap.size _ q.2 ak ck (by simp [Act.eval, Act.put]) HOA.out (by simp [Act.eval, Act.put]) HPA.out HKN0.out hkl (by simp) ?_
           intro v5 w5 hO5 hG5
           obtain ⟨a5, c5, rfl, hc5, hn5, hK5⟩ := hO5.kidAt
           have HB5 := hid (HBA.out.grown hG5 HBA.out.size (fun k e => by simp [Value.ownBlock] at e; omega))
           obtain ⟨z1, z2, z3⟩ := own_cells HB5.out x2 lx y0 y1 ly
           have HB6 := hid (HB5.out.alloc HB5.out.size (.cells (qf q (a5, c5)).toArray 92))
           have HK6 := hid (hK5.below ((Below.refl w5.heap.size w5).alloc (Nat.le_refl _) (.cells (qf q (a5, c5)).toArray 92)))
           have HC5 := hid hc5
           have HN5 := hid hn5
           have z4 : (w5.alloc (.cells #[.int .i64 q.1, .slice a5 q.2.length c5] 92)).cell? ⟨w.heap.size + 1 + 1, 0, none⟩ = some v := (HB6.out.cell (p := ⟨w.heap.size + 1 + 1, 0, none⟩) lx).trans x2
           clear hK5 hO5 hG5 hc5 hn5)
        | (refine step_appQ rfl (.tmp 14) (.tmp 22) rfl w.heap.size v (F.take k) q a5 c5 w5.heap.size (by simp [Act.eval, Act.put]) (HG4.out.below HB6.out) (by simp [Act.eval, Act.put]) (heap_alloc_new _ _) (fun j hj => by obtain ⟨b, o, cur, fr, e1, e2, e3, e4⟩ := HK6.out j hj; exact ⟨b, o, cur, fr, e1, ⟨Nat.le_trans HSZ.out e2.1, e2.2⟩, e3, e4⟩) HC5.out HN5.out HT.out (Nat.le_trans HSZ.out HB6.out.size) ?_
           intro v7 w7 hG7 hg7 _
           have HG7 := hid hG7
           obtain ⟨a7, c7, rfl, _⟩ := hG7.form
           rw [HLE.out] at HG7
           have r2 := (HR24.out.of_block (HB6.out.block _ lx))
           have r1 := (HR14.out.of_block (HB6.out.block _ HR14.out.lt))
           have r27 := r2.of_block (hg7.block _ r2.lt ((HG4.out.below HB6.out).ne_row r2 (by decide)))
           have r17 := r1.of_block (hg7.block _ r1.lt ((HG4.out.below HB6.out).ne_row r1 (by decide)))
           have q1 := r27.cell (i := 0) (by omega)
           have q2 := r27.frozen 0
           have B7 := hid ((HB4.out.trans (HB6.out.mono HB4.out.size)).grown hg7 (Nat.le_trans HSZ.out HB6.out.size) (fun k e => ((HG4.out.below HB6.out).lt k e).1))
           have R27 := hid r27
           have R17 := hid r17
           clear r2 r1 r27 r17 hG7 hg7))
      all_goals
        have HG8 := hid (HG7.out.setRow (o := 0) R27.out (by decide) (by decide) (.slice a7 (k + 1) c7))
        have R28 := hid (own_next R27.out (.slice a7 (k + 1) c7))
        have R18 := hid (R17.out.setOther (a := ⟨w.heap.size + 1 + 1, 0, none⟩) (by dsimp only; omega) (.slice a7 (k + 1) c7))
        have HB8 := hid (B7.out.setCell (p := ⟨w.heap.size + 1 + 1, 0, none⟩) (by dsimp only; omega) (.slice a7 (k + 1) c7))
        clear HG7 R27 R17 B7
        go_wp2_with fail
        go_roundw
        case rel => exact ⟨k + 1, _, by omega, by go_num, by (show GF _ _ _ _; rw [HTS.out]; exact HG8.out), R28.out, R18.out, HB8.out⟩
        case measure => simp [intOf]; omega
    · obtain rfl : k = F.length := by omega
      obtain ⟨a9, c9, rfl, _⟩ := HG.out.form
      rw [List.take_length] at HG HR2
      have c2 := HR2.out.cell (i := 0) (by omega)
      have c1 := HR1.out.cell (i := 0) (by omega)
      have f1 := HR1.out.frozen 0
      have E1 := hid ((HR1.out.set 0 (.slice a9 F.length c9)).cell (i := 0) (by omega))
      simp only [if_true] at E1
      have HG2 := hid (HG.out.setRow (o := 0) HR1.out (by decide) (by decide) (.slice a9 F.length c9))
      have HB2 := hid (HB.out.setCell (p := ⟨w.heap.size + 1, 0, none⟩) (by dsimp only; omega) (.slice a9 F.length c9))
      go_wp2
      exact bodyPost_ret (v := .agg #[.slice a9 F.length c9]) (by simp [results, Tryz.results56, go_sem, E1.out]) rfl ⟨_, rfl, HG2.out, HB2.out⟩

end Go.Proofs.YtokemdbgcegjiaaGreat
