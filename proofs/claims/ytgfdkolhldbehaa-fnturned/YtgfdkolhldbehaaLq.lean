/- Texts of this seat, one behind the other: WayF, DrT, TuM, TuQ. -/
import Derived.Test.YtgfdkolhldbehaaLh
import Derived.Test.YtgfdkolhldbehaaLj
import Derived.Test.YtgfdkolhldbehaaLf
import Derived.Test.YtgfdkolhldbehaaLe
import Derived.Test.YtgfdkolhldbehaaLk
namespace Go.Proofs.Ytgfdkolhldbehaa
open Go.RowKit
set_option linter.unusedVariables false
set_option linter.unusedSimpArgs false

theorem nr_ways (ws : List Nat) {c : Cl} (hc : bdC c) : Nr (tnW ws) c := by
  have hN : ∀ (b : Kd), b = .mir ∨ b = .qtr → ∀ n c, bdC c → bdC (tnN b n c) := by
    intro b hb n
    induction n with
    | zero => intro c h; exact h
    | succ n ih =>
      intro c h
      rw [tnN]
      refine ih _ ?_
      rcases hb with rfl | rfl
      · exact bd_mir h
      · exact bd_qt h
  have hk : ∀ k, k ≤ (tnW ws).length → bdC (tnBy ((tnW ws).take k) c) := by
    intro k
    induction k with
    | zero => intro _; exact hc
    | succ k ih =>
      intro h
      rw [tnBy_succ (by omega)]
      exact hN _ (tnW_kinds ws _ (ta_mem (by omega))) _ _ (ih (by omega))
  exact fun k hk' j hj => hN _ (tnW_kinds ws _ (ta_mem hk')) _ _ (hk k (by omega))
theorem few_ways {ws : List Nat} (hw : ∀ x ∈ ws, x < 8) : ∀ k, k < (tnW ws).length → (ta (tnW ws) k).2 ≤ 1000 := by
  intro k hk
  have h := ta_mem hk
  simp only [tnW, List.mem_flatMap, List.mem_cons, List.not_mem_nil, or_false] at h
  obtain ⟨x, hx, e | e⟩ := h
  · have := hw x hx
    rw [show ta (tnW ws) k = ta (List.flatMap (fun w => [(Kd.mir, w / 4), (Kd.qtr, w % 4)]) ws) k from rfl, e]
    show x / 4 ≤ 1000; omega
  · have := hw x hx
    rw [show ta (tnW ws) k = ta (List.flatMap (fun w => [(Kd.mir, w / 4), (Kd.qtr, w % 4)]) ws) k from rfl, e]
    show x % 4 ≤ 1000; omega
theorem bd12 : bdC (1, 2) := by unfold bdC; omega
theorem bd31 : bdC (3, 1) := by unfold bdC; omega
theorem by_two {a b : Nat} (ha : a < 8) (hb : b < 8) (c : Cl) : tnBy (tnW [a, b]) c = trn b (trn a c) := by
  rw [tnBy_cons ha, tnBy_cons hb]; rfl
theorem by_one {a : Nat} (ha : a < 8) (c : Cl) : tnBy (tnW [a]) c = trn a c := by
  rw [tnBy_cons ha]; rfl
theorem iseg_two {w : World} {B : Nat} {x y : Int} {fr : Nat × Nat} (hb : w.heap[B]? = some (.cells #[.int .i64 x, .int .i64 y] 3 fr)) : ISeg w (some ⟨B, 0, none⟩) [x, y] := by
  intro i hi
  have hlt : B < w.heap.size := (Array.getElem?_eq_some_iff.1 hb).1
  simp only [List.length_cons, List.length_nil] at hi
  rcases (show i = 0 ∨ i = 1 by omega) with rfl | rfl
  · refine ⟨B, 0, rfl, hlt, ?_⟩
    unfold World.cell?; rw [hb]; rfl
  · refine ⟨B, 0, rfl, hlt, ?_⟩
    unfold World.cell?; rw [hb]; rfl
/-- What ThenWay answers. -/
def thenOk (a b : Int) : Bool := inW a && inW b
def thenV (a b : Int) : Int := if thenOk a b then ((thenW a.toNat b.toNat : Nat) : Int) else 0
/-- What BackWay answers. -/
def backV (a : Int) : Int := if inW a then ((backW a.toNat : Nat) : Int) else 0
theorem inW_nat {a : Int} (h : inW a = true) : ∃ m : Nat, a = (m : Int) ∧ m < 8 := ⟨a.toNat, by have := inW_bd h; omega, by have := inW_bd h; omega⟩

set_option maxRecDepth 100000 in
set_option maxHeartbeats 8000000 in
theorem c_wayOf (a : Option Addr) (ws : List Nat) (ca K : Nat) (w : World) (ha : ISeg w a (iw ws)) (hl : ws.length ≤ 100) (hw : ∀ x ∈ ws, x < 8) (hK : K < 8) (hc : tnBy (tnW ws) (1, 2) = trn K (1, 2)) :
    Calls Try.prog 88 #[.slice a ws.length ca] w fun e w' => e = .returned (.int .i64 (K : Int)) ∧ Below w.heap.size w w' := by
  have HW := hid hw
  have hTl : (tnW ws).length ≤ 1000 := by rw [tnW_len]; omega
  have CT := hid (fun (b : Option Addr) (cb : Nat) (W : World) (h : TSeg W b (tnW ws)) => c_turnedBy b (tnW ws) cb (1, 2) W h hTl (nr_ways ws bd12) (few_ways hw))
  rw [hc] at CT
  have HTR := hid (fun (k : Nat) (hk : k < 8) => show tnBy (tnW [k]) (1, 2) = trn k (1, 2) from by_one hk (1, 2))
  have CK := hid (fun (k : Nat) (hk : k < 8) (b : Option Addr) (cb : Nat) (W : World) (h : TSeg W b (tnW [k])) => c_turnedBy b (tnW [k]) cb (1, 2) W h (by rw [tnW_len]; simp) (nr_ways [k] bd12) (few_ways (ws := [k]) (by simpa using hk)))
  have HONE := hid (fun (k : Nat) (hk : k < 8) (e : trn k (1, 2) = trn K (1, 2)) => lop_one k hk K hK e)
  have HKK : Hid (trn K (1, 2) = trn K (1, 2)) := rfl
  obtain ⟨c, hcc⟩ : ∃ c, c = trn K (1, 2) := ⟨_, rfl⟩
  rw [← hcc] at CT HONE
  have HCC := hid hcc
  clear hcc HKK
  have B0 := hid ((Below.refl w.heap.size w).alloc (Nat.le_refl _) (.cells #[.int .i64 1, .int .i64 2] 36))
  have A0 := hid (ha.below B0.out)
  have L0 := hid (WRow.new w (.int .i64 1) 2 36)
  have hlt0 := World.rowIs.lt L0.out
  have x0 := L0.out.c0
  have x1 := L0.out.c1
  clear ha hw hc hTl
  go_enter Try.func88, Try.ntmps88
  go_wp2_with fail
  generalize w.alloc (.cells #[.int .i64 1, .int .i64 2] 36) = w0 at *
  have D := hid ((Below.refl w0.heap.size w0).drew)
  have DA := hid (D.out.alloc D.out.size (.cells #[.int .i64 0, .int .i64 0] 36))
  go_region_held3 (fun W => W.cell? ⟨w.heap.size, 0, none⟩ = some (.int .i64 1) ∧ W.cell? ⟨w.heap.size, 1, none⟩ = some (.int .i64 2))
    (first
      | exact ⟨x0, x1⟩
      | exact ⟨(E5.out.cell hlt0).trans x0, (E5.out.cell hlt0).trans x1⟩
      | exact ⟨((E4.out.alloc E4.out.size _).cell hlt0).trans x0, ((E4.out.alloc E4.out.size _).cell hlt0).trans x1⟩
      | exact ⟨(E4.out.cell hlt0).trans x0, (E4.out.cell hlt0).trans x1⟩
      | exact ⟨((E3.out.alloc E3.out.size _).cell hlt0).trans x0, ((E3.out.alloc E3.out.size _).cell hlt0).trans x1⟩
      | exact ⟨(E3.out.cell hlt0).trans x0, (E3.out.cell hlt0).trans x1⟩
      | exact ⟨(DA.out.cell hlt0).trans x0, (DA.out.cell hlt0).trans x1⟩
      | exact ⟨(D.out.cell hlt0).trans x0, (D.out.cell hlt0).trans x1⟩
      | go_keep)
    (first
      | (go_at_call 130; have _q := TC; refine (CT.out a3 c3 w3 S3.out).mono ?_; rintro e w4 ⟨rfl, b4⟩; have E4 := hid (E3.out.trans (b4.mono E3.out.size)); have T4 := hid (TC.out.below b4); have f0 : w4.frozen? ⟨w0.heap.size, 0, none⟩ = false := T4.out.fr 0; have f1 : w4.frozen? ⟨w0.heap.size, 1, none⟩ = false := T4.out.fr 1; have g0 : w4.cell? ⟨w0.heap.size, 0, none⟩ = some (.int .i64 0) := T4.out.c0; have g1 : w4.cell? ⟨w0.heap.size, 1, none⟩ = some (.int .i64 0) := T4.out.c1; have E5 := hid ((E4.out.setCell (p := ⟨w0.heap.size, 0, none⟩) D.out.size (.int .i64 c.1)).setCell (p := ⟨w0.heap.size, 1, none⟩) D.out.size (.int .i64 c.2)); clear b4)
      | (go_at_call 130; refine (CT.out a3 c3 (w3.alloc (.cells #[.int .i64 0, .int .i64 0] 36)) (S3.out.below ((Below.refl _ _).alloc (Nat.le_refl _) _))).mono ?_; rintro e w4 ⟨rfl, b4⟩; have E4 := hid ((E3.out.alloc E3.out.size (.cells #[.int .i64 0, .int .i64 0] 36)).trans (b4.mono (E3.out.alloc E3.out.size (.cells #[.int .i64 0, .int .i64 0] 36)).size)); have TB := hid ((WRow.new w3 (.int .i64 0) 0 36).below b4); have f0 := TB.out.fr 0; have f1 := TB.out.fr 1; have g0 := TB.out.c0; have g1 := TB.out.c1; have E5 := hid ((E4.out.setCell (p := ⟨w3.heap.size, 0, none⟩) E3.out.size (.int .i64 c.1)).setCell (p := ⟨w3.heap.size, 1, none⟩) E3.out.size (.int .i64 c.2)); clear b4)
      | (go_at_call 130; refine (CT.out a3 c3 w3 S3.out).mono ?_; rintro e w4 ⟨rfl, b4⟩; have E4 := hid (E3.out.trans (b4.mono E3.out.size)); clear b4)
      | (go_at_call 84; refine (c_turningsOf a ws ca w0.drew (A0.out.below D.out) (by omega) HW.out).mono ?_; rintro e w3 ⟨v3, rfl, o3, b3⟩; obtain ⟨a3, c3, rfl, s3⟩ := o3.form (tnW_ok _ _); have S3 := hid s3; have E3 := hid (D.out.trans (b3.mono D.out.size)); clear o3 s3 b3)
      | (go_at_call 84; refine (c_turningsOf a ws ca (w0.drew.alloc (.cells #[.int .i64 0, .int .i64 0] 36)) (A0.out.below DA.out) (by omega) HW.out).mono ?_; rintro e w3 ⟨v3, rfl, o3, b3⟩; obtain ⟨a3, c3, rfl, s3⟩ := o3.form (tnW_ok _ _); have S3 := hid s3; have E3 := hid (DA.out.trans (b3.mono DA.out.size)); have TC := hid ((WRow.new w0.drew (.int .i64 0) 0 36).below b3); clear o3 s3 b3))
  · have RT := hid (WRow.new w4 (.int .i64 c.1) c.2 36)
    have EE := hid (E4.out.alloc E4.out.size (.cells #[.int .i64 c.1, .int .i64 c.2] 36))
    have LL := hid (L0.out.below EE.out)
    have BB := hid (B0.out.trans (EE.out.mono B0.out.size))
    clear EE D DA A0 L0 B0 x0 x1
    generalize w4.alloc (.cells #[.int .i64 c.1, .int .i64 c.2] 36) = W5 at *
    generalize w4.heap.size = B at *
    go_wp2_with fail
    go_loopw [5] (fun i wr => ∃ k : Nat, k ≤ K ∧ i = .int .i64 (k : Int) ∧ WRow wr w.heap.size (.int .i64 1) 2 36 ∧ WRow wr B (.int .i64 c.1) c.2 36 ∧ Below w.heap.size w wr) (fun i _ => K - (intOf i).toNat)
    case atStart => exact ⟨0, Nat.zero_le _, rfl, LL.out, RT.out, BB.out⟩
    case round =>
      clear LL RT BB CT HW
      obtain ⟨k, hk, rfl, hP, hQ, hB⟩ := hrel
      have HP := hid hP
      have HQ := hid hQ
      have HB := hid hB
      clear hP hQ hB
      have x0 := HP.out.c0
      have x1 := HP.out.c1
      have y0 := HQ.out.c0
      have y1 := HQ.out.c1
      have hpl : w.heap.size < wr.heap.size := World.rowIs.lt HP.out
      have hql : B < wr.heap.size := World.rowIs.lt HQ.out
      have hk8 : k < 8 := by omega
      have HM : Hid (∀ x ∈ [k], x < 8) := by show ∀ x ∈ [k], x < 8; simpa using hk8
      have CKk := hid (CK.out k hk8)
      rw [HTR.out k hk8] at CKk
      have D := hid ((Below.refl wr.heap.size wr).drew)
      have DA := hid (D.out.alloc D.out.size (.cells #[.int .i64 (k : Int)] 3))
      have HI := hid (iseg_block (heap_alloc_new wr.drew (.cells #[.int .i64 (k : Int)] 3)))
      by_cases hkK : k < K
      · have hne : trn k (1, 2) ≠ c := fun e => by have := HONE.out k hk8 e; omega
        clear HONE
        generalize trn k (1, 2) = t at *
        by_cases h1 : t.1 = c.1
        · have h2 : (t.2 == c.2) = false := beq_eq_false_iff_ne.2 fun e => hne (Prod.ext h1 e)
          clear hne
          go_wp2_with fail
          go_region_held3 (fun W => W.cell? ⟨w.heap.size, 0, none⟩ = some (.int .i64 1) ∧ W.cell? ⟨w.heap.size, 1, none⟩ = some (.int .i64 2) ∧ W.cell? ⟨B, 0, none⟩ = some (.int .i64 c.1) ∧ W.cell? ⟨B, 1, none⟩ = some (.int .i64 c.2))
            (first
              | exact ⟨x0, x1, y0, y1⟩
              | exact ⟨(E4.out.cell hpl).trans x0, (E4.out.cell hpl).trans x1, (E4.out.cell hql).trans y0, (E4.out.cell hql).trans y1⟩
              | exact ⟨(E3.out.cell hpl).trans x0, (E3.out.cell hpl).trans x1, (E3.out.cell hql).trans y0, (E3.out.cell hql).trans y1⟩
              | exact ⟨(DA.out.cell hpl).trans x0, (DA.out.cell hpl).trans x1, (DA.out.cell hql).trans y0, (DA.out.cell hql).trans y1⟩
              | exact ⟨(D.out.cell hpl).trans x0, (D.out.cell hpl).trans x1, (D.out.cell hql).trans y0, (D.out.cell hql).trans y1⟩
              | go_keep)
            (first
              | (go_at_call 130; refine (CKk.out a3 c3 w3 S3.out).mono ?_; rintro e w4 ⟨rfl, b4⟩; have E4 := hid (E3.out.trans (b4.mono E3.out.size)); clear b4)
              | (go_at_call 84; refine (c_turningsOf _ [k] 1 _ HI.out (by simp) HM.out).mono ?_; rintro e w3 ⟨v3, rfl, o3, b3⟩; obtain ⟨a3, c3, rfl, s3⟩ := o3.form (tnW_ok _ _); have S3 := hid s3; have E3 := hid (DA.out.trans (b3.mono DA.out.size)); clear o3 s3 b3))
          have HP4 := hid (HP.out.below E4.out)
          have HQ4 := hid (HQ.out.below E4.out)
          have HB4 := hid (HB.out.trans (E4.out.mono HB.out.size))
          clear E4 E3 S3 D DA HI CKk x0 x1 y0 y1
          go_wp2_with fail
          go_roundw
          case rel => exact ⟨k + 1, by omega, by go_num, HP4.out, HQ4.out, HB4.out⟩
          case measure => simp [intOf]; omega
        · have h2 : (t.1 == c.1) = false := beq_eq_false_iff_ne.2 h1
          clear hne
          go_wp2_with fail
          go_region_held3 (fun W => W.cell? ⟨w.heap.size, 0, none⟩ = some (.int .i64 1) ∧ W.cell? ⟨w.heap.size, 1, none⟩ = some (.int .i64 2) ∧ W.cell? ⟨B, 0, none⟩ = some (.int .i64 c.1) ∧ W.cell? ⟨B, 1, none⟩ = some (.int .i64 c.2))
            (first
              | exact ⟨x0, x1, y0, y1⟩
              | exact ⟨(E4.out.cell hpl).trans x0, (E4.out.cell hpl).trans x1, (E4.out.cell hql).trans y0, (E4.out.cell hql).trans y1⟩
              | exact ⟨(E3.out.cell hpl).trans x0, (E3.out.cell hpl).trans x1, (E3.out.cell hql).trans y0, (E3.out.cell hql).trans y1⟩
              | exact ⟨(DA.out.cell hpl).trans x0, (DA.out.cell hpl).trans x1, (DA.out.cell hql).trans y0, (DA.out.cell hql).trans y1⟩
              | exact ⟨(D.out.cell hpl).trans x0, (D.out.cell hpl).trans x1, (D.out.cell hql).trans y0, (D.out.cell hql).trans y1⟩
              | go_keep)
            (first
              | (go_at_call 130; refine (CKk.out a3 c3 w3 S3.out).mono ?_; rintro e w4 ⟨rfl, b4⟩; have E4 := hid (E3.out.trans (b4.mono E3.out.size)); clear b4)
              | (go_at_call 84; refine (c_turningsOf _ [k] 1 _ HI.out (by simp) HM.out).mono ?_; rintro e w3 ⟨v3, rfl, o3, b3⟩; obtain ⟨a3, c3, rfl, s3⟩ := o3.form (tnW_ok _ _); have S3 := hid s3; have E3 := hid (DA.out.trans (b3.mono DA.out.size)); clear o3 s3 b3))
          have HP4 := hid (HP.out.below E4.out)
          have HQ4 := hid (HQ.out.below E4.out)
          have HB4 := hid (HB.out.trans (E4.out.mono HB.out.size))
          clear E4 E3 S3 D DA HI CKk x0 x1 y0 y1
          go_wp2_with fail
          go_roundw
          case rel => exact ⟨k + 1, by omega, by go_num, HP4.out, HQ4.out, HB4.out⟩
          case measure => simp [intOf]; omega
      · obtain rfl : k = K := by omega
        rw [← HCC.out] at CKk
        have h1 : (c.1 == c.1) = true := by simp
        have h2 : (c.2 == c.2) = true := by simp
        clear HONE HCC
        go_wp2_with fail
        go_region_held3 (fun W => W.cell? ⟨w.heap.size, 0, none⟩ = some (.int .i64 1) ∧ W.cell? ⟨w.heap.size, 1, none⟩ = some (.int .i64 2) ∧ W.cell? ⟨B, 0, none⟩ = some (.int .i64 c.1) ∧ W.cell? ⟨B, 1, none⟩ = some (.int .i64 c.2))
          (first
            | exact ⟨x0, x1, y0, y1⟩
            | exact ⟨(E4.out.cell hpl).trans x0, (E4.out.cell hpl).trans x1, (E4.out.cell hql).trans y0, (E4.out.cell hql).trans y1⟩
            | exact ⟨(E3.out.cell hpl).trans x0, (E3.out.cell hpl).trans x1, (E3.out.cell hql).trans y0, (E3.out.cell hql).trans y1⟩
            | exact ⟨(DA.out.cell hpl).trans x0, (DA.out.cell hpl).trans x1, (DA.out.cell hql).trans y0, (DA.out.cell hql).trans y1⟩
            | exact ⟨(D.out.cell hpl).trans x0, (D.out.cell hpl).trans x1, (D.out.cell hql).trans y0, (D.out.cell hql).trans y1⟩
            | go_keep)
          (first
            | (go_at_call 130; refine (CKk.out a3 c3 w3 S3.out).mono ?_; rintro e w4 ⟨rfl, b4⟩; have E4 := hid (E3.out.trans (b4.mono E3.out.size)); clear b4)
            | (go_at_call 84; refine (c_turningsOf _ [k] 1 _ HI.out (by simp) HM.out).mono ?_; rintro e w3 ⟨v3, rfl, o3, b3⟩; obtain ⟨a3, c3, rfl, s3⟩ := o3.form (tnW_ok _ _); have S3 := hid s3; have E3 := hid (DA.out.trans (b3.mono DA.out.size)); clear o3 s3 b3))
        have HB4 := hid (HB.out.trans (E4.out.mono HB.out.size))
        clear E4 E3 S3 D DA HI CKk x0 x1 y0 y1
        go_wp2
        go_ret
        exact ⟨rfl, HB4.out⟩
  · have RT := hid (TB.out.put (.int .i64 c.1) c.2)
    have EE := hid (E5.out)
    have LL := hid (L0.out.below EE.out)
    have BB := hid (B0.out.trans (EE.out.mono B0.out.size))
    clear EE D DA A0 L0 B0 x0 x1
    generalize (w4.setCell ⟨w3.heap.size, 0, none⟩ (.int .i64 c.1)).setCell ⟨w3.heap.size, 1, none⟩ (.int .i64 c.2) = W5 at *
    generalize w3.heap.size = B at *
    go_wp2_with fail
    go_loopw [5] (fun i wr => ∃ k : Nat, k ≤ K ∧ i = .int .i64 (k : Int) ∧ WRow wr w.heap.size (.int .i64 1) 2 36 ∧ WRow wr B (.int .i64 c.1) c.2 36 ∧ Below w.heap.size w wr) (fun i _ => K - (intOf i).toNat)
    case atStart => exact ⟨0, Nat.zero_le _, rfl, LL.out, RT.out, BB.out⟩
    case round =>
      clear LL RT BB CT HW
      obtain ⟨k, hk, rfl, hP, hQ, hB⟩ := hrel
      have HP := hid hP
      have HQ := hid hQ
      have HB := hid hB
      clear hP hQ hB
      have x0 := HP.out.c0
      have x1 := HP.out.c1
      have y0 := HQ.out.c0
      have y1 := HQ.out.c1
      have hpl : w.heap.size < wr.heap.size := World.rowIs.lt HP.out
      have hql : B < wr.heap.size := World.rowIs.lt HQ.out
      have hk8 : k < 8 := by omega
      have HM : Hid (∀ x ∈ [k], x < 8) := by show ∀ x ∈ [k], x < 8; simpa using hk8
      have CKk := hid (CK.out k hk8)
      rw [HTR.out k hk8] at CKk
      have D := hid ((Below.refl wr.heap.size wr).drew)
      have DA := hid (D.out.alloc D.out.size (.cells #[.int .i64 (k : Int)] 3))
      have HI := hid (iseg_block (heap_alloc_new wr.drew (.cells #[.int .i64 (k : Int)] 3)))
      by_cases hkK : k < K
      · have hne : trn k (1, 2) ≠ c := fun e => by have := HONE.out k hk8 e; omega
        clear HONE
        generalize trn k (1, 2) = t at *
        by_cases h1 : t.1 = c.1
        · have h2 : (t.2 == c.2) = false := beq_eq_false_iff_ne.2 fun e => hne (Prod.ext h1 e)
          clear hne
          go_wp2_with fail
          go_region_held3 (fun W => W.cell? ⟨w.heap.size, 0, none⟩ = some (.int .i64 1) ∧ W.cell? ⟨w.heap.size, 1, none⟩ = some (.int .i64 2) ∧ W.cell? ⟨B, 0, none⟩ = some (.int .i64 c.1) ∧ W.cell? ⟨B, 1, none⟩ = some (.int .i64 c.2))
            (first
              | exact ⟨x0, x1, y0, y1⟩
              | exact ⟨(E4.out.cell hpl).trans x0, (E4.out.cell hpl).trans x1, (E4.out.cell hql).trans y0, (E4.out.cell hql).trans y1⟩
              | exact ⟨(E3.out.cell hpl).trans x0, (E3.out.cell hpl).trans x1, (E3.out.cell hql).trans y0, (E3.out.cell hql).trans y1⟩
              | exact ⟨(DA.out.cell hpl).trans x0, (DA.out.cell hpl).trans x1, (DA.out.cell hql).trans y0, (DA.out.cell hql).trans y1⟩
              | exact ⟨(D.out.cell hpl).trans x0, (D.out.cell hpl).trans x1, (D.out.cell hql).trans y0, (D.out.cell hql).trans y1⟩
              | go_keep)
            (first
              | (go_at_call 130; refine (CKk.out a3 c3 w3 S3.out).mono ?_; rintro e w4 ⟨rfl, b4⟩; have E4 := hid (E3.out.trans (b4.mono E3.out.size)); clear b4)
              | (go_at_call 84; refine (c_turningsOf _ [k] 1 _ HI.out (by simp) HM.out).mono ?_; rintro e w3 ⟨v3, rfl, o3, b3⟩; obtain ⟨a3, c3, rfl, s3⟩ := o3.form (tnW_ok _ _); have S3 := hid s3; have E3 := hid (DA.out.trans (b3.mono DA.out.size)); clear o3 s3 b3))
          have HP4 := hid (HP.out.below E4.out)
          have HQ4 := hid (HQ.out.below E4.out)
          have HB4 := hid (HB.out.trans (E4.out.mono HB.out.size))
          clear E4 E3 S3 D DA HI CKk x0 x1 y0 y1
          go_wp2_with fail
          go_roundw
          case rel => exact ⟨k + 1, by omega, by go_num, HP4.out, HQ4.out, HB4.out⟩
          case measure => simp [intOf]; omega
        · have h2 : (t.1 == c.1) = false := beq_eq_false_iff_ne.2 h1
          clear hne
          go_wp2_with fail
          go_region_held3 (fun W => W.cell? ⟨w.heap.size, 0, none⟩ = some (.int .i64 1) ∧ W.cell? ⟨w.heap.size, 1, none⟩ = some (.int .i64 2) ∧ W.cell? ⟨B, 0, none⟩ = some (.int .i64 c.1) ∧ W.cell? ⟨B, 1, none⟩ = some (.int .i64 c.2))
            (first
              | exact ⟨x0, x1, y0, y1⟩
              | exact ⟨(E4.out.cell hpl).trans x0, (E4.out.cell hpl).trans x1, (E4.out.cell hql).trans y0, (E4.out.cell hql).trans y1⟩
              | exact ⟨(E3.out.cell hpl).trans x0, (E3.out.cell hpl).trans x1, (E3.out.cell hql).trans y0, (E3.out.cell hql).trans y1⟩
              | exact ⟨(DA.out.cell hpl).trans x0, (DA.out.cell hpl).trans x1, (DA.out.cell hql).trans y0, (DA.out.cell hql).trans y1⟩
              | exact ⟨(D.out.cell hpl).trans x0, (D.out.cell hpl).trans x1, (D.out.cell hql).trans y0, (D.out.cell hql).trans y1⟩
              | go_keep)
            (first
              | (go_at_call 130; refine (CKk.out a3 c3 w3 S3.out).mono ?_; rintro e w4 ⟨rfl, b4⟩; have E4 := hid (E3.out.trans (b4.mono E3.out.size)); clear b4)
              | (go_at_call 84; refine (c_turningsOf _ [k] 1 _ HI.out (by simp) HM.out).mono ?_; rintro e w3 ⟨v3, rfl, o3, b3⟩; obtain ⟨a3, c3, rfl, s3⟩ := o3.form (tnW_ok _ _); have S3 := hid s3; have E3 := hid (DA.out.trans (b3.mono DA.out.size)); clear o3 s3 b3))
          have HP4 := hid (HP.out.below E4.out)
          have HQ4 := hid (HQ.out.below E4.out)
          have HB4 := hid (HB.out.trans (E4.out.mono HB.out.size))
          clear E4 E3 S3 D DA HI CKk x0 x1 y0 y1
          go_wp2_with fail
          go_roundw
          case rel => exact ⟨k + 1, by omega, by go_num, HP4.out, HQ4.out, HB4.out⟩
          case measure => simp [intOf]; omega
      · obtain rfl : k = K := by omega
        rw [← HCC.out] at CKk
        have h1 : (c.1 == c.1) = true := by simp
        have h2 : (c.2 == c.2) = true := by simp
        clear HONE HCC
        go_wp2_with fail
        go_region_held3 (fun W => W.cell? ⟨w.heap.size, 0, none⟩ = some (.int .i64 1) ∧ W.cell? ⟨w.heap.size, 1, none⟩ = some (.int .i64 2) ∧ W.cell? ⟨B, 0, none⟩ = some (.int .i64 c.1) ∧ W.cell? ⟨B, 1, none⟩ = some (.int .i64 c.2))
          (first
            | exact ⟨x0, x1, y0, y1⟩
            | exact ⟨(E4.out.cell hpl).trans x0, (E4.out.cell hpl).trans x1, (E4.out.cell hql).trans y0, (E4.out.cell hql).trans y1⟩
            | exact ⟨(E3.out.cell hpl).trans x0, (E3.out.cell hpl).trans x1, (E3.out.cell hql).trans y0, (E3.out.cell hql).trans y1⟩
            | exact ⟨(DA.out.cell hpl).trans x0, (DA.out.cell hpl).trans x1, (DA.out.cell hql).trans y0, (DA.out.cell hql).trans y1⟩
            | exact ⟨(D.out.cell hpl).trans x0, (D.out.cell hpl).trans x1, (D.out.cell hql).trans y0, (D.out.cell hql).trans y1⟩
            | go_keep)
          (first
            | (go_at_call 130; refine (CKk.out a3 c3 w3 S3.out).mono ?_; rintro e w4 ⟨rfl, b4⟩; have E4 := hid (E3.out.trans (b4.mono E3.out.size)); clear b4)
            | (go_at_call 84; refine (c_turningsOf _ [k] 1 _ HI.out (by simp) HM.out).mono ?_; rintro e w3 ⟨v3, rfl, o3, b3⟩; obtain ⟨a3, c3, rfl, s3⟩ := o3.form (tnW_ok _ _); have S3 := hid s3; have E3 := hid (DA.out.trans (b3.mono DA.out.size)); clear o3 s3 b3))
        have HB4 := hid (HB.out.trans (E4.out.mono HB.out.size))
        clear E4 E3 S3 D DA HI CKk x0 x1 y0 y1
        go_wp2
        go_ret
        exact ⟨rfl, HB4.out⟩
  · have RT := hid (show WRow ((w4.setCell ⟨w0.heap.size, 0, none⟩ (.int .i64 c.1)).setCell ⟨w0.heap.size, 1, none⟩ (.int .i64 c.2)) w0.heap.size (.int .i64 c.1) c.2 36 from T4.out.put (.int .i64 c.1) c.2)
    have EE := hid (E5.out)
    have LL := hid (L0.out.below EE.out)
    have BB := hid (B0.out.trans (EE.out.mono B0.out.size))
    clear EE D DA A0 L0 B0 x0 x1
    generalize (w4.setCell ⟨w0.heap.size, 0, none⟩ (.int .i64 c.1)).setCell ⟨w0.heap.size, 1, none⟩ (.int .i64 c.2) = W5 at *
    generalize w0.heap.size = B at *
    go_wp2_with fail
    go_loopw [5] (fun i wr => ∃ k : Nat, k ≤ K ∧ i = .int .i64 (k : Int) ∧ WRow wr w.heap.size (.int .i64 1) 2 36 ∧ WRow wr B (.int .i64 c.1) c.2 36 ∧ Below w.heap.size w wr) (fun i _ => K - (intOf i).toNat)
    case atStart => exact ⟨0, Nat.zero_le _, rfl, LL.out, RT.out, BB.out⟩
    case round =>
      clear LL RT BB CT HW
      obtain ⟨k, hk, rfl, hP, hQ, hB⟩ := hrel
      have HP := hid hP
      have HQ := hid hQ
      have HB := hid hB
      clear hP hQ hB
      have x0 := HP.out.c0
      have x1 := HP.out.c1
      have y0 := HQ.out.c0
      have y1 := HQ.out.c1
      have hpl : w.heap.size < wr.heap.size := World.rowIs.lt HP.out
      have hql : B < wr.heap.size := World.rowIs.lt HQ.out
      have hk8 : k < 8 := by omega
      have HM : Hid (∀ x ∈ [k], x < 8) := by show ∀ x ∈ [k], x < 8; simpa using hk8
      have CKk := hid (CK.out k hk8)
      rw [HTR.out k hk8] at CKk
      have D := hid ((Below.refl wr.heap.size wr).drew)
      have DA := hid (D.out.alloc D.out.size (.cells #[.int .i64 (k : Int)] 3))
      have HI := hid (iseg_block (heap_alloc_new wr.drew (.cells #[.int .i64 (k : Int)] 3)))
      by_cases hkK : k < K
      · have hne : trn k (1, 2) ≠ c := fun e => by have := HONE.out k hk8 e; omega
        clear HONE
        generalize trn k (1, 2) = t at *
        by_cases h1 : t.1 = c.1
        · have h2 : (t.2 == c.2) = false := beq_eq_false_iff_ne.2 fun e => hne (Prod.ext h1 e)
          clear hne
          go_wp2_with fail
          go_region_held3 (fun W => W.cell? ⟨w.heap.size, 0, none⟩ = some (.int .i64 1) ∧ W.cell? ⟨w.heap.size, 1, none⟩ = some (.int .i64 2) ∧ W.cell? ⟨B, 0, none⟩ = some (.int .i64 c.1) ∧ W.cell? ⟨B, 1, none⟩ = some (.int .i64 c.2))
            (first
              | exact ⟨x0, x1, y0, y1⟩
              | exact ⟨(E4.out.cell hpl).trans x0, (E4.out.cell hpl).trans x1, (E4.out.cell hql).trans y0, (E4.out.cell hql).trans y1⟩
              | exact ⟨(E3.out.cell hpl).trans x0, (E3.out.cell hpl).trans x1, (E3.out.cell hql).trans y0, (E3.out.cell hql).trans y1⟩
              | exact ⟨(DA.out.cell hpl).trans x0, (DA.out.cell hpl).trans x1, (DA.out.cell hql).trans y0, (DA.out.cell hql).trans y1⟩
              | exact ⟨(D.out.cell hpl).trans x0, (D.out.cell hpl).trans x1, (D.out.cell hql).trans y0, (D.out.cell hql).trans y1⟩
              | go_keep)
            (first
              | (go_at_call 130; refine (CKk.out a3 c3 w3 S3.out).mono ?_; rintro e w4 ⟨rfl, b4⟩; have E4 := hid (E3.out.trans (b4.mono E3.out.size)); clear b4)
              | (go_at_call 84; refine (c_turningsOf _ [k] 1 _ HI.out (by simp) HM.out).mono ?_; rintro e w3 ⟨v3, rfl, o3, b3⟩; obtain ⟨a3, c3, rfl, s3⟩ := o3.form (tnW_ok _ _); have S3 := hid s3; have E3 := hid (DA.out.trans (b3.mono DA.out.size)); clear o3 s3 b3))
          have HP4 := hid (HP.out.below E4.out)
          have HQ4 := hid (HQ.out.below E4.out)
          have HB4 := hid (HB.out.trans (E4.out.mono HB.out.size))
          clear E4 E3 S3 D DA HI CKk x0 x1 y0 y1
          go_wp2_with fail
          go_roundw
          case rel => exact ⟨k + 1, by omega, by go_num, HP4.out, HQ4.out, HB4.out⟩
          case measure => simp [intOf]; omega
        · have h2 : (t.1 == c.1) = false := beq_eq_false_iff_ne.2 h1
          clear hne
          go_wp2_with fail
          go_region_held3 (fun W => W.cell? ⟨w.heap.size, 0, none⟩ = some (.int .i64 1) ∧ W.cell? ⟨w.heap.size, 1, none⟩ = some (.int .i64 2) ∧ W.cell? ⟨B, 0, none⟩ = some (.int .i64 c.1) ∧ W.cell? ⟨B, 1, none⟩ = some (.int .i64 c.2))
            (first
              | exact ⟨x0, x1, y0, y1⟩
              | exact ⟨(E4.out.cell hpl).trans x0, (E4.out.cell hpl).trans x1, (E4.out.cell hql).trans y0, (E4.out.cell hql).trans y1⟩
              | exact ⟨(E3.out.cell hpl).trans x0, (E3.out.cell hpl).trans x1, (E3.out.cell hql).trans y0, (E3.out.cell hql).trans y1⟩
              | exact ⟨(DA.out.cell hpl).trans x0, (DA.out.cell hpl).trans x1, (DA.out.cell hql).trans y0, (DA.out.cell hql).trans y1⟩
              | exact ⟨(D.out.cell hpl).trans x0, (D.out.cell hpl).trans x1, (D.out.cell hql).trans y0, (D.out.cell hql).trans y1⟩
              | go_keep)
            (first
              | (go_at_call 130; refine (CKk.out a3 c3 w3 S3.out).mono ?_; rintro e w4 ⟨rfl, b4⟩; have E4 := hid (E3.out.trans (b4.mono E3.out.size)); clear b4)
              | (go_at_call 84; refine (c_turningsOf _ [k] 1 _ HI.out (by simp) HM.out).mono ?_; rintro e w3 ⟨v3, rfl, o3, b3⟩; obtain ⟨a3, c3, rfl, s3⟩ := o3.form (tnW_ok _ _); have S3 := hid s3; have E3 := hid (DA.out.trans (b3.mono DA.out.size)); clear o3 s3 b3))
          have HP4 := hid (HP.out.below E4.out)
          have HQ4 := hid (HQ.out.below E4.out)
          have HB4 := hid (HB.out.trans (E4.out.mono HB.out.size))
          clear E4 E3 S3 D DA HI CKk x0 x1 y0 y1
          go_wp2_with fail
          go_roundw
          case rel => exact ⟨k + 1, by omega, by go_num, HP4.out, HQ4.out, HB4.out⟩
          case measure => simp [intOf]; omega
      · obtain rfl : k = K := by omega
        rw [← HCC.out] at CKk
        have h1 : (c.1 == c.1) = true := by simp
        have h2 : (c.2 == c.2) = true := by simp
        clear HONE HCC
        go_wp2_with fail
        go_region_held3 (fun W => W.cell? ⟨w.heap.size, 0, none⟩ = some (.int .i64 1) ∧ W.cell? ⟨w.heap.size, 1, none⟩ = some (.int .i64 2) ∧ W.cell? ⟨B, 0, none⟩ = some (.int .i64 c.1) ∧ W.cell? ⟨B, 1, none⟩ = some (.int .i64 c.2))
          (first
            | exact ⟨x0, x1, y0, y1⟩
            | exact ⟨(E4.out.cell hpl).trans x0, (E4.out.cell hpl).trans x1, (E4.out.cell hql).trans y0, (E4.out.cell hql).trans y1⟩
            | exact ⟨(E3.out.cell hpl).trans x0, (E3.out.cell hpl).trans x1, (E3.out.cell hql).trans y0, (E3.out.cell hql).trans y1⟩
            | exact ⟨(DA.out.cell hpl).trans x0, (DA.out.cell hpl).trans x1, (DA.out.cell hql).trans y0, (DA.out.cell hql).trans y1⟩
            | exact ⟨(D.out.cell hpl).trans x0, (D.out.cell hpl).trans x1, (D.out.cell hql).trans y0, (D.out.cell hql).trans y1⟩
            | go_keep)
          (first
            | (go_at_call 130; refine (CKk.out a3 c3 w3 S3.out).mono ?_; rintro e w4 ⟨rfl, b4⟩; have E4 := hid (E3.out.trans (b4.mono E3.out.size)); clear b4)
            | (go_at_call 84; refine (c_turningsOf _ [k] 1 _ HI.out (by simp) HM.out).mono ?_; rintro e w3 ⟨v3, rfl, o3, b3⟩; obtain ⟨a3, c3, rfl, s3⟩ := o3.form (tnW_ok _ _); have S3 := hid s3; have E3 := hid (DA.out.trans (b3.mono DA.out.size)); clear o3 s3 b3))
        have HB4 := hid (HB.out.trans (E4.out.mono HB.out.size))
        clear E4 E3 S3 D DA HI CKk x0 x1 y0 y1
        go_wp2
        go_ret
        exact ⟨rfl, HB4.out⟩
set_option maxRecDepth 100000 in
set_option maxHeartbeats 8000000 in
theorem c_l8Find (c d : Cl) (K : Nat) (w : World) (hK : K < 8) (h1 : trn K (1, 2) = c) (h2 : trn K (3, 1) = d) :
    Calls Try.prog 90 #[.agg #[.int .i64 c.1, .int .i64 c.2], .agg #[.int .i64 d.1, .int .i64 d.2]] w fun e w' => e = .returned (.int .i64 (K : Int)) ∧ Below w.heap.size w w' := by
  have HONE := hid (fun (k : Nat) (hk : k < 8) (e : trn k (1, 2) = c) => lop_one k hk K hK (e.trans h1.symm))
  have HC := hid h1
  have HD := hid h2
  have P0 := hid ((WRow.new w (.int .i64 c.1) c.2 36).below ((Below.refl _ _).alloc (Nat.le_refl _) (.cells #[.int .i64 d.1, .int .i64 d.2] 36)))
  have P1 := hid (WRow.new (w.alloc (.cells #[.int .i64 c.1, .int .i64 c.2] 36)) (.int .i64 d.1) d.2 36)
  have hz1 : (w.alloc (.cells #[.int .i64 c.1, .int .i64 c.2] 36)).heap.size = w.heap.size + 1 := by simp
  rw [hz1] at P1
  have B2 := hid (((Below.refl w.heap.size w).alloc (Nat.le_refl _) (.cells #[.int .i64 c.1, .int .i64 c.2] 36)).alloc (by simp) (.cells #[.int .i64 d.1, .int .i64 d.2] 36))
  clear h1 h2 hz1
  go_enter Try.func90, Try.ntmps90
  go_wp2_with fail
  go_loopw [5] (fun i wr => ∃ k : Nat, k ≤ K ∧ i = .int .i64 (k : Int) ∧ WRow wr w.heap.size (.int .i64 c.1) c.2 36 ∧ WRow wr (w.heap.size + 1) (.int .i64 d.1) d.2 36 ∧ Below w.heap.size w wr) (fun i _ => K - (intOf i).toNat)
  case atStart => exact ⟨0, Nat.zero_le _, rfl, P0.out, P1.out, B2.out⟩
  case round =>
    clear P0 P1 B2
    obtain ⟨k, hk, rfl, hP, hQ, hB⟩ := hrel
    have HP := hid hP
    have HQ := hid hQ
    have HB := hid hB
    clear hP hQ hB
    have x0 := HP.out.c0
    have x1 := HP.out.c1
    have y0 := HQ.out.c0
    have y1 := HQ.out.c1
    have hpl : w.heap.size < wr.heap.size := World.rowIs.lt HP.out
    have hql : w.heap.size + 1 < wr.heap.size := World.rowIs.lt HQ.out
    have hk8 : k < 8 := by omega
    have kk8 : (k : Int) < 8 := by omega
    have CA := hid (fun (W : World) => c_l8Turn (1, 2) k hk8 bd12 W)
    have CB := hid (fun (W : World) => c_l8Turn (3, 1) k hk8 bd31 W)
    have D := hid ((Below.refl wr.heap.size wr).drew)
    by_cases hkK : k < K
    · have hne : trn k (1, 2) ≠ c := fun e => by have := HONE.out k hk8 e; omega
      clear HONE
      generalize trn k (1, 2) = t at *
      by_cases h1 : t.1 = c.1
      · have h2 : (t.2 == c.2) = false := beq_eq_false_iff_ne.2 fun e => hne (Prod.ext h1 e)
        clear hne
        go_wp2_with fail
        have q0 := fun z : Gr wr => z.cell x0 hpl
        have q1 := fun z : Gr wr => z.cell x1 hpl
        have q2 := fun z : Gr wr => z.cell y0 hql
        have q3 := fun z : Gr wr => z.cell y1 hql
        have hneg := Gr.ne wr
        refine wp_region_gr (by kernel_rfl) (by kernel_rfl) ?_
        repeat (go_big_quiet_step (first | (go_at_call 89; exact Calls.gr _ (CA.out _))))
        refine wpQuiet_nil ?_
        rintro _ ⟨z, rfl⟩
        have HP4 := hid (HP.out.below z.below)
        have HQ4 := hid (HQ.out.below z.below)
        have HB4 := hid (HB.out.trans (z.below.mono HB.out.size))
        clear q0 q1 q2 q3 hneg D CA CB x0 x1 y0 y1
        go_wp2
        go_roundw
        case rel => exact ⟨k + 1, by omega, by go_num, HP4.out, HQ4.out, HB4.out⟩
        case measure => simp [intOf]; omega
      · have h2 : (t.1 == c.1) = false := beq_eq_false_iff_ne.2 h1
        clear hne
        go_wp2_with fail
        have q0 := fun z : Gr wr => z.cell x0 hpl
        have q1 := fun z : Gr wr => z.cell x1 hpl
        have q2 := fun z : Gr wr => z.cell y0 hql
        have q3 := fun z : Gr wr => z.cell y1 hql
        have hneg := Gr.ne wr
        refine wp_region_gr (by kernel_rfl) (by kernel_rfl) ?_
        repeat (go_big_quiet_step (first | (go_at_call 89; exact Calls.gr _ (CA.out _))))
        refine wpQuiet_nil ?_
        rintro _ ⟨z, rfl⟩
        have HP4 := hid (HP.out.below z.below)
        have HQ4 := hid (HQ.out.below z.below)
        have HB4 := hid (HB.out.trans (z.below.mono HB.out.size))
        clear q0 q1 q2 q3 hneg D CA CB x0 x1 y0 y1
        go_wp2
        go_roundw
        case rel => exact ⟨k + 1, by omega, by go_num, HP4.out, HQ4.out, HB4.out⟩
        case measure => simp [intOf]; omega
    · obtain rfl : k = K := by omega
      rw [HC.out] at CA
      rw [HD.out] at CB
      have h1 : (c.1 == c.1) = true := by simp
      have h2 : (c.2 == c.2) = true := by simp
      have h3 : (d.1 == d.1) = true := by simp
      have h4 : (d.2 == d.2) = true := by simp
      clear HONE HC HD
      go_wp2_with fail
      go_region_held3 (fun W => W.cell? ⟨w.heap.size, 0, none⟩ = some (.int .i64 c.1) ∧ W.cell? ⟨w.heap.size, 1, none⟩ = some (.int .i64 c.2) ∧ W.cell? ⟨w.heap.size + 1, 0, none⟩ = some (.int .i64 d.1) ∧ W.cell? ⟨w.heap.size + 1, 1, none⟩ = some (.int .i64 d.2))
        (first
          | exact ⟨x0, x1, y0, y1⟩
          | exact ⟨(E4.out.cell hpl).trans x0, (E4.out.cell hpl).trans x1, (E4.out.cell hql).trans y0, (E4.out.cell hql).trans y1⟩
          | exact ⟨(E3.out.cell hpl).trans x0, (E3.out.cell hpl).trans x1, (E3.out.cell hql).trans y0, (E3.out.cell hql).trans y1⟩
          | exact ⟨(D.out.cell hpl).trans x0, (D.out.cell hpl).trans x1, (D.out.cell hql).trans y0, (D.out.cell hql).trans y1⟩
          | go_keep)
        (first
          | (go_at_call 89; refine (CB.out w3).mono ?_; rintro e w4 ⟨rfl, b4⟩; have E4 := hid (E3.out.trans (b4.mono E3.out.size)); clear b4)
          | (go_at_call 89; refine (CA.out wr.drew).mono ?_; rintro e w3 ⟨rfl, b3⟩; have E3 := hid (D.out.trans (b3.mono D.out.size)); clear b3))
      have HB4 := hid (HB.out.trans (E4.out.mono HB.out.size))
      clear E4 E3 D CA CB x0 x1 y0 y1
      go_wp2
      go_ret
      exact ⟨rfl, HB4.out⟩

theorem then_nat {a b : Nat} (ha : a < 8) (hb : b < 8) : thenOk (a : Int) (b : Int) = true ∧ thenV (a : Int) (b : Int) = ((thenW a b : Nat) : Int) := by
  have h1 : inW (a : Int) = true := by simp [inW]; omega
  have h2 : inW (b : Int) = true := by simp [inW]; omega
  simp [thenOk, thenV, h1, h2]
theorem then_no {a b : Int} (h : thenOk a b = false) : thenV a b = 0 := by simp [thenV, h]

set_option maxRecDepth 100000 in
set_option maxHeartbeats 2000000 in
theorem c_sThenWay (a b : Int) (w : World) (ha : -9223372036854775808 ≤ a ∧ a ≤ 9223372036854775807) (hb : -9223372036854775808 ≤ b ∧ b ≤ 9223372036854775807) :
    Calls Try.prog 32 #[.int .i64 a, .int .i64 b] w fun e w' => e = .returned (.tuple #[.int .i64 (thenV a b), .bool (thenOk a b)]) ∧ Below w.heap.size w w' := by
  cases h1 : inW a
  · have HV : Hid (thenV a b = 0 ∧ thenOk a b = false) := by simp [Hid, thenV, thenOk, h1]
    go_enter Try.func32, Try.ntmps32
    go_wp2_with fail
    refine (c_l8Way a false h1 _).mono ?_
    rintro e w1 ⟨rfl, rfl⟩
    go_wp2
    go_ret2
    exact ⟨by rw [HV.out.1, HV.out.2]; rfl, Below.refl _ _⟩
  · cases h2 : inW b
    · have HV : Hid (thenV a b = 0 ∧ thenOk a b = false) := by simp [Hid, thenV, thenOk, h2]
      go_enter Try.func32, Try.ntmps32
      go_wp2_with fail
      refine (c_l8Way a true h1 _).mono ?_
      rintro e w1 ⟨rfl, rfl⟩
      go_wp2_with fail
      refine (c_l8Way b false h2 _).mono ?_
      rintro e w2 ⟨rfl, rfl⟩
      go_wp2
      go_ret2
      exact ⟨by rw [HV.out.1, HV.out.2]; rfl, Below.refl _ _⟩
    · obtain ⟨m, rfl, hm⟩ := inW_nat h1
      obtain ⟨n, rfl, hn⟩ := inW_nat h2
      have HV := hid (then_nat hm hn)
      have HT := hid (thenW_lt m hm n hn)
      have H1 := hid h1
      have H2 := hid h2
      have C1 := hid (fun W => c_l8Turn (1, 2) m hm bd12 W)
      have C2 := hid (fun W => c_l8Turn (trn m (1, 2)) n hn (bd_trn _ bd12) W)
      have C3 := hid (fun W => c_l8Turn (3, 1) m hm bd31 W)
      have C4 := hid (fun W => c_l8Turn (trn m (3, 1)) n hn (bd_trn _ bd31) W)
      clear h1 h2
      generalize thenW m n = K at *
      generalize trn n (trn m (1, 2)) = p at *
      generalize trn n (trn m (3, 1)) = q at *
      generalize trn m (1, 2) = p1 at *
      generalize trn m (3, 1) = q1 at *
      go_enter Try.func32, Try.ntmps32
      go_wp2_with fail
      refine (c_l8Way (m : Int) true H1.out _).mono ?_
      rintro e w1 ⟨rfl, rfl⟩
      go_wp2_with fail
      refine (c_l8Way (n : Int) true H2.out _).mono ?_
      rintro e w2 ⟨rfl, rfl⟩
      go_wp2_with fail
      refine (C1.out _).mono ?_
      rintro e w3 ⟨rfl, b3⟩
      have B3 := hid b3
      clear b3
      go_wp2_with fail
      refine (C2.out _).mono ?_
      rintro e w4 ⟨rfl, b4⟩
      have RP := hid (WRow.new w4 (.int .i64 p.1) p.2 36)
      have B4 := hid ((B3.out.trans (b4.mono B3.out.size)).alloc (B3.out.trans (b4.mono B3.out.size)).size (.cells #[.int .i64 p.1, .int .i64 p.2] 36))
      clear b4 B3
      go_wp2_with fail
      generalize w4.alloc (.cells #[.int .i64 p.1, .int .i64 p.2] 36) = w5 at *
      generalize w4.heap.size = P at *
      refine (C3.out _).mono ?_
      rintro e w6 ⟨rfl, b6⟩
      have RP6 := hid (RP.out.below b6)
      have B6 := hid (B4.out.trans (b6.mono B4.out.size))
      clear b6 B4 RP
      go_wp2_with fail
      refine (C4.out _).mono ?_
      rintro e w7 ⟨rfl, b7⟩
      have RQ := hid (WRow.new w7 (.int .i64 q.1) q.2 36)
      have BA := (Below.refl w7.heap.size w7).alloc (Nat.le_refl _) (.cells #[.int .i64 q.1, .int .i64 q.2] 36)
      have RP7 := hid ((RP6.out.below b7).below BA)
      have B7 := hid ((B6.out.trans (b7.mono B6.out.size)).trans (BA.mono (B6.out.trans (b7.mono B6.out.size)).size))
      clear b7 B6 RP6 BA
      have x0 := RP7.out.c0
      have x1 := RP7.out.c1
      have y0 := RQ.out.c0
      have y1 := RQ.out.c1
      go_wp2_with fail
      refine (c_l8Find p q K _ HT.out.1 HT.out.2.1 HT.out.2.2).mono ?_
      rintro e w8 ⟨rfl, b8⟩
      go_wp2
      go_ret2
      exact ⟨by rw [HV.out.1, HV.out.2]; rfl, B7.out.trans (b8.mono B7.out.size)⟩

set_option maxRecDepth 100000 in
set_option maxHeartbeats 2000000 in
theorem c_iThenWay (a b : Int) (w : World) (ha : -9223372036854775808 ≤ a ∧ a ≤ 9223372036854775807) (hb : -9223372036854775808 ≤ b ∧ b ≤ 9223372036854775807) :
    Calls Try.prog 31 #[.int .i64 a, .int .i64 b] w fun e w' => e = .returned (.tuple #[.int .i64 (thenV a b), .bool (thenOk a b)]) ∧ Below w.heap.size w w' := by
  cases h1 : inW a
  · have HV : Hid (thenV a b = 0 ∧ thenOk a b = false) := by simp [Hid, thenV, thenOk, h1]
    go_enter Try.func31, Try.ntmps31
    go_wp2_with fail
    refine (c_isWay a false h1 _).mono ?_
    rintro e w1 ⟨rfl, rfl⟩
    go_wp2
    go_ret2
    exact ⟨by rw [HV.out.1, HV.out.2]; rfl, Below.refl _ _⟩
  · cases h2 : inW b
    · have HV : Hid (thenV a b = 0 ∧ thenOk a b = false) := by simp [Hid, thenV, thenOk, h2]
      go_enter Try.func31, Try.ntmps31
      go_wp2_with fail
      refine (c_isWay a true h1 _).mono ?_
      rintro e w1 ⟨rfl, rfl⟩
      go_wp2_with fail
      refine (c_isWay b false h2 _).mono ?_
      rintro e w2 ⟨rfl, rfl⟩
      go_wp2
      go_ret2
      exact ⟨by rw [HV.out.1, HV.out.2]; rfl, Below.refl _ _⟩
    · obtain ⟨m, rfl, hm⟩ := inW_nat h1
      obtain ⟨n, rfl, hn⟩ := inW_nat h2
      have HV := hid (then_nat hm hn)
      have HT := hid (thenW_lt m hm n hn)
      have H1 := hid h1
      have H2 := hid h2
      have HM : Hid (∀ x ∈ [m, n], x < 8) := by
        show ∀ x ∈ [m, n], x < 8
        intro x hx
        simp only [List.mem_cons, List.not_mem_nil, or_false] at hx
        rcases hx with rfl | rfl <;> assumption
      have HBY := hid (by_two hm hn (1, 2))
      have HI := hid (iseg_two (heap_alloc_new w (.cells #[.int .i64 (m : Int), .int .i64 (n : Int)] 3)))
      have BA := hid ((Below.refl w.heap.size w).alloc (Nat.le_refl _) (.cells #[.int .i64 (m : Int), .int .i64 (n : Int)] 3))
      clear h1 h2
      go_enter Try.func31, Try.ntmps31
      go_wp2_with fail
      refine (c_isWay (m : Int) true H1.out _).mono ?_
      rintro e w1 ⟨rfl, rfl⟩
      go_wp2_with fail
      refine (c_isWay (n : Int) true H2.out _).mono ?_
      rintro e w2 ⟨rfl, rfl⟩
      go_wp2_with fail
      refine (c_wayOf _ [m, n] 2 (thenW m n) _ HI.out (by simp) HM.out HT.out.1 (HBY.out.trans HT.out.2.1.symm)).mono ?_
      rintro e w3 ⟨rfl, b3⟩
      go_wp2
      go_ret2
      exact ⟨by rw [HV.out.1, HV.out.2]; rfl, BA.out.trans (b3.mono BA.out.size)⟩

theorem back_nat {a : Nat} (ha : a < 8) : backV (a : Int) = ((backW a : Nat) : Int) := by
  have h1 : inW (a : Int) = true := by simp [inW]; omega
  simp [backV, h1]
set_option maxRecDepth 100000 in
set_option maxHeartbeats 2000000 in
theorem c_sBackWay (a : Int) (w : World) (ha : -9223372036854775808 ≤ a ∧ a ≤ 9223372036854775807) :
    Calls Try.prog 35 #[.int .i64 a] w fun e w' => e = .returned (.tuple #[.int .i64 (backV a), .bool (inW a)]) ∧ Below w.heap.size w w' := by
  cases h1 : inW a
  · have HV : Hid (backV a = 0) := by simp [Hid, backV, h1]
    go_enter Try.func35, Try.ntmps35
    go_wp2_with fail
    refine (c_l8Way a false h1 _).mono ?_
    rintro e w1 ⟨rfl, rfl⟩
    go_wp2
    go_ret2
    exact ⟨by rw [HV.out]; rfl, Below.refl _ _⟩
  · obtain ⟨m, rfl, hm⟩ := inW_nat h1
    have HV := hid (back_nat hm)
    have HB1 := hid (backW_is m hm)
    have HB2 := hid (backW_least m hm)
    have hb8 : backW m < 8 := HB1.out.1
    have H1 := hid h1
    have HTN := hid (fun (k : Nat) (hk : k < 8) => then_nat hm hk)
    have HTL := hid (fun (k : Nat) (hk : k < 8) => (thenW_lt m hm k hk).1)
    have C := hid (fun (k : Nat) (hk : k < 8) W => c_sThenWay (m : Int) (k : Int) W (by omega) (by omega))
    clear h1
    go_enter Try.func35, Try.ntmps35
    go_wp2_with fail
    refine (c_l8Way (m : Int) true H1.out _).mono ?_
    rintro e w1 ⟨rfl, rfl⟩
    go_wp2_with fail
    go_loopw [4] (fun i wr => ∃ k : Nat, k ≤ backW m ∧ i = .int .i64 (k : Int) ∧ Below w1.heap.size w1 wr) (fun i _ => backW m - (intOf i).toNat)
    case atStart => exact ⟨0, Nat.zero_le _, rfl, Below.refl _ _⟩
    case round =>
      obtain ⟨k, hk, rfl, hB⟩ := hrel
      have HB := hid hB
      have hk8 : k < 8 := by omega
      have kk8 : (k : Int) < 8 := by omega
      have CK := hid (C.out k hk8)
      rw [(HTN.out k hk8).1, (HTN.out k hk8).2] at CK
      clear hB
      by_cases hkK : k < backW m
      · have hne := HB2.out k hkK
        have htl := HTL.out k hk8
        generalize thenW m k = t at *
        have hti : (t : Int) ≠ 0 := by omega
        have htb : ((t : Int) == 0) = false := beq_eq_false_iff_ne.2 hti
        clear hne
        go_wp2_with fail
        refine (CK.out _).mono ?_
        rintro e w3 ⟨rfl, b3⟩
        have HB3 := hid (HB.out.trans (b3.mono HB.out.size))
        clear b3
        go_wp2_with fail
        go_roundw
        case rel => exact ⟨k + 1, by omega, by go_num, HB3.out⟩
        case measure => simp [intOf]; omega
      · obtain rfl : k = backW m := by omega
        rw [HB1.out.2] at CK
        go_wp2_with fail
        refine (CK.out _).mono ?_
        rintro e w3 ⟨rfl, b3⟩
        go_wp2
        go_ret2
        exact ⟨by rw [HV.out]; rfl, HB.out.trans (b3.mono HB.out.size)⟩
set_option maxRecDepth 100000 in
set_option maxHeartbeats 2000000 in
theorem c_iBackWay (a : Int) (w : World) (ha : -9223372036854775808 ≤ a ∧ a ≤ 9223372036854775807) :
    Calls Try.prog 34 #[.int .i64 a] w fun e w' => e = .returned (.tuple #[.int .i64 (backV a), .bool (inW a)]) ∧ Below w.heap.size w w' := by
  cases h1 : inW a
  · have HV : Hid (backV a = 0) := by simp [Hid, backV, h1]
    go_enter Try.func34, Try.ntmps34
    go_wp2_with fail
    refine (c_isWay a false h1 _).mono ?_
    rintro e w1 ⟨rfl, rfl⟩
    go_wp2
    go_ret2
    exact ⟨by rw [HV.out]; rfl, Below.refl _ _⟩
  · obtain ⟨m, rfl, hm⟩ := inW_nat h1
    have HV := hid (back_nat hm)
    have HB1 := hid (backW_is m hm)
    have HB2 := hid (backW_least m hm)
    have hb8 : backW m < 8 := HB1.out.1
    have H1 := hid h1
    have HTL := hid (fun (k : Nat) (hk : k < 8) => (thenW_lt m hm k hk))
    have HM := hid (fun (k : Nat) (hk : k < 8) => show ∀ x ∈ [m, k], x < 8 from fun x hx => by
      simp only [List.mem_cons, List.not_mem_nil, or_false] at hx
      rcases hx with rfl | rfl <;> assumption)
    have HBY := hid (fun (k : Nat) (hk : k < 8) => by_two hm hk (1, 2))
    clear h1
    go_enter Try.func34, Try.ntmps34
    go_wp2_with fail
    refine (c_isWay (m : Int) true H1.out _).mono ?_
    rintro e w1 ⟨rfl, rfl⟩
    go_wp2_with fail
    go_loopw [4] (fun i wr => ∃ k : Nat, k ≤ backW m ∧ i = .int .i64 (k : Int) ∧ Below w1.heap.size w1 wr) (fun i _ => backW m - (intOf i).toNat)
    case atStart => exact ⟨0, Nat.zero_le _, rfl, Below.refl _ _⟩
    case round =>
      obtain ⟨k, hk, rfl, hB⟩ := hrel
      have HB := hid hB
      have hk8 : k < 8 := by omega
      have BA := hid (hB.alloc hB.size (.cells #[.int .i64 (m : Int), .int .i64 (k : Int)] 3))
      have HI := hid (iseg_two (heap_alloc_new wr (.cells #[.int .i64 (m : Int), .int .i64 (k : Int)] 3)))
      have CK := hid (fun W (h : ISeg W (some ⟨wr.heap.size, 0, none⟩) (iw [m, k])) => c_wayOf (some ⟨wr.heap.size, 0, none⟩) [m, k] 2 (thenW m k) W h (by simp) (HM.out k hk8) (HTL.out k hk8).1 ((HBY.out k hk8).trans (HTL.out k hk8).2.1.symm))
      clear hB
      by_cases hkK : k < backW m
      · have hne := HB2.out k hkK
        have htl := (HTL.out k hk8).1
        generalize thenW m k = t at *
        have hti : (t : Int) ≠ 0 := by omega
        have htb : ((t : Int) == 0) = false := beq_eq_false_iff_ne.2 hti
        clear hne
        go_wp2_with fail
        refine (CK.out _ HI.out).mono ?_
        rintro e w3 ⟨rfl, b3⟩
        have HB3 := hid (BA.out.trans (b3.mono BA.out.size))
        clear b3
        go_wp2_with fail
        go_roundw
        case rel => exact ⟨k + 1, by omega, by go_num, HB3.out⟩
        case measure => simp [intOf]; omega
      · obtain rfl : k = backW m := by omega
        rw [HB1.out.2] at CK
        go_wp2_with fail
        refine (CK.out _ HI.out).mono ?_
        rintro e w3 ⟨rfl, b3⟩
        have HB3 := hid (BA.out.trans (b3.mono BA.out.size))
        clear b3
        go_wp2
        go_ret2
        exact ⟨by rw [HV.out]; rfl, HB3.out⟩
end Go.Proofs.Ytgfdkolhldbehaa

namespace Go.Proofs.Ytgfdkolhldbehaa
open Go.RowKit
set_option linter.unusedVariables false

set_option maxHeartbeats 1000000 in
set_option maxRecDepth 100000 in
theorem c_DrawTurnCells (a : Option Addr) (l : List Int) (ca : Nat) (w : World) (ha : BSeg w a l) (hl : l.length ≤ 9223372036854775807) :
    Calls Try.prog 27 #[.slice a l.length ca] w fun e w' => ∃ (v : Value) (L : List Cl) (x : Int), e = .returned (.tuple #[v, .int .i64 x]) ∧ OwnS w' w.heap.size v L ∧ L.length ≤ 105 ∧ Small L ∧ -1 ≤ x ∧ x ≤ 8 ∧ Below w.heap.size w w' := by
  have HC := hid (cur_new w a l ca ha hl)
  clear ha
  go_enter Try.func27, Try.ntmps27
  go_wp2_with fail
  refine (c_cells w.heap.size w.heap.size l.length 0 9 9 4 (curW w a l.length ca) HC.out (by omega) (by omega) (by omega) (by omega) (by omega) rfl (by omega) (by omega) (by omega)).mono ?_
  rintro e w1 ⟨v1, L, rfl, hO1, hl1, hs1, hc1, hg1⟩
  have HU := hid (show CU (curW w a l.length ca) w1 w.heap.size w.heap.size l.length (0 + 1000) v1 L from ⟨hO1, hc1, hg1, by simp⟩)
  have HS := hid hs1
  clear hO1 hs1 hc1 hg1 HC
  go_wp2_with fail
  refine (c_pick w.heap.size w.heap.size l.length _ 10 w1 HU.out.cur (by omega) (by omega) (by omega)).mono ?_
  rintro e w2 ⟨p, rfl, p0, p1, hc2, hg2⟩
  have HU2 := hid (HU.out.cur' hc2 hg2)
  clear hc2 hg2 HU
  go_wp2
  go_ret2
  exact ⟨_, L, p - 1, rfl, HU2.out.own.mono (by simp), hl1, HS.out, by omega, by omega, below_cur HU2.out.gr⟩

set_option maxHeartbeats 1000000 in
set_option maxRecDepth 100000 in
theorem c_DrawThenWay (a : Option Addr) (l : List Int) (ca : Nat) (w : World) (ha : BSeg w a l) (hl : l.length ≤ 9223372036854775807) :
    Calls Try.prog 30 #[.slice a l.length ca] w fun e w' => ∃ x y : Int, e = .returned (.tuple #[.int .i64 x, .int .i64 y]) ∧ -1 ≤ x ∧ x ≤ 8 ∧ 0 ≤ y ∧ y ≤ 8 ∧ Below w.heap.size w w' := by
  have HC := hid (cur_new w a l ca ha hl)
  clear ha
  go_enter Try.func30, Try.ntmps30
  go_wp2_with fail
  refine (c_pick w.heap.size w.heap.size l.length 0 9 (curW w a l.length ca) HC.out (by omega) (by omega) (by omega)).mono ?_
  rintro e w1 ⟨p, rfl, p0, p1, hc1, hg1⟩
  have HU := hid (show CU (curW w a l.length ca) w1 w.heap.size w.heap.size l.length (0 + 1) (.slice none 0 0) [] from ⟨OwnS.nil _ _, hc1, hg1, by simp⟩)
  clear hc1 hg1 HC
  go_wp2_with fail
  refine (c_pick w.heap.size w.heap.size l.length _ 9 w1 HU.out.cur (by omega) (by omega) (by omega)).mono ?_
  rintro e w2 ⟨q, rfl, q0, q1, hc2, hg2⟩
  have HU2 := hid (HU.out.cur' hc2 hg2)
  clear hc2 hg2 HU
  obtain ⟨r, hr⟩ : ∃ r : Int, r = q / 8 := ⟨_, rfl⟩
  have hr2 : q / 8 = r := hr.symm
  have hr3 : 0 ≤ r ∧ r ≤ 1 := by omega
  clear hr
  go_wp2_with fail
  refine (c_pick w.heap.size w.heap.size l.length _ 9 w2 HU2.out.cur (by omega) (by omega) (by omega)).mono ?_
  rintro e w3 ⟨s, rfl, s0, s1, hc3, hg3⟩
  have HU3 := hid (HU2.out.cur' hc3 hg3)
  clear hc3 hg3 HU2
  go_wp2
  go_ret2
  exact ⟨p - r, s, rfl, by omega, by omega, by omega, by omega, below_cur HU3.out.gr⟩

set_option maxHeartbeats 1000000 in
set_option maxRecDepth 100000 in
theorem c_DrawBackWay (a : Option Addr) (l : List Int) (ca : Nat) (w : World) (ha : BSeg w a l) (hl : l.length ≤ 9223372036854775807) :
    Calls Try.prog 33 #[.slice a l.length ca] w fun e w' => ∃ x : Int, e = .returned (.int .i64 x) ∧ -1 ≤ x ∧ x ≤ 8 ∧ Below w.heap.size w w' := by
  have HC := hid (cur_new w a l ca ha hl)
  clear ha
  go_enter Try.func33, Try.ntmps33
  go_wp2_with fail
  refine (c_pick w.heap.size w.heap.size l.length 0 10 (curW w a l.length ca) HC.out (by omega) (by omega) (by omega)).mono ?_
  rintro e w1 ⟨p, rfl, p0, p1, hc1, hg1⟩
  have HU := hid (show CU (curW w a l.length ca) w1 w.heap.size w.heap.size l.length (0 + 1) (.slice none 0 0) [] from ⟨OwnS.nil _ _, hc1, hg1, by simp⟩)
  clear hc1 hg1 HC
  go_wp2
  go_ret
  exact ⟨p - 1, rfl, by omega, by omega, below_cur HU.out.gr⟩
end Go.Proofs.Ytgfdkolhldbehaa

namespace Go.Proofs.Ytgfdkolhldbehaa
set_option linter.unusedVariables false
set_option linter.unusedSimpArgs false

theorem nearB_trn {w : Nat} (hw : w < 8) (c d : Cl) : nearB (trn w c) (trn w d) = nearB c d := by
  have hne : decide (trn w d ≠ trn w c) = decide (d ≠ c) := by
    rw [decide_eq_decide]
    exact ⟨fun h e => h (by rw [e]), fun h e => h (trn_inj hw e)⟩
  unfold nearB
  rw [hne]
  obtain ⟨x, y⟩ := c
  obtain ⟨u, v⟩ := d
  have key : ((decide (-1 ≤ (trn w (u, v)).1 - (trn w (x, y)).1) && decide ((trn w (u, v)).1 - (trn w (x, y)).1 ≤ 1)) && (decide (-1 ≤ (trn w (u, v)).2 - (trn w (x, y)).2) && decide ((trn w (u, v)).2 - (trn w (x, y)).2 ≤ 1))) = ((decide (-1 ≤ u - x) && decide (u - x ≤ 1)) && (decide (-1 ≤ v - y) && decide (v - y ≤ 1))) := by
    rw [Bool.eq_iff_iff]
    simp only [Bool.and_eq_true, decide_eq_true_eq]
    revert hw
    intro hw
    refine way_cases (P := fun w => ((-1 ≤ (trn w (u, v)).1 - (trn w (x, y)).1 ∧ (trn w (u, v)).1 - (trn w (x, y)).1 ≤ 1) ∧ (-1 ≤ (trn w (u, v)).2 - (trn w (x, y)).2 ∧ (trn w (u, v)).2 - (trn w (x, y)).2 ≤ 1)) ↔ ((-1 ≤ u - x ∧ u - x ≤ 1) ∧ (-1 ≤ v - y ∧ v - y ≤ 1))) ?_ ?_ ?_ ?_ ?_ ?_ ?_ ?_ w hw
    all_goals
      simp only [trn_0, trn_1, trn_2, trn_3, trn_4, trn_5, trn_6, trn_7] <;> omega
  exact (Bool.and_assoc _ _ _).trans ((congrArg (fun z => decide ((u, v) ≠ (x, y)) && z) key).trans (Bool.and_assoc _ _ _).symm)
theorem tu_perm {w : Nat} (hw : w < 8) {l : List Cl} (hn : l.Nodup) : List.Perm (tuL w l) (l.map (trn w)) :=
  (List.perm_ext_iff_of_nodup (ris_nodup (tu_ris w l)) (map_nodup hw hn)).2 (fun c => (ord_spec _).2 c)
theorem near_tu {w : Nat} (hw : w < 8) {l : List Cl} (hn : l.Nodup) (c : Cl) : near (tuL w l) (trn w c) = near l c := by
  unfold near
  rw [(tu_perm hw hn).countP_eq, List.countP_map]
  congr 1
  funext d
  exact nearB_trn hw c d
theorem mem_tu {w : Nat} (hw : w < 8) {l : List Cl} {c : Cl} : trn w c ∈ tuL w l ↔ c ∈ l := by
  rw [tu_mem]
  exact ⟨fun ⟨x, hx, e⟩ => by rw [← trn_inj hw e]; exact hx, fun h => ⟨c, h, rfl⟩⟩
theorem nxt_tu {w : Nat} (hw : w < 8) {l : List Cl} (hn : l.Nodup) (c : Cl) : nxtB (tuL w l) (trn w c) = nxtB l c := by
  unfold nxtB kp
  rw [near_tu hw hn]
  congr 2
  rw [decide_eq_decide]
  exact mem_tu hw
/-- The list that a step makes of cells turned is the step's, turned. -/
theorem pick_tu {w : Nat} (hw : w < 8) {l : List Cl} (hn : l.Nodup) {m : List Cl} (hr : risTo m m.length = true) (hm : ∀ c, c ∈ m ↔ nxtB l c = true) : pickL (nxtB (tuL w l)) = tuL w m := by
  refine pickL_eq (tu_ris w m) fun c => ?_
  rw [tu_mem]
  constructor
  · rintro ⟨x, hx, rfl⟩
    rw [nxt_tu hw hn]
    exact (hm x).1 hx
  · intro h
    obtain ⟨h1, h2⟩ := backW_is w hw
    have e : trn w (trn (backW w) c) = c := by
      have hc : thenW (backW w) w = 0 := back_then w hw
      rw [← trn_then _ h1 w hw, hc, trn_0]
    refine ⟨trn (backW w) c, (hm _).2 ?_, e⟩
    rw [← nxt_tu hw hn, e]; exact h
where
  back_then : ∀ w, w < 8 → thenW (backW w) w = 0 := by decide
end Go.Proofs.Ytgfdkolhldbehaa

namespace Go.Proofs.Ytgfdkolhldbehaa
set_option linter.unusedVariables false

theorem turnOk_parts {l : List Cl} {w : Int} (h : turnOk l w = true) : good l = true ∧ ∃ m : Nat, w = (m : Int) ∧ m < 8 ∧ turnL l w = tuL m l := by
  have h0 := h
  simp only [turnOk, Bool.and_eq_true] at h
  obtain ⟨m, rfl, hm⟩ := inW_nat h.2
  refine ⟨h.1, m, rfl, hm, ?_⟩
  simp only [turnL, h0, if_true, Int.toNat_natCast]
theorem turnOk_nat {l : List Cl} {m : Nat} (hg : good l = true) (hm : m < 8) : turnOk l (m : Int) = true ∧ turnL l (m : Int) = tuL m l := by
  have h1 : inW (m : Int) = true := by simp [inW]; omega
  have h2 : turnOk l (m : Int) = true := by simp [turnOk, hg, h1]
  exact ⟨h2, by simp only [turnL, h2, if_true, Int.toNat_natCast]⟩
/-- Cells turned about come to the same, turned about. -/
theorem turned1 {l : List Cl} {w : Int} (h : turnOk l w = true) (hs : stepOk l = true) : turnOk (stepL l) w = true ∧ stepOk (turnL l w) = true ∧ turnL (stepL l) w = stepL (turnL l w) := by
  obtain ⟨hg, m, rfl, hm, e⟩ := turnOk_parts h
  obtain ⟨_, es, gs⟩ := stepOk_parts hs
  obtain ⟨k1, k2⟩ := turnOk_nat gs hm
  have hp := pickL_spec l
  have hpk : pickL (nxtB (tuL m l)) = tuL m (stepL l) := by
    rw [es]; exact pick_tu hm (ris_nodup (good_ris hg)) hp.1 hp.2
  have g1 := tu_good hm hg
  have g2 := tu_good hm gs
  refine ⟨k1, ?_, ?_⟩
  · rw [e]; unfold stepOk; rw [hpk, g1, g2]; rfl
  · rw [k2, e]; unfold stepL tellV; rw [g1, hpk, g2]; rfl
/-- A way and then a way. -/
theorem turned2 {l : List Cl} {w a b : Int} (h : turnOk l w = true) (hab : thenOk a b = true) : turnOk l a = true ∧ turnOk (turnL l a) b = true ∧ turnOk l (thenV a b) = true ∧ turnL (turnL l a) b = turnL l (thenV a b) := by
  obtain ⟨hg, _⟩ := turnOk_parts h
  simp only [thenOk, Bool.and_eq_true] at hab
  obtain ⟨m, rfl, hm⟩ := inW_nat hab.1
  obtain ⟨n, rfl, hn⟩ := inW_nat hab.2
  obtain ⟨k1, k2⟩ := turnOk_nat hg hm
  obtain ⟨k3, k4⟩ := turnOk_nat (tu_good hm hg) hn
  obtain ⟨k5, k6⟩ := turnOk_nat hg (thenW_lt m hm n hn).1
  rw [(then_nat hm hn).2, k2, k6, k4, tu_then hm hn]
  exact ⟨k1, k3, k5, rfl⟩
/-- A way and the way that undoes it. -/
theorem turned3 {l : List Cl} {w d : Int} (h : turnOk l w = true) (hd : inW d = true) : turnOk l d = true ∧ turnOk (turnL l d) (backV d) = true ∧ turnL (turnL l d) (backV d) = l := by
  obtain ⟨hg, _⟩ := turnOk_parts h
  obtain ⟨m, rfl, hm⟩ := inW_nat hd
  obtain ⟨h1, h2⟩ := backW_is m hm
  obtain ⟨k1, k2⟩ := turnOk_nat hg hm
  obtain ⟨k3, k4⟩ := turnOk_nat (tu_good hm hg) h1
  rw [back_nat hm, k2, k4, tu_then hm h1, h2, tu_zero (good_ris hg)]
  exact ⟨k1, k3, rfl⟩
theorem thenV_bd (a b : Int) : 0 ≤ thenV a b ∧ thenV a b < 8 := by
  unfold thenV; split
  · rename_i h
    simp only [thenOk, Bool.and_eq_true] at h
    obtain ⟨m, rfl, hm⟩ := inW_nat h.1
    obtain ⟨n, rfl, hn⟩ := inW_nat h.2
    have := (thenW_lt m hm n hn).1
    simp only [Int.toNat_natCast]
    omega
  · omega
theorem backV_bd (d : Int) : 0 ≤ backV d ∧ backV d < 9 := by
  unfold backV; split
  · rename_i h
    obtain ⟨m, rfl, hm⟩ := inW_nat h
    have := (backW_is m hm).1
    simp only [Int.toNat_natCast]
    omega
  · omega
end Go.Proofs.Ytgfdkolhldbehaa
