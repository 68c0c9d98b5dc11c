/- Texts of this seat, one behind the other: Wd, WdF. -/
import Derived.Test.YtnabgfbempkgnaaKl
namespace Go.Proofs.Ytnabgfbempkgnaa
open Go.RowKit
set_option linter.unusedVariables false
set_option linter.unusedSimpArgs false
attribute [local go_sem ↓] Go.wp_at_zero Go.wp_at_succ

/-- A world's value. -/
def wv (s : Value) (t : Int) : Value := .agg #[s, .int .i64 t]

set_option maxHeartbeats 1000000 in
theorem c_sGoodWorld (a : Option Addr) (l : List Cl) (ca : Nat) (t : Int) (w : World) (ha : Seg w a l) (hl : l.length ≤ 1048576) :
    Calls Try.prog 20 #[.agg #[.slice a l.length ca, .int .i64 t]] w fun e w' => e = .returned (.bool (gw l t)) ∧ Below w.heap.size w w' := by
  have BX := hid (Box2.new w (.slice a l.length ca) (.int .i64 t) 26)
  cases hg : good l
  · have HC := hid (c_sGood' a l ca false hg _ (ha.below BX.out.2.2.2) hl)
    have HV := hid (show gw l t = false by simp [gw, hg])
    clear ha
    go_enter Try.func20, Try.ntmps20
    go_wp2_with fail
    refine HC.out.mono ?_
    rintro e w1 ⟨rfl, hb1⟩
    go_wp2
    go_ret
    exact ⟨ret_bool HV.out.symm, (BX.out.step hb1).2.2.2⟩
  · have HC := hid (c_sGood' a l ca true hg _ (ha.below BX.out.2.2.2) hl)
    have HV := hid (show gw l t = inB 0 1000 t by simp [gw, hg])
    clear ha
    go_enter Try.func20, Try.ntmps20
    go_wp2_with fail
    refine HC.out.mono ?_
    rintro e w1 ⟨rfl, hb1⟩
    have BX1 := hid (BX.out.step hb1)
    have x := BX1.out.2.1
    go_wp2_with fail
    refine (c_l1In' t 0 1000 _ rfl _).mono ?_
    rintro e w2 ⟨rfl, rfl⟩
    go_wp2
    go_ret
    exact ⟨ret_bool HV.out.symm, BX1.out.2.2.2⟩

set_option maxHeartbeats 1000000 in
theorem c_iGoodWorld (a : Option Addr) (l : List Cl) (ca : Nat) (t : Int) (w : World) (ha : Seg w a l) (hl : l.length ≤ 1048576) :
    Calls Try.prog 22 #[.agg #[.slice a l.length ca, .int .i64 t]] w fun e w' => e = .returned (.bool (gw l t)) ∧ Below w.heap.size w w' := by
  have BX := hid (Box2.new w (.slice a l.length ca) (.int .i64 t) 26)
  have HC := hid (c_iGood a l ca _ (ha.below BX.out.2.2.2) hl)
  cases hg : good l
  · have HV := hid (show gw l t = false by simp [gw, hg])
    rw [hg] at HC
    clear ha
    go_enter Try.func22, Try.ntmps22
    go_wp2_with fail
    refine HC.out.mono ?_
    rintro e w1 ⟨rfl, hb1⟩
    go_wp2
    go_ret
    exact ⟨ret_bool HV.out.symm, (BX.out.step hb1).2.2.2⟩
  · rw [hg] at HC
    clear ha
    by_cases h0 : 0 ≤ t
    · by_cases h1 : t ≤ 1000
      · have HV := hid (show gw l t = true by simp [gw, hg, inB, h0, h1])
        go_enter Try.func22, Try.ntmps22
        go_wp2_with fail
        refine HC.out.mono ?_
        rintro e w1 ⟨rfl, hb1⟩
        have BX1 := hid (BX.out.step hb1)
        have x := BX1.out.2.1
        go_wp2
        go_ret
        exact ⟨ret_bool HV.out.symm, BX1.out.2.2.2⟩
      · have HV := hid (show gw l t = decide (t ≤ 1000) by simp [gw, hg, inB, h0])
        go_enter Try.func22, Try.ntmps22
        go_wp2_with fail
        refine HC.out.mono ?_
        rintro e w1 ⟨rfl, hb1⟩
        have BX1 := hid (BX.out.step hb1)
        have x := BX1.out.2.1
        go_wp2
        go_ret
        exact ⟨ret_bool HV.out.symm, BX1.out.2.2.2⟩
    · have HV := hid (show gw l t = false by simp [gw, hg, inB, h0])
      go_enter Try.func22, Try.ntmps22
      go_wp2_with fail
      refine HC.out.mono ?_
      rintro e w1 ⟨rfl, hb1⟩
      have BX1 := hid (BX.out.step hb1)
      have x := BX1.out.2.1
      go_wp2
      go_ret
      exact ⟨ret_bool HV.out.symm, BX1.out.2.2.2⟩

theorem c_sGoodWorld' (a : Option Addr) (l : List Cl) (ca : Nat) (t : Int) (v : Bool) (h : gw l t = v) (w : World) (ha : Seg w a l) (hl : l.length ≤ 1048576) :
    Calls Try.prog 20 #[.agg #[.slice a l.length ca, .int .i64 t]] w fun e w' => e = .returned (.bool v) ∧ Below w.heap.size w w' := by rw [← h]; exact c_sGoodWorld a l ca t w ha hl
theorem c_iGoodWorld' (a : Option Addr) (l : List Cl) (ca : Nat) (t : Int) (v : Bool) (h : gw l t = v) (w : World) (ha : Seg w a l) (hl : l.length ≤ 1048576) :
    Calls Try.prog 22 #[.agg #[.slice a l.length ca, .int .i64 t]] w fun e w' => e = .returned (.bool v) ∧ Below w.heap.size w w' := by rw [← h]; exact c_iGoodWorld a l ca t w ha hl

/-! ### The laws' own -/
set_option maxHeartbeats 400000 in
theorem c_szWorld (a : Option Addr) (n ca : Nat) (t left : Int) (w : World) (h1 : left ≤ 1048576) (h : n ≤ left) :
    Calls Try.prog 19 #[.agg #[.slice a n ca, .int .i64 t], .int .i64 left] w fun e w' => e = .returned (.int .i64 (left - n)) ∧ Below w.heap.size w w' := by
  have h' : ¬ left - (n : Int) < 0 := by omega
  have BX := hid (Box2.new w (.slice a n ca) (.int .i64 t) 36)
  go_enter Try.func19, Try.ntmps19
  go_wp2_with fail
  refine (c_szCellS a n ca left _ h1 h).mono ?_
  rintro e w1 ⟨rfl, rfl⟩
  go_wp2
  go_ret
  exact ⟨rfl, BX.out.2.2.2⟩
set_option maxHeartbeats 400000 in
theorem c_szWorld_no (a : Option Addr) (n ca : Nat) (t left : Int) (w : World) (h0 : 0 ≤ left) (h1 : left ≤ 1048576) (hn : n ≤ 9223372036854775807) (h : left < n) :
    Calls Try.prog 19 #[.agg #[.slice a n ca, .int .i64 t], .int .i64 left] w fun e w' => e = .returned (.int .i64 (-1)) ∧ Below w.heap.size w w' := by
  have BX := hid (Box2.new w (.slice a n ca) (.int .i64 t) 36)
  go_enter Try.func19, Try.ntmps19
  go_wp2_with fail
  refine (c_szCellS_no a n ca left _ h0 h1 hn h).mono ?_
  rintro e w1 ⟨rfl, rfl⟩
  go_wp2
  go_ret
  exact ⟨rfl, BX.out.2.2.2⟩

theorem grown_setW (w : World) (b o : Nat) (u : Value) : w.grownBy (w.setCell ⟨b, o, none⟩ u) (some b) :=
  ⟨rfl, rfl, rfl, by simp, fun k hk hn => Below.heap_setCell w ⟨b, o, none⟩ u k (by dsimp only; simpa using hn)⟩
theorem OwnS.other {w : World} {base b o : Nat} {v : Value} {l : List Cl} (h : OwnS w base v l) (hb : ∀ k, v.ownBlock = some k → k ≠ b) (u : Value) : OwnS (w.setCell ⟨b, o, none⟩ u) base v l :=
  own_keep h (grown_setW w b o u) fun k hk e => hb k hk (by simpa using e.symm)
theorem Row.other {w : World} {g b o : Nat} {l : List Cl} (h : Row w g l) (hb : g ≠ b) (u : Value) : Row (w.setCell ⟨b, o, none⟩ u) g l := World.rowIs.setOther h (a := ⟨b, o, none⟩) hb u
/-- A world's box that may be written. -/
def WRow (w : World) (b : Nat) (s : Value) (t : Int) (T : TypeId) : Prop := w.rowIs b T 2 (fun j => if j = 0 then s else .int .i64 t)
theorem WRow.new (w : World) (s : Value) (t : Int) (T : TypeId) : WRow (w.alloc (.cells #[s, .int .i64 t] T)) w.heap.size s t T := two_row (heap_alloc_new _ _)
theorem WRow.of_block {w w' : World} {b : Nat} {s : Value} {t : Int} {T : TypeId} (h : WRow w b s t T) (e : w'.heap[b]? = w.heap[b]?) : WRow w' b s t T := World.rowIs.of_block h e
theorem WRow.below {w w' : World} {b : Nat} {s : Value} {t : Int} {T : TypeId} (h : WRow w b s t T) (hb : Below w.heap.size w w') : WRow w' b s t T := World.rowIs.of_block h (hb.block _ (World.rowIs.lt h))
theorem WRow.c0 {w : World} {b : Nat} {s : Value} {t : Int} {T : TypeId} (h : WRow w b s t T) : w.cell? ⟨b, 0, none⟩ = some s := by simpa using World.rowIs.cell h (i := 0) (by omega)
theorem WRow.c1 {w : World} {b : Nat} {s : Value} {t : Int} {T : TypeId} (h : WRow w b s t T) : w.cell? ⟨b, 1, none⟩ = some (.int .i64 t) := by simpa using World.rowIs.cell h (i := 1) (by omega)
theorem WRow.fr {w : World} {b : Nat} {s : Value} {t : Int} {T : TypeId} (h : WRow w b s t T) (i : Nat) : w.frozen? ⟨b, i, none⟩ = false := World.rowIs.frozen h i
theorem WRow.put {w : World} {b : Nat} {s : Value} {t : Int} {T : TypeId} (h : WRow w b s t T) (s' : Value) (t' : Int) : WRow ((w.setCell ⟨b, 0, none⟩ s').setCell ⟨b, 1, none⟩ (.int .i64 t')) b s' t' T := by
  refine ((World.rowIs.set (World.rowIs.set h 0 s') 1 (.int .i64 t'))).congr fun i hi => ?_
  rcases (show i = 0 ∨ i = 1 by omega) with rfl | rfl <;> simp
theorem WRow.put0 {w : World} {b : Nat} {s : Value} {t : Int} {T : TypeId} (h : WRow w b s t T) (s' : Value) : WRow (w.setCell ⟨b, 0, none⟩ s') b s' t T := by
  refine (World.rowIs.set h 0 s').congr fun i hi => ?_
  rcases (show i = 0 ∨ i = 1 by omega) with rfl | rfl <;> simp
theorem WRow.put1 {w : World} {b : Nat} {s : Value} {t : Int} {T : TypeId} (h : WRow w b s t T) (t' : Int) : WRow (w.setCell ⟨b, 1, none⟩ (.int .i64 t')) b s t' T := by
  refine (World.rowIs.set h 1 (.int .i64 t')).congr fun i hi => ?_
  rcases (show i = 0 ∨ i = 1 by omega) with rfl | rfl <;> simp
theorem WRow.other {w : World} {b b' o : Nat} {s : Value} {t : Int} {T : TypeId} (h : WRow w b s t T) (hne : b ≠ b') (u : Value) : WRow (w.setCell ⟨b', o, none⟩ u) b s t T := World.rowIs.setOther h (a := ⟨b', o, none⟩) hne u

set_option maxHeartbeats 1000000 in
theorem c_toWorld (a : Option Addr) (l : List Cl) (ca : Nat) (t : Int) (w : World) (ha : Seg w a l) (hl : l.length ≤ 1048576) :
    Calls Try.prog 21 #[.agg #[.slice a l.length ca, .int .i64 t]] w fun e w' => e = .returned (.agg #[.slice (some ⟨w.heap.size + 3, 0, none⟩) l.length l.length, .int .i64 t]) ∧ Row w' (w.heap.size + 3) l ∧ Below w.heap.size w w' := by
  obtain ⟨W1, hW1⟩ : ∃ W1, W1 = w.alloc (.cells #[.slice a l.length ca, .int .i64 t] 36) := ⟨_, rfl⟩
  obtain ⟨W2, hW2⟩ : ∃ W2, W2 = W1.alloc (.cells #[.slice none 0 0, .int .i64 0] 26) := ⟨_, rfl⟩
  obtain ⟨W3, hW3⟩ : ∃ W3, W3 = W2.alloc (.cells #[.slice none 0 0, .int .i64 0] 26) := ⟨_, rfl⟩
  have s1 : W1.heap.size = w.heap.size + 1 := by rw [hW1]; simp
  have s2 : W2.heap.size = w.heap.size + 1 + 1 := by rw [hW2]; simp [s1]
  have s3 : W3.heap.size = w.heap.size + 3 := by rw [hW3]; simp [s2]
  have Ra : WRow W3 w.heap.size (.slice a l.length ca) t 36 := by
    rw [hW3, hW2, hW1]; exact ((World.rowIs.alloc (WRow.new w _ _ _) _).alloc _)
  have R1 : WRow W3 (w.heap.size + 1) (.slice none 0 0) 0 26 := by
    rw [hW3, hW2, ← s1]; exact World.rowIs.alloc (WRow.new W1 _ _ _) _
  have R2 : WRow W3 (w.heap.size + 1 + 1) (.slice none 0 0) 0 26 := by
    rw [hW3, ← s2]; exact WRow.new W2 _ _ _
  have B3 : Below w.heap.size w W3 := by
    rw [hW3, hW2, hW1]
    exact (((Below.refl _ _).alloc (Nat.le_refl _) _).alloc (by simp) _).alloc (by simp; omega) _
  have HC := hid (c_toCellS a l ca _ (ha.below B3) hl)
  have HB := hid B3
  have H0 := hid Ra
  have H1 := hid R1
  have H2 := hid R2
  rw [s3] at HC
  have hW : Hid (W3 = ((w.alloc (.cells #[.slice a l.length ca, .int .i64 t] 36)).alloc (.cells #[.slice none 0 0, .int .i64 0] 26)).alloc (.cells #[.slice none 0 0, .int .i64 0] 26)) := by
    show _ = _
    rw [hW3, hW2, hW1]
  rw [hW.out] at HC HB H0 H1 H2
  clear hW B3 Ra R1 R2 s1 s2 s3 hW1 hW2 hW3 ha
  clear W1 W2 W3
  go_enter Try.func21, Try.ntmps21
  go_wp2_with fail
  refine HC.out.mono ?_
  rintro e w1 ⟨rfl, hR, hb1⟩
  have K0 := hid (H0.out.of_block (hb1.block _ (by omega)))
  have K1 := hid (H1.out.of_block (hb1.block _ (by omega)))
  have K2 := hid (H2.out.of_block (hb1.block _ (by omega)))
  have HR := hid hR
  have BB := hid (HB.out.trans (hb1.mono (by omega)))
  have f2 := K2.out.fr 0
  have c2 := K2.out.c0
  have f3 := K2.out.fr 1
  have c3 := K2.out.c1
  have c1 := K0.out.c1
  have E1 := hid (((K1.out.other (b' := w.heap.size + 1 + 1) (o := 0) (by omega) (.slice (some ⟨w.heap.size + 3, 0, none⟩) l.length l.length)).other (b' := w.heap.size + 1 + 1) (o := 1) (by omega) (.int .i64 t)))
  have f1 := K1.out.fr 0
  have f1' := K1.out.fr 1
  have d0 := K1.out.c0
  have d1 := K1.out.c1
  have P1 := hid (E1.out.put (.slice (some ⟨w.heap.size + 3, 0, none⟩) l.length l.length) t)
  have p0 := hid P1.out.c0
  have p1 := hid P1.out.c1
  clear HC HB H0 H1 H2 hR hb1
  go_wp2
  refine bodyPost_ret (v := .agg #[.slice (some ⟨w.heap.size + 3, 0, none⟩) l.length l.length, .int .i64 t]) (by simp [results, Try.results21, go_sem, p0.out, p1.out]) rfl ⟨rfl, ?_, ?_⟩
  · exact (((HR.out.other (by omega) _).other (by omega) _).other (by omega) _).other (by omega) _
  · exact (((BB.out.setCell (by dsimp only; omega) _).setCell (by dsimp only; omega) _).setCell (by dsimp only; omega) _).setCell (by dsimp only; omega) _

set_option maxHeartbeats 1000000 in
theorem c_eqWorld (a b : Option Addr) (l m : List Cl) (ca cb : Nat) (s t : Int) (w : World) (ha : Seg w a l) (hb : Seg w b m) (hl : l.length ≤ 1048576) (hm : m.length ≤ 1048576) :
    Calls Try.prog 14 #[.agg #[.slice a l.length ca, .int .i64 s], .agg #[.slice b m.length cb, .int .i64 t]] w fun e w' => e = .returned (.bool (decide (l = m) && decide (s = t))) ∧ Below w.heap.size w w' := by
  have R1 := WRow.new w (.slice a l.length ca) s 26
  have R2 := WRow.new (w.alloc (.cells #[.slice a l.length ca, .int .i64 s] 26)) (.slice b m.length cb) t 26
  have B2 := ((Below.refl w.heap.size w).alloc (Nat.le_refl _) (.cells #[.slice a l.length ca, .int .i64 s] 26)).alloc (by simp) (.cells #[.slice b m.length cb, .int .i64 t] 26)
  have R1' := hid (World.rowIs.alloc R1 (.cells #[.slice b m.length cb, .int .i64 t] 26))
  have R2' := hid R2
  have HB := hid B2
  have HC := hid (c_eqCellS a b l m ca cb _ (ha.below B2) (hb.below B2) hl hm)
  clear R1 R2 B2 ha hb
  rw [show (w.alloc (.cells #[.slice a l.length ca, .int .i64 s] 26)).heap.size = w.heap.size + 1 by simp] at R2'
  cases hlm : decide (l = m)
  · rw [hlm] at HC
    clear hlm
    go_enter Try.func14, Try.ntmps14
    go_wp2_with fail
    refine HC.out.mono ?_
    rintro e w1 ⟨rfl, hb1⟩
    go_wp2
    go_ret
    exact ⟨rfl, HB.out.trans (hb1.mono HB.out.size)⟩
  · rw [hlm] at HC
    clear hlm
    cases hst : decide (s = t)
    · have hne : (s != t) = true := by simpa using hst
      go_enter Try.func14, Try.ntmps14
      go_wp2_with fail
      refine HC.out.mono ?_
      rintro e w1 ⟨rfl, hb1⟩
      have x1 := (WRow.below R1'.out hb1).c1
      have x2 := (WRow.below R2'.out hb1).c1
      go_wp2
      go_ret
      exact ⟨rfl, HB.out.trans (hb1.mono HB.out.size)⟩
    · have hne : (s != t) = false := by simpa using hst
      go_enter Try.func14, Try.ntmps14
      go_wp2_with fail
      refine HC.out.mono ?_
      rintro e w1 ⟨rfl, hb1⟩
      have x1 := (WRow.below R1'.out hb1).c1
      have x2 := (WRow.below R2'.out hb1).c1
      go_wp2
      go_ret
      exact ⟨rfl, HB.out.trans (hb1.mono HB.out.size)⟩
theorem c_eqWorld' (u v : Value) (l : List Cl) (t : Int) (w : World) {lo hi lo' hi' : Nat} (h1 : OwnR w lo hi u l) (h2 : OwnR w lo' hi' v l) (hl : l.length ≤ 1048576) :
    Calls Try.prog 14 #[.agg #[u, .int .i64 t], .agg #[v, .int .i64 t]] w fun e w' => e = .returned (.bool true) ∧ Below w.heap.size w w' := by
  obtain ⟨a, ca, rfl, ha⟩ := h1.1.form
  obtain ⟨b, cb, rfl, hb⟩ := h2.1.form
  have := c_eqWorld a b l l ca cb t t w ha hb hl hl
  simpa using this

set_option maxHeartbeats 400000 in
theorem c_markWorld (s : Value) (t : Int) (l : List Cl) (w : World) {lo hi : Nat} (h : OwnR w lo hi s l) (hl : l.length ≤ 1048576) :
    Calls Try.prog 17 #[.agg #[s, .int .i64 t], .int .i64 1] w fun e w' => e = .returned (.int .i64 (1 + 2 * (l.length : Int))) ∧ OwnR w' lo hi s (marks 1 l.length) ∧ Grew w w' lo hi := by
  have hb := (Below.refl w.heap.size w).alloc (Nat.le_refl _) (.cells #[s, .int .i64 t] 26)
  have HR := hid (WRow.new w s t 26)
  have HM := hid (c_markCells' s l _ ((OwnR.kpt _ _ _ _).below h hb) hl)
  have HG := hid (Grew.of_below hb lo hi)
  have HH := hid (h.2.2)
  obtain ⟨a, ca, rfl, _⟩ := h.1.form
  clear h hb
  go_enter Try.func17, Try.ntmps17
  have x0 := HR.out.c0
  go_wp2_with fail
  refine HM.out.mono ?_
  rintro e w1 ⟨rfl, hO, hg⟩
  go_wp2
  go_ret
  exact ⟨rfl, hO, HG.out.trans hg⟩
set_option maxHeartbeats 400000 in
theorem c_heldWorld (s : Value) (t : Int) (n : Nat) (w : World) {lo hi : Nat} (h : OwnR w lo hi s (marks 1 n)) (hn : n ≤ 1048576) :
    Calls Try.prog 18 #[.agg #[s, .int .i64 t], .int .i64 1] w fun e w' => e = .returned (.int .i64 (1 + 2 * (n : Int))) ∧ Below w.heap.size w w' := by
  have hb := (Below.refl w.heap.size w).alloc (Nat.le_refl _) (.cells #[s, .int .i64 t] 26)
  have HR := hid (WRow.new w s t 26)
  have HM := hid (c_heldCells' s n _ ((OwnR.kpt _ _ _ _).below h hb) hn)
  have HB := hid hb
  obtain ⟨a, ca, rfl, _⟩ := h.1.form
  rw [marks_length] at HR HM HB ⊢
  have hnn : ¬ 1 + 2 * (n : Int) < 0 := by omega
  clear h hb
  go_enter Try.func18, Try.ntmps18
  have x0 := HR.out.c0
  go_wp2_with fail
  refine HM.out.mono ?_
  rintro e w1 ⟨rfl, hb1⟩
  go_wp2
  go_ret
  exact ⟨rfl, HB.out.trans (hb1.mono HB.out.size)⟩

end Go.Proofs.Ytnabgfbempkgnaa

namespace Go.Proofs.Ytnabgfbempkgnaa
open Go.RowKit
set_option linter.unusedVariables false
set_option linter.unusedSimpArgs false
attribute [local go_sem ↓] Go.wp_at_zero Go.wp_at_succ

theorem own_none {w : World} {base n cv : Nat} {av : Option Addr} {l : List Cl} (h : OwnS w base (.slice av n cv) l) : av = none → cv = 0 := by
  intro e
  subst e
  rcases h.2 with ⟨e, _⟩ | ⟨g, cap, cur, e, _⟩ <;> simp at e
  exact e.2
theorem nilW (w : World) (b : Nat) (base : Nat) (u v : Value) : OwnS ((w.setCell ⟨b, 0, none⟩ u).setCell ⟨b, 1, none⟩ v) base (.slice none 0 0) [] := OwnS.nil _ _
theorem ownW {w : World} {base b : Nat} {s : Value} {l : List Cl} (h : OwnS w base s l) (hb : b < base) (u v : Value) {base' : Nat} (h' : base' ≤ base) : OwnS ((w.setCell ⟨b, 0, none⟩ u).setCell ⟨b, 1, none⟩ v) base' s l :=
  ((h.other (fun k hk => by have := (h.lt k hk).1; omega) _).other (fun k hk => by have := (h.lt k hk).1; omega) _).mono h'
theorem belW {w W : World} {b : Nat} (h : Below w.heap.size w W) (hb : w.heap.size ≤ b) (u v : Value) : Below w.heap.size w ((W.setCell ⟨b, 0, none⟩ u).setCell ⟨b, 1, none⟩ v) :=
  (h.setCell (p := ⟨b, 0, none⟩) hb _).setCell (p := ⟨b, 1, none⟩) hb _

set_option maxHeartbeats 1000000 in
theorem c_sNewWorld (a : Option Addr) (l : List Cl) (ca : Nat) (w : World) (ha : Seg w a l) (hl : l.length ≤ 1048576) (hca : a = none → ca = 0) :
    Calls Try.prog 11 #[.slice a l.length ca] w fun e w' => ∃ v, e = .returned (.tuple #[.agg #[v, .int .i64 0], .bool (good l)]) ∧ OwnS w' w.heap.size v (tellV l) ∧ Below w.heap.size w w' := by
  have hb0 := (Below.refl w.heap.size w).alloc (Nat.le_refl _) (.cells #[.slice none 0 0, .int .i64 0] 26)
  have R0 := hid (WRow.new w (.slice none 0 0) 0 26)
  have S0 := hid (show (w.alloc (.cells #[.slice none 0 0, .int .i64 0] 26)).heap.size = w.heap.size + 1 by simp)
  have B0 := hid hb0
  have A0 := hid (ha.below hb0)
  clear ha hb0
  cases hg : good l
  · have HC := hid (fun W (h : Seg W a l) => c_sGood' a l ca false hg W h hl)
    have HV := hid (show tellV l = [] by simp [tellV, hg])
    go_enter Try.func11, Try.ntmps11
    go_wp2_with fail
    refine (HC.out _ A0.out).mono ?_
    rintro e w1 ⟨rfl, hb1⟩
    have RB := hid (R0.out.below hb1)
    have B1 := hid (B0.out.trans (hb1.mono B0.out.size))
    clear hb1 R0 A0 HC
    have f0 := RB.out.fr 0
    have f1 := RB.out.fr 1
    have d0 := RB.out.c0
    have d1 := RB.out.c1
    have PP := hid (RB.out.put (.slice none 0 0) (0))
    have p0 := hid PP.out.c0
    have p1 := hid PP.out.c1
    go_wp2
    exact bodyPost_ret (v := .tuple #[.agg #[.slice none 0 0, .int .i64 (0)], .bool false]) (by simp [results, Try.results11, go_sem, p0.out, p1.out]) rfl ⟨_, rfl, by rw [HV.out]; exact nilW _ _ _ _ _, belW B1.out (Nat.le_refl _) _ _⟩
  · have HC := hid (fun W (h : Seg W a l) => c_sGood' a l ca true hg W h hl)
    have HV := hid (show tellV l = l by simp [tellV, hg])
    go_enter Try.func11, Try.ntmps11
    go_wp2_with fail
    refine (HC.out _ A0.out).mono ?_
    rintro e w1 ⟨rfl, hb1⟩
    have RB := hid ((R0.out.below hb1).below ((Below.refl w1.heap.size w1).alloc (Nat.le_refl _) (.cells #[] 44)))
    have HS := hid ((A0.out.below hb1).below ((Below.refl w1.heap.size w1).alloc (Nat.le_refl _) (.cells #[] 44)))
    have HZ := hid (show w.heap.size + 1 ≤ w1.heap.size by have := S0.out; have := hb1.size; omega)
    have HO := hid ((slice_empty_build w1).mono HZ.out)
    have HB := hid ((B0.out.trans (hb1.mono B0.out.size)).alloc (by have := HZ.out; omega) (.cells #[] 44))
    clear HC A0 hb1 R0
    go_wp2_with (at_builtin; refine wpList_app rfl _ _ rfl (w.heap.size + 1) _ [] l a ca rfl HO.out rfl HS.out hca (by simp; omega) (by have := HZ.out; simp; omega) ?_; intro v' w2 hO0 hG; have hO := hO0; simp only [List.nil_append] at hO; obtain ⟨av, cv, rfl, _⟩ := hO.form; clear hO0; have RB2 := hid (WRow.of_block RB.out (hG.block _ (World.rowIs.lt RB.out) (fun e => by have := (HO.out.lt _ e.symm).1; omega))); have f0 := RB2.out.fr 0; have f1 := RB2.out.fr 1; have d0 := RB2.out.c0; have d1 := RB2.out.c1)
    have HO2 := hid hO
    have HB2 := hid (below_grown HB.out (HO.out.mono (by omega)) hG)
    clear RB HO HB hO hG HS
    have f0 := RB2.out.fr 0
    have f1 := RB2.out.fr 1
    have d0 := RB2.out.c0
    have d1 := RB2.out.c1
    have PP := hid (RB2.out.put (.slice av l.length cv) (0))
    have p0 := hid PP.out.c0
    have p1 := hid PP.out.c1
    go_wp2
    exact bodyPost_ret (v := .tuple #[.agg #[.slice av l.length cv, .int .i64 (0)], .bool true]) (by simp [results, Try.results11, go_sem, p0.out, p1.out]) rfl ⟨_, rfl, by rw [HV.out]; exact ownW (by exact HO2.out) (by omega) _ _ (by omega), belW HB2.out (Nat.le_refl _) _ _⟩

set_option maxHeartbeats 2000000 in
theorem c_l6Tell (a : Option Addr) (l : List Cl) (ca : Nat) (t : Int) (w : World) (ha : Seg w a l) (hl : l.length ≤ 1048576) (hca : a = none → ca = 0) :
    Calls Try.prog 40 #[.slice a l.length ca, .int .i64 t] w fun e w' => ∃ v, e = .returned (.tuple #[.agg #[v, .int .i64 (gwT l t)], .bool (gw l t)]) ∧ OwnS w' w.heap.size v (gwL l t) ∧ Below w.heap.size w w' := by
  have hb0 := (Below.refl w.heap.size w).alloc (Nat.le_refl _) (.cells #[.slice none 0 0, .int .i64 0] 26)
  have hb1 := (Below.refl (w.alloc (.cells #[.slice none 0 0, .int .i64 0] 26)).heap.size (w.alloc (.cells #[.slice none 0 0, .int .i64 0] 26))).alloc (Nat.le_refl _) (.cells #[] 44)
  have hb2 := hb0.trans (hb1.mono hb0.size)
  have RB := hid ((WRow.new w (.slice none 0 0) 0 26).below hb1)
  have HO := hid (slice_empty_build (w.alloc (.cells #[.slice none 0 0, .int .i64 0] 26)))
  rw [show (w.alloc (.cells #[.slice none 0 0, .int .i64 0] 26)).heap.size = w.heap.size + 1 by simp] at HO
  have HS := hid (ha.below hb2)
  have HB := hid hb2
  clear ha hb0 hb1 hb2
  cases hg : gw l t
  · have HC := hid (fun (W : World) (aa : Option Addr) (cc : Nat) (h : Seg W aa l) => c_sGoodWorld' aa l cc t false hg W h hl)
    have HV := hid (show gwL l t = [] ∧ gwT l t = 0 by simp [gwL, gwT, hg])
    go_enter Try.func40, Try.ntmps40
    go_wp2_with (at_builtin; refine wpList_app rfl _ _ rfl (w.heap.size + 1) _ [] l a ca rfl HO.out rfl HS.out hca (by simp; omega) (by simp) ?_; intro v' w2 hO0 hG; have hO := hO0; simp only [List.nil_append] at hO; obtain ⟨av, cv, rfl, _⟩ := hO.form; clear hO0)
    have RB2 := hid (WRow.of_block RB.out (hG.block _ (World.rowIs.lt RB.out) (fun e => by have := (HO.out.lt _ e.symm).1; omega)))
    have HB2 := hid (below_grown HB.out (HO.out.mono (by omega)) hG)
    have hba := (Below.refl w2.heap.size w2).alloc (Nat.le_refl _) (.cells #[.slice av l.length cv, .int .i64 t] 26)
    have HO3 := hid (hO.below hba)
    have RB3 := hid (RB2.out.below hba)
    have HB3 := hid (HB2.out.trans (hba.mono HB2.out.size))
    have RW := hid (WRow.new w2 (.slice av l.length cv) t 26)
    clear RB HO HB hO hG HS RB2 HB2 hba
    refine (HC.out _ av cv HO3.out.seg).mono ?_
    rintro e w4 ⟨rfl, hb4⟩
    have RB := hid (RB3.out.below hb4)
    have HO4 := hid (HO3.out.below hb4)
    have RW4 := hid (RW.out.below hb4)
    have HB4 := hid (HB3.out.trans (hb4.mono HB3.out.size))
    clear HO3 RB3 RW HB3 hb4 HC
    have x0 := RW4.out.c0
    have x1 := RW4.out.c1
    have f0 := RB.out.fr 0
    have f1 := RB.out.fr 1
    have d0 := RB.out.c0
    have d1 := RB.out.c1
    have PP := hid (RB.out.put (.slice none 0 0) (0))
    have p0 := hid PP.out.c0
    have p1 := hid PP.out.c1
    go_wp2
    exact bodyPost_ret (v := .tuple #[.agg #[.slice none 0 0, .int .i64 (0)], .bool false]) (by simp [results, Try.results40, go_sem, p0.out, p1.out]) rfl ⟨_, by rw [HV.out.2], by rw [HV.out.1]; exact nilW _ _ _ _ _, belW HB4.out (Nat.le_refl _) _ _⟩
  · have HC := hid (fun (W : World) (aa : Option Addr) (cc : Nat) (h : Seg W aa l) => c_sGoodWorld' aa l cc t true hg W h hl)
    have HV := hid (show gwL l t = l ∧ gwT l t = t by simp [gwL, gwT, hg])
    go_enter Try.func40, Try.ntmps40
    go_wp2_with (at_builtin; refine wpList_app rfl _ _ rfl (w.heap.size + 1) _ [] l a ca rfl HO.out rfl HS.out hca (by simp; omega) (by simp) ?_; intro v' w2 hO0 hG; have hO := hO0; simp only [List.nil_append] at hO; obtain ⟨av, cv, rfl, _⟩ := hO.form; clear hO0)
    have RB2 := hid (WRow.of_block RB.out (hG.block _ (World.rowIs.lt RB.out) (fun e => by have := (HO.out.lt _ e.symm).1; omega)))
    have HB2 := hid (below_grown HB.out (HO.out.mono (by omega)) hG)
    have hba := (Below.refl w2.heap.size w2).alloc (Nat.le_refl _) (.cells #[.slice av l.length cv, .int .i64 t] 26)
    have HO3 := hid (hO.below hba)
    have RB3 := hid (RB2.out.below hba)
    have HB3 := hid (HB2.out.trans (hba.mono HB2.out.size))
    have RW := hid (WRow.new w2 (.slice av l.length cv) t 26)
    clear RB HO HB hO hG HS RB2 HB2 hba
    refine (HC.out _ av cv HO3.out.seg).mono ?_
    rintro e w4 ⟨rfl, hb4⟩
    have RB := hid (RB3.out.below hb4)
    have HO4 := hid (HO3.out.below hb4)
    have RW4 := hid (RW.out.below hb4)
    have HB4 := hid (HB3.out.trans (hb4.mono HB3.out.size))
    clear HO3 RB3 RW HB3 hb4 HC
    have x0 := RW4.out.c0
    have x1 := RW4.out.c1
    have f0 := RB.out.fr 0
    have f1 := RB.out.fr 1
    have d0 := RB.out.c0
    have d1 := RB.out.c1
    have PP := hid (RB.out.put (.slice av l.length cv) (t))
    have p0 := hid PP.out.c0
    have p1 := hid PP.out.c1
    go_wp2
    exact bodyPost_ret (v := .tuple #[.agg #[.slice av l.length cv, .int .i64 (t)], .bool true]) (by simp [results, Try.results40, go_sem, p0.out, p1.out]) rfl ⟨_, by rw [HV.out.2], by rw [HV.out.1]; exact ownW HO4.out (by omega) _ _ (by omega), belW HB4.out (Nat.le_refl _) _ _⟩

set_option maxHeartbeats 2000000 in
theorem c_onlyGoodWorld (a : Option Addr) (l : List Cl) (ca : Nat) (t : Int) (base : Nat) (w : World) (ho : OwnS w base (.slice a l.length ca) l) (hl : l.length ≤ 1048576) (hbs : base ≤ w.heap.size) :
    Calls Try.prog 42 #[.agg #[.slice a l.length ca, .int .i64 t]] w fun e w' => ∃ v, e = .returned (.tuple #[.agg #[v, .int .i64 (gwT l t)], .bool (gw l t)]) ∧ OwnS w' base v (gwL l t) ∧ Below w.heap.size w w' := by
  have ha := ho.seg
  have HO0 := hid ho
  clear ho
  have h1 := (Below.refl w.heap.size w).alloc (Nat.le_refl _) (.cells #[.slice a l.length ca, .int .i64 t] 26)
  have h2 := (Below.refl (w.alloc (.cells #[.slice a l.length ca, .int .i64 t] 26)).heap.size (w.alloc (.cells #[.slice a l.length ca, .int .i64 t] 26))).alloc (Nat.le_refl _) (.cells #[.slice none 0 0, .int .i64 0] 26)
  have h3 := h1.trans (h2.mono h1.size)
  have RP := hid ((WRow.new w (.slice a l.length ca) t 26).below h2)
  have RB := hid (WRow.new (w.alloc (.cells #[.slice a l.length ca, .int .i64 t] 26)) (.slice none 0 0) 0 26)
  rw [show (w.alloc (.cells #[.slice a l.length ca, .int .i64 t] 26)).heap.size = w.heap.size + 1 by simp] at RB
  have HA := hid (ha.below h3)
  have HB := hid h3
  have HZ := hid (show ((w.alloc (.cells #[.slice a l.length ca, .int .i64 t] 26)).alloc (.cells #[.slice none 0 0, .int .i64 0] 26)).heap.size = w.heap.size + 2 by simp)
  clear ha h1 h2 h3
  have HO := hid (HO0.out.below HB.out)
  have HOL := hid (fun k hk => (HO0.out.lt k hk).2)
  clear HO0
  cases hg : gw l t
  · have HV := hid (show gwL l t = [] ∧ gwT l t = 0 ∧ false = false by simp [gwL, gwT, hg])
    have HC := hid (fun (W : World) (h : Seg W a l) => c_iGoodWorld' a l ca t false hg W h hl)
    go_enter Try.func42, Try.ntmps42
    go_wp2_with fail
    refine (HC.out _ HA.out).mono ?_
    rintro e w1 ⟨rfl, b1⟩
    replace RP := hid (RP.out.below b1)
    replace RB := hid (RB.out.below b1)
    replace HA := hid (HA.out.below b1)
    replace HB := hid (HB.out.trans (b1.mono HB.out.size))
    have f0 := RB.out.fr 0
    have f1 := RB.out.fr 1
    have d0 := RB.out.c0
    have d1 := RB.out.c1
    have PP := hid (RB.out.put (.slice none 0 0) (0))
    have p0 := hid PP.out.c0
    have p1 := hid PP.out.c1
    go_wp2
    exact bodyPost_ret (v := .tuple #[.agg #[.slice none 0 0, .int .i64 (0)], .bool false]) (by simp [results, Try.results42, go_sem, p0.out, p1.out]) rfl ⟨_, by rw [HV.out.2.1], by rw [HV.out.1]; exact nilW _ _ _ _ _, belW HB.out (by omega) _ _⟩
  · have HV := hid (show gwL l t = l ∧ gwT l t = t by simp [gwL, gwT, hg])
    have HC := hid (fun (W : World) (h : Seg W a l) => c_iGoodWorld' a l ca t true hg W h hl)
    go_enter Try.func42, Try.ntmps42
    go_wp2_with fail
    refine (HC.out _ HA.out).mono ?_
    rintro e w1 ⟨rfl, b1⟩
    replace RP := hid (RP.out.below b1)
    replace RB := hid (RB.out.below b1)
    replace HA := hid (HA.out.below b1)
    replace HB := hid (HB.out.trans (b1.mono HB.out.size))
    replace HO := hid (HO.out.below b1)
    have x0 := RP.out.c0
    have x1 := RP.out.c1
    have f0 := RB.out.fr 0
    have f1 := RB.out.fr 1
    have d0 := RB.out.c0
    have d1 := RB.out.c1
    have PP := hid (RB.out.put (.slice a l.length ca) (t))
    have p0 := hid PP.out.c0
    have p1 := hid PP.out.c1
    go_wp2
    exact bodyPost_ret (v := .tuple #[.agg #[.slice a l.length ca, .int .i64 (t)], .bool true]) (by simp [results, Try.results42, go_sem, p0.out, p1.out]) rfl ⟨_, by rw [HV.out.2], by rw [HV.out.1]; exact ((HO.out.other (fun k hk => by have := HOL.out k hk; omega) _).other (fun k hk => by have := HOL.out k hk; omega) _), belW HB.out (by omega) _ _⟩

theorem gw_age {l : List Cl} {t : Int} (h : gw l t = true) : 0 ≤ t ∧ t ≤ 1000 := by
  simp only [gw, Bool.and_eq_true] at h; exact inB_bd h.2
theorem times_bd {l : List Cl} {s : Int} (h : timesOk l s = true) : 0 ≤ s ∧ s ≤ 20 := by
  simp only [timesOk, Bool.and_eq_true] at h; exact inT_bd h.1.2
theorem times_none {l : List Cl} {s : Int} (h : timesOk l s = false) (hg : good l = true) : True := trivial

set_option maxHeartbeats 4000000 in
theorem c_sAdvance (a : Option Addr) (l : List Cl) (ca : Nat) (t s : Int) (w : World) (ha : Seg w a l) (hl : l.length ≤ 1048576) (hca : a = none → ca = 0) :
    Calls Try.prog 23 #[.agg #[.slice a l.length ca, .int .i64 t], .int .i64 s] w fun e w' => ∃ v, e = .returned (.tuple #[.agg #[v, .int .i64 (advT l t s)], .bool (advOk l t s)]) ∧ OwnS w' w.heap.size v (advL l t s) ∧ Below w.heap.size w w' := by
  have h1 := (Below.refl w.heap.size w).alloc (Nat.le_refl _) (.cells #[.slice a l.length ca, .int .i64 t] 26)
  have h2 := (Below.refl (w.alloc (.cells #[.slice a l.length ca, .int .i64 t] 26)).heap.size (w.alloc (.cells #[.slice a l.length ca, .int .i64 t] 26))).alloc (Nat.le_refl _) (.cells #[.slice none 0 0, .int .i64 0] 26)
  have h3 := h1.trans (h2.mono h1.size)
  have RP := hid ((WRow.new w (.slice a l.length ca) t 26).below h2)
  have RB := hid (WRow.new (w.alloc (.cells #[.slice a l.length ca, .int .i64 t] 26)) (.slice none 0 0) 0 26)
  rw [show (w.alloc (.cells #[.slice a l.length ca, .int .i64 t] 26)).heap.size = w.heap.size + 1 by simp] at RB
  have HA := hid (ha.below h3)
  have HB := hid h3
  have HZ := hid (show ((w.alloc (.cells #[.slice a l.length ca, .int .i64 t] 26)).alloc (.cells #[.slice none 0 0, .int .i64 0] 26)).heap.size = w.heap.size + 2 by simp)
  clear ha h1 h2 h3
  cases hg : gw l t
  · have HV := hid (show advL l t s = [] ∧ advT l t s = 0 ∧ advOk l t s = false by simp [advL, advT, advOk, hg])
    have HC := hid (fun (W : World) (h : Seg W a l) => c_sGoodWorld' a l ca t false hg W h hl)
    go_enter Try.func23, Try.ntmps23
    go_wp2_with fail
    refine (HC.out _ HA.out).mono ?_
    rintro e w1 ⟨rfl, b1⟩
    replace RP := hid (RP.out.below b1)
    replace RB := hid (RB.out.below b1)
    replace HA := hid (HA.out.below b1)
    replace HB := hid (HB.out.trans (b1.mono HB.out.size))
    have f0 := RB.out.fr 0
    have f1 := RB.out.fr 1
    have d0 := RB.out.c0
    have d1 := RB.out.c1
    have PP := hid (RB.out.put (.slice none 0 0) (0))
    have p0 := hid PP.out.c0
    have p1 := hid PP.out.c1
    go_wp2
    exact bodyPost_ret (v := .tuple #[.agg #[.slice none 0 0, .int .i64 (0)], .bool false]) (by simp [results, Try.results23, go_sem, p0.out, p1.out]) rfl ⟨_, by rw [HV.out.2.2, HV.out.2.1], by rw [HV.out.1]; exact nilW _ _ _ _ _, belW HB.out (by omega) _ _⟩
  · have HC := hid (fun (W : World) (h : Seg W a l) => c_sGoodWorld' a l ca t true hg W h hl)
    cases ht : timesOk l s
    · have HV := hid (show advL l t s = [] ∧ advT l t s = 0 ∧ advOk l t s = false by simp [advL, advT, advOk, hg, ht])
      go_enter Try.func23, Try.ntmps23
      go_wp2_with fail
      refine (HC.out _ HA.out).mono ?_
      rintro e w1 ⟨rfl, b1⟩
      replace RP := hid (RP.out.below b1)
      replace RB := hid (RB.out.below b1)
      replace HA := hid (HA.out.below b1)
      replace HB := hid (HB.out.trans (b1.mono HB.out.size))
      have x0 := RP.out.c0
      go_wp2_with fail
      refine (c_sStepTimes a l ca s _ HA.out hca hl).mono ?_
      rintro e w2 ⟨v2, rfl, o2, b2⟩
      replace RP := hid (RP.out.below b2)
      replace RB := hid (RB.out.below b2)
      replace HA := hid (HA.out.below b2)
      replace HB := hid (HB.out.trans (b2.mono HB.out.size))
      rw [ht]
      obtain ⟨a2, c2, rfl, _⟩ := o2.form
      have f0 := RB.out.fr 0
      have f1 := RB.out.fr 1
      have d0 := RB.out.c0
      have d1 := RB.out.c1
      have PP := hid (RB.out.put (.slice none 0 0) (0))
      have p0 := hid PP.out.c0
      have p1 := hid PP.out.c1
      go_wp2
      exact bodyPost_ret (v := .tuple #[.agg #[.slice none 0 0, .int .i64 (0)], .bool false]) (by simp [results, Try.results23, go_sem, p0.out, p1.out]) rfl ⟨_, by rw [HV.out.2.2, HV.out.2.1], by rw [HV.out.1]; exact nilW _ _ _ _ _, belW HB.out (by omega) _ _⟩
    · have htt := gw_age hg
      have hss := times_bd ht
      have HR := hid (show gw (timesL l s) (t + s) = advOk l t s by simp [advOk, hg, ht])
      have HRL := hid (show gwL (timesL l s) (t + s) = advL l t s by simp [gwL, advL, HR.out])
      have HRT := hid (show gwT (timesL l s) (t + s) = advT l t s by simp [gwT, advT, HR.out])
      go_enter Try.func23, Try.ntmps23
      go_wp2_with fail
      refine (HC.out _ HA.out).mono ?_
      rintro e w1 ⟨rfl, b1⟩
      replace RP := hid (RP.out.below b1)
      replace RB := hid (RB.out.below b1)
      replace HA := hid (HA.out.below b1)
      replace HB := hid (HB.out.trans (b1.mono HB.out.size))
      have x0 := RP.out.c0
      have Z1 := hid b1.size
      go_wp2_with fail
      refine (c_sStepTimes a l ca s _ HA.out hca hl).mono ?_
      rintro e w2 ⟨v2, rfl, o2, b2⟩
      replace RP := hid (RP.out.below b2)
      replace RB := hid (RB.out.below b2)
      replace HA := hid (HA.out.below b2)
      replace HB := hid (HB.out.trans (b2.mono HB.out.size))
      rw [ht]
      obtain ⟨a2, c2, rfl, _⟩ := o2.form
      have O2 := hid o2
      have Z2 := hid b2.size
      have x1 := RP.out.c1
      have HL2 := hid (timesL_le l s)
      clear o2 b1 b2 hg ht
      go_wp2_with fail
      refine (c_l6Tell a2 (timesL l s) c2 (t + s) _ O2.out.seg (by have := HL2.out; omega) (own_none O2.out)).mono ?_
      rintro e w3 ⟨v3, rfl, o3, b3⟩
      rw [HRL.out] at o3
      rw [HRT.out, HR.out]
      obtain ⟨a3, c3, rfl, _⟩ := o3.form
      replace RB := hid (RB.out.below b3)
      replace HB := hid (HB.out.trans (b3.mono HB.out.size))
      have O3 := hid o3
      have Z3 := hid (show w.heap.size + 2 ≤ w2.heap.size by have := HZ.out; have := Z1.out; have := Z2.out; omega)
      clear o3 b3
      have f0 := RB.out.fr 0
      have f1 := RB.out.fr 1
      have d0 := RB.out.c0
      have d1 := RB.out.c1
      have PP := hid (RB.out.put (.slice a3 (advL l t s).length c3) (advT l t s))
      have p0 := hid PP.out.c0
      have p1 := hid PP.out.c1
      go_wp2
      exact bodyPost_ret (v := .tuple #[.agg #[.slice a3 (advL l t s).length c3, .int .i64 (advT l t s)], .bool (advOk l t s)]) (by simp [results, Try.results23, go_sem, p0.out, p1.out]) rfl ⟨_, rfl, ownW O3.out (by have := Z3.out; omega) _ _ (by have := Z3.out; omega), belW HB.out (by omega) _ _⟩

set_option maxHeartbeats 4000000 in
theorem c_iAdvance (a : Option Addr) (l : List Cl) (ca : Nat) (t s : Int) (w : World) (ha : Seg w a l) (hl : l.length ≤ 1048576) (hca : a = none → ca = 0) :
    Calls Try.prog 24 #[.agg #[.slice a l.length ca, .int .i64 t], .int .i64 s] w fun e w' => ∃ v, e = .returned (.tuple #[.agg #[v, .int .i64 (advT l t s)], .bool (advOk l t s)]) ∧ OwnS w' w.heap.size v (advL l t s) ∧ Below w.heap.size w w' := by
  have h1 := (Below.refl w.heap.size w).alloc (Nat.le_refl _) (.cells #[.slice a l.length ca, .int .i64 t] 26)
  have h2 := (Below.refl (w.alloc (.cells #[.slice a l.length ca, .int .i64 t] 26)).heap.size (w.alloc (.cells #[.slice a l.length ca, .int .i64 t] 26))).alloc (Nat.le_refl _) (.cells #[.slice none 0 0, .int .i64 0] 26)
  have h3 := h1.trans (h2.mono h1.size)
  have RP := hid ((WRow.new w (.slice a l.length ca) t 26).below h2)
  have RB := hid (WRow.new (w.alloc (.cells #[.slice a l.length ca, .int .i64 t] 26)) (.slice none 0 0) 0 26)
  rw [show (w.alloc (.cells #[.slice a l.length ca, .int .i64 t] 26)).heap.size = w.heap.size + 1 by simp] at RB
  have HA := hid (ha.below h3)
  have HB := hid h3
  have HZ := hid (show ((w.alloc (.cells #[.slice a l.length ca, .int .i64 t] 26)).alloc (.cells #[.slice none 0 0, .int .i64 0] 26)).heap.size = w.heap.size + 2 by simp)
  clear ha h1 h2 h3
  cases ht : timesOk l s
  · have HV := hid (show advL l t s = [] ∧ advT l t s = 0 ∧ advOk l t s = false by simp [advL, advT, advOk, ht])
    go_enter Try.func24, Try.ntmps24
    have x0 := RP.out.c0
    go_wp2_with fail
    refine (c_iStepTimes a l ca s _ HA.out hca hl).mono ?_
    rintro e w1 ⟨v1, rfl, o1, b1⟩
    replace RP := hid (RP.out.below b1)
    replace RB := hid (RB.out.below b1)
    replace HA := hid (HA.out.below b1)
    replace HB := hid (HB.out.trans (b1.mono HB.out.size))
    rw [ht]
    obtain ⟨a1, c1, rfl, _⟩ := o1.form
    have f0 := RB.out.fr 0
    have f1 := RB.out.fr 1
    have d0 := RB.out.c0
    have d1 := RB.out.c1
    have PP := hid (RB.out.put (.slice none 0 0) (0))
    have p0 := hid PP.out.c0
    have p1 := hid PP.out.c1
    go_wp2
    exact bodyPost_ret (v := .tuple #[.agg #[.slice none 0 0, .int .i64 (0)], .bool false]) (by simp [results, Try.results24, go_sem, p0.out, p1.out]) rfl ⟨_, by rw [HV.out.2.2, HV.out.2.1], by rw [HV.out.1]; exact nilW _ _ _ _ _, belW HB.out (by omega) _ _⟩
  · cases hg : gw l t
    · have HV := hid (show advL l t s = [] ∧ advT l t s = 0 ∧ advOk l t s = false by simp [advL, advT, advOk, hg, ht])
      have HC := hid (fun (W : World) (h : Seg W a l) => c_iGoodWorld' a l ca t false hg W h hl)
      go_enter Try.func24, Try.ntmps24
      have x0 := RP.out.c0
      go_wp2_with fail
      refine (c_iStepTimes a l ca s _ HA.out hca hl).mono ?_
      rintro e w1 ⟨v1, rfl, o1, b1⟩
      replace RP := hid (RP.out.below b1)
      replace RB := hid (RB.out.below b1)
      replace HA := hid (HA.out.below b1)
      replace HB := hid (HB.out.trans (b1.mono HB.out.size))
      rw [ht]
      obtain ⟨a1, c1, rfl, _⟩ := o1.form
      clear x0
      have x0 := RP.out.c0
      have x1 := RP.out.c1
      go_wp2_with fail
      refine (HC.out _ HA.out).mono ?_
      rintro e w2 ⟨rfl, b2⟩
      replace RP := hid (RP.out.below b2)
      replace RB := hid (RB.out.below b2)
      replace HA := hid (HA.out.below b2)
      replace HB := hid (HB.out.trans (b2.mono HB.out.size))
      have f0 := RB.out.fr 0
      have f1 := RB.out.fr 1
      have d0 := RB.out.c0
      have d1 := RB.out.c1
      have PP := hid (RB.out.put (.slice none 0 0) (0))
      have p0 := hid PP.out.c0
      have p1 := hid PP.out.c1
      go_wp2
      exact bodyPost_ret (v := .tuple #[.agg #[.slice none 0 0, .int .i64 (0)], .bool false]) (by simp [results, Try.results24, go_sem, p0.out, p1.out]) rfl ⟨_, by rw [HV.out.2.2, HV.out.2.1], by rw [HV.out.1]; exact nilW _ _ _ _ _, belW HB.out (by omega) _ _⟩
    · have htt := gw_age hg
      have hss := times_bd ht
      have HR := hid (show gw (timesL l s) (t + s) = advOk l t s by simp [advOk, hg, ht])
      have HRL := hid (show gwL (timesL l s) (t + s) = advL l t s by simp [gwL, advL, HR.out])
      have HRT := hid (show gwT (timesL l s) (t + s) = advT l t s by simp [gwT, advT, HR.out])
      have HC := hid (fun (W : World) (h : Seg W a l) => c_iGoodWorld' a l ca t true hg W h hl)
      go_enter Try.func24, Try.ntmps24
      have x0 := RP.out.c0
      go_wp2_with fail
      refine (c_iStepTimes a l ca s _ HA.out hca hl).mono ?_
      rintro e w1 ⟨v1, rfl, o1, b1⟩
      replace RP := hid (RP.out.below b1)
      replace RB := hid (RB.out.below b1)
      replace HA := hid (HA.out.below b1)
      replace HB := hid (HB.out.trans (b1.mono HB.out.size))
      rw [ht]
      obtain ⟨a1, c1, rfl, _⟩ := o1.form
      clear x0
      have O1 := hid o1
      have Z1 := hid b1.size
      clear o1 b1
      have x0 := RP.out.c0
      have x1 := RP.out.c1
      go_wp2_with fail
      refine (HC.out _ HA.out).mono ?_
      rintro e w2 ⟨rfl, b2⟩
      replace RP := hid (RP.out.below b2)
      replace RB := hid (RB.out.below b2)
      replace HA := hid (HA.out.below b2)
      replace HB := hid (HB.out.trans (b2.mono HB.out.size))
      replace O1 := hid (O1.out.below b2)
      have Z2 := hid b2.size
      clear x0 x1 b2
      have x1 := RP.out.c1
      have HL2 := hid (timesL_le l s)
      clear hg ht HC
      go_wp2_with fail
      refine (c_onlyGoodWorld a1 (timesL l s) c1 (t + s) _ _ O1.out (by have := HL2.out; omega) (by have := Z1.out; have := Z2.out; omega)).mono ?_
      rintro e w3 ⟨v3, rfl, o3, b3⟩
      rw [HRL.out] at o3
      rw [HRT.out, HR.out]
      obtain ⟨a3, c3, rfl, _⟩ := o3.form
      replace RB := hid (RB.out.below b3)
      replace HB := hid (HB.out.trans (b3.mono HB.out.size))
      have O3 := hid o3
      have Z3 := hid (show w.heap.size + 2 ≤ ((w.alloc (.cells #[.slice a l.length ca, .int .i64 t] 26)).alloc (.cells #[.slice none 0 0, .int .i64 0] 26)).heap.size by have := HZ.out; omega)
      clear o3 b3
      have f0 := RB.out.fr 0
      have f1 := RB.out.fr 1
      have d0 := RB.out.c0
      have d1 := RB.out.c1
      have PP := hid (RB.out.put (.slice a3 (advL l t s).length c3) (advT l t s))
      have p0 := hid PP.out.c0
      have p1 := hid PP.out.c1
      go_wp2
      exact bodyPost_ret (v := .tuple #[.agg #[.slice a3 (advL l t s).length c3, .int .i64 (advT l t s)], .bool (advOk l t s)]) (by simp [results, Try.results24, go_sem, p0.out, p1.out]) rfl ⟨_, rfl, ownW O3.out (by have := Z3.out; omega) _ _ (by have := Z3.out; omega), belW HB.out (by omega) _ _⟩

set_option maxHeartbeats 1000000 in
theorem c_iNewWorld (a : Option Addr) (l : List Cl) (ca : Nat) (w : World) (ha : Seg w a l) (hl : l.length ≤ 1048576) (hca : a = none → ca = 0) :
    Calls Try.prog 13 #[.slice a l.length ca] w fun e w' => ∃ v, e = .returned (.tuple #[.agg #[v, .int .i64 0], .bool (good l)]) ∧ OwnS w' w.heap.size v (tellV l) ∧ Below w.heap.size w w' := by
  have hb0 := (Below.refl w.heap.size w).alloc (Nat.le_refl _) (.cells #[.slice none 0 0, .int .i64 0] 26)
  have RB := hid (WRow.new w (.slice none 0 0) 0 26)
  have HZ := hid (show (w.alloc (.cells #[.slice none 0 0, .int .i64 0] 26)).heap.size = w.heap.size + 1 by simp)
  have HB := hid hb0
  have HC := hid (c_iAdvance a l ca 0 0 _ (ha.below hb0) hl hca)
  rw [(adv_zero l).1, (adv_zero l).2.1, (adv_zero l).2.2] at HC
  clear ha hb0
  go_enter Try.func13, Try.ntmps13
  go_wp2_with fail
  refine HC.out.mono ?_
  rintro e w1 ⟨v1, rfl, o1, b1⟩
  obtain ⟨a1, c1, rfl, _⟩ := o1.form
  replace RB := hid (RB.out.below b1)
  replace HB := hid (HB.out.trans (b1.mono HB.out.size))
  have O1 := hid o1
  clear o1 b1 HC
  have f0 := RB.out.fr 0
  have f1 := RB.out.fr 1
  have d0 := RB.out.c0
  have d1 := RB.out.c1
  have PP := hid (RB.out.put (.slice a1 (tellV l).length c1) (0))
  have p0 := hid PP.out.c0
  have p1 := hid PP.out.c1
  go_wp2
  exact bodyPost_ret (v := .tuple #[.agg #[.slice a1 (tellV l).length c1, .int .i64 (0)], .bool (good l)]) (by simp [results, Try.results13, go_sem, p0.out, p1.out]) rfl ⟨_, rfl, ownW O1.out (by have := HZ.out; omega) _ _ (by have := HZ.out; omega), belW HB.out (by omega) _ _⟩

set_option maxHeartbeats 4000000 in
theorem c_sMoveWorld (a : Option Addr) (l : List Cl) (ca : Nat) (t x y : Int) (w : World) (ha : Seg w a l) (hl : l.length ≤ 1048576) :
    Calls Try.prog 32 #[.agg #[.slice a l.length ca, .int .i64 t], .int .i64 x, .int .i64 y] w fun e w' => ∃ v, e = .returned (.tuple #[.agg #[v, .int .i64 (mwT l t x y)], .bool (mwOk l t x y)]) ∧ OwnS w' w.heap.size v (mwL l t x y) ∧ Below w.heap.size w w' := by
  have h1 := (Below.refl w.heap.size w).alloc (Nat.le_refl _) (.cells #[.slice a l.length ca, .int .i64 t] 26)
  have h2 := (Below.refl (w.alloc (.cells #[.slice a l.length ca, .int .i64 t] 26)).heap.size (w.alloc (.cells #[.slice a l.length ca, .int .i64 t] 26))).alloc (Nat.le_refl _) (.cells #[.slice none 0 0, .int .i64 0] 26)
  have h3 := h1.trans (h2.mono h1.size)
  have RP := hid ((WRow.new w (.slice a l.length ca) t 26).below h2)
  have RB := hid (WRow.new (w.alloc (.cells #[.slice a l.length ca, .int .i64 t] 26)) (.slice none 0 0) 0 26)
  rw [show (w.alloc (.cells #[.slice a l.length ca, .int .i64 t] 26)).heap.size = w.heap.size + 1 by simp] at RB
  have HA := hid (ha.below h3)
  have HB := hid h3
  have HZ := hid (show ((w.alloc (.cells #[.slice a l.length ca, .int .i64 t] 26)).alloc (.cells #[.slice none 0 0, .int .i64 0] 26)).heap.size = w.heap.size + 2 by simp)
  clear ha h1 h2 h3
  cases hg : gw l t
  · have HV := hid (show mwL l t x y = [] ∧ mwT l t x y = 0 ∧ mwOk l t x y = false by simp [mwL, mwT, mwOk, hg])
    have HC := hid (fun (W : World) (h : Seg W a l) => c_sGoodWorld' a l ca t false hg W h hl)
    go_enter Try.func32, Try.ntmps32
    go_wp2_with fail
    refine (HC.out _ HA.out).mono ?_
    rintro e w1 ⟨rfl, b1⟩
    replace RP := hid (RP.out.below b1)
    replace RB := hid (RB.out.below b1)
    replace HA := hid (HA.out.below b1)
    replace HB := hid (HB.out.trans (b1.mono HB.out.size))
    have f0 := RB.out.fr 0
    have f1 := RB.out.fr 1
    have d0 := RB.out.c0
    have d1 := RB.out.c1
    have PP := hid (RB.out.put (.slice none 0 0) (0))
    have p0 := hid PP.out.c0
    have p1 := hid PP.out.c1
    go_wp2
    exact bodyPost_ret (v := .tuple #[.agg #[.slice none 0 0, .int .i64 (0)], .bool false]) (by simp [results, Try.results32, go_sem, p0.out, p1.out]) rfl ⟨_, by rw [HV.out.2.2, HV.out.2.1], by rw [HV.out.1]; exact nilW _ _ _ _ _, belW HB.out (by omega) _ _⟩
  · have HC := hid (fun (W : World) (h : Seg W a l) => c_sGoodWorld' a l ca t true hg W h hl)
    cases ht : moveOk l x y
    · have HV := hid (show mwL l t x y = [] ∧ mwT l t x y = 0 ∧ mwOk l t x y = false by simp [mwL, mwT, mwOk, hg, ht])
      go_enter Try.func32, Try.ntmps32
      go_wp2_with fail
      refine (HC.out _ HA.out).mono ?_
      rintro e w1 ⟨rfl, b1⟩
      replace RP := hid (RP.out.below b1)
      replace RB := hid (RB.out.below b1)
      replace HA := hid (HA.out.below b1)
      replace HB := hid (HB.out.trans (b1.mono HB.out.size))
      have x0 := RP.out.c0
      go_wp2_with fail
      refine (c_sMoveCells a l ca x y _ HA.out hl).mono ?_
      rintro e w2 ⟨v2, rfl, o2, b2⟩
      replace RP := hid (RP.out.below b2)
      replace RB := hid (RB.out.below b2)
      replace HA := hid (HA.out.below b2)
      replace HB := hid (HB.out.trans (b2.mono HB.out.size))
      rw [ht]
      obtain ⟨a2, c2, rfl, _⟩ := o2.form
      have f0 := RB.out.fr 0
      have f1 := RB.out.fr 1
      have d0 := RB.out.c0
      have d1 := RB.out.c1
      have PP := hid (RB.out.put (.slice none 0 0) (0))
      have p0 := hid PP.out.c0
      have p1 := hid PP.out.c1
      go_wp2
      exact bodyPost_ret (v := .tuple #[.agg #[.slice none 0 0, .int .i64 (0)], .bool false]) (by simp [results, Try.results32, go_sem, p0.out, p1.out]) rfl ⟨_, by rw [HV.out.2.2, HV.out.2.1], by rw [HV.out.1]; exact nilW _ _ _ _ _, belW HB.out (by omega) _ _⟩
    · have HR := hid (show gw (moveL l x y) t = mwOk l t x y by simp only [mwOk, hg, ht, Bool.and_self]; simp only [gw, Bool.and_eq_true] at hg ⊢; exact ⟨moveL_good ht, hg.2⟩)
      have HRL := hid (show gwL (moveL l x y) t = mwL l t x y by simp [gwL, mwL, HR.out])
      have HRT := hid (show gwT (moveL l x y) t = mwT l t x y by simp [gwT, mwT, HR.out])
      go_enter Try.func32, Try.ntmps32
      go_wp2_with fail
      refine (HC.out _ HA.out).mono ?_
      rintro e w1 ⟨rfl, b1⟩
      replace RP := hid (RP.out.below b1)
      replace RB := hid (RB.out.below b1)
      replace HA := hid (HA.out.below b1)
      replace HB := hid (HB.out.trans (b1.mono HB.out.size))
      have x0 := RP.out.c0
      have Z1 := hid b1.size
      go_wp2_with fail
      refine (c_sMoveCells a l ca x y _ HA.out hl).mono ?_
      rintro e w2 ⟨v2, rfl, o2, b2⟩
      replace RP := hid (RP.out.below b2)
      replace RB := hid (RB.out.below b2)
      replace HA := hid (HA.out.below b2)
      replace HB := hid (HB.out.trans (b2.mono HB.out.size))
      rw [ht]
      obtain ⟨a2, c2, rfl, _⟩ := o2.form
      have O2 := hid o2
      have Z2 := hid b2.size
      have x1 := RP.out.c1
      have HL2 := hid (moveL_le l x y)
      clear o2 b1 b2 hg ht
      go_wp2_with fail
      refine (c_l6Tell a2 (moveL l x y) c2 t _ O2.out.seg (by have := HL2.out; omega) (own_none O2.out)).mono ?_
      rintro e w3 ⟨v3, rfl, o3, b3⟩
      rw [HRL.out] at o3
      rw [HRT.out, HR.out]
      obtain ⟨a3, c3, rfl, _⟩ := o3.form
      replace RB := hid (RB.out.below b3)
      replace HB := hid (HB.out.trans (b3.mono HB.out.size))
      have O3 := hid o3
      have Z3 := hid (show w.heap.size + 2 ≤ w2.heap.size by have := HZ.out; have := Z1.out; have := Z2.out; omega)
      clear o3 b3
      have f0 := RB.out.fr 0
      have f1 := RB.out.fr 1
      have d0 := RB.out.c0
      have d1 := RB.out.c1
      have PP := hid (RB.out.put (.slice a3 (mwL l t x y).length c3) (mwT l t x y))
      have p0 := hid PP.out.c0
      have p1 := hid PP.out.c1
      go_wp2
      exact bodyPost_ret (v := .tuple #[.agg #[.slice a3 (mwL l t x y).length c3, .int .i64 (mwT l t x y)], .bool (mwOk l t x y)]) (by simp [results, Try.results32, go_sem, p0.out, p1.out]) rfl ⟨_, rfl, ownW O3.out (by have := Z3.out; omega) _ _ (by have := Z3.out; omega), belW HB.out (by omega) _ _⟩

set_option maxHeartbeats 4000000 in
theorem c_iMoveWorld (a : Option Addr) (l : List Cl) (ca : Nat) (t x y : Int) (w : World) (ha : Seg w a l) (hl : l.length ≤ 1048576) :
    Calls Try.prog 33 #[.agg #[.slice a l.length ca, .int .i64 t], .int .i64 x, .int .i64 y] w fun e w' => ∃ v, e = .returned (.tuple #[.agg #[v, .int .i64 (mwT l t x y)], .bool (mwOk l t x y)]) ∧ OwnS w' w.heap.size v (mwL l t x y) ∧ Below w.heap.size w w' := by
  have h1 := (Below.refl w.heap.size w).alloc (Nat.le_refl _) (.cells #[.slice a l.length ca, .int .i64 t] 26)
  have h2 := (Below.refl (w.alloc (.cells #[.slice a l.length ca, .int .i64 t] 26)).heap.size (w.alloc (.cells #[.slice a l.length ca, .int .i64 t] 26))).alloc (Nat.le_refl _) (.cells #[.slice none 0 0, .int .i64 0] 26)
  have h3 := h1.trans (h2.mono h1.size)
  have RP := hid ((WRow.new w (.slice a l.length ca) t 26).below h2)
  have RB := hid (WRow.new (w.alloc (.cells #[.slice a l.length ca, .int .i64 t] 26)) (.slice none 0 0) 0 26)
  rw [show (w.alloc (.cells #[.slice a l.length ca, .int .i64 t] 26)).heap.size = w.heap.size + 1 by simp] at RB
  have HA := hid (ha.below h3)
  have HB := hid h3
  have HZ := hid (show ((w.alloc (.cells #[.slice a l.length ca, .int .i64 t] 26)).alloc (.cells #[.slice none 0 0, .int .i64 0] 26)).heap.size = w.heap.size + 2 by simp)
  clear ha h1 h2 h3
  cases ht : moveOk l x y
  · have HV := hid (show mwL l t x y = [] ∧ mwT l t x y = 0 ∧ mwOk l t x y = false by simp [mwL, mwT, mwOk, ht])
    go_enter Try.func33, Try.ntmps33
    have x0 := RP.out.c0
    go_wp2_with fail
    refine (c_iMoveCells a l ca x y _ HA.out hl).mono ?_
    rintro e w1 ⟨v1, rfl, o1, b1⟩
    replace RP := hid (RP.out.below b1)
    replace RB := hid (RB.out.below b1)
    replace HA := hid (HA.out.below b1)
    replace HB := hid (HB.out.trans (b1.mono HB.out.size))
    rw [ht]
    obtain ⟨a1, c1, rfl, _⟩ := o1.form
    have f0 := RB.out.fr 0
    have f1 := RB.out.fr 1
    have d0 := RB.out.c0
    have d1 := RB.out.c1
    have PP := hid (RB.out.put (.slice none 0 0) (0))
    have p0 := hid PP.out.c0
    have p1 := hid PP.out.c1
    go_wp2
    exact bodyPost_ret (v := .tuple #[.agg #[.slice none 0 0, .int .i64 (0)], .bool false]) (by simp [results, Try.results33, go_sem, p0.out, p1.out]) rfl ⟨_, by rw [HV.out.2.2, HV.out.2.1], by rw [HV.out.1]; exact nilW _ _ _ _ _, belW HB.out (by omega) _ _⟩
  · cases hg : gw l t
    · have HV := hid (show mwL l t x y = [] ∧ mwT l t x y = 0 ∧ mwOk l t x y = false by simp [mwL, mwT, mwOk, hg, ht])
      have HC := hid (fun (W : World) (h : Seg W a l) => c_iGoodWorld' a l ca t false hg W h hl)
      go_enter Try.func33, Try.ntmps33
      have x0 := RP.out.c0
      go_wp2_with fail
      refine (c_iMoveCells a l ca x y _ HA.out hl).mono ?_
      rintro e w1 ⟨v1, rfl, o1, b1⟩
      replace RP := hid (RP.out.below b1)
      replace RB := hid (RB.out.below b1)
      replace HA := hid (HA.out.below b1)
      replace HB := hid (HB.out.trans (b1.mono HB.out.size))
      rw [ht]
      obtain ⟨a1, c1, rfl, _⟩ := o1.form
      clear x0
      have x0 := RP.out.c0
      have x1 := RP.out.c1
      go_wp2_with fail
      refine (HC.out _ HA.out).mono ?_
      rintro e w2 ⟨rfl, b2⟩
      replace RP := hid (RP.out.below b2)
      replace RB := hid (RB.out.below b2)
      replace HA := hid (HA.out.below b2)
      replace HB := hid (HB.out.trans (b2.mono HB.out.size))
      have f0 := RB.out.fr 0
      have f1 := RB.out.fr 1
      have d0 := RB.out.c0
      have d1 := RB.out.c1
      have PP := hid (RB.out.put (.slice none 0 0) (0))
      have p0 := hid PP.out.c0
      have p1 := hid PP.out.c1
      go_wp2
      exact bodyPost_ret (v := .tuple #[.agg #[.slice none 0 0, .int .i64 (0)], .bool false]) (by simp [results, Try.results33, go_sem, p0.out, p1.out]) rfl ⟨_, by rw [HV.out.2.2, HV.out.2.1], by rw [HV.out.1]; exact nilW _ _ _ _ _, belW HB.out (by omega) _ _⟩
    · have HV := hid (show moveL l x y = mwL l t x y ∧ t = mwT l t x y ∧ true = mwOk l t x y by simp [mwL, mwT, mwOk, hg, ht])
      have HC := hid (fun (W : World) (h : Seg W a l) => c_iGoodWorld' a l ca t true hg W h hl)
      go_enter Try.func33, Try.ntmps33
      have x0 := RP.out.c0
      go_wp2_with fail
      refine (c_iMoveCells a l ca x y _ HA.out hl).mono ?_
      rintro e w1 ⟨v1, rfl, o1, b1⟩
      replace RP := hid (RP.out.below b1)
      replace RB := hid (RB.out.below b1)
      replace HA := hid (HA.out.below b1)
      replace HB := hid (HB.out.trans (b1.mono HB.out.size))
      rw [ht]
      obtain ⟨a1, c1, rfl, _⟩ := o1.form
      clear x0
      have O1 := hid o1
      have Z1 := hid b1.size
      clear o1 b1
      have x0 := RP.out.c0
      have x1 := RP.out.c1
      go_wp2_with fail
      refine (HC.out _ HA.out).mono ?_
      rintro e w2 ⟨rfl, b2⟩
      replace RP := hid (RP.out.below b2)
      replace RB := hid (RB.out.below b2)
      replace HA := hid (HA.out.below b2)
      replace HB := hid (HB.out.trans (b2.mono HB.out.size))
      replace O1 := hid (O1.out.below b2)
      clear x0 x1 b2
      have x1 := RP.out.c1
      clear hg ht HC
      have f0 := RB.out.fr 0
      have f1 := RB.out.fr 1
      have d0 := RB.out.c0
      have d1 := RB.out.c1
      have PP := hid (RB.out.put (.slice a1 (moveL l x y).length c1) (t))
      have p0 := hid PP.out.c0
      have p1 := hid PP.out.c1
      go_wp2
      exact bodyPost_ret (v := .tuple #[.agg #[.slice a1 (moveL l x y).length c1, .int .i64 (t)], .bool true]) (by simp [results, Try.results33, go_sem, p0.out, p1.out]) rfl ⟨_, by rw [← HV.out.2.1, ← HV.out.2.2], by rw [← HV.out.1]; exact ownW O1.out (by have := HZ.out; omega) _ _ (by have := HZ.out; omega), belW HB.out (by omega) _ _⟩

end Go.Proofs.Ytnabgfbempkgnaa
