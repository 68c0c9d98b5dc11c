/- Worlds: whether they are good; what the laws' own small functions do with them. -/
import Derived.Test.YtnabgfbempkgnaaLaw4
import Derived.Test.YtnabgfbempkgnaaWdP
namespace Go.Proofs.Ytnabgfbempkgnaa
open Go.RowKit
set_option linter.unusedVariables false
set_option linter.unusedSimpArgs false
attribute [local go_sem ↓] Go.wp_at_zero Go.wp_at_succ

/-- A world's value. -/
def wv (s : Value) (t : Int) : Value := .agg #[s, .int .i64 t]

set_option maxHeartbeats 1000000 in
theorem c_sGoodWorld (a : Option Addr) (l : List Cl) (ca : Nat) (t : Int) (w : World) (ha : Seg w a l) (hl : l.length ≤ 1048576) :
    Calls Try.prog 20 #[.agg #[.slice a l.length ca, .int .i64 t]] w fun e w' => e = .returned (.bool (gw l t)) ∧ Below w.heap.size w w' := by
  have BX := hid (Box2.new w (.slice a l.length ca) (.int .i64 t) 26)
  cases hg : good l
  · have HC := hid (c_sGood' a l ca false hg _ (ha.below BX.out.2.2.2) hl)
    have HV := hid (show gw l t = false by simp [gw, hg])
    clear ha
    go_enter Try.func20, Try.ntmps20
    go_wp2_with fail
    refine HC.out.mono ?_
    rintro e w1 ⟨rfl, hb1⟩
    go_wp2
    go_ret
    exact ⟨ret_bool HV.out.symm, (BX.out.step hb1).2.2.2⟩
  · have HC := hid (c_sGood' a l ca true hg _ (ha.below BX.out.2.2.2) hl)
    have HV := hid (show gw l t = inB 0 1000 t by simp [gw, hg])
    clear ha
    go_enter Try.func20, Try.ntmps20
    go_wp2_with fail
    refine HC.out.mono ?_
    rintro e w1 ⟨rfl, hb1⟩
    have BX1 := hid (BX.out.step hb1)
    have x := BX1.out.2.1
    go_wp2_with fail
    refine (c_l1In' t 0 1000 _ rfl _).mono ?_
    rintro e w2 ⟨rfl, rfl⟩
    go_wp2
    go_ret
    exact ⟨ret_bool HV.out.symm, BX1.out.2.2.2⟩

set_option maxHeartbeats 1000000 in
theorem c_iGoodWorld (a : Option Addr) (l : List Cl) (ca : Nat) (t : Int) (w : World) (ha : Seg w a l) (hl : l.length ≤ 1048576) :
    Calls Try.prog 22 #[.agg #[.slice a l.length ca, .int .i64 t]] w fun e w' => e = .returned (.bool (gw l t)) ∧ Below w.heap.size w w' := by
  have BX := hid (Box2.new w (.slice a l.length ca) (.int .i64 t) 26)
  have HC := hid (c_iGood a l ca _ (ha.below BX.out.2.2.2) hl)
  cases hg : good l
  · have HV := hid (show gw l t = false by simp [gw, hg])
    rw [hg] at HC
    clear ha
    go_enter Try.func22, Try.ntmps22
    go_wp2_with fail
    refine HC.out.mono ?_
    rintro e w1 ⟨rfl, hb1⟩
    go_wp2
    go_ret
    exact ⟨ret_bool HV.out.symm, (BX.out.step hb1).2.2.2⟩
  · rw [hg] at HC
    clear ha
    by_cases h0 : 0 ≤ t
    · by_cases h1 : t ≤ 1000
      · have HV := hid (show gw l t = true by simp [gw, hg, inB, h0, h1])
        go_enter Try.func22, Try.ntmps22
        go_wp2_with fail
        refine HC.out.mono ?_
        rintro e w1 ⟨rfl, hb1⟩
        have BX1 := hid (BX.out.step hb1)
        have x := BX1.out.2.1
        go_wp2
        go_ret
        exact ⟨ret_bool HV.out.symm, BX1.out.2.2.2⟩
      · have HV := hid (show gw l t = decide (t ≤ 1000) by simp [gw, hg, inB, h0])
        go_enter Try.func22, Try.ntmps22
        go_wp2_with fail
        refine HC.out.mono ?_
        rintro e w1 ⟨rfl, hb1⟩
        have BX1 := hid (BX.out.step hb1)
        have x := BX1.out.2.1
        go_wp2
        go_ret
        exact ⟨ret_bool HV.out.symm, BX1.out.2.2.2⟩
    · have HV := hid (show gw l t = false by simp [gw, hg, inB, h0])
      go_enter Try.func22, Try.ntmps22
      go_wp2_with fail
      refine HC.out.mono ?_
      rintro e w1 ⟨rfl, hb1⟩
      have BX1 := hid (BX.out.step hb1)
      have x := BX1.out.2.1
      go_wp2
      go_ret
      exact ⟨ret_bool HV.out.symm, BX1.out.2.2.2⟩

theorem c_sGoodWorld' (a : Option Addr) (l : List Cl) (ca : Nat) (t : Int) (v : Bool) (h : gw l t = v) (w : World) (ha : Seg w a l) (hl : l.length ≤ 1048576) :
    Calls Try.prog 20 #[.agg #[.slice a l.length ca, .int .i64 t]] w fun e w' => e = .returned (.bool v) ∧ Below w.heap.size w w' := by rw [← h]; exact c_sGoodWorld a l ca t w ha hl
theorem c_iGoodWorld' (a : Option Addr) (l : List Cl) (ca : Nat) (t : Int) (v : Bool) (h : gw l t = v) (w : World) (ha : Seg w a l) (hl : l.length ≤ 1048576) :
    Calls Try.prog 22 #[.agg #[.slice a l.length ca, .int .i64 t]] w fun e w' => e = .returned (.bool v) ∧ Below w.heap.size w w' := by rw [← h]; exact c_iGoodWorld a l ca t w ha hl

/-! ### The laws' own -/
set_option maxHeartbeats 400000 in
theorem c_szWorld (a : Option Addr) (n ca : Nat) (t left : Int) (w : World) (h1 : left ≤ 1048576) (h : n ≤ left) :
    Calls Try.prog 19 #[.agg #[.slice a n ca, .int .i64 t], .int .i64 left] w fun e w' => e = .returned (.int .i64 (left - n)) ∧ Below w.heap.size w w' := by
  have h' : ¬ left - (n : Int) < 0 := by omega
  have BX := hid (Box2.new w (.slice a n ca) (.int .i64 t) 36)
  go_enter Try.func19, Try.ntmps19
  go_wp2_with fail
  refine (c_szCellS a n ca left _ h1 h).mono ?_
  rintro e w1 ⟨rfl, rfl⟩
  go_wp2
  go_ret
  exact ⟨rfl, BX.out.2.2.2⟩
set_option maxHeartbeats 400000 in
theorem c_szWorld_no (a : Option Addr) (n ca : Nat) (t left : Int) (w : World) (h0 : 0 ≤ left) (h1 : left ≤ 1048576) (hn : n ≤ 9223372036854775807) (h : left < n) :
    Calls Try.prog 19 #[.agg #[.slice a n ca, .int .i64 t], .int .i64 left] w fun e w' => e = .returned (.int .i64 (-1)) ∧ Below w.heap.size w w' := by
  have BX := hid (Box2.new w (.slice a n ca) (.int .i64 t) 36)
  go_enter Try.func19, Try.ntmps19
  go_wp2_with fail
  refine (c_szCellS_no a n ca left _ h0 h1 hn h).mono ?_
  rintro e w1 ⟨rfl, rfl⟩
  go_wp2
  go_ret
  exact ⟨rfl, BX.out.2.2.2⟩

theorem grown_set (w : World) (b o : Nat) (u : Value) : w.grownBy (w.setCell ⟨b, o, none⟩ u) (some b) :=
  ⟨rfl, rfl, rfl, by simp, fun k hk hn => Below.heap_setCell w ⟨b, o, none⟩ u k (by dsimp only; simpa using hn)⟩
theorem OwnS.other {w : World} {base b o : Nat} {v : Value} {l : List Cl} (h : OwnS w base v l) (hb : ∀ k, v.ownBlock = some k → k ≠ b) (u : Value) : OwnS (w.setCell ⟨b, o, none⟩ u) base v l :=
  own_keep h (grown_set w b o u) fun k hk e => hb k hk (by simpa using e.symm)
theorem Row.other {w : World} {g b o : Nat} {l : List Cl} (h : Row w g l) (hb : g ≠ b) (u : Value) : Row (w.setCell ⟨b, o, none⟩ u) g l := World.rowIs.setOther h (a := ⟨b, o, none⟩) hb u
/-- A world's box that may be written. -/
def WRow (w : World) (b : Nat) (s : Value) (t : Int) (T : TypeId) : Prop := w.rowIs b T 2 (fun j => if j = 0 then s else .int .i64 t)
theorem WRow.new (w : World) (s : Value) (t : Int) (T : TypeId) : WRow (w.alloc (.cells #[s, .int .i64 t] T)) w.heap.size s t T := two_row (heap_alloc_new _ _)
theorem WRow.of_block {w w' : World} {b : Nat} {s : Value} {t : Int} {T : TypeId} (h : WRow w b s t T) (e : w'.heap[b]? = w.heap[b]?) : WRow w' b s t T := World.rowIs.of_block h e
theorem WRow.below {w w' : World} {b : Nat} {s : Value} {t : Int} {T : TypeId} (h : WRow w b s t T) (hb : Below w.heap.size w w') : WRow w' b s t T := World.rowIs.of_block h (hb.block _ (World.rowIs.lt h))
theorem WRow.c0 {w : World} {b : Nat} {s : Value} {t : Int} {T : TypeId} (h : WRow w b s t T) : w.cell? ⟨b, 0, none⟩ = some s := by simpa using World.rowIs.cell h (i := 0) (by omega)
theorem WRow.c1 {w : World} {b : Nat} {s : Value} {t : Int} {T : TypeId} (h : WRow w b s t T) : w.cell? ⟨b, 1, none⟩ = some (.int .i64 t) := by simpa using World.rowIs.cell h (i := 1) (by omega)
theorem WRow.fr {w : World} {b : Nat} {s : Value} {t : Int} {T : TypeId} (h : WRow w b s t T) (i : Nat) : w.frozen? ⟨b, i, none⟩ = false := World.rowIs.frozen h i
theorem WRow.put {w : World} {b : Nat} {s : Value} {t : Int} {T : TypeId} (h : WRow w b s t T) (s' : Value) (t' : Int) : WRow ((w.setCell ⟨b, 0, none⟩ s').setCell ⟨b, 1, none⟩ (.int .i64 t')) b s' t' T := by
  refine ((World.rowIs.set (World.rowIs.set h 0 s') 1 (.int .i64 t'))).congr fun i hi => ?_
  rcases (show i = 0 ∨ i = 1 by omega) with rfl | rfl <;> simp
theorem WRow.put0 {w : World} {b : Nat} {s : Value} {t : Int} {T : TypeId} (h : WRow w b s t T) (s' : Value) : WRow (w.setCell ⟨b, 0, none⟩ s') b s' t T := by
  refine (World.rowIs.set h 0 s').congr fun i hi => ?_
  rcases (show i = 0 ∨ i = 1 by omega) with rfl | rfl <;> simp
theorem WRow.put1 {w : World} {b : Nat} {s : Value} {t : Int} {T : TypeId} (h : WRow w b s t T) (t' : Int) : WRow (w.setCell ⟨b, 1, none⟩ (.int .i64 t')) b s t' T := by
  refine (World.rowIs.set h 1 (.int .i64 t')).congr fun i hi => ?_
  rcases (show i = 0 ∨ i = 1 by omega) with rfl | rfl <;> simp
theorem WRow.other {w : World} {b b' o : Nat} {s : Value} {t : Int} {T : TypeId} (h : WRow w b s t T) (hne : b ≠ b') (u : Value) : WRow (w.setCell ⟨b', o, none⟩ u) b s t T := World.rowIs.setOther h (a := ⟨b', o, none⟩) hne u

set_option maxHeartbeats 1000000 in
theorem c_toWorld (a : Option Addr) (l : List Cl) (ca : Nat) (t : Int) (w : World) (ha : Seg w a l) (hl : l.length ≤ 1048576) :
    Calls Try.prog 21 #[.agg #[.slice a l.length ca, .int .i64 t]] w fun e w' => e = .returned (.agg #[.slice (some ⟨w.heap.size + 3, 0, none⟩) l.length l.length, .int .i64 t]) ∧ Row w' (w.heap.size + 3) l ∧ Below w.heap.size w w' := by
  obtain ⟨W1, hW1⟩ : ∃ W1, W1 = w.alloc (.cells #[.slice a l.length ca, .int .i64 t] 36) := ⟨_, rfl⟩
  obtain ⟨W2, hW2⟩ : ∃ W2, W2 = W1.alloc (.cells #[.slice none 0 0, .int .i64 0] 26) := ⟨_, rfl⟩
  obtain ⟨W3, hW3⟩ : ∃ W3, W3 = W2.alloc (.cells #[.slice none 0 0, .int .i64 0] 26) := ⟨_, rfl⟩
  have s1 : W1.heap.size = w.heap.size + 1 := by rw [hW1]; simp
  have s2 : W2.heap.size = w.heap.size + 1 + 1 := by rw [hW2]; simp [s1]
  have s3 : W3.heap.size = w.heap.size + 3 := by rw [hW3]; simp [s2]
  have Ra : WRow W3 w.heap.size (.slice a l.length ca) t 36 := by
    rw [hW3, hW2, hW1]; exact ((World.rowIs.alloc (WRow.new w _ _ _) _).alloc _)
  have R1 : WRow W3 (w.heap.size + 1) (.slice none 0 0) 0 26 := by
    rw [hW3, hW2, ← s1]; exact World.rowIs.alloc (WRow.new W1 _ _ _) _
  have R2 : WRow W3 (w.heap.size + 1 + 1) (.slice none 0 0) 0 26 := by
    rw [hW3, ← s2]; exact WRow.new W2 _ _ _
  have B3 : Below w.heap.size w W3 := by
    rw [hW3, hW2, hW1]
    exact (((Below.refl _ _).alloc (Nat.le_refl _) _).alloc (by simp) _).alloc (by simp; omega) _
  have HC := hid (c_toCellS a l ca _ (ha.below B3) hl)
  have HB := hid B3
  have H0 := hid Ra
  have H1 := hid R1
  have H2 := hid R2
  rw [s3] at HC
  have hW : Hid (W3 = ((w.alloc (.cells #[.slice a l.length ca, .int .i64 t] 36)).alloc (.cells #[.slice none 0 0, .int .i64 0] 26)).alloc (.cells #[.slice none 0 0, .int .i64 0] 26)) := by
    show _ = _
    rw [hW3, hW2, hW1]
  rw [hW.out] at HC HB H0 H1 H2
  clear hW B3 Ra R1 R2 s1 s2 s3 hW1 hW2 hW3 ha
  clear W1 W2 W3
  go_enter Try.func21, Try.ntmps21
  go_wp2_with fail
  refine HC.out.mono ?_
  rintro e w1 ⟨rfl, hR, hb1⟩
  have K0 := hid (H0.out.of_block (hb1.block _ (by omega)))
  have K1 := hid (H1.out.of_block (hb1.block _ (by omega)))
  have K2 := hid (H2.out.of_block (hb1.block _ (by omega)))
  have HR := hid hR
  have BB := hid (HB.out.trans (hb1.mono (by omega)))
  have f2 := K2.out.fr 0
  have c2 := K2.out.c0
  have f3 := K2.out.fr 1
  have c3 := K2.out.c1
  have c1 := K0.out.c1
  have E1 := hid (((K1.out.other (b' := w.heap.size + 1 + 1) (o := 0) (by omega) (.slice (some ⟨w.heap.size + 3, 0, none⟩) l.length l.length)).other (b' := w.heap.size + 1 + 1) (o := 1) (by omega) (.int .i64 t)))
  have f1 := K1.out.fr 0
  have f1' := K1.out.fr 1
  have d0 := K1.out.c0
  have d1 := K1.out.c1
  have P1 := hid (E1.out.put (.slice (some ⟨w.heap.size + 3, 0, none⟩) l.length l.length) t)
  have p0 := hid P1.out.c0
  have p1 := hid P1.out.c1
  clear HC HB H0 H1 H2 hR hb1
  go_wp2
  refine bodyPost_ret (v := .agg #[.slice (some ⟨w.heap.size + 3, 0, none⟩) l.length l.length, .int .i64 t]) (by simp [results, Try.results21, go_sem, p0.out, p1.out]) rfl ⟨rfl, ?_, ?_⟩
  · exact (((HR.out.other (by omega) _).other (by omega) _).other (by omega) _).other (by omega) _
  · exact (((BB.out.setCell (by dsimp only; omega) _).setCell (by dsimp only; omega) _).setCell (by dsimp only; omega) _).setCell (by dsimp only; omega) _

set_option maxHeartbeats 1000000 in
theorem c_eqWorld (a b : Option Addr) (l m : List Cl) (ca cb : Nat) (s t : Int) (w : World) (ha : Seg w a l) (hb : Seg w b m) (hl : l.length ≤ 1048576) (hm : m.length ≤ 1048576) :
    Calls Try.prog 14 #[.agg #[.slice a l.length ca, .int .i64 s], .agg #[.slice b m.length cb, .int .i64 t]] w fun e w' => e = .returned (.bool (decide (l = m) && decide (s = t))) ∧ Below w.heap.size w w' := by
  have R1 := WRow.new w (.slice a l.length ca) s 26
  have R2 := WRow.new (w.alloc (.cells #[.slice a l.length ca, .int .i64 s] 26)) (.slice b m.length cb) t 26
  have B2 := ((Below.refl w.heap.size w).alloc (Nat.le_refl _) (.cells #[.slice a l.length ca, .int .i64 s] 26)).alloc (by simp) (.cells #[.slice b m.length cb, .int .i64 t] 26)
  have R1' := hid (World.rowIs.alloc R1 (.cells #[.slice b m.length cb, .int .i64 t] 26))
  have R2' := hid R2
  have HB := hid B2
  have HC := hid (c_eqCellS a b l m ca cb _ (ha.below B2) (hb.below B2) hl hm)
  clear R1 R2 B2 ha hb
  rw [show (w.alloc (.cells #[.slice a l.length ca, .int .i64 s] 26)).heap.size = w.heap.size + 1 by simp] at R2'
  cases hlm : decide (l = m)
  · rw [hlm] at HC
    clear hlm
    go_enter Try.func14, Try.ntmps14
    go_wp2_with fail
    refine HC.out.mono ?_
    rintro e w1 ⟨rfl, hb1⟩
    go_wp2
    go_ret
    exact ⟨rfl, HB.out.trans (hb1.mono HB.out.size)⟩
  · rw [hlm] at HC
    clear hlm
    cases hst : decide (s = t)
    · have hne : (s != t) = true := by simpa using hst
      go_enter Try.func14, Try.ntmps14
      go_wp2_with fail
      refine HC.out.mono ?_
      rintro e w1 ⟨rfl, hb1⟩
      have x1 := (WRow.below R1'.out hb1).c1
      have x2 := (WRow.below R2'.out hb1).c1
      go_wp2
      go_ret
      exact ⟨rfl, HB.out.trans (hb1.mono HB.out.size)⟩
    · have hne : (s != t) = false := by simpa using hst
      go_enter Try.func14, Try.ntmps14
      go_wp2_with fail
      refine HC.out.mono ?_
      rintro e w1 ⟨rfl, hb1⟩
      have x1 := (WRow.below R1'.out hb1).c1
      have x2 := (WRow.below R2'.out hb1).c1
      go_wp2
      go_ret
      exact ⟨rfl, HB.out.trans (hb1.mono HB.out.size)⟩
theorem c_eqWorld' (u v : Value) (l : List Cl) (t : Int) (w : World) {lo hi lo' hi' : Nat} (h1 : OwnR w lo hi u l) (h2 : OwnR w lo' hi' v l) (hl : l.length ≤ 1048576) :
    Calls Try.prog 14 #[.agg #[u, .int .i64 t], .agg #[v, .int .i64 t]] w fun e w' => e = .returned (.bool true) ∧ Below w.heap.size w w' := by
  obtain ⟨a, ca, rfl, ha⟩ := h1.1.form
  obtain ⟨b, cb, rfl, hb⟩ := h2.1.form
  have := c_eqWorld a b l l ca cb t t w ha hb hl hl
  simpa using this

set_option maxHeartbeats 400000 in
theorem c_markWorld (s : Value) (t : Int) (l : List Cl) (w : World) {lo hi : Nat} (h : OwnR w lo hi s l) (hl : l.length ≤ 1048576) :
    Calls Try.prog 17 #[.agg #[s, .int .i64 t], .int .i64 1] w fun e w' => e = .returned (.int .i64 (1 + 2 * (l.length : Int))) ∧ OwnR w' lo hi s (marks 1 l.length) ∧ Grew w w' lo hi := by
  have hb := (Below.refl w.heap.size w).alloc (Nat.le_refl _) (.cells #[s, .int .i64 t] 26)
  have HR := hid (WRow.new w s t 26)
  have HM := hid (c_markCells' s l _ ((OwnR.kpt _ _ _ _).below h hb) hl)
  have HG := hid (Grew.of_below hb lo hi)
  have HH := hid (h.2.2)
  obtain ⟨a, ca, rfl, _⟩ := h.1.form
  clear h hb
  go_enter Try.func17, Try.ntmps17
  have x0 := HR.out.c0
  go_wp2_with fail
  refine HM.out.mono ?_
  rintro e w1 ⟨rfl, hO, hg⟩
  go_wp2
  go_ret
  exact ⟨rfl, hO, HG.out.trans hg⟩
set_option maxHeartbeats 400000 in
theorem c_heldWorld (s : Value) (t : Int) (n : Nat) (w : World) {lo hi : Nat} (h : OwnR w lo hi s (marks 1 n)) (hn : n ≤ 1048576) :
    Calls Try.prog 18 #[.agg #[s, .int .i64 t], .int .i64 1] w fun e w' => e = .returned (.int .i64 (1 + 2 * (n : Int))) ∧ Below w.heap.size w w' := by
  have hb := (Below.refl w.heap.size w).alloc (Nat.le_refl _) (.cells #[s, .int .i64 t] 26)
  have HR := hid (WRow.new w s t 26)
  have HM := hid (c_heldCells' s n _ ((OwnR.kpt _ _ _ _).below h hb) hn)
  have HB := hid hb
  obtain ⟨a, ca, rfl, _⟩ := h.1.form
  rw [marks_length] at HR HM HB ⊢
  have hnn : ¬ 1 + 2 * (n : Int) < 0 := by omega
  clear h hb
  go_enter Try.func18, Try.ntmps18
  have x0 := HR.out.c0
  go_wp2_with fail
  refine HM.out.mono ?_
  rintro e w1 ⟨rfl, hb1⟩
  go_wp2
  go_ret
  exact ⟨rfl, HB.out.trans (hb1.mono HB.out.size)⟩

end Go.Proofs.Ytnabgfbempkgnaa
