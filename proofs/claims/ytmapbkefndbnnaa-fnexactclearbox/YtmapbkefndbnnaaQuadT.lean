/- Numbers and quads taken over into new memory; how much a forest holds. -/
import Derived.Test.YtmapbkefndbnnaaQuad
namespace Go.Proofs.Ytmapbkefndbnnaa
open Go.RowKit
set_option linter.unusedVariables false
attribute [local go_sem ↓] Go.wp_at_zero Go.wp_at_succ

theorem info_int : (Try.prog.info? 3).map (fun i => (i.zero, i.size, i.bytes)) = some (some (.int .i64 0), 1, 8) := by kernel_rfl
theorem info_Quad : (Try.prog.info? 56).map (fun i => (i.zero, i.size, i.bytes)) = some (some (.agg #[.int .i64 0, .slice none 0 0]), 2, 32) := by kernel_rfl
theorem make_Ints (n : Nat) (hn : n ≤ 1048576) (w : World) :
    (Instr.makeSlice 47 (.int .i64 (n : Int)) (.int .i64 (n : Int))).run Try.prog w = .ok (.slice (some ⟨w.heap.size, 0, none⟩) n n) (w.alloc (.cells (madeCells #[.int .i64 0] n) 3)) := by
  obtain ⟨i, hi, hz, hs, hb⟩ := info_parts info_int
  have := run_make (P := Try.prog) w 47 3 i _ Try.underlying47 hi hz .i64 .i64 n n (by omega) (Int.le_refl _) (by rw [hb]; omega) (by omega)
  simpa [hs, Value.cells] using this
theorem make_Quads (n : Nat) (hn : n ≤ 1048576) (w : World) :
    (Instr.makeSlice 23 (.int .i64 (n : Int)) (.int .i64 (n : Int))).run Try.prog w = .ok (.slice (some ⟨w.heap.size, 0, none⟩) n n) (w.alloc (.cells (madeCells #[.int .i64 0, .slice none 0 0] (n * 2)) 56)) := by
  obtain ⟨i, hi, hz, hs, hb⟩ := info_parts info_Quad
  have := run_make (P := Try.prog) w 23 56 i _ Try.underlying23 hi hz .i64 .i64 n n (by omega) (Int.le_refl _) (by rw [hb]; omega) (by omega)
  simpa [hs, Value.cells] using this

/-- The numbers l are all of block g. -/
def IRow (w : World) (g : Nat) (l : List Int) : Prop := w.rowIs g 3 l.length (fun j => .int .i64 (ia l j))
theorem IRow.seg {w : World} {g : Nat} {l : List Int} (h : IRow w g l) : ISeg w (some ⟨g, 0, none⟩) l := by
  intro i hi
  refine ⟨g, 0, rfl, h.lt, ?_⟩
  have := World.rowIs.cell h (i := i) hi
  simpa using this
theorem IRow.below {w w' : World} {g : Nat} {l : List Int} (h : IRow w g l) (hb : Below w.heap.size w w') : IRow w' g l := h.of_block (hb.block _ h.lt)
def intTo (l : List Int) (k j : Nat) : Value := .int .i64 (if j < k then ia l j else 0)

set_option maxHeartbeats 400000 in
theorem c_toIntS (a : Option Addr) (l : List Int) (ca : Nat) (w : World) (ha : ISeg w a l) (hl : l.length ≤ 1048576) :
    Calls Try.prog 154 #[.slice a l.length ca] w fun e w' => e = .returned (.slice (some ⟨w.heap.size, 0, none⟩) l.length l.length) ∧ IRow w' w.heap.size l ∧ Below w.heap.size w w' := by
  have hmk := make_Ints l.length hl
  have R0 := hid ((World.rowIs_made w (.int .i64 0) l.length 3).congr (g := intTo l 0) fun i hi => by simp [intTo])
  go_enter Try.func154, Try.ntmps154
  go_wp2
  go_loopw [4] (fun i wr => ∃ k : Nat, k ≤ l.length ∧ i = .int .i64 k ∧ wr.rowIs w.heap.size 3 l.length (intTo l k) ∧ Below w.heap.size w wr) (fun i _ => l.length - (intOf i).toNat)
  case atStart => exact ⟨0, Nat.zero_le _, rfl, R0.out, (Below.refl _ _).alloc (Nat.le_refl _) _⟩
  case round =>
    clear R0 hmk
    obtain ⟨k, hk, rfl, hR, hbel⟩ := hrel
    by_cases hlt : k < l.length
    · obtain ⟨b1, o1, rfl, hb1, p1⟩ := ha k hlt
      have g1 := (hbel.cell (p := ⟨b1, o1 + k, none⟩) hb1).trans p1
      clear p1
      have k0 : (0 : Int) ≤ (k : Int) := by omega
      have k1 : (k : Int) < (l.length : Int) := by omega
      have c1 := hR.cell (i := k) (by omega)
      have f1 := hR.frozen k
      have hR' := hid hR
      clear hR
      go_wp2
      go_roundw
      case rel =>
        refine ⟨k + 1, by omega, by go_num, (hR'.out.set k _).congr fun j hj => ?_, hbel.setCell (Nat.le_refl _) _⟩
        by_cases e : j = k
        · subst e; simp [intTo]
        · have e2 : (j < k + 1) = (j < k) := by apply propext; omega
          simp [intTo, e, e2]
      case measure => simp [intOf]; omega
    · go_wp2
      go_ret
      have : k = l.length := by omega
      subst this
      exact ⟨rfl, hR.congr fun j hj => by simp [intTo, hj], hbel⟩

theorem two_row {w : World} {g : Nat} {t : TypeId} {u v : Value} (h : w.heap[g]? = some (.cells #[u, v] t)) : w.rowIs g t 2 (fun j => if j = 0 then u else v) := by
  refine ⟨_, h, rfl, fun i hi => ?_⟩
  rcases (show i = 0 ∨ i = 1 by omega) with rfl | rfl <;> rfl
theorem one_row {w : World} {g : Nat} {t : TypeId} {u : Value} (h : w.heap[g]? = some (.cells #[u] t)) : w.rowIs g t 1 (fun _ => u) := by
  refine ⟨_, h, rfl, fun i hi => ?_⟩
  have e : i = 0 := by omega
  subst e; rfl
theorem alloc_lt_of {w : World} {o : Obj} {g : Nat} (h : g < w.heap.size) : g < (w.alloc o).heap.size := by simp; omega

set_option maxHeartbeats 1000000 in
theorem c_toQuad (q : Qd) (a : Option Addr) (ca : Nat) (w : World) (ha : ISeg w a q.2) (hl : q.2.length ≤ 1048576) :
    Calls Try.prog 145 #[.agg #[.int .i64 q.1, .slice a q.2.length ca]] w fun e w' => e = .returned (.agg #[.int .i64 q.1, .slice (some ⟨w.heap.size + 3, 0, none⟩) q.2.length q.2.length]) ∧ IRow w' (w.heap.size + 3) q.2 ∧ Below w.heap.size w w' := by
  obtain ⟨x, l⟩ := q
  dsimp only at *
  obtain ⟨W1, hW1⟩ : ∃ W1, W1 = w.alloc (.cells #[.int .i64 x, .slice a l.length ca] 159) := ⟨_, rfl⟩
  obtain ⟨W2, hW2⟩ : ∃ W2, W2 = W1.alloc (.cells #[.int .i64 0, .slice none 0 0] 56) := ⟨_, rfl⟩
  obtain ⟨W3, hW3⟩ : ∃ W3, W3 = W2.alloc (.cells #[.int .i64 x, .slice none 0 0] 56) := ⟨_, rfl⟩
  have s1 : W1.heap.size = w.heap.size + 1 := by rw [hW1]; simp
  have s2 : W2.heap.size = w.heap.size + 1 + 1 := by rw [hW2]; simp [s1]
  have s3 : W3.heap.size = w.heap.size + 3 := by rw [hW3]; simp [s2]
  have R1 : W2.rowIs (w.heap.size + 1) 56 2 (fun j => if j = 0 then .int .i64 0 else .slice none 0 0) := by
    rw [← s1, hW2]; exact two_row (heap_alloc_new _ _)
  have R2 : W3.rowIs (w.heap.size + 1 + 1) 56 2 (fun j => if j = 0 then .int .i64 x else .slice none 0 0) := by
    rw [← s2, hW3]; exact two_row (heap_alloc_new _ _)
  have R1' : W3.rowIs (w.heap.size + 1) 56 2 (fun j => if j = 0 then .int .i64 0 else .slice none 0 0) := by
    rw [hW3]; exact R1.alloc _
  have B3 : Below w.heap.size w W3 := by
    rw [hW3, hW2, hW1]
    exact (((Below.refl _ _).alloc (Nat.le_refl _) _).alloc (by simp) _).alloc (by simp; omega) _
  have HC := hid (c_toIntS a l ca _ (ha.below B3) hl)
  have HB := hid B3
  have H1 := hid R1'
  have H2 := hid R2
  rw [s3] at HC
  have HS := hid s3
  have hW : Hid (W3 = ((w.alloc (.cells #[.int .i64 x, .slice a l.length ca] 159)).alloc (.cells #[.int .i64 0, .slice none 0 0] 56)).alloc (.cells #[.int .i64 x, .slice none 0 0] 56)) := by
    show _ = _
    rw [hW3, hW2, hW1]
  rw [hW.out] at HC HB H1 H2 HS
  clear hW R1' B3 R1 R2 s1 s2 s3 hW1 hW2 hW3 ha
  clear W1 W2 W3
  go_enter Try.func145, Try.ntmps145
  go_wp2_with fail
  refine HC.out.mono ?_
  rintro e w1 ⟨rfl, hR, hb1⟩
  have K1 := H1.out.of_block (hb1.block _ (by omega))
  have K2 := H2.out.of_block (hb1.block _ (by omega))
  have c0 := K1.cell (i := 0) (by omega)
  have c1 := K1.cell (i := 1) (by omega)
  have f0 := K1.frozen 0
  have f1 := K1.frozen 1
  have c2 := K2.cell (i := 0) (by omega)
  have c3 := K2.cell (i := 1) (by omega)
  have f2 := K2.frozen 0
  have f3 := K2.frozen 1
  have HR := hid hR
  have BB := hid (HB.out.trans (hb1.mono (by omega)))
  have e0 := ((K1.setOther (a := ⟨w.heap.size + 1 + 1, 1, none⟩) (by dsimp only; omega) (.slice (some ⟨w.heap.size + 3, 0, none⟩) l.length l.length)).set 0 (.int .i64 x)).cell (i := 0) (by omega)
  have e1 := (((K1.setOther (a := ⟨w.heap.size + 1 + 1, 1, none⟩) (by dsimp only; omega) (.slice (some ⟨w.heap.size + 3, 0, none⟩) l.length l.length)).set 0 (.int .i64 x)).set 1 (.slice (some ⟨w.heap.size + 3, 0, none⟩) l.length l.length)).cell (i := 1) (by omega)
  simp only [if_true] at e0 e1
  have E0 := hid e0
  have E1 := hid e1
  clear HC HB H1 H2 HS K1 K2 hR hb1 e0 e1
  simp only [if_true, if_false, Nat.one_ne_zero] at c0 c1 c2 c3
  go_wp2
  refine bodyPost_ret (v := .agg #[.int .i64 x, .slice (some ⟨w.heap.size + 3, 0, none⟩) l.length l.length]) (by simp [results, Try.results145, go_sem, E0.out, E1.out]) rfl ⟨rfl, ?_, ?_⟩
  · exact ((HR.out.setOther (by dsimp only; omega) _).setOther (by dsimp only; omega) _).setOther (by dsimp only; omega) _
  · exact ((BB.out.setCell (by dsimp only; omega) _).setCell (by dsimp only; omega) _).setCell (by dsimp only; omega) _

/-- What stands in a row of quads of which the first k are laid, kid i's in block ks i. -/
def quadTo (F : List Qd) (ks : Nat → Nat) (k j : Nat) : Value :=
  if j % 2 = 0 then .int .i64 (if j / 2 < k then (qa F (j / 2)).1 else 0) else (if j / 2 < k then .slice (some ⟨ks (j / 2), 0, none⟩) (qa F (j / 2)).2.length (qa F (j / 2)).2.length else .slice none 0 0)
theorem quadTo_even (F : List Qd) (ks : Nat → Nat) (k i : Nat) : quadTo F ks k (i * 2) = .int .i64 (if i < k then (qa F i).1 else 0) := by
  simp [quadTo]
theorem quadTo_odd (F : List Qd) (ks : Nat → Nat) (k i : Nat) : quadTo F ks k (i * 2 + 1) = (if i < k then .slice (some ⟨ks i, 0, none⟩) (qa F i).2.length (qa F i).2.length else .slice none 0 0) := by
  have e1 : (i * 2 + 1) % 2 = 1 := by omega
  have e2 : (i * 2 + 1) / 2 = i := by omega
  simp [quadTo, e1, e2]
theorem quad_made (w : World) (F : List Qd) (ks : Nat → Nat) : (w.alloc (.cells (madeCells #[.int .i64 0, .slice none 0 0] (F.length * 2)) 56)).rowIs w.heap.size 56 (F.length * 2) (quadTo F ks 0) := by
  refine ⟨_, heap_alloc_new _ _, size_madeCells _ _, fun i hi => ?_⟩
  have h2 : i % 2 = 0 ∨ i % 2 = 1 := by omega
  rcases h2 with h2 | h2 <;> simp [madeCells, hi, h2, quadTo]
theorem quad_step {w : World} {g : Nat} {F : List Qd} {ks : Nat → Nat} {k : Nat} (b : Nat) (h : w.rowIs g 56 (F.length * 2) (quadTo F ks k)) :
    ((w.setCell ⟨g, k * 2, none⟩ (.int .i64 (qa F k).1)).setCell ⟨g, k * 2 + 1, none⟩ (.slice (some ⟨b, 0, none⟩) (qa F k).2.length (qa F k).2.length)).rowIs g 56 (F.length * 2) (quadTo F (fun i => if i = k then b else ks i) (k + 1)) := by
  refine ((h.set (k * 2) _).set (k * 2 + 1) _).congr fun j hj => ?_
  rcases (show j = j / 2 * 2 ∨ j = j / 2 * 2 + 1 by omega) with e | e
  · rw [e, quadTo_even, quadTo_even]
    generalize j / 2 = i
    by_cases h1 : i = k
    · subst h1
      rw [if_neg (by omega), if_pos rfl, if_pos (by omega)]
    · rw [if_neg (by omega), if_neg (by omega)]
      by_cases h2 : i < k
      · rw [if_pos h2, if_pos (by omega)]
      · rw [if_neg h2, if_neg (by omega)]
  · rw [e, quadTo_odd, quadTo_odd]
    generalize j / 2 = i
    by_cases h1 : i = k
    · subst h1
      rw [if_pos rfl, if_pos (by omega)]
      simp
    · rw [if_neg (by omega), if_neg (by omega)]
      by_cases h2 : i < k
      · rw [if_pos h2, if_pos (by omega), if_neg h1]
      · rw [if_neg h2, if_neg (by omega)]

/-- A forest that lies in memory of its own: the quads are all of block g, the kids of quad i all of block ks i, each behind the last. -/
structure QRow (w : World) (base g : Nat) (ks : Nat → Nat) (F : List Qd) (k : Nat) : Prop where
  low : base ≤ g
  row : w.rowIs g 56 (F.length * 2) (quadTo F ks k)
  kid : ∀ i, i < k → IRow w (ks i) (qa F i).2 ∧ g < ks i ∧ ∀ j, j < i → ks j < ks i
theorem QRow.below {w w' : World} {base g : Nat} {ks : Nat → Nat} {F : List Qd} {k : Nat} (h : QRow w base g ks F k) (hb : Below w.heap.size w w') : QRow w' base g ks F k :=
  ⟨h.low, h.row.of_block (hb.block _ h.row.lt), fun i hi => ⟨(h.kid i hi).1.below hb, (h.kid i hi).2⟩⟩
theorem QRow.seg {w : World} {base g : Nat} {ks : Nat → Nat} {F : List Qd} (h : QRow w base g ks F F.length) : QSeg w (some ⟨g, 0, none⟩) F := by
  intro i hi
  have c0 := h.row.cell (i := i * 2) (by omega)
  have c1 := h.row.cell (i := i * 2 + 1) (by omega)
  rw [quadTo_even, if_pos hi] at c0
  rw [quadTo_odd, if_pos hi] at c1
  exact ⟨g, 0, some ⟨ks i, 0, none⟩, (qa F i).2.length, rfl, h.row.lt, by simpa using c0, by simpa using c1, (h.kid i hi).1.seg, Nat.le_refl _⟩
theorem QRow.step {w : World} {base g : Nat} {ks : Nat → Nat} {F : List Qd} {k b : Nat} (h : QRow w base g ks F k) (hk : k < F.length) (hI : IRow w b (qa F k).2) (hg : g < b) (hlast : ∀ j, j < k → ks j < b) :
    QRow ((w.setCell ⟨g, k * 2, none⟩ (.int .i64 (qa F k).1)).setCell ⟨g, k * 2 + 1, none⟩ (.slice (some ⟨b, 0, none⟩) (qa F k).2.length (qa F k).2.length)) base g (fun i => if i = k then b else ks i) F (k + 1) := by
  refine ⟨h.low, quad_step b h.row, fun i hi => ?_⟩
  by_cases e : i = k
  · subst e
    rw [if_pos rfl]
    refine ⟨(hI.setOther (by dsimp only; omega) _).setOther (by dsimp only; omega) _, hg, fun j hj => ?_⟩
    rw [if_neg (by omega)]
    exact hlast j hj
  · have hi' : i < k := by omega
    obtain ⟨h1, h2, h3⟩ := h.kid i hi'
    rw [if_neg e]
    refine ⟨(h1.setOther (by dsimp only; omega) _).setOther (by dsimp only; omega) _, h2, fun j hj => ?_⟩
    rw [if_neg (by omega)]
    exact h3 j hj

set_option maxHeartbeats 1000000 in
theorem c_toQuadS (a : Option Addr) (F : List Qd) (ca : Nat) (w : World) (ha : QSeg w a F) (hl : F.length ≤ 1048576) (hk : KidsLe F) :
    Calls Try.prog 123 #[.slice a F.length ca] w fun e w' => e = .returned (.slice (some ⟨w.heap.size, 0, none⟩) F.length F.length) ∧ (∃ ks, QRow w' w.heap.size w.heap.size ks F F.length) ∧ Below w.heap.size w w' := by
  have hmk := make_Quads F.length hl
  have R0 := hid (quad_made w F (fun _ => 0))
  go_enter Try.func123, Try.ntmps123
  go_wp2
  go_loopw [4] (fun i wr => ∃ (k : Nat) (ks : Nat → Nat), k ≤ F.length ∧ i = .int .i64 k ∧ Hid (QRow wr w.heap.size w.heap.size ks F k) ∧ Hid (∀ j, j < k → ks j < wr.heap.size) ∧ Below w.heap.size w wr) (fun i _ => F.length - (intOf i).toNat)
  case atStart => exact ⟨0, fun _ => 0, Nat.zero_le _, rfl, (⟨Nat.le_refl _, R0.out, fun i hi => absurd hi (Nat.not_lt_zero _)⟩ : QRow _ _ _ _ _ _), (fun j hj => absurd hj (Nat.not_lt_zero _)), (Below.refl _ _).alloc (Nat.le_refl _) _⟩
  case round =>
    clear R0 hmk
    obtain ⟨k, ks, hk', rfl, HR, HL, hbel⟩ := hrel
    by_cases hlt : k < F.length
    · obtain ⟨b1, o1, ak, ck, rfl, hb1, p1, p2, p3, _⟩ := ha k hlt
      have g1 := (hbel.cell (p := ⟨b1, o1 + k * 2, none⟩) hb1).trans p1
      have g2 := (hbel.cell (p := ⟨b1, o1 + k * 2 + 1, none⟩) hb1).trans p2
      have HC := hid (c_toQuad (qa F k) ak ck wr (p3.below hbel) (hk k hlt))
      clear p1 p2 p3
      have k0 : (0 : Int) ≤ (k : Int) := by omega
      have k1 : (k : Int) < (F.length : Int) := by omega
      go_wp2_with fail
      refine HC.out.mono ?_
      rintro e w1 ⟨rfl, hI, hb⟩
      have K := HR.out.below hb
      have c1 := K.row.cell (i := k * 2) (by omega)
      have c2 := K.row.cell (i := k * 2 + 1) (by omega)
      have f1 := K.row.frozen (k * 2)
      have f2 := K.row.frozen (k * 2 + 1)
      have hz := hI.lt
      have HS := hid (K.step hlt hI (by have := hbel.size; omega) (fun j hj => by have := HL.out j hj; omega))
      have BB := hid (((hbel.trans (hb.mono hbel.size)).setCell (p := ⟨w.heap.size, k * 2, none⟩) (Nat.le_refl _) (.int .i64 (qa F k).1)).setCell (p := ⟨w.heap.size, k * 2 + 1, none⟩) (Nat.le_refl _) (.slice (some ⟨wr.heap.size + 3, 0, none⟩) (qa F k).2.length (qa F k).2.length))
      have HL' : Hid (∀ j, j < k + 1 → (if j = k then wr.heap.size + 3 else ks j) < w1.heap.size) := by
        intro j hj
        by_cases e : j = k
        · rw [if_pos e]; exact hz
        · rw [if_neg e]; have := HL.out j (by omega); have := hb.size; omega
      clear HR HL HC hI hb K ha hbel hz
      go_wp2
      go_roundw
      case rel => exact ⟨k + 1, _, by omega, by go_num, HS.out, (by intro j hj; simpa using HL'.out j hj), BB.out⟩
      case measure => simp [intOf]; omega
    · go_wp2
      go_ret
      have : k = F.length := by omega
      subst this
      exact ⟨rfl, ⟨ks, HR.out⟩, hbel⟩

set_option maxHeartbeats 1000000 in
theorem c_toForest (a : Option Addr) (F : List Qd) (ca : Nat) (w : World) (ha : QSeg w a F) (hl : F.length ≤ 1048576) (hk : KidsLe F) :
    Calls Try.prog 67 #[.agg #[.slice a F.length ca]] w fun e w' => e = .returned (.agg #[.slice (some ⟨w.heap.size + 3, 0, none⟩) F.length F.length]) ∧ (∃ ks, QRow w' (w.heap.size + 3) (w.heap.size + 3) ks F F.length) ∧ Below w.heap.size w w' := by
  obtain ⟨W1, hW1⟩ : ∃ W1, W1 = w.alloc (.cells #[.slice a F.length ca] 73) := ⟨_, rfl⟩
  obtain ⟨W2, hW2⟩ : ∃ W2, W2 = W1.alloc (.cells #[.slice none 0 0] 25) := ⟨_, rfl⟩
  obtain ⟨W3, hW3⟩ : ∃ W3, W3 = W2.alloc (.cells #[.slice none 0 0] 25) := ⟨_, rfl⟩
  have s1 : W1.heap.size = w.heap.size + 1 := by rw [hW1]; simp
  have s2 : W2.heap.size = w.heap.size + 1 + 1 := by rw [hW2]; simp [s1]
  have s3 : W3.heap.size = w.heap.size + 3 := by rw [hW3]; simp [s2]
  have R1 : W2.rowIs (w.heap.size + 1) 25 1 (fun j => .slice none 0 0) := by
    rw [← s1, hW2]; exact one_row (heap_alloc_new _ _)
  have R2 : W3.rowIs (w.heap.size + 1 + 1) 25 1 (fun j => .slice none 0 0) := by
    rw [← s2, hW3]; exact one_row (heap_alloc_new _ _)
  have R1' : W3.rowIs (w.heap.size + 1) 25 1 (fun j => .slice none 0 0) := by
    rw [hW3]; exact R1.alloc _
  have B3 : Below w.heap.size w W3 := by
    rw [hW3, hW2, hW1]
    exact (((Below.refl _ _).alloc (Nat.le_refl _) _).alloc (by simp) _).alloc (by simp; omega) _
  have HC := hid (c_toQuadS a F ca _ (ha.below B3) hl hk)
  have HB := hid B3
  have H1 := hid R1'
  have H2 := hid R2
  rw [s3] at HC
  have hW : Hid (W3 = ((w.alloc (.cells #[.slice a F.length ca] 73)).alloc (.cells #[.slice none 0 0] 25)).alloc (.cells #[.slice none 0 0] 25)) := by
    show _ = _
    rw [hW3, hW2, hW1]
  rw [hW.out] at HC HB H1 H2
  clear hW R1' B3 R1 R2 s1 s2 s3 hW1 hW2 hW3 ha
  clear W1 W2 W3
  go_enter Try.func67, Try.ntmps67
  go_wp2_with fail
  refine HC.out.mono ?_
  rintro e w1 ⟨rfl, ⟨ks, hR⟩, hb1⟩
  have K1 := H1.out.of_block (hb1.block _ (by omega))
  have K2 := H2.out.of_block (hb1.block _ (by omega))
  have c0 := K1.cell (i := 0) (by omega)
  have f0 := K1.frozen 0
  have c2 := K2.cell (i := 0) (by omega)
  have f2 := K2.frozen 0
  have HR := hid hR
  have BB := hid (HB.out.trans (hb1.mono (by omega)))
  have e0 := ((K1.setOther (a := ⟨w.heap.size + 1 + 1, 0, none⟩) (by dsimp only; omega) (.slice (some ⟨w.heap.size + 3, 0, none⟩) F.length F.length)).set 0 (.slice (some ⟨w.heap.size + 3, 0, none⟩) F.length F.length)).cell (i := 0) (by omega)
  simp only [if_true] at e0
  have E0 := hid e0
  clear HC HB H1 H2 K1 K2 hR hb1 e0
  go_wp2
  refine bodyPost_ret (v := .agg #[.slice (some ⟨w.heap.size + 3, 0, none⟩) F.length F.length]) (by simp [results, Try.results67, go_sem, E0.out]) rfl ⟨rfl, ⟨ks, ?_⟩, ?_⟩
  · refine ⟨HR.out.low, (HR.out.row.setOther (by dsimp only; omega) _).setOther (by dsimp only; omega) _, fun i hi => ?_⟩
    obtain ⟨h1, h2, h3⟩ := HR.out.kid i hi
    exact ⟨(h1.setOther (by dsimp only; omega) _).setOther (by dsimp only; omega) _, h2, h3⟩
  · exact (BB.out.setCell (by dsimp only; omega) _).setCell (by dsimp only; omega) _

end Go.Proofs.Ytmapbkefndbnnaa
