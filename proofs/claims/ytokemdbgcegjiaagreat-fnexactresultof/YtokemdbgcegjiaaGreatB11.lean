/- Texts of this seat, one behind the other: FourP, FFour, FJoin. -/
import Derived.Test.YtokemdbgcegjiaaGreatB10
import Derived.Deep.RegionHeld3
import Derived.Test.YtokemdbgcegjiaaGreatITree
namespace Go.Proofs.YtokemdbgcegjiaaGreat
set_option linter.unusedVariables false

/-- The square i of those of two by two in a grid of numbers so wide, d of them in a row. -/
def sqW (d wd : Nat) (l : List Int) (i : Nat) : List Int := [ia l (i / d * wd + i % d), ia l (i / d * wd + i % d + 1), ia l (i / d * wd + i % d + wd), ia l (i / d * wd + i % d + wd + 1)]
theorem sqW_len (d wd : Nat) (l : List Int) (i : Nat) : (sqW d wd l i).length = 4 := rfl
/-- The forest behind the first k joinings, and the quads' numbers. -/
def jTo (F : List Qd) (sq : Nat → List Int) : Nat → List Qd × List Int
  | 0 => (F, [])
  | k + 1 => ((joinF (jTo F sq k).1 (sq k)).1, (jTo F sq k).2 ++ [((joinF (jTo F sq k).1 (sq k)).2 : Int)])
structure JTo (F : List Qd) (n : Int) (k : Nat) (r : List Qd × List Int) : Prop where
  grows : Grows r.1
  more : F.length ≤ r.1.length
  most : r.1.length ≤ F.length + k
  len : r.2.length = k
  old : ∀ i, i < F.length → qa r.1 i = qa F i
  num : ∀ j, j < k → (0 ≤ ia r.2 j ∧ ia r.2 j < (r.1.length : Int)) ∧ (qa r.1 (ia r.2 j).toNat).1 = n + 1
theorem ia_app_old {l : List Int} {x : Int} {j : Nat} (h : j < l.length) : ia (l ++ [x]) j = ia l j := by simp [ia, List.getElem?_append_left h]
theorem ia_app_new (l : List Int) (x : Int) : ia (l ++ [x]) l.length = x := by simp [ia]
theorem jTo_facts {F : List Qd} {sq : Nat → List Int} {n : Int} {m : Nat} (hG : Grows F) (hl : ∀ i, i < m → (sq i).length = 4) (hk : ∀ i, i < m → ∀ j, j < 4 → 0 ≤ ia (sq i) j ∧ ia (sq i) j < (F.length : Int)) (hv : ∀ i, i < m → (qa F (ia (sq i) 0).toNat).1 = n) (hn : n < 5) : ∀ k, k ≤ m → JTo F n k (jTo F sq k)
  | 0, _ => ⟨hG, Nat.le_refl _, by simp [jTo], rfl, fun _ _ => rfl, fun j hj => by omega⟩
  | k + 1, hkm => by
    have h := jTo_facts hG hl hk hv hn k (by omega)
    have hkk := hk k (by omega)
    have hk0 := hkk 0 (by omega)
    have hlv : (qa (jTo F sq k).1 (ia (sq k) 0).toNat).1 = n := by rw [h.old _ (by omega)]; exact hv k (by omega)
    have hjl := joinF_len (jTo F sq k).1 (sq k)
    have hlt := joinF_lt (jTo F sq k).1 (sq k)
    have hml := h.more
    have hmo := h.most
    have hle := h.len
    have hjv := joinF_lev h.grows (l := sq k)
    rw [hlv] at hjv
    refine ⟨joinF_grows h.grows (hl k (by omega)) (fun j hj => by have := hkk j hj; omega) (by rw [hlv]; exact hn), ?_, ?_, ?_, fun i hi => ?_, fun j hj => ?_⟩
    · simp only [jTo]; omega
    · simp only [jTo]; omega
    · simp [jTo, hle]
    · simp only [jTo]; rw [joinF_old _ _ (by omega)]; exact h.old i hi
    · simp only [jTo]
      by_cases e : j < k
      · rw [ia_app_old (by omega)]
        have := h.num j e
        rw [joinF_old _ _ (by omega)]
        exact ⟨by omega, this.2⟩
      · obtain rfl : j = (jTo F sq k).2.length := by omega
        rw [ia_app_new]
        refine ⟨by omega, ?_⟩
        rw [show (((joinF (jTo F sq k).1 (sq k)).2 : Nat) : Int).toNat = (joinF (jTo F sq k).1 (sq k)).2 by omega]
        exact hjv
theorem jTo_at (F : List Qd) (sq : Nat → List Int) {k j : Nat} (h : (jTo F sq k).2.length = k) : (if j = k then ((joinF (jTo F sq k).1 (sq k)).2 : Int) else if j < k then ia (jTo F sq k).2 j else 0) = (if j < k + 1 then ia (jTo F sq (k + 1)).2 j else 0) := by
  by_cases e : j = k
  · subst e
    rw [if_pos rfl, if_pos (by omega)]
    simp only [jTo, ia]
    rw [List.getD_eq_getElem?_getD, List.getElem?_append_right (by omega), h]
    simp
  · rw [if_neg e]
    by_cases e2 : j < k
    · rw [if_pos e2, if_pos (by omega)]
      simp only [jTo, ia]
      rw [List.getD_eq_getElem?_getD, List.getD_eq_getElem?_getD, List.getElem?_append_left (by omega)]
    · rw [if_neg e2, if_neg (by omega)]

/-- Forests that are told are small. -/
theorem tellF_small {G : List Qd} (hG : Grows G) : (tellF G).length ≤ 1048576 ∧ KidsLe (tellF G) ∧ posF (nsF (tellF G)) (tellF G).length ≤ 8388608 := by
  unfold tellF
  split
  · rename_i h4
    refine ⟨by omega, hG.kidsLe, ?_⟩
    have hp : ∀ G : List Qd, Grows G → ∀ k, k ≤ G.length → posF (nsF G) k ≤ 1 + 5 * k := by
      intro G hG k
      induction k with
      | zero => intro _; simp [posF]
      | succ k ih =>
        intro hk
        have := ih (by omega)
        have : nsF G k ≤ 4 := by
          unfold nsF
          by_cases h2 : k < 2
          · rw [hG.low k h2]; simp
          · have := hG.len k (by omega) (by omega); omega
        simp only [posF]; omega
    have := hp _ hG G.length (Nat.le_refl _)
    omega
  · exact ⟨by simp, fun i hi => by simp at hi, by simp [posF]⟩
theorem nil_small : ([] : List Qd).length ≤ 1048576 ∧ KidsLe [] ∧ posF (nsF []) ([] : List Qd).length ≤ 8388608 := ⟨by simp, fun i hi => by simp at hi, by simp [posF]⟩

/-- What is answered where ok, of a forest and numbers. -/
def anF (ok : Bool) (R : List Qd × List Int) : List Qd := if ok then tellF R.1 else []
def anN (ok : Bool) (R : List Qd × List Int) : List Int := if ok && tellB R.1 then R.2 else []
def anB (ok : Bool) (R : List Qd × List Int) : Bool := ok && tellB R.1
theorem an_no (R : List Qd × List Int) : anF false R = [] ∧ anN false R = [] ∧ anB false R = false := ⟨rfl, rfl, rfl⟩
theorem an_yes (R : List Qd × List Int) (h : tellB R.1 = true) : anF true R = tellF R.1 ∧ anN true R = R.2 ∧ anB true R = true := by simp [anF, anN, anB, h]
theorem an_full (R : List Qd × List Int) (h : tellB R.1 = false) : anF true R = [] ∧ anN true R = [] ∧ anB true R = false := by
  have : ¬ R.1.length ≤ 400 := by simpa [tellB] using h
  simp [anF, anN, anB, h, tellF, this]

/-- May four be made of these nine? -/
def fourOK (F : List Qd) (l : List Int) : Bool := goodF F && decide (l.length = 9) && (allIn l 0 ((F.length : Int) - 1) && allB (okK F l) 9)
theorem ia_cons0 (a : Int) (l : List Int) : ia (a :: l) 0 = a := rfl
theorem four_lev {F : List Qd} {l : List Int} (h9 : l.length = 9) (h1 : allIn l 0 ((F.length : Int) - 1) = true) (h2 : allB (okK F l) 9 = true) : ∀ i, i < 9 → (0 ≤ ia l i ∧ ia l i < (F.length : Int)) ∧ (qa F (ia l i).toNat).1 = (qa F (ia l 0).toNat).1 ∧ (qa F (ia l i).toNat).1 < 5 := by
  intro i hi
  have a := inB_bd (allB_iff.1 h1 i (by omega))
  have b := allB_iff.1 h2 i hi
  simp only [okK, Bool.and_eq_true, decide_eq_true_eq] at b
  exact ⟨by omega, b⟩
/-- The four squares may be joined just where the nine are of one level. -/
theorem four_can {F : List Qd} {l : List Int} (h9 : l.length = 9) : (allIn l 0 ((F.length : Int) - 1) && allB (okK F l) 9) = allB (fun i => canJ F (sqW 2 3 l i)) 4 := by
  cases h : allB (fun i => canJ F (sqW 2 3 l i)) 4
  · cases h1 : allIn l 0 ((F.length : Int) - 1)
    · rfl
    · cases h2 : allB (okK F l) 9
      · rfl
      · exfalso
        have hv := four_lev h9 h1 h2
        have : allB (fun i => canJ F (sqW 2 3 l i)) 4 = true := by
          refine allB_iff.2 fun i hi => ?_
          have e : ∀ j, j < 4 → ∃ m, m < 9 ∧ ia (sqW 2 3 l i) j = ia l m := by
            intro j hj
            rcases (show i = 0 ∨ i = 1 ∨ i = 2 ∨ i = 3 by omega) with rfl | rfl | rfl | rfl <;> rcases (show j = 0 ∨ j = 1 ∨ j = 2 ∨ j = 3 by omega) with rfl | rfl | rfl | rfl <;> exact ⟨_, by decide, rfl⟩
          obtain ⟨m0, hm0, e0⟩ := e 0 (by omega)
          simp only [canJ, Bool.and_eq_true, decide_eq_true_eq]
          refine ⟨allB_iff.2 fun j hj => ?_, by rw [e0]; exact (hv m0 hm0).2.2⟩
          obtain ⟨m, hm, ej⟩ := e j hj
          simp only [kidB, Bool.and_eq_true, decide_eq_true_eq]
          rw [ej, e0]
          refine ⟨?_, by rw [(hv m hm).2.1, (hv m0 hm0).2.1]⟩
          have := (hv m hm).1
          simp [inB]; omega
        rw [h] at this; cases this
  · have hc := fun i (hi : i < 4) => canJ_lev (allB_iff.1 h i hi)
    have c00 := hc 0 (by omega) 0 (by omega)
    have c01 := hc 0 (by omega) 1 (by omega)
    have c02 := hc 0 (by omega) 2 (by omega)
    have c03 := hc 0 (by omega) 3 (by omega)
    have c10 := hc 1 (by omega) 0 (by omega)
    have c11 := hc 1 (by omega) 1 (by omega)
    have c12 := hc 1 (by omega) 2 (by omega)
    have c13 := hc 1 (by omega) 3 (by omega)
    have c20 := hc 2 (by omega) 0 (by omega)
    have c21 := hc 2 (by omega) 1 (by omega)
    have c22 := hc 2 (by omega) 2 (by omega)
    have c23 := hc 2 (by omega) 3 (by omega)
    have c30 := hc 3 (by omega) 0 (by omega)
    have c31 := hc 3 (by omega) 1 (by omega)
    have c32 := hc 3 (by omega) 2 (by omega)
    have c33 := hc 3 (by omega) 3 (by omega)
    change (0 ≤ ia l 0 ∧ ia l 0 < _) ∧ (qa F (ia l 0).toNat).1 = (qa F (ia l 0).toNat).1 ∧ (qa F (ia l 0).toNat).1 < 5 at c00
    change (0 ≤ ia l 1 ∧ ia l 1 < _) ∧ (qa F (ia l 1).toNat).1 = (qa F (ia l 0).toNat).1 ∧ (qa F (ia l 1).toNat).1 < 5 at c01
    change (0 ≤ ia l 3 ∧ ia l 3 < _) ∧ (qa F (ia l 3).toNat).1 = (qa F (ia l 0).toNat).1 ∧ (qa F (ia l 3).toNat).1 < 5 at c02
    change (0 ≤ ia l 4 ∧ ia l 4 < _) ∧ (qa F (ia l 4).toNat).1 = (qa F (ia l 0).toNat).1 ∧ (qa F (ia l 4).toNat).1 < 5 at c03
    change (0 ≤ ia l 2 ∧ ia l 2 < _) ∧ (qa F (ia l 2).toNat).1 = (qa F (ia l 1).toNat).1 ∧ (qa F (ia l 2).toNat).1 < 5 at c11
    change (0 ≤ ia l 5 ∧ ia l 5 < _) ∧ (qa F (ia l 5).toNat).1 = (qa F (ia l 1).toNat).1 ∧ (qa F (ia l 5).toNat).1 < 5 at c13
    change (0 ≤ ia l 6 ∧ ia l 6 < _) ∧ (qa F (ia l 6).toNat).1 = (qa F (ia l 3).toNat).1 ∧ (qa F (ia l 6).toNat).1 < 5 at c22
    change (0 ≤ ia l 7 ∧ ia l 7 < _) ∧ (qa F (ia l 7).toNat).1 = (qa F (ia l 3).toNat).1 ∧ (qa F (ia l 7).toNat).1 < 5 at c23
    change (0 ≤ ia l 8 ∧ ia l 8 < _) ∧ (qa F (ia l 8).toNat).1 = (qa F (ia l 4).toNat).1 ∧ (qa F (ia l 8).toNat).1 < 5 at c33
    rw [Bool.and_eq_true]
    have all : ∀ i, i < 9 → (0 ≤ ia l i ∧ ia l i < (F.length : Int)) ∧ (qa F (ia l i).toNat).1 = (qa F (ia l 0).toNat).1 ∧ (qa F (ia l i).toNat).1 < 5 := by
      intro i hi
      rcases (show i = 0 ∨ i = 1 ∨ i = 2 ∨ i = 3 ∨ i = 4 ∨ i = 5 ∨ i = 6 ∨ i = 7 ∨ i = 8 by omega) with rfl | rfl | rfl | rfl | rfl | rfl | rfl | rfl | rfl
      · exact c00
      · exact c01
      · exact ⟨c11.1, by omega, c11.2.2⟩
      · exact c02
      · exact c03
      · exact ⟨c13.1, by omega, c13.2.2⟩
      · exact ⟨c22.1, by omega, c22.2.2⟩
      · exact ⟨c23.1, by omega, c23.2.2⟩
      · exact ⟨c33.1, by omega, c33.2.2⟩
    refine ⟨allB_iff.2 fun i hi => ?_, allB_iff.2 fun i hi => ?_⟩
    · have := (all i (by omega)).1
      simp [inB]; omega
    · have := (all i hi).2
      simp only [okK, Bool.and_eq_true, decide_eq_true_eq]
      exact this
/-- What comes of nine. -/
def fourR (F : List Qd) (l : List Int) : List Qd × List Int := jTo F (sqW 2 3 l) 4
theorem fourR_facts {F : List Qd} {l : List Int} (hg : Grows F) (hv : ∀ i, i < 9 → (0 ≤ ia l i ∧ ia l i < (F.length : Int)) ∧ (qa F (ia l i).toNat).1 = (qa F (ia l 0).toNat).1 ∧ (qa F (ia l i).toNat).1 < 5) (k : Nat) (hk : k ≤ 4) : JTo F (qa F (ia l 0).toNat).1 k (jTo F (sqW 2 3 l) k) := by
  have e : ∀ i, i < 4 → ∀ j, j < 4 → ∃ m, m < 9 ∧ ia (sqW 2 3 l i) j = ia l m := by
    intro i hi j hj
    rcases (show i = 0 ∨ i = 1 ∨ i = 2 ∨ i = 3 by omega) with rfl | rfl | rfl | rfl <;> rcases (show j = 0 ∨ j = 1 ∨ j = 2 ∨ j = 3 by omega) with rfl | rfl | rfl | rfl <;> exact ⟨_, by decide, rfl⟩
  refine jTo_facts hg (fun i _ => rfl) (fun i hi j hj => ?_) (fun i hi => ?_) (hv 0 (by omega)).2.2 k hk
  · obtain ⟨m, hm, em⟩ := e i hi j hj
    rw [em]; exact (hv m hm).1
  · obtain ⟨m, hm, em⟩ := e i hi 0 (by omega)
    rw [em]; exact (hv m hm).2.1
theorem four_small (F : List Qd) (l : List Int) : ((anF (fourOK F l) (fourR F l)).length ≤ 1048576 ∧ KidsLe (anF (fourOK F l) (fourR F l)) ∧ posF (nsF (anF (fourOK F l) (fourR F l))) (anF (fourOK F l) (fourR F l)).length ≤ 8388608) ∧ (anN (fourOK F l) (fourR F l)).length ≤ 9 := by
  cases h : fourOK F l
  · exact ⟨nil_small, by simp [anN]⟩
  · unfold fourOK at h
    simp only [Bool.and_eq_true, decide_eq_true_eq] at h
    have hf := fourR_facts (good_grows h.1.1) (four_lev h.1.2 h.2.1 h.2.2) 4 (Nat.le_refl _)
    refine ⟨tellF_small hf.grows, ?_⟩
    unfold anN
    split
    · have := hf.len
      unfold fourR; omega
    · simp

end Go.Proofs.YtokemdbgcegjiaaGreat

namespace Go.Proofs.YtokemdbgcegjiaaGreat
open Go.RowKit Go.Maps
set_option linter.unusedVariables false
set_option linter.unusedSimpArgs false
attribute [local go_sem ↓] Go.wp_at_zero Go.wp_at_succ

theorem info_four : (Tryz.prog.info? 96).map (fun i => (i.zero, i.size, i.bytes)) = some (some (.agg #[.int .i64 0, .int .i64 0, .int .i64 0, .int .i64 0]), 4, 32) := by kernel_rfl
/-- The cells of squares one behind the other. -/
def fv4 : List (List Int) → List Value
  | [] => []
  | l :: r => .int .i64 (ia l 0) :: .int .i64 (ia l 1) :: .int .i64 (ia l 2) :: .int .i64 (ia l 3) :: fv4 r
theorem fv4_length : ∀ L : List (List Int), (fv4 L).length = L.length * 4
  | [] => rfl
  | l :: r => by simp [fv4, fv4_length r]; omega
theorem fv4_append : ∀ L M : List (List Int), fv4 (L ++ M) = fv4 L ++ fv4 M
  | [], M => rfl
  | l :: r, M => by simp [fv4, fv4_append r M]
theorem fv4_at : ∀ (L : List (List Int)) {i j : Nat}, i < L.length → j < 4 → (fv4 L)[i * 4 + j]? = some (.int .i64 (ia (L.getD i []) j))
  | [], i, j, hi, hj => by simp at hi
  | l :: r, 0, j, hi, hj => by
    rcases (show j = 0 ∨ j = 1 ∨ j = 2 ∨ j = 3 by omega) with rfl | rfl | rfl | rfl <;> simp [fv4]
  | l :: r, i + 1, j, hi, hj => by
    have := fv4_at r (i := i) (j := j) (by simpa using hi) hj
    rw [show (i + 1) * 4 + j = i * 4 + j + 4 by omega]
    simp only [fv4, List.getElem?_cons_succ]
    rw [this]; simp
theorem fv4_one : ∀ (L : List (List Int)), ∀ u ∈ fv4 L, u.oneCell' = true
  | [], u, hu => by simp [fv4] at hu
  | l :: r, u, hu => by
    simp only [fv4, List.mem_cons] at hu
    rcases hu with rfl | rfl | rfl | rfl | hu
    · rfl
    · rfl
    · rfl
    · rfl
    · exact fv4_one r u hu
/-- The slice v owns the squares L, among the blocks from base on. -/
def OwnF (w : World) (base : Nat) (v : Value) (L : List (List Int)) : Prop := w.ownsRow base 96 4 v L.length (fv4 L)
theorem OwnF.nil (w : World) (base : Nat) : OwnF w base (.slice none 0 0) [] := World.ownsRow_nil w base 96 4
theorem OwnF.below {w w' : World} {base : Nat} {v : Value} {L : List (List Int)} (h : OwnF w base v L) (hb : Below w.heap.size w w') : OwnF w' base v L :=
  World.ownsRow.kept h (grown_of_below hb none) (by cases v.ownBlock <;> simp)
theorem OwnF.lt {w : World} {base : Nat} {v : Value} {L : List (List Int)} (h : OwnF w base v L) : ∀ k, v.ownBlock = some k → base ≤ k ∧ k < w.heap.size := World.ownsRow.lt h
/-- Squares in a row of them. -/
def FSq (w : World) (a : Option Addr) (n : Nat) (sq : Nat → List Int) : Prop :=
  ∀ i, i < n → ∃ b cur, a = some ⟨b, 0, none⟩ ∧ w.heap[b]? = some (.cells cur 96 (0, 0)) ∧ ∀ j, j < 4 → w.cell? ⟨b, i * 4 + j, none⟩ = some (.int .i64 (ia (sq i) j))
theorem OwnF.form {w : World} {base : Nat} {v : Value} {L : List (List Int)} (h : OwnF w base v L) : ∃ a cap, v = .slice a L.length cap ∧ FSq w a L.length (fun i => L.getD i []) := by
  have h0 := h
  rcases h.2 with ⟨rfl, hn⟩ | ⟨g, cap, cur, rfl, hb, hg, hcap, hm, hs, ht⟩
  · have : L = [] := List.eq_nil_of_length_eq_zero hn
    subst this
    exact ⟨none, 0, rfl, fun i hi => by simp at hi⟩
  · refine ⟨_, _, rfl, fun i hi => ⟨g, cur, rfl, hg, fun j hj => ?_⟩⟩
    have := World.ownsRow.cellAt h0 (i * 4 + j) (by omega)
    rw [fv4_at L hi hj] at this
    exact this
/-- A block of anything but groves and nodes stays as it is where rows are kept. -/
theorem RowsKept.block {w w' : World} (h : RowsKept w w') {B : Nat} {cur : Array Value} {t : TypeId} (hb : w.heap[B]? = some (.cells cur t (0, 0))) (h1 : t ≠ 102) (h2 : t ≠ 98) : w'.heap[B]? = w.heap[B]? := by
  have hr : w.rowIs B t cur.size (fun i => cur.getD i (.bool false)) := ⟨cur, hb, rfl, fun i hi => by simp [Array.getD, hi]⟩
  obtain ⟨c, hc, hs, hv⟩ := h B t cur.size _ h1 (fun e => absurd e h2) hr
  rw [hc, hb]
  congr 2
  refine Array.ext hs fun i hi1 hi2 => ?_
  have := hv i hi2
  simp [Array.getD, hi2] at this
  have e2 := Array.getElem?_eq_getElem hi1
  rw [e2] at this
  simpa using this
theorem FSq.rows {w w' : World} {a : Option Addr} {n : Nat} {sq : Nat → List Int} (h : FSq w a n sq) (hr : RowsKept w w') : FSq w' a n sq := by
  intro i hi
  obtain ⟨b, cur, e, hb, hc⟩ := h i hi
  have hh := hr.block hb (by decide) (by decide)
  exact ⟨b, cur, e, hh.trans hb, fun j hj => (World.cell?_of_block (a := ⟨b, i * 4 + j, none⟩) hh).trans (hc j hj)⟩
theorem FSq.below {w w' : World} {a : Option Addr} {n : Nat} {sq : Nat → List Int} (h : FSq w a n sq) (hb : Below w.heap.size w w') : FSq w' a n sq := h.rows (RowsKept.of_below hb)
theorem FSq.congr {w : World} {a : Option Addr} {n : Nat} {sq sq' : Nat → List Int} (h : FSq w a n sq) (he : ∀ i, i < n → sq i = sq' i) : FSq w a n sq' := by
  intro i hi
  obtain ⟨b, cur, e, hb, hc⟩ := h i hi
  exact ⟨b, cur, e, hb, fun j hj => by rw [← he i hi]; exact hc j hj⟩
theorem step_appF {w : World} {ops : Array Oper} {o : Oper} {a : Act} {K : Act → World → Prop} {Q : Exit → Act → World → Prop} {E : Prop} (hgd : o.guard = none) (s x : Operand)
    (ho : o.op = .call { callee := .builtin .append, args := #[s, x], argTypes := #[110, 110] })
    (base : Nat) (v : Value) (L : List (List Int)) (l : List Int) (B : Nat) (hs : a.eval s = v) (hown : OwnF w base v L) (hx : a.eval x = .slice (some ⟨B, 0, none⟩) 1 1)
    (hblk : w.heap[B]? = some (.cells #[.int .i64 (ia l 0), .int .i64 (ia l 1), .int .i64 (ia l 2), .int .i64 (ia l 3)] 96)) (hlen : L.length ≤ 1000) (hbase : base ≤ w.heap.size)
    (h : ∀ v' w', OwnF w' base v' (L ++ [l]) → w.grownBy w' v.ownBlock → K (a.put o.dst v') w') : if Region.wanted o (yielded ops a.tmps) = true then Oper.wp Tryz.prog o a w K Q else E := by
  have hw : Region.wanted o (yielded ops a.tmps) = true := by simp [Region.wanted, hgd]
  rw [if_pos hw]
  obtain ⟨i, hi, hz, hsz, hb⟩ := info_parts info_four
  obtain ⟨v', w', hr, h1, h2, _, h4⟩ := run_append_own_at (P := Tryz.prog) w base 110 o.type 96 i _ 4 32 Tryz.underlying110 hi hz hsz hb rfl (by omega) v L.length (fv4 L) hown ⟨B, 0, none⟩ 1 1 (fv4 [l]) rfl (by
      intro j u hu
      have hadd : (⟨B, 0, none⟩ : Addr).add j = ⟨B, j, none⟩ := by unfold Addr.add; split <;> simp_all
      rw [hadd]
      unfold World.cell?
      rw [hblk]
      simpa [fv4] using hu) (fv4_one _) (by unfold maxLen; omega) (by omega) hbase
  unfold Oper.wp execOp
  simp only [ho, resolve, invoke, builtin, Sem.run_bind, Sem.run_pure, Result.andThen_ok, List.map_toArray, List.map_cons, List.map_nil, hs, hx, hr]
  refine h v' w' ?_ h2
  unfold OwnF
  rw [fv4_append, List.length_append]
  exact h1
theorem take_sq {d wd : Nat} (l : List Int) (k : Nat) : (List.range (k + 1)).map (sqW d wd l) = (List.range k).map (sqW d wd l) ++ [sqW d wd l k] := by
  rw [List.range_succ, List.map_append]; rfl

set_option maxHeartbeats 8000000 in
set_option maxRecDepth 100000 in
theorem c_two3 (b o ca : Nat) (l : List Int) (hl : l.length = 9) (w : World) (h : ISeg w (some ⟨b, o, none⟩) l) :
    Calls Tryz.prog 76 #[.slice (some ⟨b, o, none⟩) 9 ca, .int .i64 3] w fun e w' => ∃ v, e = .returned v ∧ OwnF w' w.heap.size v ((List.range 4).map (sqW 2 3 l)) ∧ Below w.heap.size w w' := by
  have HC : Hid (∀ (W : World), Below w.heap.size w W → ∀ i, i < 9 → W.cell? ⟨b, o + i, none⟩ = some (.int .i64 (ia l i))) := by
    intro W hB i hi
    obtain ⟨b', o', e, hlt, hc⟩ := h i (by omega)
    simp only [Option.some.injEq, Addr.mk.injEq, and_true] at e
    obtain ⟨rfl, rfl⟩ := e
    exact (hB.cell (p := ⟨b, o + i, none⟩) hlt).trans hc
  clear h
  go_enter Tryz.func76, Tryz.ntmps76
  go_wp2
  go_loopw [5, 11] (fun ov iv wr => ∃ k : Nat, k ≤ 2 ∧ iv = .int .i64 k ∧ Hid (OwnF wr w.heap.size ov ((List.range (k * 2)).map (sqW 2 3 l))) ∧ Hid (Below w.heap.size w wr)) (fun _ iv _ => 2 - (intOf iv).toNat)
  case atStart => exact ⟨0, Nat.zero_le _, rfl, OwnF.nil w w.heap.size, Below.refl _ _⟩
  case round =>
    obtain ⟨k, hk, rfl, HO, HB⟩ := hrel
    by_cases hlt : k < 2
    · have hlt' : (k : Int) < 2 := by omega
      go_wp2
      go_loopw [5, 16] (fun ov iv wr => ∃ j : Nat, j ≤ 2 ∧ iv = .int .i64 j ∧ Hid (OwnF wr w.heap.size ov ((List.range (k * 2 + j)).map (sqW 2 3 l))) ∧ Hid (Below w.heap.size w wr)) (fun _ iv _ => 2 - (intOf iv).toNat)
      case atStart => exact ⟨0, Nat.zero_le _, rfl, HO.out, HB.out⟩
      case round =>
        clear HO HB
        obtain ⟨j, hj, rfl, HO, HB⟩ := hrel
        by_cases hjt : j < 2
        · have HT := hid (take_sq (d := 2) (wd := 3) l (k * 2 + j))
          have HLE : Hid (((List.range (k * 2 + j)).map (sqW 2 3 l)).length ≤ 1000) := by simp [Hid]; omega
          generalize (List.range (k * 2 + j)).map (sqW 2 3 l) = L at *
          have HS := hid (show sqW 2 3 l (k * 2 + j) = [ia l (k * 3 + j), ia l (k * 3 + j + 1), ia l (k * 3 + j + 3), ia l (k * 3 + j + 3 + 1)] by unfold sqW; rw [show (k * 2 + j) / 2 = k by omega, show (k * 2 + j) % 2 = j by omega])
          have hb1 := (Below.refl wr.heap.size wr).drew
          have HO1 := hid (HO.out.below hb1)
          have HB1 := hid (HB.out.trans (hb1.mono HB.out.size))
          have HSS := hid (show ∀ W : World, Below w.heap.size w W → W.cell? ⟨b, o + ((k : Int) * 3 + (j : Int)).toNat, none⟩ = some (.int .i64 (ia l (k * 3 + j))) ∧ W.cell? ⟨b, o + ((k : Int) * 3 + (j : Int) + 1).toNat, none⟩ = some (.int .i64 (ia l (k * 3 + j + 1))) ∧ W.cell? ⟨b, o + ((k : Int) * 3 + (j : Int) + 3).toNat, none⟩ = some (.int .i64 (ia l (k * 3 + j + 3))) ∧ W.cell? ⟨b, o + ((k : Int) * 3 + (j : Int) + 3 + 1).toNat, none⟩ = some (.int .i64 (ia l (k * 3 + j + 3 + 1))) from fun W h => ⟨by have := HC.out W h (k * 3 + j) (by omega); rwa [show o + (k * 3 + j) = o + ((k : Int) * 3 + (j : Int)).toNat by omega] at this, by have := HC.out W h (k * 3 + j + 1) (by omega); rwa [show o + (k * 3 + j + 1) = o + ((k : Int) * 3 + (j : Int) + 1).toNat by omega] at this, by have := HC.out W h (k * 3 + j + 3) (by omega); rwa [show o + (k * 3 + j + 3) = o + ((k : Int) * 3 + (j : Int) + 3).toNat by omega] at this, by have := HC.out W h (k * 3 + j + 3 + 1) (by omega); rwa [show o + (k * 3 + j + 3 + 1) = o + ((k : Int) * 3 + (j : Int) + 3 + 1).toNat by omega] at this⟩)
          have p1 : IntKind.i64.wrap ((k : Int) * 3 + (j : Int) + 1) = (k : Int) * 3 + (j : Int) + 1 := by rw [IntKind.wrap_i64]; omega
          have p2 : IntKind.i64.wrap ((k : Int) * 3 + (j : Int) + 3) = (k : Int) * 3 + (j : Int) + 3 := by rw [IntKind.wrap_i64]; omega
          have p3 : IntKind.i64.wrap ((k : Int) * 3 + (j : Int) + 3 + 1) = (k : Int) * 3 + (j : Int) + 3 + 1 := by rw [IntKind.wrap_i64]; omega
          have b0 : 0 ≤ (k : Int) * 3 + (j : Int) := by omega
          have b1 : (k : Int) * 3 + (j : Int) < 9 := by omega
          have b2 : 0 ≤ (k : Int) * 3 + (j : Int) + 1 := by omega
          have b3 : (k : Int) * 3 + (j : Int) + 1 < 9 := by omega
          have b4 : 0 ≤ (k : Int) * 3 + (j : Int) + 3 := by omega
          have b5 : (k : Int) * 3 + (j : Int) + 3 < 9 := by omega
          have b6 : 0 ≤ (k : Int) * 3 + (j : Int) + 3 + 1 := by omega
          have b7 : (k : Int) * 3 + (j : Int) + 3 + 1 < 9 := by omega
          have hjt' : (j : Int) < 2 := by omega
          generalize ia l (k * 3 + j) = y0 at *
          generalize ia l (k * 3 + j + 1) = y1 at *
          generalize ia l (k * 3 + j + 3) = y2 at *
          generalize ia l (k * 3 + j + 3 + 1) = y3 at *
          have hb2 := (Below.refl wr.drew.heap.size wr.drew).alloc (Nat.le_refl _) (.cells #[.int .i64 y0, .int .i64 y1, .int .i64 y2, .int .i64 y3] 96)
          have HO2 := hid (HO1.out.below hb2)
          have HB2 := hid (HB1.out.trans (hb2.mono HB1.out.size))
          clear hb1 hb2 HO HB HO1
          go_wp2_with fail
          go_region_held3 (fun W => W.cell? ⟨b, o + ((k : Int) * 3 + (j : Int)).toNat, none⟩ = some (.int .i64 y0) ∧ W.cell? ⟨b, o + ((k : Int) * 3 + (j : Int) + 1).toNat, none⟩ = some (.int .i64 y1) ∧ W.cell? ⟨b, o + ((k : Int) * 3 + (j : Int) + 3).toNat, none⟩ = some (.int .i64 y2) ∧ W.cell? ⟨b, o + ((k : Int) * 3 + (j : Int) + 3 + 1).toNat, none⟩ = some (.int .i64 y3))
            (first | with_reducible exact HSS.out _ HB9.out | with_reducible exact HSS.out _ HB2.out | with_reducible exact HSS.out _ HB1.out | exact HSS.out _ HB1.out | exact HSS.out _ HB2.out)
            ((refine step_appF rfl (.tmp 24) (.tmp 48) rfl w.heap.size _ L [y0, y1, y2, y3] wr.drew.heap.size (by simp [Act.eval, Act.put]) HO2.out (by simp [Act.eval, Act.put]) (heap_alloc_new wr.drew _) HLE.out HB2.out.size ?_; intro v9 w9 hO9 hG9; have HB9 := hid (HB2.out.grown hG9 HB2.out.size (fun k e => (HO2.out.lt k e).1))))
          clear p1 p2 p3 b0 b1 b2 b3 b4 b5 b6 b7
          go_wp2_with fail
          go_roundw
          case rel => exact ⟨j + 1, by omega, by go_num, by rw [show k * 2 + (j + 1) = k * 2 + j + 1 by omega, HT.out, HS.out]; exact hO9, HB9.out⟩
          case measure => simp [intOf]; omega
        · obtain rfl : j = 2 := by omega
          go_wp2
          go_roundw
          case rel => exact ⟨k + 1, by omega, by go_num, by rw [show (k + 1) * 2 = k * 2 + 2 by omega]; exact HO.out, HB.out⟩
          case measure => simp [intOf]; omega
    · obtain rfl : k = 2 := by omega
      go_wp2
      go_ret
      exact ⟨_, rfl, HO.out, HB.out⟩

set_option maxHeartbeats 8000000 in
set_option maxRecDepth 100000 in
theorem c_two4 (b o ca : Nat) (l : List Int) (hl : l.length = 16) (w : World) (h : ISeg w (some ⟨b, o, none⟩) l) :
    Calls Tryz.prog 76 #[.slice (some ⟨b, o, none⟩) 16 ca, .int .i64 4] w fun e w' => ∃ v, e = .returned v ∧ OwnF w' w.heap.size v ((List.range 9).map (sqW 3 4 l)) ∧ Below w.heap.size w w' := by
  have HC : Hid (∀ (W : World), Below w.heap.size w W → ∀ i, i < 16 → W.cell? ⟨b, o + i, none⟩ = some (.int .i64 (ia l i))) := by
    intro W hB i hi
    obtain ⟨b', o', e, hlt, hc⟩ := h i (by omega)
    simp only [Option.some.injEq, Addr.mk.injEq, and_true] at e
    obtain ⟨rfl, rfl⟩ := e
    exact (hB.cell (p := ⟨b, o + i, none⟩) hlt).trans hc
  clear h
  go_enter Tryz.func76, Tryz.ntmps76
  go_wp2
  go_loopw [5, 11] (fun ov iv wr => ∃ k : Nat, k ≤ 3 ∧ iv = .int .i64 k ∧ Hid (OwnF wr w.heap.size ov ((List.range (k * 3)).map (sqW 3 4 l))) ∧ Hid (Below w.heap.size w wr)) (fun _ iv _ => 3 - (intOf iv).toNat)
  case atStart => exact ⟨0, Nat.zero_le _, rfl, OwnF.nil w w.heap.size, Below.refl _ _⟩
  case round =>
    obtain ⟨k, hk, rfl, HO, HB⟩ := hrel
    by_cases hlt : k < 3
    · have hlt' : (k : Int) < 3 := by omega
      go_wp2
      go_loopw [5, 16] (fun ov iv wr => ∃ j : Nat, j ≤ 3 ∧ iv = .int .i64 j ∧ Hid (OwnF wr w.heap.size ov ((List.range (k * 3 + j)).map (sqW 3 4 l))) ∧ Hid (Below w.heap.size w wr)) (fun _ iv _ => 3 - (intOf iv).toNat)
      case atStart => exact ⟨0, Nat.zero_le _, rfl, HO.out, HB.out⟩
      case round =>
        clear HO HB
        obtain ⟨j, hj, rfl, HO, HB⟩ := hrel
        by_cases hjt : j < 3
        · have HT := hid (take_sq (d := 3) (wd := 4) l (k * 3 + j))
          have HLE : Hid (((List.range (k * 3 + j)).map (sqW 3 4 l)).length ≤ 1000) := by simp [Hid]; omega
          generalize (List.range (k * 3 + j)).map (sqW 3 4 l) = L at *
          have HS := hid (show sqW 3 4 l (k * 3 + j) = [ia l (k * 4 + j), ia l (k * 4 + j + 1), ia l (k * 4 + j + 4), ia l (k * 4 + j + 4 + 1)] by unfold sqW; rw [show (k * 3 + j) / 3 = k by omega, show (k * 3 + j) % 3 = j by omega])
          have hb1 := (Below.refl wr.heap.size wr).drew
          have HO1 := hid (HO.out.below hb1)
          have HB1 := hid (HB.out.trans (hb1.mono HB.out.size))
          have HSS := hid (show ∀ W : World, Below w.heap.size w W → W.cell? ⟨b, o + ((k : Int) * 4 + (j : Int)).toNat, none⟩ = some (.int .i64 (ia l (k * 4 + j))) ∧ W.cell? ⟨b, o + ((k : Int) * 4 + (j : Int) + 1).toNat, none⟩ = some (.int .i64 (ia l (k * 4 + j + 1))) ∧ W.cell? ⟨b, o + ((k : Int) * 4 + (j : Int) + 4).toNat, none⟩ = some (.int .i64 (ia l (k * 4 + j + 4))) ∧ W.cell? ⟨b, o + ((k : Int) * 4 + (j : Int) + 4 + 1).toNat, none⟩ = some (.int .i64 (ia l (k * 4 + j + 4 + 1))) from fun W h => ⟨by have := HC.out W h (k * 4 + j) (by omega); rwa [show o + (k * 4 + j) = o + ((k : Int) * 4 + (j : Int)).toNat by omega] at this, by have := HC.out W h (k * 4 + j + 1) (by omega); rwa [show o + (k * 4 + j + 1) = o + ((k : Int) * 4 + (j : Int) + 1).toNat by omega] at this, by have := HC.out W h (k * 4 + j + 4) (by omega); rwa [show o + (k * 4 + j + 4) = o + ((k : Int) * 4 + (j : Int) + 4).toNat by omega] at this, by have := HC.out W h (k * 4 + j + 4 + 1) (by omega); rwa [show o + (k * 4 + j + 4 + 1) = o + ((k : Int) * 4 + (j : Int) + 4 + 1).toNat by omega] at this⟩)
          have p1 : IntKind.i64.wrap ((k : Int) * 4 + (j : Int) + 1) = (k : Int) * 4 + (j : Int) + 1 := by rw [IntKind.wrap_i64]; omega
          have p2 : IntKind.i64.wrap ((k : Int) * 4 + (j : Int) + 4) = (k : Int) * 4 + (j : Int) + 4 := by rw [IntKind.wrap_i64]; omega
          have p3 : IntKind.i64.wrap ((k : Int) * 4 + (j : Int) + 4 + 1) = (k : Int) * 4 + (j : Int) + 4 + 1 := by rw [IntKind.wrap_i64]; omega
          have b0 : 0 ≤ (k : Int) * 4 + (j : Int) := by omega
          have b1 : (k : Int) * 4 + (j : Int) < 16 := by omega
          have b2 : 0 ≤ (k : Int) * 4 + (j : Int) + 1 := by omega
          have b3 : (k : Int) * 4 + (j : Int) + 1 < 16 := by omega
          have b4 : 0 ≤ (k : Int) * 4 + (j : Int) + 4 := by omega
          have b5 : (k : Int) * 4 + (j : Int) + 4 < 16 := by omega
          have b6 : 0 ≤ (k : Int) * 4 + (j : Int) + 4 + 1 := by omega
          have b7 : (k : Int) * 4 + (j : Int) + 4 + 1 < 16 := by omega
          have hjt' : (j : Int) < 3 := by omega
          generalize ia l (k * 4 + j) = y0 at *
          generalize ia l (k * 4 + j + 1) = y1 at *
          generalize ia l (k * 4 + j + 4) = y2 at *
          generalize ia l (k * 4 + j + 4 + 1) = y3 at *
          have hb2 := (Below.refl wr.drew.heap.size wr.drew).alloc (Nat.le_refl _) (.cells #[.int .i64 y0, .int .i64 y1, .int .i64 y2, .int .i64 y3] 96)
          have HO2 := hid (HO1.out.below hb2)
          have HB2 := hid (HB1.out.trans (hb2.mono HB1.out.size))
          clear hb1 hb2 HO HB HO1
          go_wp2_with fail
          go_region_held3 (fun W => W.cell? ⟨b, o + ((k : Int) * 4 + (j : Int)).toNat, none⟩ = some (.int .i64 y0) ∧ W.cell? ⟨b, o + ((k : Int) * 4 + (j : Int) + 1).toNat, none⟩ = some (.int .i64 y1) ∧ W.cell? ⟨b, o + ((k : Int) * 4 + (j : Int) + 4).toNat, none⟩ = some (.int .i64 y2) ∧ W.cell? ⟨b, o + ((k : Int) * 4 + (j : Int) + 4 + 1).toNat, none⟩ = some (.int .i64 y3))
            (first | with_reducible exact HSS.out _ HB9.out | with_reducible exact HSS.out _ HB2.out | with_reducible exact HSS.out _ HB1.out | exact HSS.out _ HB1.out | exact HSS.out _ HB2.out)
            ((refine step_appF rfl (.tmp 24) (.tmp 48) rfl w.heap.size _ L [y0, y1, y2, y3] wr.drew.heap.size (by simp [Act.eval, Act.put]) HO2.out (by simp [Act.eval, Act.put]) (heap_alloc_new wr.drew _) HLE.out HB2.out.size ?_; intro v9 w9 hO9 hG9; have HB9 := hid (HB2.out.grown hG9 HB2.out.size (fun k e => (HO2.out.lt k e).1))))
          clear p1 p2 p3 b0 b1 b2 b3 b4 b5 b6 b7
          go_wp2_with fail
          go_roundw
          case rel => exact ⟨j + 1, by omega, by go_num, by rw [show k * 3 + (j + 1) = k * 3 + j + 1 by omega, HT.out, HS.out]; exact hO9, HB9.out⟩
          case measure => simp [intOf]; omega
        · obtain rfl : j = 3 := by omega
          go_wp2
          go_roundw
          case rel => exact ⟨k + 1, by omega, by go_num, by rw [show (k + 1) * 3 = k * 3 + 3 by omega]; exact HO.out, HB.out⟩
          case measure => simp [intOf]; omega
    · obtain rfl : k = 3 := by omega
      go_wp2
      go_ret
      exact ⟨_, rfl, HO.out, HB.out⟩

end Go.Proofs.YtokemdbgcegjiaaGreat

namespace Go.Proofs.YtokemdbgcegjiaaGreat
open Go.RowKit Go.Maps
set_option linter.unusedVariables false
set_option linter.unusedSimpArgs false
attribute [local go_sem ↓] Go.wp_at_zero Go.wp_at_succ

set_option maxHeartbeats 4000000 in
set_option maxRecDepth 100000 in
theorem c_canJoinEach (sa : Option Addr) (n sca : Nat) (sq : Nat → List Int) (w : World) {base p g cap mb : Nat} {G : List Qd} (h : Grv w base p g cap mb G) (hs : FSq w sa n sq) (hn : n ≤ 1000) (hG : G.length ≤ 1048576) :
    Calls Tryz.prog 80 #[.pointer (some ⟨p, 0, none⟩), .slice sa n sca] w fun e w' => e = .returned (.bool (allB (fun i => canJ G (sq i)) n)) ∧ Below w.heap.size w w' := by
  have HG := hid h
  have HS := hid hs
  clear h hs
  go_enter Tryz.func80, Tryz.ntmps80
  go_wp2
  go_loopw [9] (fun i wr => ∃ k : Nat, k ≤ n ∧ i = .int .i64 k ∧ Hid (allB (fun i => canJ G (sq i)) k = true) ∧ Hid (Below w.heap.size w wr)) (fun i _ => n - (intOf i).toNat)
  case atStart => exact ⟨0, Nat.zero_le _, rfl, (rfl : _ = _), Below.refl _ _⟩
  case round =>
    obtain ⟨k, hk, rfl, HT, HB⟩ := hrel
    by_cases hlt : k < n
    · have hlt' : (k : Int) < (n : Int) := by omega
      have HX := hid (Box4.new wr (sq k) 96)
      have HQ := hid ((HS.out.below HB.out).below HX.out.2.2)
      obtain ⟨b, cur, rfl, hb, hc⟩ := (HS.out.below HB.out) k hlt
      have z0 := hc 0 (by omega)
      have z1 := hc 1 (by omega)
      have z2 := hc 2 (by omega)
      have z3 := hc 3 (by omega)
      rw [Nat.add_zero] at z0
      have HGX := hid ((HG.out.below HB.out).below HX.out.2.2)
      have HBX := hid (HB.out.trans (HX.out.2.2.mono HB.out.size))
      have x0 := HX.out.1 0 (by omega)
      have x1 := HX.out.1 1 (by omega)
      have x2 := HX.out.1 2 (by omega)
      have x3 := HX.out.1 3 (by omega)
      have HSU := hid (allB_succ (fun i => canJ G (sq i)) k)
      have HNO := hid (fun h => allB_false (p := fun i => canJ G (sq i)) hlt h)
      cases hcan : canJ G (sq k)
      · have HC := hid (c_canJoin' (sq k) false hcan _ HGX.out hG)
        have HV := hid (HNO.out hcan)
        unfold kv at HC
        clear hcan hc hb HSU HNO
        go_wp2_with fail
        refine HC.out.mono ?_
        rintro e w5 ⟨rfl, hb5⟩
        go_wp2_with fail
        go_ret
        exact ⟨ret_bool HV.out.symm, HBX.out.trans (hb5.mono HBX.out.size)⟩
      · have HC := hid (c_canJoin' (sq k) true hcan _ HGX.out hG)
        have HV := hid (show allB (fun i => canJ G (sq i)) (k + 1) = true by rw [HSU.out, HT.out, hcan]; rfl)
        unfold kv at HC
        clear hcan hc hb HSU HNO
        go_wp2_with fail
        refine HC.out.mono ?_
        rintro e w5 ⟨rfl, hb5⟩
        have HB5 := hid (HBX.out.trans (hb5.mono HBX.out.size))
        clear hb5
        go_wp2_with fail
        go_roundw
        case rel => exact ⟨k + 1, by omega, by go_num, HV.out, HB5.out⟩
        case measure => simp [intOf]; omega
    · obtain rfl : k = n := by omega
      go_wp2
      go_ret
      exact ⟨ret_bool HT.out.symm, HB.out⟩

/-- So many noughts. -/
theorem zeros_row (w : World) (n : Nat) : (w.alloc (.cells (madeCells #[.int .i64 0] n) 3)).rowIs w.heap.size 3 n (fun _ => .int .i64 0) := World.rowIs_made w (.int .i64 0) n 3
theorem run_makeInts (n : Nat) (hn : n ≤ 1000) (w : World) :
    (Instr.makeSlice 46 (.int .i64 (n : Int)) (.int .i64 (n : Int))).run Tryz.prog w = .ok (.slice (some ⟨w.heap.size, 0, none⟩) n n) (w.alloc (.cells (madeCells #[.int .i64 0] n) 3)) := by
  obtain ⟨i, hi, hz, hs, hb⟩ := info_parts info_int
  have := run_make (P := Tryz.prog) w 46 3 i _ Tryz.underlying46 hi hz .i64 .i64 n n (by omega) (Int.le_refl _) (by rw [hb]; omega) (by omega)
  simpa [hs, Value.cells] using this
/-- A number is written into a row of them: a grove is as it was. -/
theorem Grv.setInts {w : World} {base p g cap mb : Nat} {G : List Qd} (h : Grv w base p g cap mb G) {B n : Nat} {f : Nat → Value} (hr : w.rowIs B 3 n f) (k : Nat) (v : Int) : Grv (w.setCell ⟨B, k, none⟩ (.int .i64 v)) base p g cap mb G := by
  have np : p ≠ B := by
    intro e
    subst e
    obtain ⟨c, hc, _⟩ := hr
    obtain ⟨d, hd, _⟩ := h.box
    rw [hc] at hd
    simp at hd
  have ng : g ≠ B := by
    intro e
    subst e
    exact own_row_ne h.own hr (by decide) rfl
  have nm : mb ≠ B := by
    intro e
    subst e
    obtain ⟨c, hc, _⟩ := hr
    obtain ⟨D, ⟨es, clock, hd, _⟩, _⟩ := h.map
    rw [hc] at hd
    simp at hd
  refine ⟨h.lowp, h.lowm, h.box.setOther (by dsimp only; omega) _, ownsRow_setCell_other h.own (by simp [Value.ownBlock]; omega) _, ?_, h.pm, h.pg, h.mg⟩
  obtain ⟨D, ⟨es, clock, hb, r⟩, hd⟩ := h.map
  refine ⟨D, ⟨es, clock, ?_, r⟩, hd⟩
  rw [Below.heap_setCell _ _ _ _ (by dsimp only; omega)]
  exact hb
theorem FSq.setInts {w : World} {a : Option Addr} {n : Nat} {sq : Nat → List Int} (h : FSq w a n sq) {B m : Nat} {f : Nat → Value} (hr : w.rowIs B 3 m f) (k : Nat) (v : Value) : FSq (w.setCell ⟨B, k, none⟩ v) a n sq := by
  intro i hi
  obtain ⟨b, cur, e, hb, hc⟩ := h i hi
  have hne : b ≠ B := by
    rintro rfl
    obtain ⟨c, hc, _⟩ := hr
    rw [hb] at hc
    simp at hc
  have hh := Below.heap_setCell w ⟨B, k, none⟩ v b hne
  exact ⟨b, cur, e, hh.trans hb, fun j hj => (World.cell?_of_block (a := ⟨b, i * 4 + j, none⟩) hh).trans (hc j hj)⟩

set_option maxHeartbeats 4000000 in
set_option maxRecDepth 100000 in
theorem c_joinEach (sa : Option Addr) (n sca : Nat) (sq : Nat → List Int) (w : World) {base p g cap mb : Nat} {G : List Qd} {lv : Int} (h : Grv w base p g cap mb G) (hs : FSq w sa n sq) (hn : n ≤ 1000) (hlen : G.length ≤ 90000) (hl : ∀ i, i < n → (sq i).length = 4) (hk : ∀ i, i < n → ∀ j, j < 4 → 0 ≤ ia (sq i) j ∧ ia (sq i) j < (G.length : Int)) (hf : ∀ k, k ≤ n → JTo G lv k (jTo G sq k)) :
    Calls Tryz.prog 75 #[.pointer (some ⟨p, 0, none⟩), .slice sa n sca] w fun e w' => ∃ B g' cap', e = .returned (.slice (some ⟨B, 0, none⟩) n n) ∧ Grv w' base p g' cap' mb (jTo G sq n).1 ∧ IRow w' B (jTo G sq n).2 ∧ w.heap.size ≤ B ∧ Below base w w' ∧ RowsKept w w' := by
  have HF := hid hf
  have HL4 := hid hl
  have HKK := hid hk
  have ba := (Below.refl w.heap.size w).alloc (Nat.le_refl _) (.cells (madeCells #[.int .i64 0] n) 3)
  have HG1 := hid (h.below ba)
  have HS1 := hid (hs.below ba)
  have HR1 := hid (zeros_row w n)
  have HRK1 := hid (RowsKept.of_below ba)
  have hbs : base ≤ w.heap.size := Nat.le_trans h.lowp (Nat.le_of_lt h.box.lt)
  have HB1 := hid (ba.mono hbs)
  have hmm := run_makeInts n hn
  clear h hs hf hl hk ba
  go_enter Tryz.func75, Tryz.ntmps75
  go_wp2
  generalize w.alloc (.cells (madeCells #[.int .i64 0] n) 3) = W1 at *
  go_loopw [13] (fun i wr => ∃ (k g cap : Nat), k ≤ n ∧ i = .int .i64 k ∧ Hid (Grv wr base p g cap mb (jTo G sq k).1) ∧ Hid (wr.rowIs w.heap.size 3 n (fun j => .int .i64 (if j < k then ia (jTo G sq k).2 j else 0))) ∧ Hid (FSq wr sa n sq) ∧ Hid (Below base w wr) ∧ Hid (RowsKept w wr)) (fun i _ => n - (intOf i).toNat)
  case atStart => exact ⟨0, g, cap, Nat.zero_le _, rfl, HG1.out, HR1.out.congr fun j hj => by simp, HS1.out, HB1.out, HRK1.out⟩
  case round =>
    obtain ⟨k, g, cap, hk, rfl, HG, HR, HS, HB, HRK⟩ := hrel
    by_cases hlt : k < n
    · have hlt' : (k : Int) < (n : Int) := by omega
      have HX := hid (Box4.new wr (sq k) 96)
      obtain ⟨b, cur, rfl, hb, hc⟩ := HS.out k hlt
      have z0 := hc 0 (by omega)
      have z1 := hc 1 (by omega)
      have z2 := hc 2 (by omega)
      have z3 := hc 3 (by omega)
      rw [Nat.add_zero] at z0
      have hfk := HF.out k (by omega)
      have HFK := hid hfk
      have HGX := hid (HG.out.below HX.out.2.2)
      have HSX := hid (HS.out.below HX.out.2.2)
      have HRX := hid (HR.out.of_block (HX.out.2.2.block _ HR.out.lt))
      have hbw : base ≤ wr.heap.size := Nat.le_trans HG.out.lowp (Nat.le_of_lt HG.out.box.lt)
      have HBX := hid (HB.out.trans (HX.out.2.2.mono hbw))
      have HRKX := hid (HRK.out.trans (RowsKept.of_below HX.out.2.2))
      have x0 := HX.out.1 0 (by omega)
      have x1 := HX.out.1 1 (by omega)
      have x2 := HX.out.1 2 (by omega)
      have x3 := HX.out.1 3 (by omega)
      have hmo := hfk.more
      have hms := hfk.most
      have HJ := hid (c_ijoin (sq k) (HL4.out k hlt) _ HGX.out hfk.grows (by omega) (fun j hj => by have := HKK.out k hlt j hj; omega))
      unfold kv at HJ
      have HAT := hid (fun j => jTo_at G sq (k := k) (j := j) hfk.len)
      have HJT := hid (show (jTo G sq (k + 1)).1 = (joinF (jTo G sq k).1 (sq k)).1 from rfl)
      clear hc hb hfk HG HS HR HB HRK hmo hms
      go_wp2_with fail
      refine HJ.out.mono ?_
      rintro e w5 ⟨g5, cap5, rfl, hG5, hB5, hR5⟩
      have HG5 := hid hG5
      have HS5 := hid (HSX.out.rows hR5)
      have hr5 := hR5 _ _ _ _ (by decide) (fun e => absurd e (by decide)) HRX.out
      have f5 := World.rowIs.frozen hr5 k
      have c5 := World.rowIs.cell hr5 hlt
      have HR5 := hid hr5
      have HB5 := hid (HBX.out.trans hB5)
      have HK5 := hid (HRKX.out.trans hR5)
      clear hG5 hB5 hR5 hr5 HJ HGX HSX HRX HBX HRKX HX x0 x1 x2 x3
      go_wp2_with fail
      have HRS := hid (World.rowIs.set HR5.out k (.int .i64 ((joinF (jTo G sq k).1 (sq k)).2 : Int)))
      go_roundw
      case rel =>
        refine ⟨k + 1, g5, cap5, by omega, by go_num, ?_, HRS.out.congr fun j hj => ?_, ?_, HB5.out.setCell (p := ⟨w.heap.size, k, none⟩) hbs _, ?_⟩
        · rw [HJT.out]
          exact HG5.out.setInts HR5.out k _
        · have := HAT.out j
          rw [← this]
          by_cases e : j = k
          · subst e; simp
          · simp [e]
        · exact FSq.setInts HS5.out HR5.out k _
        · exact rows_set HK5.out (Nat.le_refl _) k _
      case measure => simp [intOf]; omega
    · obtain rfl : k = n := by omega
      have hle := (HF.out k (Nat.le_refl _)).len
      go_wp2
      go_ret
      refine ⟨w.heap.size, g, cap, rfl, HG.out, ?_, Nat.le_refl _, HB.out, HRK.out⟩
      unfold IRow
      rw [hle]
      exact HR.out.congr fun j hj => by rw [if_pos hj]

/-- Numbers that are told: none, where the forest has outgrown. -/
def toldN (G : List Qd) (v : Value) : Value := if tellB G then v else .slice none 0 0
set_option maxHeartbeats 2000000 in
theorem c_toldAll (na : Option Addr) (n nca : Nat) (w : World) {base p g cap mb : Nat} {G : List Qd} (h : Grv w base p g cap mb G) (hG : Grows G) (hlen : G.length ≤ 100000) :
    Calls Tryz.prog 74 #[.pointer (some ⟨p, 0, none⟩), .slice na n nca] w fun e w' => ∃ u, e = .returned (.tuple #[.agg #[u], toldN G (.slice na n nca), .bool (tellB G)]) ∧ FOwn w' w.heap.size w'.heap.size u (tellF G) ∧ Below w.heap.size w w' := by
  have hb1 := (Below.refl w.heap.size w).alloc (Nat.le_refl _) (.cells #[.slice none 0 0] 25)
  have R1 := hid (one_row (heap_alloc_new w (.cells #[.slice none 0 0] 25)))
  have H1 := hid (h.below hb1)
  have HB1 := hid hb1
  have hsz : (w.alloc (.cells #[.slice none 0 0] 25)).heap.size = w.heap.size + 1 := by simp
  have HSZ := hid hsz
  have HC := hid (c_told 0 _ H1.out hG hlen)
  clear hb1 h hsz
  go_enter Tryz.func74, Tryz.ntmps74
  go_wp2_with fail
  refine HC.out.mono ?_
  rintro e w1 ⟨u1, rfl, hO, hB⟩
  rw [HSZ.out] at hO
  have HO := hid hO
  obtain ⟨ua, uc, rfl, _⟩ := hO.form
  have ba := (Below.refl w1.heap.size w1).alloc (Nat.le_refl _) (.cells #[.slice ua (tellF G).length uc] 25)
  have BT := hid ((HB1.out.trans (hB.mono HB1.out.size)).trans (ba.mono (Nat.le_trans HB1.out.size hB.size)))
  have HO2 := hid (HO.out.below ba)
  have R2 := hid ((R1.out.of_block (hB.block _ (by rw [HSZ.out]; omega))).of_block (ba.block _ (by have := hB.size; rw [HSZ.out] at this; omega)))
  have r0 := R2.out.cell (i := 0) (by omega)
  have f0 := R2.out.frozen 0
  have y1 : (w1.alloc (.cells #[.slice ua (tellF G).length uc] 25)).cell? ⟨w1.heap.size, 0, none⟩ = some (.slice ua (tellF G).length uc) := by unfold World.cell?; rw [heap_alloc_new]; rfl
  have HS1 := hid (show w.heap.size + 1 ≤ w1.heap.size by have := hB.size; rw [HSZ.out] at this; exact this)
  have HS2 := hid (show (w1.alloc (.cells #[.slice ua (tellF G).length uc] 25)).heap.size = w1.heap.size + 1 by simp)
  clear hO HO hB ba HC
  cases htb : tellB G
  · have HV := hid (show tellF G = [] by have : ¬ G.length ≤ 400 := by simpa [tellB] using htb
                                         simp [tellF, this])
    have E0 := hid ((R2.out.set 0 (.slice none 0 0)).cell (i := 0) (by omega))
    simp only [if_true] at E0
    have HB := hid (BT.out.setCell (p := ⟨w.heap.size, 0, none⟩) (Nat.le_refl _) (.slice none 0 0))
    go_wp2_with fail
    exact bodyPost_ret (v := .tuple #[.agg #[.slice none 0 0], .slice none 0 0, .bool false]) (by simp [results, Tryz.results74, go_sem, E0.out]) rfl ⟨.slice none 0 0, by simp [toldN, htb], by rw [HV.out]; exact .inl ⟨rfl, rfl⟩, HB.out⟩
  · have E0 := hid ((R2.out.set 0 (.slice ua (tellF G).length uc)).cell (i := 0) (by omega))
    simp only [if_true] at E0
    have HB := hid (BT.out.setCell (p := ⟨w.heap.size, 0, none⟩) (Nat.le_refl _) (.slice ua (tellF G).length uc))
    have hGW : Grew (w1.alloc (.cells #[.slice ua (tellF G).length uc] 25)) ((w1.alloc (.cells #[.slice ua (tellF G).length uc] 25)).setCell ⟨w.heap.size, 0, none⟩ (.slice ua (tellF G).length uc)) w.heap.size (w.heap.size + 1) := (Grew.refl _ _ _).set (Nat.le_refl _) (by omega) _
    have hsz : ((w1.alloc (.cells #[.slice ua (tellF G).length uc] 25)).setCell ⟨w.heap.size, 0, none⟩ (.slice ua (tellF G).length uc)).heap.size = w1.heap.size + 1 := by simp
    have HO3 := hid ((HO2.out.kept hGW (by omega)).wide (lo' := w.heap.size) (hi' := w1.heap.size + 1) (by omega) (by omega) (by rw [hsz]; exact Nat.le_refl _))
    have HSF := hid hsz
    clear hGW hsz HO2
    go_wp2_with fail
    exact bodyPost_ret (v := .tuple #[.agg #[.slice ua (tellF G).length uc], .slice na n nca, .bool true]) (by simp [results, Tryz.results74, go_sem, E0.out]) rfl ⟨.slice ua (tellF G).length uc, by simp [toldN, htb], by rw [HSF.out]; exact HO3.out, HB.out⟩

end Go.Proofs.YtokemdbgcegjiaaGreat
