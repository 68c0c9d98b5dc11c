/- Texts of this seat, one behind the other: TurnP, ClsP, BitW, Ints. -/
import Derived.Test.YtgfdkolhldbehaaLc
import Derived.Test.YtgfdkolhldbehaaLe
import Derived.Laws.Bits64b
import Derived.Test.YtgfdkolhldbehaaLb
import Derived.Test.YtgfdkolhldbehaaLa
import Derived.Maps.AppendAt
import Derived.Laws.AppendOwnNone
namespace Go.Proofs.Ytgfdkolhldbehaa
open Go.RowKit
set_option linter.unusedVariables false
set_option linter.unusedSimpArgs false

def mir (c : Cl) : Cl := (-c.1, c.2)
def qt (c : Cl) : Cl := (-c.2, c.1)
def qts : Nat → Cl → Cl
  | 0, c => c
  | n + 1, c => qts n (qt c)
theorem qts_succ : ∀ (n : Nat) (c : Cl), qts (n + 1) c = qt (qts n c)
  | 0, c => rfl
  | n + 1, c => by
    rw [qts, qts_succ n (qt c)]; rfl
/-- A cell, turned in a way. -/
def trn (w : Nat) (c : Cl) : Cl := qts (w % 4) (if 3 < w then mir c else c)
theorem trn_0 (c : Cl) : trn 0 c = c := rfl
theorem trn_1 (c : Cl) : trn 1 c = (-c.2, c.1) := rfl
theorem trn_2 (c : Cl) : trn 2 c = (-c.1, -c.2) := rfl
theorem trn_3 (c : Cl) : trn 3 c = (- -c.2, -c.1) := rfl
theorem trn_4 (c : Cl) : trn 4 c = (-c.1, c.2) := rfl
theorem trn_5 (c : Cl) : trn 5 c = (-c.2, -c.1) := rfl
theorem trn_6 (c : Cl) : trn 6 c = (- -c.1, -c.2) := rfl
theorem trn_7 (c : Cl) : trn 7 c = (- -c.2, - -c.1) := rfl
theorem way_cases {P : Nat → Prop} (h0 : P 0) (h1 : P 1) (h2 : P 2) (h3 : P 3) (h4 : P 4) (h5 : P 5) (h6 : P 6) (h7 : P 7) : ∀ w, w < 8 → P w := by
  intro w hw
  rcases (show w = 0 ∨ w = 1 ∨ w = 2 ∨ w = 3 ∨ w = 4 ∨ w = 5 ∨ w = 6 ∨ w = 7 by omega) with rfl | rfl | rfl | rfl | rfl | rfl | rfl | rfl <;> assumption
/-- The first way that makes of the lopsided cell what is asked. -/
def firstW (c : Cl) : Nat := ((List.range 8).find? fun k => decide (trn k (1, 2) = c)).getD 8
/-- A way and then a way. -/
def thenW (a b : Nat) : Nat := firstW (trn b (trn a (1, 2)))
theorem thenW_lt : ∀ a, a < 8 → ∀ b, b < 8 → thenW a b < 8 ∧ trn (thenW a b) (1, 2) = trn b (trn a (1, 2)) ∧ trn (thenW a b) (3, 1) = trn b (trn a (3, 1)) := by decide
theorem lop_one : ∀ a, a < 8 → ∀ b, b < 8 → trn a (1, 2) = trn b (1, 2) → a = b := by decide
theorem firstW_trn : ∀ a, a < 8 → firstW (trn a (1, 2)) = a := by decide
/-- Two cells tell a way. -/
def lin (f : Cl → Cl) : Prop := ∃ p q r s : Int, ∀ c : Cl, f c = (p * c.1 + q * c.2, r * c.1 + s * c.2)
theorem lin_trn (w : Nat) (hw : w < 8) : lin (trn w) := by
  refine way_cases (P := fun w => lin (trn w)) ⟨1, 0, 0, 1, fun c => ?_⟩ ⟨0, -1, 1, 0, fun c => ?_⟩ ⟨-1, 0, 0, -1, fun c => ?_⟩ ⟨0, 1, -1, 0, fun c => ?_⟩ ⟨-1, 0, 0, 1, fun c => ?_⟩ ⟨0, -1, -1, 0, fun c => ?_⟩ ⟨1, 0, 0, -1, fun c => ?_⟩ ⟨0, 1, 1, 0, fun c => ?_⟩ w hw
  · rw [trn_0]; obtain ⟨x, y⟩ := c; simp only [Prod.mk.injEq]; omega
  · rw [trn_1, Prod.mk.injEq]; omega
  · rw [trn_2, Prod.mk.injEq]; omega
  · rw [trn_3, Prod.mk.injEq]; omega
  · rw [trn_4, Prod.mk.injEq]; omega
  · rw [trn_5, Prod.mk.injEq]; omega
  · rw [trn_6, Prod.mk.injEq]; omega
  · rw [trn_7, Prod.mk.injEq]; omega
theorem lin_comp {f g : Cl → Cl} (hf : lin f) (hg : lin g) : lin (fun c => g (f c)) := by
  obtain ⟨p, q, r, s, h⟩ := hf
  obtain ⟨P, Q, R, S, H⟩ := hg
  refine ⟨P * p + Q * r, P * q + Q * s, R * p + S * r, R * q + S * s, fun c => ?_⟩
  show g (f c) = _
  rw [H, h, Prod.mk.injEq]
  simp only [Int.mul_add, Int.add_mul, Int.mul_assoc]
  constructor <;> omega
theorem lin_eq {f g : Cl → Cl} (hf : lin f) (hg : lin g) (h1 : f (1, 2) = g (1, 2)) (h2 : f (3, 1) = g (3, 1)) (c : Cl) : f c = g c := by
  obtain ⟨p, q, r, s, h⟩ := hf
  obtain ⟨P, Q, R, S, H⟩ := hg
  rw [h, H, Prod.mk.injEq] at h1 h2
  simp only at h1 h2
  obtain ⟨a1, a2⟩ := h1
  obtain ⟨b1, b2⟩ := h2
  rw [h, H, show p = P by omega, show q = Q by omega, show r = R by omega, show s = S by omega]
/-- A way and then a way are one way, for all cells. -/
theorem trn_then (a : Nat) (ha : a < 8) (b : Nat) (hb : b < 8) (c : Cl) : trn (thenW a b) c = trn b (trn a c) := by
  obtain ⟨h1, h2, h3⟩ := thenW_lt a ha b hb
  exact lin_eq (lin_trn _ h1) (lin_comp (lin_trn a ha) (lin_trn b hb)) h2 h3 c
/-- The way that undoes a way. -/
def backW (a : Nat) : Nat := ((List.range 8).find? fun b => decide (thenW a b = 0)).getD 8
theorem backW_is : ∀ a, a < 8 → backW a < 8 ∧ thenW a (backW a) = 0 := by decide
theorem backW_least : ∀ a, a < 8 → ∀ b, b < backW a → thenW a b ≠ 0 := by decide
theorem trn_back {a : Nat} (ha : a < 8) (c : Cl) : trn (backW a) (trn a c) = c := by
  obtain ⟨h1, h2⟩ := backW_is a ha
  rw [← trn_then a ha _ h1, h2, trn_0]
theorem trn_inj {w : Nat} (hw : w < 8) {c d : Cl} (h : trn w c = trn w d) : c = d := by
  rw [← trn_back hw c, h, trn_back hw d]
/-- No cell is turned further off. -/
theorem trn_reach {w : Nat} (hw : w < 8) {c : Cl} {n : Int} (h : -n ≤ c.1 ∧ c.1 ≤ n ∧ -n ≤ c.2 ∧ c.2 ≤ n) : -n ≤ (trn w c).1 ∧ (trn w c).1 ≤ n ∧ -n ≤ (trn w c).2 ∧ (trn w c).2 ≤ n := by
  revert h
  refine way_cases (P := fun w => (-n ≤ c.1 ∧ c.1 ≤ n ∧ -n ≤ c.2 ∧ c.2 ≤ n) → -n ≤ (trn w c).1 ∧ (trn w c).1 ≤ n ∧ -n ≤ (trn w c).2 ∧ (trn w c).2 ≤ n) ?_ ?_ ?_ ?_ ?_ ?_ ?_ ?_ w hw
  all_goals
    simp only [trn_0, trn_1, trn_2, trn_3, trn_4, trn_5, trn_6, trn_7]
    omega

theorem ord_spec (L : List Cl) : risTo (ordL L) (ordL L).length = true ∧ ∀ c, c ∈ ordL L ↔ c ∈ L := by
  obtain ⟨l', h1, h2⟩ := ord_ex L
  rw [ordL_eq h1 h2]
  exact ⟨h1, h2⟩
/-- Cells turned, in order. -/
noncomputable def tuL (w : Nat) (l : List Cl) : List Cl := ordL (l.map (trn w))
theorem tu_mem {w : Nat} {l : List Cl} {c : Cl} : c ∈ tuL w l ↔ ∃ x ∈ l, trn w x = c := by
  rw [tuL, (ord_spec _).2, List.mem_map]
theorem tu_ris (w : Nat) (l : List Cl) : risTo (tuL w l) (tuL w l).length = true := (ord_spec _).1
theorem map_nodup {w : Nat} (hw : w < 8) {l : List Cl} (hn : l.Nodup) : (l.map (trn w)).Nodup := by
  rw [List.nodup_iff_pairwise_ne] at hn ⊢
  exact List.Pairwise.map _ (fun a b hab e => hab (trn_inj hw e)) hn
theorem tu_is {w : Nat} {l l' : List Cl} (h1 : risTo l' l'.length = true) (h2 : ∀ c, c ∈ l' ↔ c ∈ l.map (trn w)) : l' = tuL w l := (ordL_eq h1 h2).symm
theorem nodup_sub_len : ∀ {l m : List Cl}, l.Nodup → (∀ c ∈ l, c ∈ m) → l.length ≤ m.length
  | [], m, _, _ => Nat.zero_le _
  | x :: l, m, hn, hs => by
    obtain ⟨h1, h2⟩ := List.nodup_cons.1 hn
    have h3 := nodup_sub_len (l := l) (m := m.erase x) h2 (fun c hc => (List.mem_erase_of_ne (fun e => h1 (by rw [← e]; exact hc))).2 (hs c (List.mem_cons_of_mem _ hc)))
    have hx := hs x List.mem_cons_self
    rw [List.length_erase_of_mem hx] at h3
    have := List.length_pos_of_mem hx
    simp only [List.length_cons]
    omega
theorem tu_len {w : Nat} (hw : w < 8) {l : List Cl} (hn : l.Nodup) : (tuL w l).length = l.length := by
  have h1 := nodup_sub_len (ris_nodup (tu_ris w l)) (fun c hc => (ord_spec _).2 c |>.1 hc)
  have h2 := nodup_sub_len (map_nodup hw hn) (fun c hc => ((ord_spec _).2 c).2 hc)
  rw [List.length_map] at h1 h2
  exact Nat.le_antisymm h1 h2
theorem good_mkT {l : List Cl} (h1 : l.length ≤ 120) (h2 : ∀ c ∈ l, inR c = true) (h3 : risTo l l.length = true) : good l = true := by
  simp only [good, Bool.and_eq_true, decide_eq_true_eq]
  refine ⟨⟨h1, ?_⟩, h3⟩
  simp only [allTo, List.all_eq_true]
  intro i hi
  have hi' := List.mem_range.1 hi
  exact h2 _ (by simp [at_, hi'])
theorem good_memT {l : List Cl} (h : good l = true) {c : Cl} (hc : c ∈ l) : inR c = true := by
  obtain ⟨i, hi, e⟩ := List.getElem_of_mem hc
  have := good_in h i hi
  simpa [at_, hi, e] using this
theorem tu_good {w : Nat} (hw : w < 8) {l : List Cl} (hg : good l = true) : good (tuL w l) = true := by
  refine good_mkT (by rw [tu_len hw (ris_nodup (good_ris hg))]; exact good_len hg) (fun c hc => ?_) (tu_ris w l)
  obtain ⟨x, hx, rfl⟩ := tu_mem.1 hc
  have h := good_memT hg hx
  simp only [inR, Bool.and_eq_true, decide_eq_true_eq] at h ⊢
  have h2 := trn_reach hw (c := x) (n := 40) (by omega)
  omega
theorem tu_zero {l : List Cl} (hr : risTo l l.length = true) : tuL 0 l = l := by
  refine (tu_is hr (fun c => ?_)).symm
  rw [List.mem_map]
  exact ⟨fun h => ⟨c, h, rfl⟩, fun ⟨x, hx, e⟩ => by rw [trn_0] at e; rw [← e]; exact hx⟩
/-- A way and then a way, of cells. -/
theorem tu_then {a b : Nat} (ha : a < 8) (hb : b < 8) (l : List Cl) : tuL b (tuL a l) = tuL (thenW a b) l := by
  refine tu_is (tu_ris _ _) (fun c => ?_)
  rw [tu_mem, List.mem_map]
  constructor
  · rintro ⟨y, hy, rfl⟩
    obtain ⟨x, hx, rfl⟩ := tu_mem.1 hy
    exact ⟨x, hx, trn_then a ha b hb x⟩
  · rintro ⟨x, hx, rfl⟩
    exact ⟨trn a x, tu_mem.2 ⟨x, hx, rfl⟩, (trn_then a ha b hb x).symm⟩
/-- What TurnCells answers. -/
def inW (w : Int) : Bool := decide (0 ≤ w) && decide (w < 8)
theorem inW_bd {w : Int} (h : inW w = true) : 0 ≤ w ∧ w < 8 := by simpa [inW] using h
noncomputable def turnOk (l : List Cl) (w : Int) : Bool := good l && inW w
noncomputable def turnL (l : List Cl) (w : Int) : List Cl := if turnOk l w then tuL w.toNat l else []
theorem turnL_le (l : List Cl) (w : Int) : (turnL l w).length ≤ 120 := by
  unfold turnL; split
  · rename_i h
    simp only [turnOk, Bool.and_eq_true] at h
    exact good_len (tu_good (by have := inW_bd h.2; omega) h.1)
  · simp
end Go.Proofs.Ytgfdkolhldbehaa

namespace Go.Proofs.Ytgfdkolhldbehaa
set_option linter.unusedVariables false
set_option linter.unusedSimpArgs false

def bitN (n k : Nat) : Bool := decide (n / 2 ^ k % 2 = 1)
/-- The cells of a square, of the first k bits. -/
def sqTo (s n : Nat) : Nat → List Cl
  | 0 => []
  | k + 1 => sqTo s n k ++ (if bitN n k then [(((k % s : Nat) : Int), ((k / s : Nat) : Int))] else [])
theorem sqTo_len (s n : Nat) : ∀ k, (sqTo s n k).length ≤ k
  | 0 => Nat.le_refl _
  | k + 1 => by
    have := sqTo_len s n k
    rw [sqTo, List.length_append]
    split <;> simp <;> omega
theorem sqTo_in {s n : Nat} (hs : 0 < s) {c : Cl} : ∀ {k}, k ≤ s * s → c ∈ sqTo s n k → 0 ≤ c.1 ∧ c.1 < s ∧ 0 ≤ c.2 ∧ c.2 < s
  | 0, _, h => by simp [sqTo] at h
  | k + 1, hk, h => by
    rw [sqTo, List.mem_append] at h
    rcases h with h | h
    · exact sqTo_in hs (by omega) h
    · split at h
      · rw [List.mem_singleton] at h
        subst h
        have h1 := Nat.mod_lt k hs
        have h2 : k / s < s := (Nat.div_lt_iff_lt_mul hs).2 (by omega)
        generalize k % s = x at *
        generalize k / s = y at *
        simp only
        omega
      · simp at h
theorem sqTo_ris {s n : Nat} (hs : 0 < s) : ∀ k, (sqTo s n k).Pairwise (fun a b => a ≠ b) ∧ ∀ c ∈ sqTo s n k, ∃ j, j < k ∧ c = (((j % s : Nat) : Int), ((j / s : Nat) : Int))
  | 0 => ⟨List.Pairwise.nil, fun c h => by simp [sqTo] at h⟩
  | k + 1 => by
    obtain ⟨h1, h2⟩ := sqTo_ris (n := n) hs k
    refine ⟨?_, fun c hc => ?_⟩
    · rw [sqTo, List.pairwise_append]
      refine ⟨h1, ?_, fun a ha b hb => ?_⟩
      · split <;> simp
      · split at hb
        · rw [List.mem_singleton] at hb
          obtain ⟨j, hj, e⟩ := h2 a ha
          rw [hb, e]
          intro e2
          simp only [Prod.mk.injEq] at e2
          have e3 : j % s = k % s := by omega
          have e4 : j / s = k / s := by omega
          have a1 := Nat.div_add_mod j s
          have a2 := Nat.div_add_mod k s
          rw [e3, e4] at a1
          omega
        · simp at hb
    · rw [sqTo, List.mem_append] at hc
      rcases hc with hc | hc
      · obtain ⟨j, hj, e⟩ := h2 c hc
        exact ⟨j, by omega, e⟩
      · split at hc
        · rw [List.mem_singleton] at hc
          exact ⟨k, by omega, hc⟩
        · simp at hc
theorem sqTo_nodup {s n : Nat} (hs : 0 < s) (k : Nat) : (sqTo s n k).Nodup := (sqTo_ris hs k).1
/-- From the middle of a square, by half cells. -/
def midC (s : Nat) (c : Cl) : Cl := (2 * c.1 - ((s : Int) - 1), 2 * c.2 - ((s : Int) - 1))
theorem midC_inj {s : Nat} {a b : Cl} (h : midC s a = midC s b) : a = b := by
  obtain ⟨x, y⟩ := a
  obtain ⟨u, v⟩ := b
  simp only [midC, Prod.mk.injEq] at h ⊢
  omega
def posC (s : Nat) (t : Cl) : Nat := ((t.2 + (s : Int) - 1).tdiv 2 * (s : Int) + (t.1 + (s : Int) - 1).tdiv 2).toNat
def numL (s w : Nat) (l : List Cl) : Nat := l.foldl (fun o c => o ||| 2 ^ posC s (trn w (midC s c))) 0
def leastTo (s n : Nat) : Nat → Nat
  | 0 => n
  | w + 1 => if numL s w (sqTo s n (s * s)) < leastTo s n w then numL s w (sqTo s n (s * s)) else leastTo s n w
def manyTo (s : Nat) : Nat → Nat
  | 0 => 0
  | n + 1 => if leastTo s n 8 = n then manyTo s n + 1 else manyTo s n
def keepB (w : Nat) (M : List Cl) : Bool := M.all fun c => M.contains (trn w c)
def cntTo (M : List Cl) : Nat → Nat
  | 0 => 0
  | w + 1 => if keepB w M then cntTo M w + 1 else cntTo M w
def keptTo (s : Nat) : Nat → Nat
  | 0 => 0
  | n + 1 => keptTo s n + cntTo ((sqTo s n (s * s)).map (midC s)) 8
set_option maxRecDepth 100000 in
theorem many_is : manyTo 1 2 = 2 ∧ manyTo 2 16 = 6 ∧ manyTo 3 512 = 102 := by decide +kernel
set_option maxRecDepth 100000 in
theorem kept_is : keptTo 1 2 = 16 ∧ keptTo 2 16 = 48 ∧ keptTo 3 512 = 816 := by decide +kernel
/-- The cells from the middle, in order. -/
noncomputable def midL (s n : Nat) : List Cl := ordL ((sqTo s n (s * s)).map (midC s))
theorem nodup_all {l m : List Cl} (hl : l.Nodup) (hs : ∀ c ∈ l, c ∈ m) (hm : m.length ≤ l.length) : ∀ c ∈ m, c ∈ l := by
  intro c hc
  refine Decidable.byContradiction fun hn => ?_
  have := nodup_sub_len (l := c :: l) (m := m) (List.nodup_cons.2 ⟨hn, hl⟩) (fun x hx => by
    rcases List.mem_cons.1 hx with e | e
    · rw [e]; exact hc
    · exact hs x e)
  simp only [List.length_cons] at this
  omega
theorem mid_ris (s n : Nat) : risTo (midL s n) (midL s n).length = true := (ord_spec _).1
theorem mid_mem (s n : Nat) (c : Cl) : c ∈ midL s n ↔ c ∈ (sqTo s n (s * s)).map (midC s) := (ord_spec _).2 c
theorem keep_iff {w : Nat} (hw : w < 8) (s n : Nat) : tuL w (midL s n) = tuL 0 (midL s n) ↔ keepB w ((sqTo s n (s * s)).map (midC s)) = true := by
  have hn := ris_nodup (mid_ris s n)
  rw [tu_zero (mid_ris s n)]
  constructor
  · intro h
    simp only [keepB, List.all_eq_true, List.contains_iff_mem]
    intro c hc
    rw [← mid_mem, ← h, tu_mem]
    exact ⟨c, (mid_mem s n c).2 hc, rfl⟩
  · intro h
    simp only [keepB, List.all_eq_true, List.contains_iff_mem] at h
    have h1 : ∀ c ∈ tuL w (midL s n), c ∈ midL s n := by
      intro c hc
      obtain ⟨x, hx, rfl⟩ := tu_mem.1 hc
      exact (mid_mem s n _).2 (h x ((mid_mem s n x).1 hx))
    have h2 := nodup_all (ris_nodup (tu_ris w (midL s n))) h1 (by rw [tu_len hw hn]; exact Nat.le_refl _)
    exact ris_unique (tu_ris _ _) (mid_ris s n) (fun c => ⟨h1 c, h2 c⟩)
theorem mid_len (s n : Nat) (hs : s ≤ 3) (hp : 0 < s) : (midL s n).length ≤ 9 := by
  have h1 := nodup_sub_len (m := (sqTo s n (s * s)).map (midC s)) (ris_nodup (mid_ris s n)) (fun c hc => (mid_mem s n c).1 hc)
  rw [List.length_map] at h1
  have h2 := sqTo_len s n (s * s)
  have h3 : s * s ≤ 9 := Nat.mul_le_mul hs hs
  omega
theorem mid_in (s n : Nat) (hs : s ≤ 3) (hp : 0 < s) {c : Cl} (hc : c ∈ midL s n) : -5 ≤ c.1 ∧ c.1 ≤ 5 ∧ -5 ≤ c.2 ∧ c.2 ≤ 5 := by
  obtain ⟨x, hx, rfl⟩ := List.mem_map.1 ((mid_mem s n c).1 hc)
  have := sqTo_in hp (Nat.le_refl _) hx
  simp only [midC]
  omega
/-- What SquareBy answers. -/
def sidB (s : Int) : Bool := decide (1 ≤ s) && decide (s ≤ 3)
def sqbOk (s n : Int) : Bool := sidB s && decide (0 ≤ n) && decide (n < 2 ^ (s.toNat * s.toNat))
def sqbL (s n : Int) : List Cl := if sqbOk s n then sqTo s.toNat n.toNat (s.toNat * s.toNat) else []
theorem sqbL_le (s n : Int) : (sqbL s n).length ≤ 9 := by
  unfold sqbL
  split
  · rename_i h
    simp only [sqbOk, sidB, Bool.and_eq_true, decide_eq_true_eq] at h
    have h1 := sqTo_len s.toNat n.toNat (s.toNat * s.toNat)
    have h3 : s.toNat * s.toNat ≤ 3 * 3 := Nat.mul_le_mul (by omega) (by omega)
    omega
  · simp
end Go.Proofs.Ytgfdkolhldbehaa

namespace Go.Proofs.Ytgfdkolhldbehaa
open Go.RowKit
set_option linter.unusedVariables false

theorem bits_and_i64_nat (a b : Nat) (ha : a < 9223372036854775808) (hb : b < 9223372036854775808) :
    bits .and .i64 (a : Int) (b : Int) = ((a &&& b : Nat) : Int) := by
  have hx : a &&& b < 2 ^ 63 := Nat.and_lt_two_pow _ (by omega)
  have h1 : (BitVec.ofInt 64 (a : Int)).toNat = a := by
    rw [BitVec.ofInt_natCast, BitVec.toNat_ofNat]; exact Nat.mod_eq_of_lt (by omega)
  have h2 : (BitVec.ofInt 64 (b : Int)).toNat = b := by
    rw [BitVec.ofInt_natCast, BitVec.toNat_ofNat]; exact Nat.mod_eq_of_lt (by omega)
  show IntKind.i64.wrap ((BitVec.ofInt 64 (a : Int) &&& BitVec.ofInt 64 (b : Int)).toNat : Int) = _
  rw [BitVec.toNat_and, h1, h2]
  exact IntWalk.i64_in _ ⟨by omega, by omega⟩
theorem bits_or_i64_nat (a b : Nat) (ha : a < 9223372036854775808) (hb : b < 9223372036854775808) :
    bits .or .i64 (a : Int) (b : Int) = ((a ||| b : Nat) : Int) := by
  have hx : a ||| b < 2 ^ 63 := Nat.or_lt_two_pow (by omega) (by omega)
  have h1 : (BitVec.ofInt 64 (a : Int)).toNat = a := by
    rw [BitVec.ofInt_natCast, BitVec.toNat_ofNat]; exact Nat.mod_eq_of_lt (by omega)
  have h2 : (BitVec.ofInt 64 (b : Int)).toNat = b := by
    rw [BitVec.ofInt_natCast, BitVec.toNat_ofNat]; exact Nat.mod_eq_of_lt (by omega)
  show IntKind.i64.wrap ((BitVec.ofInt 64 (a : Int) ||| BitVec.ofInt 64 (b : Int)).toNat : Int) = _
  rw [BitVec.toNat_or, h1, h2]
  exact IntWalk.i64_in _ ⟨by omega, by omega⟩
/-- A bit, read. -/
theorem bit_read (n k : Nat) (hn : n < 4096) (hk : k ≤ 9) : bits .and .i64 ((n : Int) / 2 ^ min ((k : Int).toNat) 64) 1 = if bitN n k then 1 else 0 := by
  have h0 : min ((k : Int).toNat) 64 = k := by omega
  have h1 : (n : Int) / 2 ^ k = ((n / 2 ^ k : Nat) : Int) := by simp
  have h2 : n / 2 ^ k ≤ n := Nat.div_le_self _ _
  rw [h0, h1]
  have h3 := bits_and_i64_nat (n / 2 ^ k) 1 (by omega) (by omega)
  rw [Nat.and_one_is_mod] at h3
  refine h3.trans ?_
  unfold bitN
  generalize n / 2 ^ k = m
  by_cases h : m % 2 = 1
  · rw [h]; rfl
  · have : m % 2 = 0 := by omega
    rw [this]; rfl
theorem bit_is (n k : Nat) (v : Bool) (h : bitN n k = v) (hn : n < 4096) (hk : k ≤ 9) : (bits .and .i64 ((n : Int) / 2 ^ k) 1 == 1) = v := by
  have h1 := bit_read n k hn hk
  rw [show min ((k : Int).toNat) 64 = k by omega, h] at h1
  rw [h1]
  cases v <;> rfl
end Go.Proofs.Ytgfdkolhldbehaa

namespace Go.Proofs.Ytgfdkolhldbehaa
open Go.RowKit
set_option linter.unusedVariables false

def iv (l : List Int) : List Value := l.map fun x => .int .i64 x
theorem iv_length (l : List Int) : (iv l).length = l.length * 1 := by simp [iv]
theorem iv_append (l m : List Int) : iv (l ++ m) = iv l ++ iv m := by simp [iv]
theorem iv_at {l : List Int} {i : Nat} (h : i < l.length) : (iv l)[i]? = some (.int .i64 (ia l i)) := by simp [iv, ia, h]
theorem iv_one (l : List Int) : ∀ u ∈ iv l, u.oneCell' = true := by
  intro u hu
  simp only [iv, List.mem_map] at hu
  obtain ⟨c, _, rfl⟩ := hu; rfl
/-- The slice v owns the numbers l, among the blocks from base on. -/
def OwnI (w : World) (base : Nat) (v : Value) (l : List Int) : Prop := w.ownsRow base 3 1 v l.length (iv l)
theorem OwnI.nil (w : World) (base : Nat) : OwnI w base (.slice none 0 0) [] := World.ownsRow_nil w base 3 1
theorem OwnI.form {w : World} {base : Nat} {v : Value} {l : List Int} (h : OwnI w base v l) : (v = .slice none 0 0 ∧ l = []) ∨ ∃ g cap, v = .slice (some ⟨g, 0, none⟩) l.length cap ∧ l.length ≤ cap ∧ cap ≤ maxLen ∧ ISeg w (some ⟨g, 0, none⟩) l := by
  have h0 := h
  rcases h.2 with ⟨rfl, hn⟩ | ⟨g, cap, cur, rfl, hb, hg, hcap, hm, hs, ht⟩
  · exact .inl ⟨rfl, List.eq_nil_of_length_eq_zero hn⟩
  · refine .inr ⟨g, cap, rfl, hcap, hm, fun i hi => ⟨g, 0, rfl, (Array.getElem?_eq_some_iff.1 hg).1, ?_⟩⟩
    have := World.ownsRow.cellAt h0 i (by omega)
    rw [iv_at hi] at this
    rw [Nat.zero_add]
    exact this
theorem OwnI.seg {w : World} {base : Nat} {v : Value} {l : List Int} (h : OwnI w base v l) : ∃ a cap, v = .slice a l.length cap ∧ ISeg w a l := by
  rcases h.form with ⟨rfl, rfl⟩ | ⟨g, cap, rfl, _, _, hs⟩
  · exact ⟨none, 0, rfl, fun i hi => by simp at hi⟩
  · exact ⟨_, _, rfl, hs⟩
theorem OwnI.below {w w' : World} {base : Nat} {v : Value} {l : List Int} (h : OwnI w base v l) (hb : Below w.heap.size w w') : OwnI w' base v l :=
  World.ownsRow.kept h (grown_of_below hb none) (by cases v.ownBlock <;> simp)
theorem OwnI.lt {w : World} {base : Nat} {v : Value} {l : List Int} (h : OwnI w base v l) : ∀ k, v.ownBlock = some k → base ≤ k ∧ k < w.heap.size := World.ownsRow.lt h
theorem OwnI.mono {w : World} {base base' : Nat} {v : Value} {l : List Int} (h : OwnI w base v l) (hb : base' ≤ base) : OwnI w base' v l := World.ownsRow.mono h hb
theorem OwnI.keep {W W' : World} {base : Nat} {v : Value} {l : List Int} {row : Option Nat} (h : OwnI W base v l) (hg : W.grownBy W' row) (hne : ∀ k, v.ownBlock = some k → row ≠ some k) : OwnI W' base v l := by
  refine World.ownsRow.kept h hg ?_
  cases e : v.ownBlock with
  | none => exact .inl rfl
  | some k => exact .inr fun e2 => hne k e e2.symm
theorem iseg_news {w : World} {ad : Addr} {m : List Int} (h : ISeg w (some ad) m) : ∀ j u, (iv m)[j]? = some u → w.cell? (ad.add j) = some u := by
  intro j u hu
  have hj : j < m.length := by have := (List.getElem?_eq_some_iff.1 hu).1; simpa [iv] using this
  obtain ⟨b, o, e, hb, h0⟩ := h j hj
  simp only [Option.some.injEq] at e
  subst e
  have hadd : (⟨b, o, none⟩ : Addr).add j = ⟨b, o + j, none⟩ := by unfold Addr.add; split <;> simp_all
  rw [hadd, h0]
  rw [iv_at hj] at hu
  exact hu
theorem wpList_appI {w : World} {ops : Array Oper} {rest : List Oper} {o : Oper} {a : Act} {Q : Exit → Act → World → Prop} (hgd : o.guard = none) (s x : Operand)
    (ho : o.op = .call { callee := .builtin .append, args := #[s, x], argTypes := #[61, 61] })
    (base : Nat) (v : Value) (l m : List Int) (ad : Option Addr) (n k : Nat) (hs : a.eval s = v) (hown : OwnI w base v l) (hx : a.eval x = .slice ad n k) (hn : m.length = n) (hseg : ISeg w ad m) (hk : ad = none → k = 0) (hlen : l.length + m.length ≤ 4194304) (hbase : base ≤ w.heap.size)
    (h : ∀ v' w', OwnI w' base v' (l ++ m) → w.grownBy w' v.ownBlock → (v'.ownBlock = v.ownBlock ∨ v'.ownBlock = some w.heap.size) → wpList Try.prog ops Q rest (a.put o.dst v') w') : wpList Try.prog ops Q (o :: rest) a w := by
  subst hn
  obtain ⟨i, hi, hz, hsz, hb⟩ := info_parts info_int
  cases ad with
  | none =>
    have hm : m = [] := by
      cases m with
      | nil => rfl
      | cons c r => obtain ⟨b, o, e, _⟩ := hseg 0 (by simp); cases e
    subst hm
    have hx' : a.eval x = .slice none 0 0 := by rw [hx, hk rfl]; rfl
    refine wpList_append_own_none hgd s x 61 ho base 3 i 1 Try.underlying61 hi v l.length (iv l) hs hown hx' ?_
    exact h v w (by simpa using hown) (grown_refl _ _) (.inl rfl)
  | some ad =>
    refine wpList_append_own_at w hgd s x 61 ho base 3 i _ 1 8 Try.underlying61 hi hz hsz hb rfl (by omega) v l.length (iv l) hs hown ad m.length k (iv m) hx (iv_length m) (iseg_news hseg) (iv_one m)
      (by unfold maxLen; omega) (by omega) hbase ?_
    intro v' w' h1 h2 _ h4
    refine h v' w' ?_ h2 h4
    unfold OwnI
    rw [iv_append, List.length_append]
    exact h1
/-- Appending nothing, whatever the address. -/
theorem wpList_appI0 {w : World} {ops : Array Oper} {rest : List Oper} {o : Oper} {a : Act} {Q : Exit → Act → World → Prop} (hgd : o.guard = none) (s x : Operand)
    (ho : o.op = .call { callee := .builtin .append, args := #[s, x], argTypes := #[61, 61] })
    (base : Nat) (v : Value) (l : List Int) (hs : a.eval s = v) (hown : OwnI w base v l) (hx : ∃ ad n k, a.eval x = .slice ad n k ∧ n = 0 ∧ (ad = none → k = 0)) (hlen : l.length ≤ 4194304) (hbase : base ≤ w.heap.size)
    (h : ∀ v' w', OwnI w' base v' l → w.grownBy w' v.ownBlock → (v'.ownBlock = v.ownBlock ∨ v'.ownBlock = some w.heap.size) → wpList Try.prog ops Q rest (a.put o.dst v') w') : wpList Try.prog ops Q (o :: rest) a w := by
  obtain ⟨ad, n, k, h1, h2, h3⟩ := hx
  subst h2
  exact wpList_appI hgd s x ho base v l [] ad 0 k hs hown h1 rfl (fun i hi => absurd hi (Nat.not_lt_zero _)) h3 (by simpa using hlen) hbase (by simpa using h)
theorem below_grownI {w W W' : World} {v : Value} {l : List Int} (hB : Below w.heap.size w W) (hown : OwnI W w.heap.size v l) (hg : W.grownBy W' v.ownBlock) : Below w.heap.size w W' :=
  hB.grown hg hB.size fun k hk => (hown.lt k hk).1
theorem iseg_block {w : World} {B : Nat} {x : Int} {fr : Nat × Nat} (hb : w.heap[B]? = some (.cells #[.int .i64 x] 3 fr)) : ISeg w (some ⟨B, 0, none⟩) [x] := by
  intro i hi
  have h0 : i = 0 := by simpa using hi
  subst h0
  refine ⟨B, 0, rfl, (Array.getElem?_eq_some_iff.1 hb).1, ?_⟩
  unfold World.cell?; rw [hb]; rfl
theorem slice_empty_int (w : World) : OwnI (w.alloc (.cells #[] 3)) w.heap.size (.slice (some ⟨w.heap.size, 0, none⟩) 0 0) [] :=
  ⟨rfl, .inr ⟨w.heap.size, 0, #[], rfl, Nat.le_refl _, heap_alloc_new w _, Nat.le_refl _, by simp [maxLen], rfl, rfl⟩⟩
theorem ISeg.take {w : World} {a : Option Addr} {l : List Int} (h : ISeg w a l) (k : Nat) : ISeg w a (l.take k) := by
  intro i hi
  rw [List.length_take] at hi
  obtain ⟨b, o, e, hb, h1⟩ := h i (by omega)
  refine ⟨b, o, e, hb, ?_⟩
  rw [h1]; unfold ia
  rw [List.getD_eq_getElem?_getD, List.getD_eq_getElem?_getD, List.getElem?_take_of_lt (by omega)]
theorem ISeg.drop {w : World} {g o : Nat} {l : List Int} (h : ISeg w (some ⟨g, o, none⟩) l) (k : Nat) : ISeg w (some ⟨g, o + k, none⟩) (l.drop k) := by
  intro i hi
  rw [List.length_drop] at hi
  obtain ⟨b, o', e, hb, h1⟩ := h (k + i) (by omega)
  simp only [Option.some.injEq, Addr.mk.injEq, and_true] at e
  obtain ⟨rfl, rfl⟩ := e
  refine ⟨g, o + k, rfl, hb, ?_⟩
  rw [show o + k + i = o + (k + i) by omega, h1]; unfold ia
  rw [List.getD_eq_getElem?_getD, List.getD_eq_getElem?_getD, List.getElem?_drop]

/-- Numbers that rise. -/
abbrev Asc (l : List Int) : Prop := l.Pairwise (· < ·)
theorem asc_lt {l : List Int} (h : Asc l) {i j : Nat} (hij : i < j) (hj : j < l.length) : ia l i < ia l j := by
  have := List.pairwise_iff_getElem.1 h i j (by omega) hj hij
  simpa [ia, hj, show i < l.length by omega] using this
theorem mem_ia {l : List Int} {x : Int} : x ∈ l ↔ ∃ i, i < l.length ∧ ia l i = x := by
  rw [List.mem_iff_getElem]
  constructor
  · rintro ⟨i, hi, e⟩; exact ⟨i, hi, by simp [ia, hi, e]⟩
  · rintro ⟨i, hi, e⟩; exact ⟨i, hi, by simpa [ia, hi] using e⟩
/-- l' is l with n, each once, rising. -/
def WithI (l : List Int) (n : Int) (l' : List Int) : Prop := Asc l' ∧ (∀ d, d ∈ l' ↔ d = n ∨ d ∈ l) ∧ l'.length ≤ l.length + 1
theorem withI_same {l : List Int} {n : Int} (hr : Asc l) (hm : n ∈ l) : WithI l n l :=
  ⟨hr, fun d => ⟨fun h => .inr h, fun h => h.elim (fun e => by rw [e]; exact hm) id⟩, by omega⟩
theorem withI_new {l : List Int} {n : Int} {k : Nat} (hr : Asc l) (hk : k ≤ l.length) (h1 : ∀ i, i < k → ia l i < n) (h2 : k < l.length → n < ia l k) : WithI l n (l.take k ++ [n] ++ l.drop k) := by
  have hd : ∀ x ∈ l.drop k, n < x := by
    intro x hx
    obtain ⟨i, hi, e⟩ := mem_ia.1 hx
    rw [List.length_drop] at hi
    have e2 : ia (l.drop k) i = ia l (k + i) := by unfold ia; rw [List.getD_eq_getElem?_getD, List.getD_eq_getElem?_getD, List.getElem?_drop]
    rw [e2] at e
    have := h2 (by omega)
    rcases Nat.eq_zero_or_pos i with h0 | h0
    · subst h0; rw [Nat.add_zero] at e; omega
    · have := asc_lt hr (i := k) (j := k + i) (by omega) (by omega); omega
  have ht : ∀ x ∈ l.take k, x < n := by
    intro x hx
    obtain ⟨i, hi, e⟩ := mem_ia.1 hx
    rw [List.length_take] at hi
    have e2 : ia (l.take k) i = ia l i := by unfold ia; rw [List.getD_eq_getElem?_getD, List.getD_eq_getElem?_getD, List.getElem?_take_of_lt (by omega)]
    rw [e2] at e
    have := h1 i (by omega); omega
  refine ⟨?_, fun d => ?_, by simp; omega⟩
  · show List.Pairwise _ _
    rw [List.pairwise_append, List.pairwise_append]
    refine ⟨⟨hr.sublist (List.take_sublist _ _), List.pairwise_singleton _ _, fun x hx y hy => ?_⟩, hr.sublist (List.drop_sublist _ _), fun x hx y hy => ?_⟩
    · simp at hy; subst hy; exact ht x hx
    · rw [List.mem_append] at hx
      have hyd := hd y hy
      rcases hx with hx | hx
      · have := ht x hx; omega
      · simp at hx; subst hx; exact hyd
  · simp only [List.mem_append, List.mem_singleton]
    constructor
    · rintro ((h | h) | h)
      · exact .inr (List.mem_of_mem_take h)
      · exact .inl h
      · exact .inr (List.mem_of_mem_drop h)
    · rintro (h | h)
      · exact .inl (.inr h)
      · have := List.take_append_drop k l
        rw [← this, List.mem_append] at h
        rcases h with h | h
        · exact .inl (.inl h)
        · exact .inr h
theorem asc_nodup {l : List Int} (h : Asc l) : l.Nodup := by
  rw [List.nodup_iff_pairwise_ne]
  exact h.imp fun h => by omega
theorem asc_unique {l m : List Int} (hl : Asc l) (hm : Asc m) (h : ∀ c, c ∈ l ↔ c ∈ m) : l = m := by
  have hp : l.Perm m := (List.perm_ext_iff_of_nodup (asc_nodup hl) (asc_nodup hm)).2 h
  exact hp.eq_of_pairwise (fun a b _ _ h1 h2 => by omega) hl hm
/-- Rising numbers from nought on are as many as the last allows. -/
theorem asc_len {l : List Int} (h : Asc l) {N : Nat} (hb : ∀ x ∈ l, 0 ≤ x ∧ x < (N : Int)) : l.length ≤ N := by
  have : ∀ i, i < l.length → (i : Int) ≤ ia l i := by
    intro i
    induction i with
    | zero => intro hi; have := hb (ia l 0) (mem_ia.2 ⟨0, hi, rfl⟩); omega
    | succ i ih => intro hi; have := ih (by omega); have := asc_lt h (i := i) (j := i + 1) (by omega) hi; omega
  rcases Nat.eq_zero_or_pos l.length with h0 | h0
  · omega
  · have h1 := this (l.length - 1) (by omega)
    have h2 := hb (ia l (l.length - 1)) (mem_ia.2 ⟨l.length - 1, by omega, rfl⟩)
    omega

end Go.Proofs.Ytgfdkolhldbehaa
