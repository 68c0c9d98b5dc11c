/- Eight ways to turn a cell, as numbers alone: they make a group; cells turned, in order. -/
import Derived.Test.YtgfdkolhldbehaaSortS
import Derived.Test.YtgfdkolhldbehaaShift
namespace Go.Proofs.Ytgfdkolhldbehaa
open Go.RowKit
set_option linter.unusedVariables false
set_option linter.unusedSimpArgs false

def mir (c : Cl) : Cl := (-c.1, c.2)
def qt (c : Cl) : Cl := (-c.2, c.1)
def qts : Nat → Cl → Cl
  | 0, c => c
  | n + 1, c => qts n (qt c)
theorem qts_succ : ∀ (n : Nat) (c : Cl), qts (n + 1) c = qt (qts n c)
  | 0, c => rfl
  | n + 1, c => by
    rw [qts, qts_succ n (qt c)]; rfl
/-- A cell, turned in a way. -/
def trn (w : Nat) (c : Cl) : Cl := qts (w % 4) (if 3 < w then mir c else c)
theorem trn_0 (c : Cl) : trn 0 c = c := rfl
theorem trn_1 (c : Cl) : trn 1 c = (-c.2, c.1) := rfl
theorem trn_2 (c : Cl) : trn 2 c = (-c.1, -c.2) := rfl
theorem trn_3 (c : Cl) : trn 3 c = (- -c.2, -c.1) := rfl
theorem trn_4 (c : Cl) : trn 4 c = (-c.1, c.2) := rfl
theorem trn_5 (c : Cl) : trn 5 c = (-c.2, -c.1) := rfl
theorem trn_6 (c : Cl) : trn 6 c = (- -c.1, -c.2) := rfl
theorem trn_7 (c : Cl) : trn 7 c = (- -c.2, - -c.1) := rfl
theorem way_cases {P : Nat → Prop} (h0 : P 0) (h1 : P 1) (h2 : P 2) (h3 : P 3) (h4 : P 4) (h5 : P 5) (h6 : P 6) (h7 : P 7) : ∀ w, w < 8 → P w := by
  intro w hw
  rcases (show w = 0 ∨ w = 1 ∨ w = 2 ∨ w = 3 ∨ w = 4 ∨ w = 5 ∨ w = 6 ∨ w = 7 by omega) with rfl | rfl | rfl | rfl | rfl | rfl | rfl | rfl <;> assumption
/-- The first way that makes of the lopsided cell what is asked. -/
def firstW (c : Cl) : Nat := ((List.range 8).find? fun k => decide (trn k (1, 2) = c)).getD 8
/-- A way and then a way. -/
def thenW (a b : Nat) : Nat := firstW (trn b (trn a (1, 2)))
theorem thenW_lt : ∀ a, a < 8 → ∀ b, b < 8 → thenW a b < 8 ∧ trn (thenW a b) (1, 2) = trn b (trn a (1, 2)) ∧ trn (thenW a b) (3, 1) = trn b (trn a (3, 1)) := by decide
theorem lop_one : ∀ a, a < 8 → ∀ b, b < 8 → trn a (1, 2) = trn b (1, 2) → a = b := by decide
theorem firstW_trn : ∀ a, a < 8 → firstW (trn a (1, 2)) = a := by decide
/-- Two cells tell a way. -/
def lin (f : Cl → Cl) : Prop := ∃ p q r s : Int, ∀ c : Cl, f c = (p * c.1 + q * c.2, r * c.1 + s * c.2)
theorem lin_trn (w : Nat) (hw : w < 8) : lin (trn w) := by
  refine way_cases (P := fun w => lin (trn w)) ⟨1, 0, 0, 1, fun c => ?_⟩ ⟨0, -1, 1, 0, fun c => ?_⟩ ⟨-1, 0, 0, -1, fun c => ?_⟩ ⟨0, 1, -1, 0, fun c => ?_⟩ ⟨-1, 0, 0, 1, fun c => ?_⟩ ⟨0, -1, -1, 0, fun c => ?_⟩ ⟨1, 0, 0, -1, fun c => ?_⟩ ⟨0, 1, 1, 0, fun c => ?_⟩ w hw
  · rw [trn_0]; obtain ⟨x, y⟩ := c; simp only [Prod.mk.injEq]; omega
  · rw [trn_1, Prod.mk.injEq]; omega
  · rw [trn_2, Prod.mk.injEq]; omega
  · rw [trn_3, Prod.mk.injEq]; omega
  · rw [trn_4, Prod.mk.injEq]; omega
  · rw [trn_5, Prod.mk.injEq]; omega
  · rw [trn_6, Prod.mk.injEq]; omega
  · rw [trn_7, Prod.mk.injEq]; omega
theorem lin_comp {f g : Cl → Cl} (hf : lin f) (hg : lin g) : lin (fun c => g (f c)) := by
  obtain ⟨p, q, r, s, h⟩ := hf
  obtain ⟨P, Q, R, S, H⟩ := hg
  refine ⟨P * p + Q * r, P * q + Q * s, R * p + S * r, R * q + S * s, fun c => ?_⟩
  show g (f c) = _
  rw [H, h, Prod.mk.injEq]
  simp only [Int.mul_add, Int.add_mul, Int.mul_assoc]
  constructor <;> omega
theorem lin_eq {f g : Cl → Cl} (hf : lin f) (hg : lin g) (h1 : f (1, 2) = g (1, 2)) (h2 : f (3, 1) = g (3, 1)) (c : Cl) : f c = g c := by
  obtain ⟨p, q, r, s, h⟩ := hf
  obtain ⟨P, Q, R, S, H⟩ := hg
  rw [h, H, Prod.mk.injEq] at h1 h2
  simp only at h1 h2
  obtain ⟨a1, a2⟩ := h1
  obtain ⟨b1, b2⟩ := h2
  rw [h, H, show p = P by omega, show q = Q by omega, show r = R by omega, show s = S by omega]
/-- A way and then a way are one way, for all cells. -/
theorem trn_then (a : Nat) (ha : a < 8) (b : Nat) (hb : b < 8) (c : Cl) : trn (thenW a b) c = trn b (trn a c) := by
  obtain ⟨h1, h2, h3⟩ := thenW_lt a ha b hb
  exact lin_eq (lin_trn _ h1) (lin_comp (lin_trn a ha) (lin_trn b hb)) h2 h3 c
/-- The way that undoes a way. -/
def backW (a : Nat) : Nat := ((List.range 8).find? fun b => decide (thenW a b = 0)).getD 8
theorem backW_is : ∀ a, a < 8 → backW a < 8 ∧ thenW a (backW a) = 0 := by decide
theorem backW_least : ∀ a, a < 8 → ∀ b, b < backW a → thenW a b ≠ 0 := by decide
theorem trn_back {a : Nat} (ha : a < 8) (c : Cl) : trn (backW a) (trn a c) = c := by
  obtain ⟨h1, h2⟩ := backW_is a ha
  rw [← trn_then a ha _ h1, h2, trn_0]
theorem trn_inj {w : Nat} (hw : w < 8) {c d : Cl} (h : trn w c = trn w d) : c = d := by
  rw [← trn_back hw c, h, trn_back hw d]
/-- No cell is turned further off. -/
theorem trn_reach {w : Nat} (hw : w < 8) {c : Cl} {n : Int} (h : -n ≤ c.1 ∧ c.1 ≤ n ∧ -n ≤ c.2 ∧ c.2 ≤ n) : -n ≤ (trn w c).1 ∧ (trn w c).1 ≤ n ∧ -n ≤ (trn w c).2 ∧ (trn w c).2 ≤ n := by
  revert h
  refine way_cases (P := fun w => (-n ≤ c.1 ∧ c.1 ≤ n ∧ -n ≤ c.2 ∧ c.2 ≤ n) → -n ≤ (trn w c).1 ∧ (trn w c).1 ≤ n ∧ -n ≤ (trn w c).2 ∧ (trn w c).2 ≤ n) ?_ ?_ ?_ ?_ ?_ ?_ ?_ ?_ w hw
  all_goals
    simp only [trn_0, trn_1, trn_2, trn_3, trn_4, trn_5, trn_6, trn_7]
    omega

theorem ord_spec (L : List Cl) : risTo (ordL L) (ordL L).length = true ∧ ∀ c, c ∈ ordL L ↔ c ∈ L := by
  obtain ⟨l', h1, h2⟩ := ord_ex L
  rw [ordL_eq h1 h2]
  exact ⟨h1, h2⟩
/-- Cells turned, in order. -/
noncomputable def tuL (w : Nat) (l : List Cl) : List Cl := ordL (l.map (trn w))
theorem tu_mem {w : Nat} {l : List Cl} {c : Cl} : c ∈ tuL w l ↔ ∃ x ∈ l, trn w x = c := by
  rw [tuL, (ord_spec _).2, List.mem_map]
theorem tu_ris (w : Nat) (l : List Cl) : risTo (tuL w l) (tuL w l).length = true := (ord_spec _).1
theorem map_nodup {w : Nat} (hw : w < 8) {l : List Cl} (hn : l.Nodup) : (l.map (trn w)).Nodup := by
  rw [List.nodup_iff_pairwise_ne] at hn ⊢
  exact List.Pairwise.map _ (fun a b hab e => hab (trn_inj hw e)) hn
theorem tu_is {w : Nat} {l l' : List Cl} (h1 : risTo l' l'.length = true) (h2 : ∀ c, c ∈ l' ↔ c ∈ l.map (trn w)) : l' = tuL w l := (ordL_eq h1 h2).symm
theorem nodup_sub_len : ∀ {l m : List Cl}, l.Nodup → (∀ c ∈ l, c ∈ m) → l.length ≤ m.length
  | [], m, _, _ => Nat.zero_le _
  | x :: l, m, hn, hs => by
    obtain ⟨h1, h2⟩ := List.nodup_cons.1 hn
    have h3 := nodup_sub_len (l := l) (m := m.erase x) h2 (fun c hc => (List.mem_erase_of_ne (fun e => h1 (by rw [← e]; exact hc))).2 (hs c (List.mem_cons_of_mem _ hc)))
    have hx := hs x List.mem_cons_self
    rw [List.length_erase_of_mem hx] at h3
    have := List.length_pos_of_mem hx
    simp only [List.length_cons]
    omega
theorem tu_len {w : Nat} (hw : w < 8) {l : List Cl} (hn : l.Nodup) : (tuL w l).length = l.length := by
  have h1 := nodup_sub_len (ris_nodup (tu_ris w l)) (fun c hc => (ord_spec _).2 c |>.1 hc)
  have h2 := nodup_sub_len (map_nodup hw hn) (fun c hc => ((ord_spec _).2 c).2 hc)
  rw [List.length_map] at h1 h2
  exact Nat.le_antisymm h1 h2
theorem good_mkT {l : List Cl} (h1 : l.length ≤ 120) (h2 : ∀ c ∈ l, inR c = true) (h3 : risTo l l.length = true) : good l = true := by
  simp only [good, Bool.and_eq_true, decide_eq_true_eq]
  refine ⟨⟨h1, ?_⟩, h3⟩
  simp only [allTo, List.all_eq_true]
  intro i hi
  have hi' := List.mem_range.1 hi
  exact h2 _ (by simp [at_, hi'])
theorem good_memT {l : List Cl} (h : good l = true) {c : Cl} (hc : c ∈ l) : inR c = true := by
  obtain ⟨i, hi, e⟩ := List.getElem_of_mem hc
  have := good_in h i hi
  simpa [at_, hi, e] using this
theorem tu_good {w : Nat} (hw : w < 8) {l : List Cl} (hg : good l = true) : good (tuL w l) = true := by
  refine good_mkT (by rw [tu_len hw (ris_nodup (good_ris hg))]; exact good_len hg) (fun c hc => ?_) (tu_ris w l)
  obtain ⟨x, hx, rfl⟩ := tu_mem.1 hc
  have h := good_memT hg hx
  simp only [inR, Bool.and_eq_true, decide_eq_true_eq] at h ⊢
  have h2 := trn_reach hw (c := x) (n := 40) (by omega)
  omega
theorem tu_zero {l : List Cl} (hr : risTo l l.length = true) : tuL 0 l = l := by
  refine (tu_is hr (fun c => ?_)).symm
  rw [List.mem_map]
  exact ⟨fun h => ⟨c, h, rfl⟩, fun ⟨x, hx, e⟩ => by rw [trn_0] at e; rw [← e]; exact hx⟩
/-- A way and then a way, of cells. -/
theorem tu_then {a b : Nat} (ha : a < 8) (hb : b < 8) (l : List Cl) : tuL b (tuL a l) = tuL (thenW a b) l := by
  refine tu_is (tu_ris _ _) (fun c => ?_)
  rw [tu_mem, List.mem_map]
  constructor
  · rintro ⟨y, hy, rfl⟩
    obtain ⟨x, hx, rfl⟩ := tu_mem.1 hy
    exact ⟨x, hx, trn_then a ha b hb x⟩
  · rintro ⟨x, hx, rfl⟩
    exact ⟨trn a x, tu_mem.2 ⟨x, hx, rfl⟩, (trn_then a ha b hb x).symm⟩
/-- What TurnCells answers. -/
def inW (w : Int) : Bool := decide (0 ≤ w) && decide (w < 8)
theorem inW_bd {w : Int} (h : inW w = true) : 0 ≤ w ∧ w < 8 := by simpa [inW] using h
noncomputable def turnOk (l : List Cl) (w : Int) : Bool := good l && inW w
noncomputable def turnL (l : List Cl) (w : Int) : List Cl := if turnOk l w then tuL w.toNat l else []
theorem turnL_le (l : List Cl) (w : Int) : (turnL l w).length ≤ 120 := by
  unfold turnL; split
  · rename_i h
    simp only [turnOk, Bool.and_eq_true] at h
    exact good_len (tu_good (by have := inW_bd h.2; omega) h.1)
  · simp
end Go.Proofs.Ytgfdkolhldbehaa
