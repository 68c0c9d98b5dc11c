/- Texts of this seat, one behind the other: NineP, HashP, HashR, HashB, HashS. -/
import Derived.Test.YtokemdbgcegjiaaGreatB11
import Derived.Test.YtokemdbgcegjiaaGreatB10
import Derived.Test.YtokemdbgcegjiaaGreatB16
import Derived.Test.YtokemdbgcegjiaaGreatB17
import Derived.Test.YtokemdbgcegjiaaGreatB15
namespace Go.Proofs.YtokemdbgcegjiaaGreat
set_option linter.unusedVariables false

/-- The kid of a kid that stands at place t of the sixteen, row by row. -/
def gridq (F : List Qd) (q t : Nat) : Nat := kidq F (kidq F q (t / 8 * 2 + t % 4 / 2)) (t / 4 % 2 * 2 + t % 2)
/-- In which order they are come by. -/
def ordG (t : Nat) : Nat := (t / 8 * 2 + t % 4 / 2) * 4 + (t / 4 % 2 * 2 + t % 2)
def gridL (F : List Qd) (q : Nat) : List Int := (List.range 16).map fun t => (gridq F q t : Int)
theorem gridL_len (F : List Qd) (q : Nat) : (gridL F q).length = 16 := by simp [gridL]
theorem gridL_at (F : List Qd) (q : Nat) {t : Nat} (h : t < 16) : ia (gridL F q) t = (gridq F q t : Int) := by simp [gridL, ia, h]
theorem grid_is {L : List Cl} {F : List Qd} {n q : Nat} (h : IsT L F (n + 2) q 0 0) {t : Nat} (ht : t < 16) : IsT L F n (gridq F q t) (((t % 4 : Nat) : Int) * 2 ^ n) (((t / 4 : Nat) : Int) * 2 ^ n) := by
  have hp := two_pow n
  have k0 := (h.kid (t / 8 * 2 + t % 4 / 2) (by omega)).kid (t / 4 % 2 * 2 + t % 2) (by omega)
  have e1 : (0 : Int) + (((t / 8 * 2 + t % 4 / 2) % 2 : Nat) : Int) * 2 ^ (n + 1) + (((t / 4 % 2 * 2 + t % 2) % 2 : Nat) : Int) * 2 ^ n = ((t % 4 : Nat) : Int) * 2 ^ n := by
    rw [hp, show (t / 8 * 2 + t % 4 / 2) % 2 = t % 4 / 2 by omega, show (t / 4 % 2 * 2 + t % 2) % 2 = t % 2 by omega]
    rcases (show t % 4 = 0 ∨ t % 4 = 1 ∨ t % 4 = 2 ∨ t % 4 = 3 by omega) with e | e | e | e <;> rw [e, show t % 2 = t % 4 % 2 by omega, e] <;> simp <;> omega
  have e2 : (0 : Int) + (((t / 8 * 2 + t % 4 / 2) / 2 : Nat) : Int) * 2 ^ (n + 1) + (((t / 4 % 2 * 2 + t % 2) / 2 : Nat) : Int) * 2 ^ n = ((t / 4 : Nat) : Int) * 2 ^ n := by
    rw [hp, show (t / 8 * 2 + t % 4 / 2) / 2 = t / 4 / 2 by omega, show (t / 4 % 2 * 2 + t % 2) / 2 = t / 4 % 2 by omega]
    rcases (show t / 4 = 0 ∨ t / 4 = 1 ∨ t / 4 = 2 ∨ t / 4 = 3 by omega) with e | e | e | e <;> rw [e] <;> simp <;> omega
  rw [e1, e2] at k0
  exact k0
/-- The forest behind the first k of the nine, and the quads' numbers: as the specification makes them. -/
def nTo (L : List Cl) (n : Nat) (F : List Qd) : Nat → List Qd × List Int
  | 0 => (F, [])
  | k + 1 => ((treeL L (n + 1) (((k % 3 : Nat) : Int) * 2 ^ n) (((k / 3 : Nat) : Int) * 2 ^ n) (nTo L n F k).1).1, (nTo L n F k).2 ++ [((treeL L (n + 1) (((k % 3 : Nat) : Int) * 2 ^ n) (((k / 3 : Nat) : Int) * 2 ^ n) (nTo L n F k).1).2 : Int)])
theorem sq_grid (F : List Qd) (q : Nat) {k : Nat} (hk : k < 9) : sqW 3 4 (gridL F q) k = [(gridq F q (k / 3 * 4 + k % 3) : Int), (gridq F q (k / 3 * 4 + k % 3 + 1) : Int), (gridq F q (k / 3 * 4 + k % 3 + 4) : Int), (gridq F q (k / 3 * 4 + k % 3 + 5) : Int)] := by
  unfold sqW
  rw [gridL_at F q (by omega), gridL_at F q (by omega), gridL_at F q (by omega), show k / 3 * 4 + k % 3 + 4 + 1 = k / 3 * 4 + k % 3 + 5 by omega, gridL_at F q (by omega)]
theorem grid_facts {L : List Cl} {F : List Qd} (hG : Grows F) {n q : Nat} (hn : n + 2 ≤ 5) (h : IsT L F (n + 2) q 0 0) (k : Nat) (hk : k ≤ 9) : JTo F (n : Int) k (jTo F (sqW 3 4 (gridL F q)) k) := by
  have e : ∀ i, i < 9 → ∀ j, j < 4 → ∃ m, m < 16 ∧ ia (sqW 3 4 (gridL F q) i) j = (gridq F q m : Int) := by
    intro i hi j hj
    rw [sq_grid F q hi]
    rcases (show j = 0 ∨ j = 1 ∨ j = 2 ∨ j = 3 by omega) with rfl | rfl | rfl | rfl <;> exact ⟨_, by omega, rfl⟩
  refine jTo_facts hG (fun i _ => rfl) (fun i hi j hj => ?_) (fun i hi => ?_) (by omega) k hk
  · obtain ⟨m, hm, em⟩ := e i hi j hj
    have := (grid_is h hm).lt hG.two
    rw [em]; omega
  · obtain ⟨m, hm, em⟩ := e i hi 0 (by omega)
    rw [em]
    have := (grid_is h hm).lev hG
    simpa using this
theorem nTo_jTo {L : List Cl} {F : List Qd} (hG : Grows F) {n q : Nat} (hn : n + 2 ≤ 5) (h : IsT L F (n + 2) q 0 0) : ∀ k, k ≤ 9 → nTo L n F k = jTo F (sqW 3 4 (gridL F q)) k
  | 0, _ => rfl
  | k + 1, hk => by
    have ih := nTo_jTo hG hn h k (by omega)
    have hf := grid_facts hG hn h k (by omega)
    simp only [nTo, jTo, ih, sq_grid F q (show k < 9 by omega)]
    generalize jTo F (sqW 3 4 (gridL F q)) k = R at *
    have m0 := (grid_is h (t := k / 3 * 4 + k % 3) (by omega)).more hf.more hf.old
    have m1 := (grid_is h (t := k / 3 * 4 + k % 3 + 1) (by omega)).more hf.more hf.old
    have m2 := (grid_is h (t := k / 3 * 4 + k % 3 + 4) (by omega)).more hf.more hf.old
    have m3 := (grid_is h (t := k / 3 * 4 + k % 3 + 5) (by omega)).more hf.more hf.old
    rw [show (k / 3 * 4 + k % 3) % 4 = k % 3 by omega, show (k / 3 * 4 + k % 3) / 4 = k / 3 by omega] at m0
    rw [show (k / 3 * 4 + k % 3 + 1) % 4 = k % 3 + 1 by omega, show (k / 3 * 4 + k % 3 + 1) / 4 = k / 3 by omega] at m1
    rw [show (k / 3 * 4 + k % 3 + 4) % 4 = k % 3 by omega, show (k / 3 * 4 + k % 3 + 4) / 4 = k / 3 + 1 by omega] at m2
    rw [show (k / 3 * 4 + k % 3 + 5) % 4 = k % 3 + 1 by omega, show (k / 3 * 4 + k % 3 + 5) / 4 = k / 3 + 1 by omega] at m3
    have a1 : ((k % 3 + 1 : Nat) : Int) * 2 ^ n = ((k % 3 : Nat) : Int) * 2 ^ n + 2 ^ n := by
      rw [show ((k % 3 + 1 : Nat) : Int) = ((k % 3 : Nat) : Int) + 1 by omega, Int.add_mul, Int.one_mul]
    have a2 : ((k / 3 + 1 : Nat) : Int) * 2 ^ n = ((k / 3 : Nat) : Int) * 2 ^ n + 2 ^ n := by
      rw [show ((k / 3 + 1 : Nat) : Int) = ((k / 3 : Nat) : Int) + 1 by omega, Int.add_mul, Int.one_mul]
    rw [a1] at m1 m3
    rw [a2] at m2 m3
    simp only [treeL, treeL_there hf.grows m0, treeL_there hf.grows m1, treeL_there hf.grows m2, treeL_there hf.grows m3]
/-- What NineOf may be asked, and what it makes. -/
def nineOK (F : List Qd) (q : Int) : Bool := quadB F q 2
def nineR (F : List Qd) (q : Int) : List Qd × List Int := jTo F (sqW 3 4 (gridL F q.toNat)) 9
theorem nine_is {F : List Qd} {q : Int} (h : quadB F q 2 = true) : goodF F = true ∧ 0 ≤ q ∧ q < (F.length : Int) ∧ ∃ n, n + 2 ≤ 5 ∧ (qa F q.toNat).1 = ((n + 2 : Nat) : Int) ∧ levN F q.toNat = n + 2 ∧ IsT (cellsOfQ F q.toNat) F (n + 2) q.toNat 0 0 := by
  unfold quadB at h
  simp only [Bool.and_eq_true, decide_eq_true_eq] at h
  obtain ⟨hg, h0, h1⟩ := there_bd h.1
  have hlv := levN_eq hg h0 h1
  refine ⟨hg, h0, h1, levN F q.toNat - 2, by omega, by omega, by omega, ?_⟩
  have := IsT.self hg (levN F q.toNat) q.toNat 0 0 (by omega) hlv.1
  rw [show levN F q.toNat - 2 + 2 = levN F q.toNat by omega]
  exact this
theorem nineR_facts {F : List Qd} {q : Int} (h : quadB F q 2 = true) : ∃ n : Nat, JTo F (n : Int) 9 (nineR F q) := by
  obtain ⟨hg, h0, h1, n, hn, _, _, ht⟩ := nine_is h
  exact ⟨n, grid_facts (good_grows hg) hn ht 9 (Nat.le_refl _)⟩
theorem nine_small (F : List Qd) (q : Int) : ((anF (nineOK F q) (nineR F q)).length ≤ 1048576 ∧ KidsLe (anF (nineOK F q) (nineR F q)) ∧ posF (nsF (anF (nineOK F q) (nineR F q))) (anF (nineOK F q) (nineR F q)).length ≤ 8388608) ∧ (anN (nineOK F q) (nineR F q)).length ≤ 9 := by
  cases h : nineOK F q
  · exact ⟨nil_small, by simp [anN]⟩
  · obtain ⟨n, hf⟩ := nineR_facts h
    generalize nineR F q = R at *
    refine ⟨tellF_small hf.grows, ?_⟩
    unfold anN
    split
    · have := hf.len
      omega
    · simp

end Go.Proofs.YtokemdbgcegjiaaGreat

namespace Go.Proofs.YtokemdbgcegjiaaGreat
set_option linter.unusedVariables false

theorem IsP.kid {P : Cl → Bool} {F : List Qd} {n q : Nat} {x y : Int} (h : IsP P F (n + 1) q x y) (k : Nat) (hk : k < 4) : IsP P F n (kidq F q k) (x + ((k % 2 : Nat) : Int) * 2 ^ n) (y + ((k / 2 : Nat) : Int) * 2 ^ n) := by
  obtain ⟨h2, hq, k0, k1, k2, k3, e, a, b, c, d⟩ := h
  rcases (show k = 0 ∨ k = 1 ∨ k = 2 ∨ k = 3 by omega) with rfl | rfl | rfl | rfl
  · have : kidq F q 0 = k0 := by simp [kidq, e, ia]
    rw [this]; simpa using a
  · have : kidq F q 1 = k1 := by simp [kidq, e, ia]
    rw [this]; simpa using b
  · have : kidq F q 2 = k2 := by simp [kidq, e, ia]
    rw [this]; simpa using c
  · have : kidq F q 3 = k3 := by simp [kidq, e, ia]
    rw [this]; simpa using d
theorem grid_isP {P : Cl → Bool} {F : List Qd} {n q : Nat} (h : IsP P F (n + 2) q 0 0) {t : Nat} (ht : t < 16) : IsP P F n (gridq F q t) (((t % 4 : Nat) : Int) * 2 ^ n) (((t / 4 : Nat) : Int) * 2 ^ n) := by
  have hp := two_pow n
  have k0 := (h.kid (t / 8 * 2 + t % 4 / 2) (by omega)).kid (t / 4 % 2 * 2 + t % 2) (by omega)
  have e1 : (0 : Int) + (((t / 8 * 2 + t % 4 / 2) % 2 : Nat) : Int) * 2 ^ (n + 1) + (((t / 4 % 2 * 2 + t % 2) % 2 : Nat) : Int) * 2 ^ n = ((t % 4 : Nat) : Int) * 2 ^ n := by
    rw [hp, show (t / 8 * 2 + t % 4 / 2) % 2 = t % 4 / 2 by omega, show (t / 4 % 2 * 2 + t % 2) % 2 = t % 2 by omega]
    rcases (show t % 4 = 0 ∨ t % 4 = 1 ∨ t % 4 = 2 ∨ t % 4 = 3 by omega) with e | e | e | e <;> rw [e, show t % 2 = t % 4 % 2 by omega, e] <;> simp <;> omega
  have e2 : (0 : Int) + (((t / 8 * 2 + t % 4 / 2) / 2 : Nat) : Int) * 2 ^ (n + 1) + (((t / 4 % 2 * 2 + t % 2) / 2 : Nat) : Int) * 2 ^ n = ((t / 4 : Nat) : Int) * 2 ^ n := by
    rw [hp, show (t / 8 * 2 + t % 4 / 2) / 2 = t / 4 / 2 by omega, show (t / 4 % 2 * 2 + t % 2) / 2 = t / 4 % 2 by omega]
    rcases (show t / 4 = 0 ∨ t / 4 = 1 ∨ t / 4 = 2 ∨ t / 4 = 3 by omega) with e | e | e | e <;> rw [e] <;> simp <;> omega
  rw [e1, e2] at k0
  exact k0
/-- Square s of those of two by two in a grid of trees, wd in a row, d squares in a row, is a tree itself once it is joined. -/
theorem grid_join {P : Cl → Bool} {F : List Qd} {n : Nat} {x y : Int} {l : List Int} {d wd : Nat} (hd : wd = d + 1) (hl : l.length = wd * wd) (h : ∀ t, t < wd * wd → ∃ k : Nat, ia l t = (k : Int) ∧ IsP P F n k (x + ((t % wd : Nat) : Int) * 2 ^ n) (y + ((t / wd : Nat) : Int) * 2 ^ n)) (hd0 : 0 < d)
    {G : List Qd} (hG : Grows G) (hm : F.length ≤ G.length) (ho : ∀ i, i < F.length → qa G i = qa F i) {s : Nat} (hs : s < d * d) :
    IsP P (joinF G (sqW d wd l s)).1 (n + 1) (joinF G (sqW d wd l s)).2 (x + ((s % d : Nat) : Int) * 2 ^ n) (y + ((s / d : Nat) : Int) * 2 ^ n) := by
  subst hd
  have h1 : s % d < d := Nat.mod_lt _ hd0
  have h2 : s / d < d := Nat.div_lt_of_lt_mul hs
  generalize hsm : s % d = u at *
  generalize hsd : s / d = v at *
  have bd : ∀ a b : Nat, a ≤ d → b ≤ d → b * (d + 1) + a < (d + 1) * (d + 1) ∧ (b * (d + 1) + a) % (d + 1) = a ∧ (b * (d + 1) + a) / (d + 1) = b := by
    intro a b ha hb
    refine ⟨?_, ?_, ?_⟩
    · have := Nat.mul_le_mul_right (d + 1) hb
      have e : (d + 1) * (d + 1) = d * (d + 1) + (d + 1) := by rw [Nat.add_mul, Nat.one_mul]
      omega
    · rw [Nat.add_comm, Nat.add_mul_mod_self_right]; exact Nat.mod_eq_of_lt (by omega)
    · rw [Nat.add_comm, Nat.add_mul_div_right _ _ (by omega), Nat.div_eq_of_lt (by omega), Nat.zero_add]
  have key : ∀ a b : Nat, a ≤ d → b ≤ d → ∃ k : Nat, ia l (b * (d + 1) + a) = (k : Int) ∧ IsP P G n k (x + (a : Int) * 2 ^ n) (y + (b : Int) * 2 ^ n) := by
    intro a b ha hb
    obtain ⟨q1, q2, q3⟩ := bd a b ha hb
    obtain ⟨k, e, hk⟩ := h _ q1
    rw [q2, q3] at hk
    exact ⟨k, e, hk.more hm ho⟩
  obtain ⟨k0, e0, p0⟩ := key u v (by omega) (by omega)
  obtain ⟨k1, e1, p1⟩ := key (u + 1) v (by omega) (by omega)
  obtain ⟨k2, e2, p2⟩ := key u (v + 1) (by omega) (by omega)
  obtain ⟨k3, e3, p3⟩ := key (u + 1) (v + 1) (by omega) (by omega)
  have hsq : sqW d (d + 1) l s = [(k0 : Int), (k1 : Int), (k2 : Int), (k3 : Int)] := by
    unfold sqW
    rw [hsm, hsd, e0, ← e1, ← e2, ← e3]
    have t1 : v * (d + 1) + u + 1 = v * (d + 1) + (u + 1) := by omega
    have t2 : v * (d + 1) + u + (d + 1) = (v + 1) * (d + 1) + u := by rw [Nat.add_mul, Nat.one_mul]; omega
    have t3 : v * (d + 1) + u + (d + 1) + 1 = (v + 1) * (d + 1) + (u + 1) := by rw [Nat.add_mul, Nat.one_mul]; omega
    rw [t1, t2, show (v + 1) * (d + 1) + u + 1 = (v + 1) * (d + 1) + (u + 1) by omega]
  rw [hsq]
  have a1 : x + ((u + 1 : Nat) : Int) * 2 ^ n = x + (u : Int) * 2 ^ n + 2 ^ n := by
    rw [show ((u + 1 : Nat) : Int) = (u : Int) + 1 by omega, Int.add_mul, Int.one_mul]; omega
  have a2 : y + ((v + 1 : Nat) : Int) * 2 ^ n = y + (v : Int) * 2 ^ n + 2 ^ n := by
    rw [show ((v + 1 : Nat) : Int) = (v : Int) + 1 by omega, Int.add_mul, Int.one_mul]; omega
  rw [a1] at p1 p3
  rw [a2] at p2 p3
  exact IsP.join hG p0 p1 p2 p3

end Go.Proofs.YtokemdbgcegjiaaGreat

namespace Go.Proofs.YtokemdbgcegjiaaGreat
set_option linter.unusedVariables false

/-- B' is B, grown. -/
structure More (B B' : List Qd) : Prop where
  grows : Grows B'
  len : B.length ≤ B'.length
  old : ∀ i, i < B.length → qa B' i = qa B i
theorem More.refl {B : List Qd} (h : Grows B) : More B B := ⟨h, Nat.le_refl _, fun _ _ => rfl⟩
theorem More.trans {A B C : List Qd} (h : More A B) (k : More B C) : More A C := ⟨k.grows, Nat.le_trans h.len k.len, fun i hi => (k.old i (Nat.lt_of_lt_of_le hi h.len)).trans (h.old i hi)⟩
theorem More.isP {P : Cl → Bool} {B B' : List Qd} (h : More B B') {n q : Nat} {x y : Int} (hp : IsP P B n q x y) : IsP P B' n q x y := hp.more h.len h.old
theorem More.less {P : Cl → Bool} {F G : List Qd} (hF : Grows F) (h : More F G) : ∀ {n q : Nat} {x y : Int}, q < F.length → IsP P G n q x y → IsP P F n q x y
  | 0, q, x, y, _, hp => hp
  | n + 1, q, x, y, hq, ⟨h2, _, k0, k1, k2, k3, hk, a, b, c, d⟩ => by
    rw [h.old q hq] at hk
    have kk := fun j hj => hF.kid q h2 hq j hj
    rw [hk] at kk
    have b0 := kk 0 (by omega)
    have b1 := kk 1 (by omega)
    have b2 := kk 2 (by omega)
    have b3 := kk 3 (by omega)
    simp only [ia, List.getD_cons_zero, List.getD_cons_succ] at b0 b1 b2 b3
    exact ⟨h2, hq, k0, k1, k2, k3, hk, h.less hF (by omega) a, h.less hF (by omega) b, h.less hF (by omega) c, h.less hF (by omega) d⟩
theorem ResP.more {F G : List Qd} (hF : Grows F) (h : More F G) {n q r : Nat} (hq : q < F.length) (hr : ResP F n q r) : ResP G n q r :=
  fun P hP => h.isP (hr P (h.less hF hq hP))
theorem JTo.is_more {F : List Qd} {n : Int} {k : Nat} {r : List Qd × List Int} (h : JTo F n k r) : More F r.1 := ⟨h.grows, h.more, h.old⟩
/-- What each joining makes is there in the end. -/
theorem jTo_isP {P : Cl → Bool} {F : List Qd} {sq : Nat → List Int} {lv : Int} {m n' : Nat} {X Y : Nat → Int} (hf : ∀ k, k ≤ m → JTo F lv k (jTo F sq k))
    (hj : ∀ s, s < m → ∀ G, More F G → IsP P (joinF G (sq s)).1 n' (joinF G (sq s)).2 (X s) (Y s)) : ∀ k, k ≤ m → ∀ s, s < k → IsP P (jTo F sq k).1 n' (ia (jTo F sq k).2 s).toNat (X s) (Y s)
  | 0, _, s, hs => by omega
  | k + 1, hk, s, hs => by
    have h := hf k (by omega)
    have h' := hf (k + 1) hk
    have hl := h.len
    simp only [jTo]
    by_cases e : s < k
    · rw [ia_app_old (by omega)]
      have ih := jTo_isP hf hj k (by omega) s e
      exact ih.more (joinF_len _ _).1 (fun i hi => joinF_old _ _ hi)
    · have hsk : s = (jTo F sq k).2.length := by omega
      rw [hsk, ia_app_new]
      rw [show (((joinF (jTo F sq k).1 (sq k)).2 : Nat) : Int).toNat = (joinF (jTo F sq k).1 (sq k)).2 by omega, hl]
      exact hj k (by omega) _ h.is_more

theorem byNine_res {B0 B2 B4 : List Qd} {n q : Nat} {half outs : List Int} (hG0 : Grows B0) (hq : q < B0.length)
    (hf9 : ∀ k, k ≤ 9 → JTo B0 ((n + 1 : Nat) : Int) k (jTo B0 (sqW 3 4 (gridL B0 q)) k))
    (h2 : More (jTo B0 (sqW 3 4 (gridL B0 q)) 9).1 B2) (hl2 : half.length = 9)
    (hr2 : ∀ k, k < 9 → ∃ r : Nat, ia half k = (r : Int) ∧ ResP B2 n (ia (jTo B0 (sqW 3 4 (gridL B0 q)) 9).2 k).toNat r)
    (hf4 : ∀ k, k ≤ 4 → JTo B2 ((n + 1 : Nat) : Int) k (jTo B2 (sqW 2 3 half) k))
    (h4 : More (jTo B2 (sqW 2 3 half) 4).1 B4) (hl4 : outs.length = 4)
    (hr4 : ∀ k, k < 4 → ∃ r : Nat, ia outs k = (r : Int) ∧ ResP B4 n (ia (jTo B2 (sqW 2 3 half) 4).2 k).toNat r)
    (hj : More B4 (joinF B4 outs).1) : ResP (joinF B4 outs).1 (n + 1) q (joinF B4 outs).2 := by
  intro P hP
  have m01 := (hf9 9 (Nat.le_refl _)).is_more
  have m23 := (hf4 4 (Nat.le_refl _)).is_more
  have mall : More B0 (joinF B4 outs).1 := (((m01.trans h2).trans m23).trans h4).trans hj
  have hP0 : IsP P B0 (n + 1 + 2) q 0 0 := mall.less hG0 hq hP
  have hp1 := two_pow n
  have hp2 := two_pow (n + 1)
  -- the nine
  have h9 : ∀ s, s < 9 → IsP P (jTo B0 (sqW 3 4 (gridL B0 q)) 9).1 (n + 2) (ia (jTo B0 (sqW 3 4 (gridL B0 q)) 9).2 s).toNat (((s % 3 : Nat) : Int) * 2 ^ (n + 1)) (((s / 3 : Nat) : Int) * 2 ^ (n + 1)) := by
    refine jTo_isP hf9 (fun s hs G hG => ?_) 9 (Nat.le_refl _)
    have := grid_join (P := P) (F := B0) (n := n + 1) (x := 0) (y := 0) (d := 3) (wd := 4) (l := gridL B0 q) rfl (gridL_len B0 q) (fun t ht => ⟨gridq B0 q t, gridL_at B0 q ht, by simpa using grid_isP hP0 ht⟩) (by omega) hG.grows hG.len hG.old (s := s) hs
    simpa using this
  -- their results: trees of what comes in so many steps
  have hh : ∀ s, s < 9 → ∃ r : Nat, ia half s = (r : Int) ∧ IsP (lifeN (2 ^ n) P) B2 (n + 1) r ((2 : Int) ^ n + ((s % 3 : Nat) : Int) * 2 ^ (n + 1)) ((2 : Int) ^ n + ((s / 3 : Nat) : Int) * 2 ^ (n + 1)) := by
    intro s hs
    obtain ⟨r, e, hr⟩ := hr2 s hs
    refine ⟨r, e, ?_⟩
    have := hr.at (h2.isP (h9 s hs))
    rw [Int.add_comm _ ((2 : Int) ^ n), Int.add_comm _ ((2 : Int) ^ n)] at this
    exact this
  -- the four
  have h4' : ∀ s, s < 4 → IsP (lifeN (2 ^ n) P) (jTo B2 (sqW 2 3 half) 4).1 (n + 2) (ia (jTo B2 (sqW 2 3 half) 4).2 s).toNat ((2 : Int) ^ n + ((s % 2 : Nat) : Int) * 2 ^ (n + 1)) ((2 : Int) ^ n + ((s / 2 : Nat) : Int) * 2 ^ (n + 1)) := by
    refine jTo_isP hf4 (fun s hs G hG => ?_) 4 (Nat.le_refl _)
    exact grid_join (P := lifeN (2 ^ n) P) (F := B2) (n := n + 1) (x := 2 ^ n) (y := 2 ^ n) (d := 2) (wd := 3) (l := half) rfl hl2 (fun t ht => hh t ht) (by omega) hG.grows hG.len hG.old (s := s) hs
  -- their results
  have ho : ∀ s, s < 4 → ∃ r : Nat, ia outs s = (r : Int) ∧ IsP (lifeN (2 ^ (n + 1)) P) B4 (n + 1) r ((2 : Int) ^ (n + 1) + ((s % 2 : Nat) : Int) * 2 ^ (n + 1)) ((2 : Int) ^ (n + 1) + ((s / 2 : Nat) : Int) * 2 ^ (n + 1)) := by
    intro s hs
    obtain ⟨r, e, hr⟩ := hr4 s hs
    refine ⟨r, e, ?_⟩
    have := hr.at (h4.isP (h4' s hs))
    rw [← lifeN_add, show 2 ^ n + 2 ^ n = 2 ^ (n + 1) by rw [Nat.pow_succ]; omega] at this
    rw [show (2 : Int) ^ (n + 1) + ((s % 2 : Nat) : Int) * 2 ^ (n + 1) = 2 ^ n + ((s % 2 : Nat) : Int) * 2 ^ (n + 1) + 2 ^ n by rw [hp1]; omega, show (2 : Int) ^ (n + 1) + ((s / 2 : Nat) : Int) * 2 ^ (n + 1) = 2 ^ n + ((s / 2 : Nat) : Int) * 2 ^ (n + 1) + 2 ^ n by rw [hp1]; omega]
    exact this
  obtain ⟨k0, e0, p0⟩ := ho 0 (by omega)
  obtain ⟨k1, e1, p1⟩ := ho 1 (by omega)
  obtain ⟨k2, e2, p2⟩ := ho 2 (by omega)
  obtain ⟨k3, e3, p3⟩ := ho 3 (by omega)
  have hou : outs = [(k0 : Int), (k1 : Int), (k2 : Int), (k3 : Int)] := by rw [list4 hl4, e0, e1, e2, e3]
  have hjn := IsP.join (x := 2 ^ (n + 1)) (y := 2 ^ (n + 1)) h4.grows (by simpa using p0) (by simpa using p1) (by simpa using p2) (by simpa using p3)
  rw [← hou] at hjn
  have := (IsP.shift (P := lifeN (2 ^ (n + 1)) P) ((2 : Int) ^ (n + 1)) ((2 : Int) ^ (n + 1)) (x := 0) (y := 0)).1 (by simpa using hjn)
  exact this

end Go.Proofs.YtokemdbgcegjiaaGreat

namespace Go.Proofs.YtokemdbgcegjiaaGreat
set_option linter.unusedVariables false

/-- A quad tells its cells. -/
theorem IsP.unique {P Q : Cl → Bool} {F : List Qd} : ∀ {n q : Nat} {x y : Int}, IsP P F n q x y → IsP Q F n q x y → ∀ c : Cl, x ≤ c.1 → c.1 < x + 2 ^ n → y ≤ c.2 → c.2 < y + 2 ^ n → P c = Q c
  | 0, q, x, y, h, k, c, h1, h2, h3, h4 => by
    have e1 : c.1 = x := by simp at h2; omega
    have e2 : c.2 = y := by simp at h4; omega
    obtain rfl : c = (x, y) := Prod.ext e1 e2
    unfold IsP at h k
    rw [h] at k
    cases hp : P (x, y) <;> cases hq : Q (x, y) <;> simp [hp, hq] at k ⊢
  | n + 1, q, x, y, ⟨_, _, k0, k1, k2, k3, hk, a, b, d, e⟩, ⟨_, _, l0, l1, l2, l3, hl, a', b', d', e'⟩, c, h1, h2, h3, h4 => by
    rw [hk] at hl
    simp only [List.cons.injEq, Int.natCast_inj, and_true] at hl
    obtain ⟨rfl, rfl, rfl, rfl⟩ := hl
    have hp := two_pow n
    rw [hp] at h2 h4
    by_cases u : c.1 < x + 2 ^ n
    · by_cases v : c.2 < y + 2 ^ n
      · exact IsP.unique a a' c h1 u h3 v
      · exact IsP.unique d d' c h1 u (by omega) (by omega)
    · by_cases v : c.2 < y + 2 ^ n
      · exact IsP.unique b b' c (by omega) (by omega) h3 v
      · exact IsP.unique e e' c (by omega) (by omega) (by omega) (by omega)
theorem lifeN_none : ∀ (t : Nat) (c : Cl), lifeN t (fun _ => false) c = false
  | 0, c => rfl
  | t + 1, c => by
    have e : life (fun _ => false) = fun _ => false := by
      funext d
      simp [life, nb]
    show lifeN t (life fun _ => false) c = false
    rw [e]
    exact lifeN_none t c
/-- A blank square is blank wherever it stands. -/
theorem blank_any {F : List Qd} {n q : Nat} {x y : Int} (h : IsP (fun _ => false) F n q x y) (x' y' : Int) : IsP (fun _ => false) F n q x' y' := by
  have h1 : IsP (fun _ => false) F n q (x' + (x - x')) (y' + (y - y')) := by
    rw [show x' + (x - x') = x by omega, show y' + (y - y') = y by omega]; exact h
  exact (IsP.shift (P := fun _ => false) (x - x') (y - y')).1 h1
theorem blank_join {F : List Qd} (hG : Grows F) {n b : Nat} {x y : Int} (h : IsP (fun _ => false) F n b x y) : IsP (fun _ => false) (joinF F [(b : Int), (b : Int), (b : Int), (b : Int)]).1 (n + 1) (joinF F [(b : Int), (b : Int), (b : Int), (b : Int)]).2 0 0 :=
  IsP.join hG (blank_any h _ _) (blank_any h _ _) (blank_any h _ _) (blank_any h _ _)
theorem blank_res {F : List Qd} {n q r : Nat} {x y : Int} (hq : IsP (fun _ => false) F (n + 2) q 0 0) (hr : IsP (fun _ => false) F (n + 1) r x y) : ResP F n q r := by
  refine ResP.of (P0 := fun _ => false) (fun P hP c h1 h2 h3 h4 => IsP.unique hq hP c h1 (by simpa using h2) h3 (by simpa using h4)) ?_
  have e : (fun c : Cl => lifeN (2 ^ n) (fun _ => false) (c.1 + 2 ^ n, c.2 + 2 ^ n)) = fun _ => false := by
    funext c
    exact lifeN_none _ _
  rw [e]
  exact blank_any hr 0 0
/-- One step of a square of four by four. -/
theorem one_res {F B : List Qd} {q r : Nat} {l l' : List Cl} (hl : risTo l l.length = true) (hq : ∀ P, IsP P B 2 q 0 0 → ∀ c : Cl, 0 ≤ c.1 → c.1 < 4 → 0 ≤ c.2 → c.2 < 4 → decide (c ∈ l) = P c)
    (hm : ∀ c, c ∈ l' ↔ nxtB l c = true) (hr : IsT l' B 1 r 1 1) : ResP B 0 q r := by
  refine ResP.of (P0 := fun c => decide (c ∈ l)) (fun P hP c h1 h2 h3 h4 => hq P hP c h1 (by simpa using h2) h3 (by simpa using h4)) ?_
  have h1 := isT_isP.1 hr
  have h2 := (IsP.shift (P := fun c => decide (c ∈ l')) (1 : Int) 1 (x := 0) (y := 0)).1 (by simpa using h1)
  have e : (fun c : Cl => lifeN (2 ^ 0) (fun c => decide (c ∈ l)) (c.1 + 2 ^ 0, c.2 + 2 ^ 0)) = fun c => decide ((c.1 + 1, c.2 + 1) ∈ l') := by
    funext c
    show life (fun c => decide (c ∈ l)) (c.1 + 1, c.2 + 1) = _
    rw [← nxtB_life (ris_nodup hl)]
    have := hm (c.1 + 1, c.2 + 1)
    cases hx : nxtB l (c.1 + 1, c.2 + 1)
    · rw [hx] at this; simpa using this
    · rw [hx] at this; simpa using this
  rw [e]
  exact h2

end Go.Proofs.YtokemdbgcegjiaaGreat

namespace Go.Proofs.YtokemdbgcegjiaaGreat
set_option linter.unusedVariables false

theorem nine_isP {P : Cl → Bool} {B0 : List Qd} {n q : Nat} (hP0 : IsP P B0 (n + 1 + 2) q 0 0)
    (hf9 : ∀ k, k ≤ 9 → JTo B0 ((n + 1 : Nat) : Int) k (jTo B0 (sqW 3 4 (gridL B0 q)) k)) : ∀ s, s < 9 → IsP P (jTo B0 (sqW 3 4 (gridL B0 q)) 9).1 (n + 2) (ia (jTo B0 (sqW 3 4 (gridL B0 q)) 9).2 s).toNat (((s % 3 : Nat) : Int) * 2 ^ (n + 1)) (((s / 3 : Nat) : Int) * 2 ^ (n + 1)) := by
  refine jTo_isP hf9 (fun s hs G hG => ?_) 9 (Nat.le_refl _)
  have := grid_join (P := P) (F := B0) (n := n + 1) (x := 0) (y := 0) (d := 3) (wd := 4) (l := gridL B0 q) rfl (gridL_len B0 q) (fun t ht => ⟨gridq B0 q t, gridL_at B0 q ht, by simpa using grid_isP hP0 ht⟩) (by omega) hG.grows hG.len hG.old (s := s) hs
  simpa using this
theorem half_isP {P : Cl → Bool} {B1 B2 : List Qd} {n : Nat} {N9 half : List Int} (h9 : ∀ s, s < 9 → IsP P B1 (n + 2) (ia N9 s).toNat (((s % 3 : Nat) : Int) * 2 ^ (n + 1)) (((s / 3 : Nat) : Int) * 2 ^ (n + 1))) (h2 : More B1 B2)
    (hr2 : ∀ k, k < 9 → ∃ r : Nat, ia half k = (r : Int) ∧ ResP B2 n (ia N9 k).toNat r) : ∀ s, s < 9 → ∃ r : Nat, ia half s = (r : Int) ∧ IsP (lifeN (2 ^ n) P) B2 (n + 1) r ((2 : Int) ^ n + ((s % 3 : Nat) : Int) * 2 ^ (n + 1)) ((2 : Int) ^ n + ((s / 3 : Nat) : Int) * 2 ^ (n + 1)) := by
  intro s hs
  obtain ⟨r, e, hr⟩ := hr2 s hs
  refine ⟨r, e, ?_⟩
  have := hr.at (h2.isP (h9 s hs))
  rw [Int.add_comm _ ((2 : Int) ^ n), Int.add_comm _ ((2 : Int) ^ n)] at this
  exact this
theorem four_isP {Q : Cl → Bool} {B2 : List Qd} {n : Nat} {half : List Int} {X Y : Int} (hl2 : half.length = 9)
    (hh : ∀ s, s < 9 → ∃ r : Nat, ia half s = (r : Int) ∧ IsP Q B2 (n + 1) r (X + ((s % 3 : Nat) : Int) * 2 ^ (n + 1)) (Y + ((s / 3 : Nat) : Int) * 2 ^ (n + 1)))
    (hf4 : ∀ k, k ≤ 4 → JTo B2 ((n + 1 : Nat) : Int) k (jTo B2 (sqW 2 3 half) k)) : ∀ s, s < 4 → IsP Q (jTo B2 (sqW 2 3 half) 4).1 (n + 2) (ia (jTo B2 (sqW 2 3 half) 4).2 s).toNat (X + ((s % 2 : Nat) : Int) * 2 ^ (n + 1)) (Y + ((s / 2 : Nat) : Int) * 2 ^ (n + 1)) := by
  refine jTo_isP hf4 (fun s hs G hG => ?_) 4 (Nat.le_refl _)
  exact grid_join (P := Q) (F := B2) (n := n + 1) (x := X) (y := Y) (d := 2) (wd := 3) (l := half) rfl hl2 (fun t ht => hh t ht) (by omega) hG.grows hG.len hG.old (s := s) hs
/-- What is a tree anywhere is one at the corner. -/
theorem isP_home {P : Cl → Bool} {F : List Qd} {n q : Nat} {x y : Int} (h : IsP P F n q x y) : ∃ P', IsP P' F n q 0 0 :=
  ⟨_, (IsP.shift (P := P) x y (x := 0) (y := 0)).1 (by simpa using h)⟩
/-- Joinings of a grid of trees of one level. -/
theorem jTo_level {F : List Qd} {n : Nat} {l : List Int} {wd d : Nat} (hG : Grows F) (hd : wd = d + 1) (hd0 : 0 < d) (hn : n < 5) (h : ∀ t, t < wd * wd → ∃ k : Nat, ia l t = (k : Int) ∧ k < F.length ∧ (qa F k).1 = (n : Int)) : ∀ k, k ≤ d * d → JTo F (n : Int) k (jTo F (sqW d wd l) k) := by
  subst hd
  have e : ∀ i, i < d * d → ∀ j, j < 4 → ∃ t, t < (d + 1) * (d + 1) ∧ ia (sqW d (d + 1) l i) j = ia l t := by
    intro i hi j hj
    have h1 : i % d < d := Nat.mod_lt _ hd0
    have h2 : i / d < d := Nat.div_lt_of_lt_mul hi
    have h3 : (i / d) * (d + 1) + (d + 1) ≤ d * (d + 1) := by
      have := Nat.mul_le_mul_right (d + 1) (show i / d + 1 ≤ d by omega)
      rw [Nat.add_mul, Nat.one_mul] at this
      exact this
    have h4 : (d + 1) * (d + 1) = d * (d + 1) + (d + 1) := by rw [Nat.add_mul, Nat.one_mul]
    rcases (show j = 0 ∨ j = 1 ∨ j = 2 ∨ j = 3 by omega) with rfl | rfl | rfl | rfl <;> exact ⟨_, by omega, rfl⟩
  refine fun k hk => jTo_facts hG (m := d * d) (fun i _ => rfl) (fun i hi j hj => ?_) (fun i hi => ?_) (by omega) k hk
  · obtain ⟨t, ht, et⟩ := e i hi j hj
    obtain ⟨q, e1, e2, _⟩ := h t ht
    rw [et, e1]; omega
  · obtain ⟨t, ht, et⟩ := e i hi 0 (by omega)
    obtain ⟨q, e1, _, e3⟩ := h t ht
    rw [et, e1, Int.toNat_natCast]; exact e3

end Go.Proofs.YtokemdbgcegjiaaGreat
