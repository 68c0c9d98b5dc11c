/- Texts of this seat, one behind the other: ChP, Jq, AnsP. -/
import Derived.Test.YtokemdbgcegjiaaGreatB09
import Derived.Test.YtokemdbgcegjiaaGreatB05
import Derived.Deep.RegionHeld3
import Derived.Test.YtokemdbgcegjiaaGreatB07
namespace Go.Proofs.YtokemdbgcegjiaaGreat
set_option linter.unusedVariables false

/-- In the square of level n from a corner on. -/
def sqB (n : Nat) (x y : Int) (c : Cl) : Prop := x ≤ c.1 ∧ c.1 < x + 2 ^ n ∧ y ≤ c.2 ∧ c.2 < y + 2 ^ n
theorem sqB_kid {n : Nat} {x y u v : Int} {c : Cl} (h : sqB n u v c) (hu : u = x ∨ u = x + 2 ^ n) (hv : v = y ∨ v = y + 2 ^ n) : sqB (n + 1) x y c := by
  have hp := pow_pos' n
  unfold sqB at *
  rw [two_pow]
  omega
theorem IsT.congr {L L' : List Cl} {F : List Qd} : ∀ {n q : Nat} {x y : Int}, IsT L F n q x y → (∀ c, sqB n x y c → (c ∈ L ↔ c ∈ L')) → IsT L' F n q x y
  | 0, q, x, y, h, hc => by
    unfold IsT at *
    rw [h]
    have := hc (x, y) (by unfold sqB; simp; omega)
    simp only [this]
  | n + 1, q, x, y, ⟨h2, hq, k0, k1, k2, k3, hk, a, b, d, e⟩, hc =>
    ⟨h2, hq, k0, k1, k2, k3, hk, a.congr fun c h => hc c (sqB_kid h (.inl rfl) (.inl rfl)), b.congr fun c h => hc c (sqB_kid h (.inr rfl) (.inl rfl)), d.congr fun c h => hc c (sqB_kid h (.inl rfl) (.inr rfl)), e.congr fun c h => hc c (sqB_kid h (.inr rfl) (.inr rfl))⟩
theorem treeL_congr {L L' : List Cl} : ∀ (n : Nat) (x y : Int) (F : List Qd), (∀ c, sqB n x y c → (c ∈ L ↔ c ∈ L')) → treeL L n x y F = treeL L' n x y F
  | 0, x, y, F, hc => by
    have := hc (x, y) (by unfold sqB; simp; omega)
    simp only [treeL, this]
  | n + 1, x, y, F, hc => by
    simp only [treeL]
    rw [treeL_congr n x y F fun c h => hc c (sqB_kid h (.inl rfl) (.inl rfl)), treeL_congr n (x + 2 ^ n) y _ fun c h => hc c (sqB_kid h (.inr rfl) (.inl rfl)), treeL_congr n x (y + 2 ^ n) _ fun c h => hc c (sqB_kid h (.inl rfl) (.inr rfl)), treeL_congr n (x + 2 ^ n) (y + 2 ^ n) _ fun c h => hc c (sqB_kid h (.inr rfl) (.inr rfl))]
theorem list4 {l : List Int} (h : l.length = 4) : l = [ia l 0, ia l 1, ia l 2, ia l 3] := by
  match l, h with
  | [a, b, c, d], _ => rfl
theorem kids4 {F : List Qd} (hg : goodF F = true) {q : Nat} (hq : q < F.length) (h2 : 2 ≤ q) : (qa F q).2 = [(kidq F q 0 : Int), (kidq F q 1 : Int), (kidq F q 2 : Int), (kidq F q 3 : Int)] := by
  have g := good_quad hg hq h2
  have e := list4 g.1
  have a := fun i hi => (g.2.2.2.1 i hi).1
  have a0 := a 0 (by omega)
  have a1 := a 1 (by omega)
  have a2 := a 2 (by omega)
  have a3 := a 3 (by omega)
  rw [show ((kidq F q 0 : Nat) : Int) = ia (qa F q).2 0 by unfold kidq; omega, show ((kidq F q 1 : Nat) : Int) = ia (qa F q).2 1 by unfold kidq; omega, show ((kidq F q 2 : Nat) : Int) = ia (qa F q).2 2 by unfold kidq; omega, show ((kidq F q 3 : Nat) : Int) = ia (qa F q).2 3 by unfold kidq; omega]
  exact e
/-- A quad of a good forest is the tree of its own cells. -/
theorem IsT.self {F : List Qd} (hg : goodF F = true) : ∀ (n q : Nat) (x y : Int), q < F.length → (qa F q).1 = (n : Int) → IsT (cellsL F n q x y) F n q x y
  | 0, q, x, y, hq, hl => by
    have h2 := (lev_two hg hq).1 (by simpa using hl)
    unfold IsT
    rcases (show q = 0 ∨ q = 1 by omega) with rfl | rfl <;> simp [cellsL]
  | n + 1, q, x, y, hq, hl => by
    have h2 : 2 ≤ q := by
      have := (lev_two hg hq).2
      by_cases h : q < 2
      · have := this h; omega
      · omega
    have g := good_quad hg hq h2
    have kl := fun i (hi : i < 4) => kid_lt hg hq h2 hi
    have l0 := g.2.2.2.2 0 (by omega)
    have l1 := g.2.2.2.2 1 (by omega)
    have l2 := g.2.2.2.2 2 (by omega)
    have l3 := g.2.2.2.2 3 (by omega)
    have b0 := kl 0 (by omega)
    have b1 := kl 1 (by omega)
    have b2 := kl 2 (by omega)
    have b3 := kl 3 (by omega)
    have hp := pow_pos' n
    have i0 := IsT.self hg n (kidq F q 0) x y (by omega) (by omega)
    have i1 := IsT.self hg n (kidq F q 1) (x + 2 ^ n) y (by omega) (by omega)
    have i2 := IsT.self hg n (kidq F q 2) x (y + 2 ^ n) (by omega) (by omega)
    have i3 := IsT.self hg n (kidq F q 3) (x + 2 ^ n) (y + 2 ^ n) (by omega) (by omega)
    have c0 := cellsL_in F n (kidq F q 0) x y
    have c1 := cellsL_in F n (kidq F q 1) (x + 2 ^ n) y
    have c2 := cellsL_in F n (kidq F q 2) x (y + 2 ^ n)
    have c3 := cellsL_in F n (kidq F q 3) (x + 2 ^ n) (y + 2 ^ n)
    refine ⟨h2, hq, _, _, _, _, kids4 hg hq h2, i0.congr fun c h => ?_, i1.congr fun c h => ?_, i2.congr fun c h => ?_, i3.congr fun c h => ?_⟩
    all_goals
      unfold sqB at h
      simp only [cellsL, List.mem_append]
      have c0 := c0 c
      have c1 := c1 c
      have c2 := c2 c
      have c3 := c3 c
      constructor
      · intro m; simp [m]
      · intro m
        rcases m with ((m | m) | m) | m
        · first | exact m | (have := c0 m; omega)
        · first | exact m | (have := c1 m; omega)
        · first | exact m | (have := c2 m; omega)
        · first | exact m | (have := c3 m; omega)
/-- Moved. -/
theorem IsT.shift {L L' : List Cl} {F : List Qd} {dx dy : Int} (hm : ∀ c : Cl, c ∈ L ↔ (c.1 + dx, c.2 + dy) ∈ L') : ∀ {n q : Nat} {x y : Int}, IsT L F n q x y → IsT L' F n q (x + dx) (y + dy)
  | 0, q, x, y, h => by
    unfold IsT at *
    rw [h]
    have := hm (x, y)
    simp only [this]
  | n + 1, q, x, y, ⟨h2, hq, k0, k1, k2, k3, hk, a, b, d, e⟩ => by
    have e1 : x + dx + 2 ^ n = x + 2 ^ n + dx := by omega
    have e2 : y + dy + 2 ^ n = y + 2 ^ n + dy := by omega
    refine ⟨h2, hq, k0, k1, k2, k3, hk, a.shift hm, ?_, ?_, ?_⟩
    · rw [e1]; exact b.shift hm
    · rw [e2]; exact d.shift hm
    · rw [e1, e2]; exact e.shift hm
theorem IsT.lt {L : List Cl} {F : List Qd} (h : 2 ≤ F.length) : ∀ {n q : Nat} {x y : Int}, IsT L F n q x y → q < F.length
  | 0, q, x, y, e => by
    unfold IsT at e
    rw [e]
    split <;> omega
  | n + 1, q, x, y, ⟨_, hq, _⟩ => hq
/-- Kid k of a tree. -/
theorem IsT.kid {L : List Cl} {F : List Qd} {n q : Nat} {x y : Int} (h : IsT L F (n + 1) q x y) (k : Nat) (hk : k < 4) : IsT L F n (kidq F q k) (x + ((k % 2 : Nat) : Int) * 2 ^ n) (y + ((k / 2 : Nat) : Int) * 2 ^ n) := by
  obtain ⟨h2, hq, k0, k1, k2, k3, e, a, b, c, d⟩ := h
  rcases (show k = 0 ∨ k = 1 ∨ k = 2 ∨ k = 3 by omega) with rfl | rfl | rfl | rfl
  · have : kidq F q 0 = k0 := by simp [kidq, e, ia]
    rw [this]; simpa using a
  · have : kidq F q 1 = k1 := by simp [kidq, e, ia]
    rw [this]; simpa using b
  · have : kidq F q 2 = k2 := by simp [kidq, e, ia]
    rw [this]; simpa using c
  · have : kidq F q 3 = k3 := by simp [kidq, e, ia]
    rw [this]; simpa using d
theorem IsT.kids {L : List Cl} {F : List Qd} {n q : Nat} {x y : Int} (h : IsT L F (n + 1) q x y) : 2 ≤ q ∧ q < F.length ∧ (∀ k, k < 4 → ia (qa F q).2 k = (kidq F q k : Int)) ∧ (qa F q).2.length = 4 := by
  obtain ⟨h2, hq, k0, k1, k2, k3, e, _⟩ := h
  refine ⟨h2, hq, fun k hk => ?_, by rw [e]; rfl⟩
  rcases (show k = 0 ∨ k = 1 ∨ k = 2 ∨ k = 3 by omega) with rfl | rfl | rfl | rfl <;> simp [kidq, e, ia]
theorem IsT.lev {L : List Cl} {F : List Qd} (hG : Grows F) : ∀ {n q : Nat} {x y : Int}, IsT L F n q x y → (qa F q).1 = (n : Int)
  | 0, q, x, y, e => by
    unfold IsT at e
    rw [e]
    split
    · rw [hG.low 1 (by omega)]; rfl
    · rw [hG.low 0 (by omega)]; rfl
  | n + 1, q, x, y, ⟨h2, hq, k0, k1, k2, k3, e, a, _⟩ => by
    have := hG.up q h2 hq
    rw [e] at this
    simp only [ia, List.getD_cons_zero, Int.toNat_natCast] at this
    rw [this, IsT.lev hG a]
    omega

/-- The middle: of each kid the kid at the other end. -/
def midK (F : List Qd) (q : Nat) : List Int := [(kidq F (kidq F q 0) 3 : Int), (kidq F (kidq F q 1) 2 : Int), (kidq F (kidq F q 2) 1 : Int), (kidq F (kidq F q 3) 0 : Int)]
theorem centre_tree {L L' : List Cl} {F : List Qd} (hG : Grows F) {n q : Nat} (h : IsT L F (n + 2) q 0 0) (hm : ∀ c : Cl, c ∈ L ↔ (c.1 + (-(2 : Int) ^ n), c.2 + (-(2 : Int) ^ n)) ∈ L') : treeL L' (n + 1) 0 0 F = joinF F (midK F q) := by
  have hp := two_pow n
  have k0 := ((h.kid 0 (by omega)).kid 3 (by omega)).shift hm
  have k1 := ((h.kid 1 (by omega)).kid 2 (by omega)).shift hm
  have k2 := ((h.kid 2 (by omega)).kid 1 (by omega)).shift hm
  have k3 := ((h.kid 3 (by omega)).kid 0 (by omega)).shift hm
  have e0 : (0 : Int) + ((0 % 2 : Nat) : Int) * 2 ^ (n + 1) + ((3 % 2 : Nat) : Int) * 2 ^ n + (-(2 : Int) ^ n) = 0 := by simp; omega
  have e1 : (0 : Int) + ((0 / 2 : Nat) : Int) * 2 ^ (n + 1) + ((3 / 2 : Nat) : Int) * 2 ^ n + (-(2 : Int) ^ n) = 0 := by simp; omega
  rw [e0] at k0
  try rw [e1] at k0
  have e2 : (0 : Int) + ((1 % 2 : Nat) : Int) * 2 ^ (n + 1) + ((2 % 2 : Nat) : Int) * 2 ^ n + (-(2 : Int) ^ n) = 0 + 2 ^ n := by simp; omega
  have e3 : (0 : Int) + ((1 / 2 : Nat) : Int) * 2 ^ (n + 1) + ((2 / 2 : Nat) : Int) * 2 ^ n + (-(2 : Int) ^ n) = 0 := by simp; omega
  rw [e2] at k1
  try rw [e3] at k1
  have e4 : (0 : Int) + ((2 % 2 : Nat) : Int) * 2 ^ (n + 1) + ((1 % 2 : Nat) : Int) * 2 ^ n + (-(2 : Int) ^ n) = 0 := by simp; omega
  have e5 : (0 : Int) + ((2 / 2 : Nat) : Int) * 2 ^ (n + 1) + ((1 / 2 : Nat) : Int) * 2 ^ n + (-(2 : Int) ^ n) = 0 + 2 ^ n := by simp; omega
  rw [e4] at k2
  try rw [e5] at k2
  have e6 : (0 : Int) + ((3 % 2 : Nat) : Int) * 2 ^ (n + 1) + ((0 % 2 : Nat) : Int) * 2 ^ n + (-(2 : Int) ^ n) = 0 + 2 ^ n := by simp; omega
  have e7 : (0 : Int) + ((3 / 2 : Nat) : Int) * 2 ^ (n + 1) + ((0 / 2 : Nat) : Int) * 2 ^ n + (-(2 : Int) ^ n) = 0 + 2 ^ n := by simp; omega
  rw [e6] at k3
  try rw [e7] at k3
  simp only [treeL, treeL_there hG k0, treeL_there hG k1, treeL_there hG k2, treeL_there hG k3]
  rfl

/-- A corner of a frame: blank, but for the kid that touches the middle. -/
def cornK (b k : Int) (i : Nat) : List Int := [if i = 3 then k else b, if i = 2 then k else b, if i = 1 then k else b, if i = 0 then k else b]
/-- The forest behind the first k corners of a frame, and their numbers. -/
def frk (b : Int) (ks : List Int) (G : List Qd) : Nat → List Qd × List Int
  | 0 => (G, [])
  | k + 1 => ((joinF (frk b ks G k).1 (cornK b (ia ks k) k)).1, (frk b ks G k).2 ++ [((joinF (frk b ks G k).1 (cornK b (ia ks k) k)).2 : Int)])
theorem frame_tree {L L' : List Cl} {F : List Qd} (hG : Grows F) {n q : Nat} (hn : n < 4) (h : IsT L F (n + 1) q 0 0) (hin : ∀ c ∈ L, sqB (n + 1) 0 0 c) (hm : ∀ c : Cl, c ∈ L ↔ (c.1 + (2 : Int) ^ n, c.2 + (2 : Int) ^ n) ∈ L') :
    treeL L' (n + 2) 0 0 F = joinF (frk ((treeL [] n 0 0 F).2 : Int) (qa F q).2 (treeL [] n 0 0 F).1 4).1 (frk ((treeL [] n 0 0 F).2 : Int) (qa F q).2 (treeL [] n 0 0 F).1 4).2 := by
  have hp := two_pow n
  have hpos := pow_pos' n
  have t := treeL_tr [] n 0 0 F (by omega) hG
  have tb := treeL_is [] n 0 0 F (by omega) hG
  have hks := h.kids
  have k0 := ((h.kid 0 (by omega)).shift hm).more t.more t.old
  have k1 := ((h.kid 1 (by omega)).shift hm).more t.more t.old
  have k2 := ((h.kid 2 (by omega)).shift hm).more t.more t.old
  have k3 := ((h.kid 3 (by omega)).shift hm).more t.more t.old
  have l0 := (h.kid 0 (by omega)).lev hG
  have l1 := (h.kid 1 (by omega)).lev hG
  have l2 := (h.kid 2 (by omega)).lev hG
  have l3 := (h.kid 3 (by omega)).lev hG
  have b0 := (h.kid 0 (by omega)).lt hG.two
  have b1 := (h.kid 1 (by omega)).lt hG.two
  have b2 := (h.kid 2 (by omega)).lt hG.two
  have b3 := (h.kid 3 (by omega)).lt hG.two
  -- all cells of the frame are in its middle
  have mid : ∀ c ∈ L', (2 : Int) ^ n ≤ c.1 ∧ c.1 < 2 ^ n + 2 ^ n + 2 ^ n ∧ 2 ^ n ≤ c.2 ∧ c.2 < 2 ^ n + 2 ^ n + 2 ^ n := by
    rintro ⟨u, v⟩ hc
    have := (hm (u - 2 ^ n, v - 2 ^ n)).2 (by simpa using hc)
    have := hin _ this
    unfold sqB at this
    simp only at this
    rw [hp] at this
    simp only
    omega
  have blank : ∀ (x y : Int) (G : List Qd) (b : Nat), IsT [] G n b 0 0 → (∀ c, sqB n x y c → c ∉ L') → IsT L' G n b x y := by
    intro x y G b hb hno
    have := hb.shift (L' := []) (dx := x) (dy := y) (by intro c; simp)
    rw [Int.zero_add, Int.zero_add] at this
    exact this.congr fun c hc => by simp [hno c hc]
  have no : ∀ (x y : Int), (x + 2 ^ n ≤ 2 ^ n ∨ 2 ^ n + 2 ^ n + 2 ^ n ≤ x ∨ y + 2 ^ n ≤ 2 ^ n ∨ 2 ^ n + 2 ^ n + 2 ^ n ≤ y) → ∀ c, sqB n x y c → c ∉ L' := by
    intro x y hxy c hc hL
    have := mid c hL
    unfold sqB at hc
    omega
  have f0 : treeL L' n 0 0 F = treeL [] n 0 0 F := treeL_congr n 0 0 F fun c hc => by simp [no 0 0 (by omega) c hc]
  generalize hB : treeL [] n 0 0 F = B at *
  have gB := t.grows
  have lB := t.lev
  have ltB := t.lt
  -- the blank quad is there in all that comes behind
  have old : ∀ (G : List Qd), Grows G → B.1.length ≤ G.length → (∀ i, i < B.1.length → qa G i = qa B.1 i) → (∀ x y, (x + 2 ^ n ≤ 2 ^ n ∨ 2 ^ n + 2 ^ n + 2 ^ n ≤ x ∨ y + 2 ^ n ≤ 2 ^ n ∨ 2 ^ n + 2 ^ n + 2 ^ n ≤ y) → treeL L' n x y G = (G, B.2)) ∧ treeL L' n (2 ^ n) (2 ^ n) G = (G, kidq F q 0) ∧ treeL L' n (2 ^ n + 2 ^ n) (2 ^ n) G = (G, kidq F q 1) ∧ treeL L' n (2 ^ n) (2 ^ n + 2 ^ n) G = (G, kidq F q 2) ∧ treeL L' n (2 ^ n + 2 ^ n) (2 ^ n + 2 ^ n) G = (G, kidq F q 3) := by
    intro G hg hl ho
    refine ⟨fun x y hxy => treeL_there hg (blank x y G B.2 (tb.more hl ho) (no x y hxy)), ?_, ?_, ?_, ?_⟩
    · have z := k0.more hl ho
      exact treeL_there hg (by simpa using z)
    · have z := k1.more hl ho
      exact treeL_there hg (by simpa using z)
    · have z := k2.more hl ho
      exact treeL_there hg (by simpa using z)
    · have z := k3.more hl ho
      exact treeL_there hg (by simpa using z)
  have tl : ∀ (G : List Qd) (l : List Int), Grows G → B.1.length ≤ G.length → (∀ i, i < B.1.length → qa G i = qa B.1 i) → l.length = 4 → (∀ j, j < 4 → 0 ≤ ia l j ∧ ia l j < (B.1.length : Int) ∧ (qa B.1 (ia l j).toNat).1 = (n : Int)) → Grows (joinF G l).1 ∧ B.1.length ≤ (joinF G l).1.length ∧ (∀ i, i < B.1.length → qa (joinF G l).1 i = qa B.1 i) := by
    intro G l hg hl ho h4 hj
    have j0 := hj 0 (by omega)
    refine ⟨joinF_grows hg h4 (fun j hj' => by have := hj j hj'; omega) (by rw [ho _ (by omega)]; omega), Nat.le_trans hl (joinF_len G l).1, fun i hi => by rw [joinF_old G l (by omega), ho i hi]⟩
  have lk : ∀ i, i < 4 → (qa B.1 (kidq F q i)).1 = (n : Int) ∧ kidq F q i < B.1.length := by
    intro i hi
    have m := t.more
    rcases (show i = 0 ∨ i = 1 ∨ i = 2 ∨ i = 3 by omega) with rfl | rfl | rfl | rfl
    · exact ⟨by rw [t.old _ b0]; exact l0, by omega⟩
    · exact ⟨by rw [t.old _ b1]; exact l1, by omega⟩
    · exact ⟨by rw [t.old _ b2]; exact l2, by omega⟩
    · exact ⟨by rw [t.old _ b3]; exact l3, by omega⟩
  have cj : ∀ (i : Nat), i < 4 → ∀ j, j < 4 → 0 ≤ ia (cornK (B.2 : Int) (kidq F q i : Int) i) j ∧ ia (cornK (B.2 : Int) (kidq F q i : Int) i) j < (B.1.length : Int) ∧ (qa B.1 (ia (cornK (B.2 : Int) (kidq F q i : Int) i) j).toNat).1 = (n : Int) := by
    intro i hi j hj
    obtain ⟨z1, z2⟩ := lk i hi
    have : ia (cornK (B.2 : Int) (kidq F q i : Int) i) j = (B.2 : Int) ∨ ia (cornK (B.2 : Int) (kidq F q i : Int) i) j = (kidq F q i : Int) := by
      rcases (show j = 0 ∨ j = 1 ∨ j = 2 ∨ j = 3 by omega) with rfl | rfl | rfl | rfl <;> simp only [cornK, ia, List.getD_cons_zero, List.getD_cons_succ] <;> (split <;> simp)
    rcases this with e | e <;> rw [e]
    · exact ⟨by omega, by omega, by simpa using lB⟩
    · exact ⟨by omega, by omega, by simpa using z1⟩
  have s0 := old B.1 gB (Nat.le_refl _) (fun _ _ => rfl)
  have g1 := tl B.1 (cornK (B.2 : Int) (kidq F q 0 : Int) 0) gB (Nat.le_refl _) (fun _ _ => rfl) rfl (cj 0 (by omega))
  generalize hJ1 : joinF B.1 (cornK (B.2 : Int) (kidq F q 0 : Int) 0) = J1 at *
  have s1 := old J1.1 g1.1 g1.2.1 g1.2.2
  have g2 := tl J1.1 (cornK (B.2 : Int) (kidq F q 1 : Int) 1) g1.1 g1.2.1 g1.2.2 rfl (cj 1 (by omega))
  generalize hJ2 : joinF J1.1 (cornK (B.2 : Int) (kidq F q 1 : Int) 1) = J2 at *
  have s2 := old J2.1 g2.1 g2.2.1 g2.2.2
  have g3 := tl J2.1 (cornK (B.2 : Int) (kidq F q 2 : Int) 2) g2.1 g2.2.1 g2.2.2 rfl (cj 2 (by omega))
  generalize hJ3 : joinF J2.1 (cornK (B.2 : Int) (kidq F q 2 : Int) 2) = J3 at *
  have s3 := old J3.1 g3.1 g3.2.1 g3.2.2
  have e0 := hks.2.2.1 0 (by omega)
  have e1 := hks.2.2.1 1 (by omega)
  have e2 := hks.2.2.1 2 (by omega)
  have e3 := hks.2.2.1 3 (by omega)
  simp only [frk, e0, e1, e2, e3, hJ1, hJ2, hJ3, List.nil_append, List.cons_append]
  have c0 : treeL L' (n + 1) 0 0 F = J1 := by
    simp only [treeL, f0]
    rw [s0.1 (0 + 2 ^ n) 0 (by omega)]
    simp only
    rw [s0.1 0 (0 + 2 ^ n) (by omega)]
    simp only
    rw [show (0 : Int) + 2 ^ n = 2 ^ n by omega, s0.2.1, ← hJ1]
    rfl
  have c1 : treeL L' (n + 1) (0 + 2 ^ (n + 1)) 0 J1.1 = J2 := by
    simp only [treeL, hp]
    rw [show (0 : Int) + (2 ^ n + 2 ^ n) = 2 ^ n + 2 ^ n by omega, s1.1 (2 ^ n + 2 ^ n) 0 (by omega)]
    simp only
    rw [s1.1 (2 ^ n + 2 ^ n + 2 ^ n) 0 (by omega)]
    simp only
    rw [show (0 : Int) + 2 ^ n = 2 ^ n by omega, s1.2.2.1]
    simp only
    rw [s1.1 (2 ^ n + 2 ^ n + 2 ^ n) (2 ^ n) (by omega), ← hJ2]
    rfl
  have c2 : treeL L' (n + 1) 0 (0 + 2 ^ (n + 1)) J2.1 = J3 := by
    simp only [treeL, hp]
    rw [show (0 : Int) + (2 ^ n + 2 ^ n) = 2 ^ n + 2 ^ n by omega, s2.1 0 (2 ^ n + 2 ^ n) (by omega)]
    simp only
    rw [show (0 : Int) + 2 ^ n = 2 ^ n by omega, s2.2.2.2.1]
    simp only
    rw [s2.1 0 (2 ^ n + 2 ^ n + 2 ^ n) (by omega)]
    simp only
    rw [s2.1 (2 ^ n) (2 ^ n + 2 ^ n + 2 ^ n) (by omega), ← hJ3]
    rfl
  have c3 : treeL L' (n + 1) (0 + 2 ^ (n + 1)) (0 + 2 ^ (n + 1)) J3.1 = joinF J3.1 (cornK (B.2 : Int) (kidq F q 3 : Int) 3) := by
    simp only [treeL, hp]
    rw [show (0 : Int) + (2 ^ n + 2 ^ n) = 2 ^ n + 2 ^ n by omega, s3.2.2.2.2]
    simp only
    rw [s3.1 (2 ^ n + 2 ^ n + 2 ^ n) (2 ^ n + 2 ^ n) (by omega)]
    simp only
    rw [s3.1 (2 ^ n + 2 ^ n) (2 ^ n + 2 ^ n + 2 ^ n) (by omega)]
    simp only
    rw [s3.1 (2 ^ n + 2 ^ n + 2 ^ n) (2 ^ n + 2 ^ n + 2 ^ n) (by omega)]
    rfl
  rw [show treeL L' (n + 2) 0 0 F = joinF (treeL L' (n + 1) (0 + 2 ^ (n + 1)) (0 + 2 ^ (n + 1)) (treeL L' (n + 1) 0 (0 + 2 ^ (n + 1)) (treeL L' (n + 1) (0 + 2 ^ (n + 1)) 0 (treeL L' (n + 1) 0 0 F).1).1).1).1 [((treeL L' (n + 1) 0 0 F).2 : Int), ((treeL L' (n + 1) (0 + 2 ^ (n + 1)) 0 (treeL L' (n + 1) 0 0 F).1).2 : Int), ((treeL L' (n + 1) 0 (0 + 2 ^ (n + 1)) (treeL L' (n + 1) (0 + 2 ^ (n + 1)) 0 (treeL L' (n + 1) 0 0 F).1).1).2 : Int), ((treeL L' (n + 1) (0 + 2 ^ (n + 1)) (0 + 2 ^ (n + 1)) (treeL L' (n + 1) 0 (0 + 2 ^ (n + 1)) (treeL L' (n + 1) (0 + 2 ^ (n + 1)) 0 (treeL L' (n + 1) 0 0 F).1).1).1).2 : Int)] from rfl]
  rw [c0, c1, c2, c3]

end Go.Proofs.YtokemdbgcegjiaaGreat

namespace Go.Proofs.YtokemdbgcegjiaaGreat
open Go.RowKit Go.Maps
set_option linter.unusedVariables false
set_option linter.unusedSimpArgs false
attribute [local go_sem ↓] Go.wp_at_zero Go.wp_at_succ

/-- May these be joined? -/
def jqOK (F : List Qd) (l : List Int) : Bool := goodF F && decide (l.length = 4) && canJ F l
def jqF (F : List Qd) (l : List Int) : List Qd := if jqOK F l then tellF (joinF F l).1 else []
def jqQ (F : List Qd) (l : List Int) : Int := if jqOK F l then tellQ (joinF F l).1 ((joinF F l).2 : Int) else 0
def jqB (F : List Qd) (l : List Int) : Bool := jqOK F l && tellB (joinF F l).1
theorem canJ_all {F : List Qd} {l : List Int} (hl : l.length = 4) (h : canJ F l = true) : allIn l 0 ((F.length : Int) - 1) = true := by
  simp only [canJ, Bool.and_eq_true] at h
  refine allB_iff.2 fun i hi => ?_
  have := allB_iff.1 h.1 i (by omega)
  simp only [kidB, Bool.and_eq_true] at this
  exact this.1
theorem canJ_lev {F : List Qd} {l : List Int} (h : canJ F l = true) : ∀ i, i < 4 → (0 ≤ ia l i ∧ ia l i < (F.length : Int)) ∧ (qa F (ia l i).toNat).1 = (qa F (ia l 0).toNat).1 ∧ (qa F (ia l i).toNat).1 < 5 := by
  simp only [canJ, Bool.and_eq_true, decide_eq_true_eq] at h
  intro i hi
  have := allB_iff.1 h.1 i hi
  simp only [kidB, Bool.and_eq_true, decide_eq_true_eq] at this
  have b := inB_bd this.1
  exact ⟨⟨by omega, by omega⟩, this.2, by omega⟩
/-- Is kid i of the first one's level, and not too high? -/
def okK (F : List Qd) (l : List Int) (i : Nat) : Bool := decide ((qa F (ia l i).toNat).1 = (qa F (ia l 0).toNat).1) && decide ((qa F (ia l i).toNat).1 < 5)
theorem canJ_of {F : List Qd} {l : List Int} (hl : l.length = 4) (h1 : allIn l 0 ((F.length : Int) - 1) = true) (h2 : allB (okK F l) 4 = true) : canJ F l = true := by
  simp only [canJ, Bool.and_eq_true, decide_eq_true_eq]
  have h0 := allB_iff.1 h2 0 (by omega)
  simp only [okK, Bool.and_eq_true, decide_eq_true_eq] at h0
  refine ⟨allB_iff.2 fun i hi => ?_, h0.2⟩
  have a := allB_iff.1 h1 i (by omega)
  have b := allB_iff.1 h2 i hi
  simp only [okK, Bool.and_eq_true, decide_eq_true_eq] at b
  simp only [kidB, Bool.and_eq_true, decide_eq_true_eq]
  exact ⟨a, b.1⟩
theorem canJ_no_all {F : List Qd} {l : List Int} (hl : l.length = 4) (h1 : allIn l 0 ((F.length : Int) - 1) = false) : canJ F l = false := by
  cases h : canJ F l
  · rfl
  · rw [canJ_all hl h] at h1; cases h1
theorem canJ_no_ok {F : List Qd} {l : List Int} {k : Nat} (hk : k < 4) (h1 : okK F l k = false) : canJ F l = false := by
  cases h : canJ F l
  · rfl
  · have := canJ_lev h k hk
    simp only [okK, this.2.1, decide_true, Bool.true_and, decide_eq_false_iff_not] at h1
    rw [this.2.1] at this
    omega

theorem jq_small (F : List Qd) (l : List Int) : (jqF F l).length ≤ 1048576 ∧ KidsLe (jqF F l) ∧ posF (nsF (jqF F l)) (jqF F l).length ≤ 8388608 := by
  unfold jqF
  split
  · rename_i hok
    unfold tellF
    split
    · rename_i h4
      simp only [jqOK, Bool.and_eq_true, decide_eq_true_eq] at hok
      have hlv := canJ_lev hok.2
      have hG := joinF_grows (good_grows hok.1.1) hok.1.2 (fun j hj => (hlv j hj).1) (hlv 0 (by omega)).2.2
      refine ⟨by omega, hG.kidsLe, ?_⟩
      have hp : ∀ G : List Qd, Grows G → ∀ k, k ≤ G.length → posF (nsF G) k ≤ 1 + 5 * k := by
        intro G hG k
        induction k with
        | zero => intro _; simp [posF]
        | succ k ih =>
          intro hk
          have := ih (by omega)
          have : nsF G k ≤ 4 := by
            unfold nsF
            by_cases h2 : k < 2
            · rw [hG.low k h2]; simp
            · have := hG.len k (by omega) (by omega); omega
          simp only [posF]; omega
      have := hp _ hG (joinF F l).1.length (Nat.le_refl _)
      omega
    · exact ⟨by simp, fun i hi => by simp at hi, by simp [posF]⟩
  · exact ⟨by simp, fun i hi => by simp at hi, by simp [posF]⟩

end Go.Proofs.YtokemdbgcegjiaaGreat

namespace Go.Proofs.YtokemdbgcegjiaaGreat
set_option linter.unusedVariables false

/-- What is answered where ok, of a forest and a quad. -/
def ansF (ok : Bool) (R : List Qd × Nat) : List Qd := if ok then tellF R.1 else []
def ansQ (ok : Bool) (R : List Qd × Nat) : Int := if ok then tellQ R.1 (R.2 : Int) else 0
def ansB (ok : Bool) (R : List Qd × Nat) : Bool := ok && tellB R.1
theorem ans_no (R : List Qd × Nat) : ansF false R = [] ∧ ansQ false R = 0 ∧ ansB false R = false := ⟨rfl, rfl, rfl⟩
theorem ans_yes (R : List Qd × Nat) : ansF true R = tellF R.1 ∧ ansQ true R = tellQ R.1 (R.2 : Int) ∧ ansB true R = tellB R.1 := ⟨rfl, rfl, rfl⟩
/-- Is there a quad of so great a level? -/
def quadB (F : List Qd) (q m : Int) : Bool := thereB F q && decide (m ≤ (qa F q.toNat).1)

end Go.Proofs.YtokemdbgcegjiaaGreat
