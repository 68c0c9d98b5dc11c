/- Texts of this seat, one behind the other: Near, FHeld, LawX. -/
import Derived.Test.YtokemdbgcegjiaaGreatB02
import Derived.Test.YtokemdbgcegjiaaGreatFMem
namespace Go.Proofs.YtokemdbgcegjiaaGreat
open Go.RowKit
set_option linter.unusedVariables false

/-- Is x near c, and not c itself? -/
def nearB (c x : Cl) : Bool := decide (x ≠ c) && (decide (-1 ≤ x.1 - c.1) && decide (x.1 - c.1 ≤ 1)) && (decide (-1 ≤ x.2 - c.2) && decide (x.2 - c.2 ≤ 1))
/-- How many of the first k are near c. -/
def nearTo (l : List Cl) (c : Cl) (k : Nat) : Nat := (l.take k).countP (nearB c)
/-- How many are near c. -/
def near (l : List Cl) (c : Cl) : Nat := l.countP (nearB c)
/-- The eight places about c. -/
def about (c : Cl) : List Cl := [(c.1 - 1, c.2 - 1), (c.1, c.2 - 1), (c.1 + 1, c.2 - 1), (c.1 - 1, c.2), (c.1 + 1, c.2), (c.1 - 1, c.2 + 1), (c.1, c.2 + 1), (c.1 + 1, c.2 + 1)]

theorem nearTo_succ {l : List Cl} {c : Cl} {k : Nat} (h : k < l.length) : nearTo l c (k + 1) = nearTo l c k + if nearB c (at_ l k) then 1 else 0 := by
  unfold nearTo
  rw [List.take_succ_eq_append_getElem h, List.countP_append]
  simp [at_, h, List.countP_cons]
theorem nearTo_le (l : List Cl) (c : Cl) (k : Nat) : nearTo l c k ≤ k := by
  have h1 := List.countP_le_length (p := nearB c) (l := l.take k)
  have h2 := List.length_take_le k l
  unfold nearTo; omega
theorem nearTo_all (l : List Cl) (c : Cl) : nearTo l c l.length = near l c := by simp [nearTo, near]
theorem mem_about (c x : Cl) : x ∈ about c ↔ nearB c x = true := by
  obtain ⟨a, b⟩ := c
  obtain ⟨u, v⟩ := x
  simp [about, nearB]
  omega
theorem about_nodup (c : Cl) : (about c).Nodup := by
  obtain ⟨a, b⟩ := c
  simp [about]
  omega
theorem countP_or (A : List Cl) (x : Cl) (q : Cl → Bool) (h : q x = false) : A.countP (fun a => decide (a = x) || q a) = A.countP (fun a => decide (a = x)) + A.countP q := by
  induction A with
  | nil => rfl
  | cons a r ih =>
    rw [List.countP_cons, List.countP_cons, List.countP_cons, ih]
    by_cases e : a = x
    · subst e; simp [h]; omega
    · simp [e]; omega
theorem countP_is (A : List Cl) (x : Cl) (hA : A.Nodup) : A.countP (fun a => decide (a = x)) = if x ∈ A then 1 else 0 := by
  induction A with
  | nil => rfl
  | cons a r ih =>
    rw [List.nodup_cons] at hA
    rw [List.countP_cons, ih hA.2]
    by_cases e : a = x
    · subst e; simp [hA.1]
    · have e' : x ≠ a := fun h => e h.symm
      simp [e, e']
/-- Two lists without anything twice: as many of the one are in the other. -/
theorem countP_swap (l A : List Cl) (hl : l.Nodup) (hA : A.Nodup) : l.countP (fun x => decide (x ∈ A)) = A.countP (fun a => decide (a ∈ l)) := by
  induction l with
  | nil => simp
  | cons x r ih =>
    rw [List.nodup_cons] at hl
    have e : (fun a => decide (a ∈ x :: r)) = (fun a => decide (a = x) || decide (a ∈ r)) := by
      funext a; simp
    rw [List.countP_cons, ih hl.2, e, countP_or A x _ (by simp [hl.1]), countP_is A x hA]
    simp; omega
theorem ris_nodup {l : List Cl} (h : risTo l l.length = true) : l.Nodup := by
  rw [List.nodup_iff_pairwise_ne, List.pairwise_iff_getElem]
  intro i j hi hj hij e
  have := ris_lt h j hij hj
  simp only [at_, List.getD_eq_getElem?_getD, List.getElem?_eq_getElem hi, List.getElem?_eq_getElem hj, Option.getD_some] at this
  rw [e, ltC_irr] at this
  cases this
/-- The two ways of counting come to the same. -/
theorem near_about {l : List Cl} (h : risTo l l.length = true) (c : Cl) : near l c = (about c).countP (fun a => decide (a ∈ l)) := by
  rw [← countP_swap l (about c) (ris_nodup h) (about_nodup c)]
  unfold near
  congr 1
  funext x
  rw [Bool.eq_iff_iff]
  simp [mem_about]


set_option maxHeartbeats 400000 in
theorem c_l1Near (a : Option Addr) (l : List Cl) (ca : Nat) (c : Cl) (w : World) (ha : Seg w a l) (hl : l.length ≤ 1048576) (hin : ∀ i, i < l.length → inR (at_ l i) = true) (hc : -41 ≤ c.1 ∧ c.1 ≤ 41 ∧ -41 ≤ c.2 ∧ c.2 ≤ 41) :
    Calls Tryz.prog 139 #[.slice a l.length ca, .agg #[.int .i64 c.1, .int .i64 c.2]] w fun e w' => e = .returned (.int .i64 (near l c)) ∧ Below w.heap.size w w' := by
  obtain ⟨c1, c2, c3, c4⟩ := hc
  have HIN := hid hin
  clear hin
  go_enter Tryz.func139, Tryz.ntmps139
  go_wp2
  go_loopw [5, 10] (fun n i wr => ∃ k : Nat, k ≤ l.length ∧ i = .int .i64 k ∧ n = .int .i64 (nearTo l c k) ∧ BoxIn w wr c) (fun _ i _ => l.length - (intOf i).toNat)
  case atStart => exact ⟨0, Nat.zero_le _, rfl, rfl, BoxIn.new w c _⟩
  case round =>
    obtain ⟨k, hk, rfl, rfl, hX⟩ := hrel
    have hB := hX.below
    have g3 := hX.1
    have g4 := hX.2.1
    have hsz := hX.2.2.1
    have HX := hid hX
    clear hX
    by_cases hlt : k < l.length
    · obtain ⟨b1, o1, rfl, hb1, p1, p2⟩ := ha k hlt
      have g1 := (hB.cell (p := ⟨b1, o1 + k * 2, none⟩) hb1).trans p1
      have g2 := (hB.cell (p := ⟨b1, o1 + k * 2 + 1, none⟩) hb1).trans p2
      change _ = some (Value.int .i64 (at_ l k).1) at g1
      change _ = some (Value.int .i64 (at_ l k).2) at g2
      clear p1 p2
      have hbx : b1 < wr.heap.size := Nat.lt_of_lt_of_le hb1 hB.size
      have k0 : (0 : Int) ≤ (k : Int) := by omega
      have k1 : (k : Int) < (l.length : Int) := by omega
      have hr := HIN.out k hlt
      simp only [inR, Bool.and_eq_true, decide_eq_true_eq] at hr
      obtain ⟨⟨⟨x1, x2⟩, x3⟩, x4⟩ := hr
      have HS := hid (nearTo_succ (c := c) hlt)
      have hnl := nearTo_le l c k
      generalize at_ l k = x at *
      generalize nearTo l c k = n at *
      have hnb : nearB c x = (decide (x ≠ c) && (decide (-1 ≤ x.1 - c.1) && decide (x.1 - c.1 ≤ 1)) && (decide (-1 ≤ x.2 - c.2) && decide (x.2 - c.2 ≤ 1))) := rfl
      have HNB := hid hnb
      clear hnb
      by_cases h1 : x.1 = c.1
      · by_cases h2 : x.2 = c.2
        · have HN : Hid (nearTo l c (k + 1) = n) := by
            show _ = _
            rw [HS.out, HNB.out, Prod.ext h1 h2]; simp
          go_wp2
          go_roundw
          case rel => exact ⟨k + 1, by omega, by go_num, by rw [HN.out], HX.out.step ((Below.refl _ _).alloc (Nat.le_refl _) _)⟩
          case measure => simp [intOf]; omega
        · by_cases h3 : -1 ≤ x.2 - c.2 ∧ x.2 - c.2 ≤ 1
          · have hb : (decide (-1 ≤ x.2 - c.2) && decide (x.2 - c.2 ≤ 1)) = true := by simp; omega
            have hn : x ≠ c := fun e => h2 (by rw [e])
            have HN : Hid (nearTo l c (k + 1) = n + 1) := by
              show _ = _
              rw [HS.out, HNB.out, hb]; simp [hn, h1]
            clear hn
            go_wp2_with (go_at_call 72; refine (c_l1In _ _ _ _).mono ?_; rintro e w' ⟨rfl, rfl⟩)
            go_roundw
            case rel => exact ⟨k + 1, by omega, by go_num, by rw [HN.out]; go_num, HX.out.step ((Below.refl _ _).alloc (Nat.le_refl _) _)⟩
            case measure => simp [intOf]; omega
          · have hb : (decide (-1 ≤ x.2 - c.2) && decide (x.2 - c.2 ≤ 1)) = false := by simp; omega
            have HN : Hid (nearTo l c (k + 1) = n) := by
              show _ = _
              rw [HS.out, HNB.out, hb]; simp
            go_wp2_with (go_at_call 72; refine (c_l1In _ _ _ _).mono ?_; rintro e w' ⟨rfl, rfl⟩)
            go_roundw
            case rel => exact ⟨k + 1, by omega, by go_num, by rw [HN.out], HX.out.step ((Below.refl _ _).alloc (Nat.le_refl _) _)⟩
            case measure => simp [intOf]; omega
      · have hn : x ≠ c := fun e => h1 (by rw [e])
        by_cases h4 : -1 ≤ x.1 - c.1 ∧ x.1 - c.1 ≤ 1
        · have hb4 : (decide (-1 ≤ x.1 - c.1) && decide (x.1 - c.1 ≤ 1)) = true := by simp; omega
          by_cases h3 : -1 ≤ x.2 - c.2 ∧ x.2 - c.2 ≤ 1
          · have hb : (decide (-1 ≤ x.2 - c.2) && decide (x.2 - c.2 ≤ 1)) = true := by simp; omega
            have HN : Hid (nearTo l c (k + 1) = n + 1) := by
              show _ = _
              rw [HS.out, HNB.out, hb, hb4]; simp [hn]
            clear hn
            go_wp2_with (go_at_call 72; refine (c_l1In _ _ _ _).mono ?_; rintro e w' ⟨rfl, rfl⟩)
            go_roundw
            case rel => exact ⟨k + 1, by omega, by go_num, by rw [HN.out]; go_num, HX.out.step ((Below.refl _ _).alloc (Nat.le_refl _) _)⟩
            case measure => simp [intOf]; omega
          · have hb : (decide (-1 ≤ x.2 - c.2) && decide (x.2 - c.2 ≤ 1)) = false := by simp; omega
            have HN : Hid (nearTo l c (k + 1) = n) := by
              show _ = _
              rw [HS.out, HNB.out, hb]; simp
            clear hn
            go_wp2_with (go_at_call 72; refine (c_l1In _ _ _ _).mono ?_; rintro e w' ⟨rfl, rfl⟩)
            go_roundw
            case rel => exact ⟨k + 1, by omega, by go_num, by rw [HN.out], HX.out.step ((Below.refl _ _).alloc (Nat.le_refl _) _)⟩
            case measure => simp [intOf]; omega
        · have hb4 : (decide (-1 ≤ x.1 - c.1) && decide (x.1 - c.1 ≤ 1)) = false := by simp; omega
          have HN : Hid (nearTo l c (k + 1) = n) := by
            show _ = _
            rw [HS.out, HNB.out, hb4]; simp
          clear hn
          go_wp2_with (go_at_call 72; refine (c_l1In _ _ _ _).mono ?_; rintro e w' ⟨rfl, rfl⟩)
          go_roundw
          case rel => exact ⟨k + 1, by omega, by go_num, by rw [HN.out], HX.out.step ((Below.refl _ _).alloc (Nat.le_refl _) _)⟩
          case measure => simp [intOf]; omega
    · go_wp2
      go_ret
      have : k = l.length := by omega
      subst this
      exact ⟨ret_int (by rw [nearTo_all]), hB⟩

/-- The eight places, as a value. -/
def aboutV (c : Cl) : Value := .agg #[.int .i64 (c.1 - 1), .int .i64 (c.2 - 1), .int .i64 c.1, .int .i64 (c.2 - 1), .int .i64 (c.1 + 1), .int .i64 (c.2 - 1), .int .i64 (c.1 - 1), .int .i64 c.2, .int .i64 (c.1 + 1), .int .i64 c.2, .int .i64 (c.1 - 1), .int .i64 (c.2 + 1), .int .i64 c.1, .int .i64 (c.2 + 1), .int .i64 (c.1 + 1), .int .i64 (c.2 + 1)]

set_option maxHeartbeats 1000000 in
theorem c_around (c : Cl) (w : World) (hc : -41 ≤ c.1 ∧ c.1 ≤ 41 ∧ -41 ≤ c.2 ∧ c.2 ≤ 41) :
    Calls Tryz.prog 137 #[.agg #[.int .i64 c.1, .int .i64 c.2]] w fun e w' => e = .returned (aboutV c) ∧ Below w.heap.size w w' := by
  obtain ⟨c1, c2, c3, c4⟩ := hc
  go_enter Tryz.func137, Tryz.ntmps137
  go_wp2
  exact bodyPost_ret (v := aboutV c) (by simp [results, Tryz.results137, go_sem, aboutV]) rfl ⟨rfl, ((Below.refl _ _).alloc (Nat.le_refl _) _).alloc (by simp) _⟩

theorem about_index (c : Cl) (k : Nat) (hk : k < 8) (w : World) : (Instr.index 164 (aboutV c) (.int .i64 (k : Int))).run Tryz.prog w = .ok (.agg #[.int .i64 (at_ (about c) k).1, .int .i64 (at_ (about c) k).2]) w := by
  rcases (show k = 0 ∨ k = 1 ∨ k = 2 ∨ k = 3 ∨ k = 4 ∨ k = 5 ∨ k = 6 ∨ k = 7 by omega) with h | h | h | h | h | h | h | h
  all_goals
    subst h
    kernel_rfl

/-- How many of the first k of some places are among cells. -/
def hitsTo (m l : List Cl) (k : Nat) : Nat := (m.take k).countP (fun a => decide (a ∈ l))
theorem hitsTo_succ {m l : List Cl} {k : Nat} (h : k < m.length) : hitsTo m l (k + 1) = hitsTo m l k + if decide (at_ m k ∈ l) then 1 else 0 := by
  unfold hitsTo
  rw [List.take_succ_eq_append_getElem h, List.countP_append]
  simp [at_, h, List.countP_cons]
theorem hitsTo_le (m l : List Cl) (k : Nat) : hitsTo m l k ≤ k := by
  have h1 := List.countP_le_length (p := fun a => decide (a ∈ l)) (l := m.take k)
  have h2 := List.length_take_le k m
  unfold hitsTo; omega

theorem c_hasCell' (a : Option Addr) (l : List Cl) (ca : Nat) (c : Cl) (v : Bool) (h : decide (c ∈ l) = v) (w : World) (ha : Seg w a l) (hl : l.length ≤ 1048576) (hr : risTo l l.length = true) :
    Calls Tryz.prog 138 #[.slice a l.length ca, .agg #[.int .i64 c.1, .int .i64 c.2]] w fun e w' => e = .returned (.bool v) ∧ Below w.heap.size w w' := by
  rw [← h]; exact c_hasCell a l ca c w ha hl hr

/-- What NearOf answers. -/
def nearV (l : List Cl) (c : Cl) : Int × Bool := if good l && inR c then ((near l c : Int), true) else (0, false)

end Go.Proofs.YtokemdbgcegjiaaGreat

namespace Go.Proofs.YtokemdbgcegjiaaGreat
open Go.RowKit
set_option linter.unusedVariables false
set_option linter.unusedSimpArgs false
attribute [local go_sem ↓] Go.wp_at_zero Go.wp_at_succ

/-- Marks of kids. -/
def marksI (k : Int) (n : Nat) : List Int := (List.range n).map fun j : Nat => k + (j : Int)
theorem marksI_length (k : Int) (n : Nat) : (marksI k n).length = n := by simp [marksI]
theorem marksI_at (k : Int) {n j : Nat} (h : j < n) : ia (marksI k n) j = k + (j : Int) := by simp [ia, marksI, h]

set_option maxHeartbeats 400000 in
theorem c_heldInts (a : Option Addr) (n ca : Nat) (k : Int) (w : World) (h : ISeg w a (marksI k n)) (hn : n ≤ 16777216) (k0 : 0 ≤ k) (k1 : k ≤ 16777216) :
    Calls Tryz.prog 45 #[.slice a n ca, .int .i64 k] w fun e w' => e = .returned (.int .i64 (k + (n : Int))) ∧ w' = w := by
  have H := hid h
  clear h
  go_enter Tryz.func45, Tryz.ntmps45
  go_wp2
  go_loopw [1, 5] (fun s i wr => ∃ j : Nat, j ≤ n ∧ s = .int .i64 (k + (j : Int)) ∧ i = .int .i64 j ∧ wr = w) (fun _ i _ => n - (intOf i).toNat)
  case atStart => exact ⟨0, by omega, by simp, rfl, rfl⟩
  case round =>
    obtain ⟨j, hj, rfl, rfl, rfl⟩ := hrel
    by_cases hlt : j < n
    · have j0 : (0 : Int) ≤ (j : Int) := by omega
      have j1 : (j : Int) < (n : Int) := by omega
      obtain ⟨b1, o1, rfl, hb1, p1⟩ := H.out j (by rw [marksI_length]; exact hlt)
      rw [marksI_at k hlt] at p1
      have d0 : (k + (j : Int) != k + (j : Int)) = false := by simp
      go_wp2
      go_roundw
      case rel => exact ⟨j + 1, by omega, by go_num, by go_num, by first | rfl | trivial⟩
      case measure => simp [intOf]; omega
    · go_wp2
      go_ret
      obtain rfl : j = n := by omega
      exact ⟨rfl, rfl⟩

set_option maxHeartbeats 1000000 in
theorem c_heldQuads (a : Option Addr) (ca : Nat) (F : List Qd) (w : World) (h : QSeg w a (markF F)) (hp : posF (nsF F) F.length ≤ 8388608) :
    Calls Tryz.prog 93 #[.slice a F.length ca, .int .i64 1] w fun e w' => e = .returned (.int .i64 (posF (nsF F) F.length : Int)) ∧ w' = w := by
  have H := hid h
  have hN := posF_le (nsF F) F.length
  clear h
  go_enter Tryz.func93, Tryz.ntmps93
  go_wp2
  go_loopw [1, 5] (fun s i wr => ∃ j : Nat, j ≤ F.length ∧ s = .int .i64 (posF (nsF F) j : Int) ∧ i = .int .i64 j ∧ wr = w) (fun _ i _ => F.length - (intOf i).toNat)
  case atStart => exact ⟨0, by omega, rfl, rfl, rfl⟩
  case round =>
    obtain ⟨j, hj, rfl, rfl, rfl⟩ := hrel
    by_cases hlt : j < F.length
    · have j0 : (0 : Int) ≤ (j : Int) := by omega
      have j1 : (j : Int) < (F.length : Int) := by omega
      have HPS := hid (show posF (nsF F) (j + 1) = posF (nsF F) j + 1 + nsF F j from rfl)
      have hpm := posF_mono (nsF F) (show j + 1 ≤ F.length by omega)
      rw [HPS.out] at hpm
      obtain ⟨b1, o1, ak, ck, rfl, hb1, p1, p2, p3, p4⟩ := H.out j (by rw [markF_length]; exact hlt)
      rw [markF_at F hlt] at p1 p2 p3
      have e2 : ((List.range (nsF F j)).map fun c : Nat => (posF (nsF F) j : Int) + 1 + (c : Int)).length = nsF F j := by simp
      dsimp only at p1 p2 p3
      rw [e2] at p2
      have P3 : Hid (ISeg wr ak (marksI ((posF (nsF F) j : Int) + 1) (nsF F j))) := p3
      clear p3 p4 e2
      generalize nsF F j = n at *
      generalize posF (nsF F) j = P at *
      have d0 : ((P : Int) != (P : Int)) = false := by simp
      have d1 : ¬ (P : Int) + 1 + (n : Int) < 0 := by omega
      go_wp2_with fail
      refine (c_heldInts ak n ck _ _ P3.out (by omega) (by omega) (by omega)).mono ?_
      rintro e w2 ⟨rfl, rfl⟩
      go_wp2_with fail
      go_roundw
      case rel => exact ⟨j + 1, by omega, by rw [HPS.out]; go_num, by go_num, by first | rfl | trivial⟩
      case measure => simp [intOf]; omega
    · go_wp2
      go_ret
      obtain rfl : j = F.length := by omega
      exact ⟨rfl, rfl⟩

set_option maxHeartbeats 400000 in
theorem c_markForest (v : Value) (F : List Qd) (lo hi : Nat) (w : World) (h : FOwn w lo hi v F) (hp : posF (nsF F) F.length ≤ 8388608) :
    Calls Tryz.prog 41 #[.agg #[v], .int .i64 1] w fun e w' => e = .returned (.int .i64 (posF (nsF F) F.length : Int)) ∧ FOwn w' lo hi v (markF F) ∧ Grew w w' lo hi := by
  have B := hid ((Below.refl w.heap.size w).alloc (Nat.le_refl _) (.cells #[v] 25))
  rcases h with ⟨rfl, rfl⟩ | ⟨g, cap, ks, rfl, h1, h2, h3⟩
  · go_enter Tryz.func41, Tryz.ntmps41
    go_wp2_with fail
    refine Calls.mono (?_ : Calls Tryz.prog 92 #[.slice none 0 0, .int .i64 1] _ fun e w' => e = .returned (.int .i64 1) ∧ w' = w.alloc (.cells #[.slice none 0 0] 25)) ?_
    · go_enter Tryz.func92, Tryz.ntmps92
      go_wp2
      go_loopw [1, 5] (fun s i wr => s = .int .i64 1 ∧ i = .int .i64 0 ∧ wr = w.alloc (.cells #[.slice none 0 0] 25)) (fun _ _ _ => 0)
      case atStart => exact ⟨rfl, rfl, rfl⟩
      case round =>
        obtain ⟨rfl, rfl, rfl⟩ := hrel
        go_wp2
        go_ret
        exact ⟨rfl, rfl⟩
    · rintro e w1 ⟨rfl, rfl⟩
      go_wp2_with fail
      go_ret
      exact ⟨rfl, .inl ⟨rfl, rfl⟩, Grew.of_below B.out _ _⟩
  · have HC := hid (c_markQuads F.length g cap lo hi ks _ _ _ _ (h3.below B.out) hp)
    clear h3
    generalize posF (nsF F) F.length = P at *
    go_enter Tryz.func41, Tryz.ntmps41
    go_wp2_with fail
    refine HC.out.mono ?_
    rintro e w1 ⟨rfl, hM, hG⟩
    have HM := hid hM.marked
    clear HC hM
    go_wp2_with fail
    go_ret
    refine ⟨rfl, .inr ⟨g, cap, ks, by rw [markF_length], by rw [markF_length]; exact h1, h2, HM.out⟩, (Grew.of_below B.out _ _).trans hG⟩
set_option maxHeartbeats 400000 in
theorem c_heldForest (v : Value) (F : List Qd) (lo hi : Nat) (w : World) (h : FOwn w lo hi v (markF F)) (hp : posF (nsF F) F.length ≤ 8388608) :
    Calls Tryz.prog 42 #[.agg #[v], .int .i64 1] w fun e w' => e = .returned (.int .i64 (posF (nsF F) F.length : Int)) ∧ Below w.heap.size w w' := by
  have B := hid ((Below.refl w.heap.size w).alloc (Nat.le_refl _) (.cells #[v] 25))
  obtain ⟨a, cap, rfl, _, _, hs⟩ := h.form
  rw [markF_length] at B ⊢
  have HC := hid (c_heldQuads a cap F _ (hs.below B.out) hp)
  clear hs h
  have hd : ¬ (posF (nsF F) F.length : Int) < 0 := by omega
  generalize posF (nsF F) F.length = P at *
  go_enter Tryz.func42, Tryz.ntmps42
  go_wp2_with fail
  refine HC.out.mono ?_
  rintro e w1 ⟨rfl, rfl⟩
  clear HC
  go_wp2_with fail
  go_ret
  exact ⟨rfl, B.out⟩

end Go.Proofs.YtokemdbgcegjiaaGreat

namespace Go.Proofs.YtokemdbgcegjiaaGreat
open Go.RowKit
set_option linter.unusedVariables false
set_option linter.unusedSimpArgs false
attribute [local go_sem ↓] Go.wp_at_zero Go.wp_at_succ

/-- A fact of the blocks from lo on and ahead of hi: what changes elsewhere leaves it alone. -/
def Kpt (P : World → Prop) (lo hi : Nat) : Prop := ∀ W W' lo' hi', P W → Grew W W' lo' hi' → hi ≤ lo' ∨ hi' ≤ lo → P W'
theorem Kpt.below {P : World → Prop} {lo hi : Nat} (h : Kpt P lo hi) {W W' : World} (hp : P W) (hb : Below W.heap.size W W') : P W' := h W W' 0 0 hp (Grew.of_below hb 0 0) (by omega)

/-- Cells in memory of the call's own. -/
def OwnR (w : World) (lo hi : Nat) (v : Value) (l : List Cl) : Prop := OwnS w lo v l ∧ (∀ k, v.ownBlock = some k → k < hi) ∧ hi ≤ w.heap.size
theorem OwnR.of {w : World} {lo : Nat} {v : Value} {l : List Cl} (h : OwnS w lo v l) : OwnR w lo w.heap.size v l := ⟨h, fun k hk => (h.lt k hk).2, Nat.le_refl _⟩
theorem OwnR.kpt (lo hi : Nat) (v : Value) (l : List Cl) : Kpt (fun W => OwnR W lo hi v l) lo hi := by
  rintro W W' lo' hi' ⟨h, hh, hs⟩ hg hd
  refine ⟨?_, hh, Nat.le_trans hs hg.size⟩
  rcases h.2 with hn | ⟨g, cap, cur, rfl, hb, hblk, r⟩
  · exact ⟨h.1, .inl hn⟩
  · have := hh g rfl
    exact ⟨h.1, .inr ⟨g, cap, cur, rfl, hb, (hg.block g (by omega) (by omega)).trans hblk, r⟩⟩
/-- Numbers in memory of the call's own. -/
def IOwn (w : World) (lo hi : Nat) (v : Value) (l : List Int) : Prop :=
  (v = .slice none 0 0 ∧ l = []) ∨ ∃ g cap, v = .slice (some ⟨g, 0, none⟩) l.length cap ∧ l.length ≤ cap ∧ lo ≤ g ∧ g < hi ∧ hi ≤ w.heap.size ∧ ∀ j, j < l.length → WC w g j (.int .i64 (ia l j))
theorem IOwn.kpt (lo hi : Nat) (v : Value) (l : List Int) : Kpt (fun W => IOwn W lo hi v l) lo hi := by
  rintro W W' lo' hi' h hg hd
  rcases h with h | ⟨g, cap, h1, h2, h3, h4, h5, h6⟩
  · exact .inl h
  · exact .inr ⟨g, cap, h1, h2, h3, h4, Nat.le_trans h5 hg.size, fun j hj => (h6 j hj).of_block (hg.block g (by omega) (by omega)) hg.size⟩
theorem IOwn.form {w : World} {lo hi : Nat} {v : Value} {l : List Int} (h : IOwn w lo hi v l) : ∃ a cap, v = .slice a l.length cap ∧ ISeg w a l := by
  rcases h with ⟨rfl, rfl⟩ | ⟨g, cap, rfl, h2, h3, h4, h5, h6⟩
  · exact ⟨none, 0, rfl, fun i hi => by simp at hi⟩
  · exact ⟨_, cap, rfl, fun i hi => ⟨g, 0, rfl, (h6 i hi).2.2, by rw [Nat.zero_add]; exact (h6 i hi).1⟩⟩
theorem IRow.own {w : World} {g : Nat} {l : List Int} (h : IRow w g l) : IOwn w g w.heap.size (.slice (some ⟨g, 0, none⟩) l.length l.length) l :=
  .inr ⟨g, l.length, rfl, Nat.le_refl _, Nat.le_refl _, World.rowIs.lt h, Nat.le_refl _, fun j hj => ⟨World.rowIs.cell h hj, World.rowIs.frozen h _, World.rowIs.lt h⟩⟩
theorem FOwn.kpt (lo hi : Nat) (v : Value) (F : List Qd) : Kpt (fun W => FOwn W lo hi v F) lo hi := fun _ _ _ _ h hg hd => h.kept hg hd
/-- A forest in a variable: its box is block b, behind all of its memory. -/
def PF (w : World) (lo b : Nat) (v : Value) (F : List Qd) : Prop := FOwn w lo b v F ∧ w.cell? ⟨b, 0, none⟩ = some v ∧ b < w.heap.size ∧ lo ≤ b
theorem PF.kpt (lo b : Nat) (v : Value) (F : List Qd) : Kpt (fun W => PF W lo b v F) lo (b + 1) := by
  rintro W W' lo' hi' ⟨h1, h2, h3, h4⟩ hg hd
  exact ⟨h1.kept hg (by omega), (World.cell?_of_block (a := ⟨b, 0, none⟩) (hg.block b h3 (by omega))).trans h2, Nat.lt_of_lt_of_le h3 hg.size, h4⟩
theorem PF.mark {W W' : World} {lo b : Nat} {v : Value} {F F' : List Qd} (h : PF W lo b v F) (hg : Grew W W' lo b) (h' : FOwn W' lo b v F') : PF W' lo b v F' :=
  ⟨h', (World.cell?_of_block (a := ⟨b, 0, none⟩) (hg.block b h.2.2.1 (.inr (Nat.le_refl _)))).trans h.2.1, Nat.lt_of_lt_of_le h.2.2.1 hg.size, h.2.2.2⟩
theorem PF.new {w : World} {lo : Nat} {v : Value} {F : List Qd} (h : FOwn w lo w.heap.size v F) (hl : lo ≤ w.heap.size) (t : TypeId) : PF (w.alloc (.cells #[v] t)) lo w.heap.size v F := by
  have hb := (Below.refl w.heap.size w).alloc (Nat.le_refl _) (.cells #[v] t)
  refine ⟨h.below hb, ?_, by simp, hl⟩
  unfold World.cell?; rw [heap_alloc_new]; rfl

/-- What stands while a law is walked: the argument's box; what the specification told (PW), what was handed to the program (PX), what it told (PG), each in blocks of its own. -/
structure LL (w W : World) (av : Value) (lw hw lx hx lg hg : Nat) (PW PX PG : World → Prop) : Prop where
  box : W.cell? ⟨w.heap.size, 0, none⟩ = some av
  pw : PW W
  px : PX W
  pg : PG W
  kw : Kpt PW lw hw
  kx : Kpt PX lx hx
  kg : Kpt PG lg hg
  bel : Below w.heap.size w W
  lt : w.heap.size < W.heap.size
  ord : w.heap.size < lw ∧ lw ≤ hw ∧ hw ≤ lx ∧ lx ≤ hx ∧ hx ≤ lg ∧ lg ≤ hg
theorem LL.below {w W W' : World} {av : Value} {lw hw lx hx lg hg : Nat} {PW PX PG : World → Prop} (h : LL w W av lw hw lx hx lg hg PW PX PG) (hb : Below W.heap.size W W') : LL w W' av lw hw lx hx lg hg PW PX PG :=
  ⟨(hb.cell (p := ⟨w.heap.size, 0, none⟩) h.lt).trans h.box, h.kw.below h.pw hb, h.kx.below h.px hb, h.kg.below h.pg hb, h.kw, h.kx, h.kg, h.bel.trans (hb.mono h.bel.size), Nat.lt_of_lt_of_le h.lt hb.size, h.ord⟩
theorem LL.markX {w W W' : World} {av : Value} {lw hw lx hx lg hg lo hi : Nat} {PW PX PX' PG : World → Prop} (h : LL w W av lw hw lx hx lg hg PW PX PG) (hG : Grew W W' lo hi) (h1 : lx ≤ lo) (h2 : hi ≤ hx) (hp : PX' W') (hk : Kpt PX' lx hx) : LL w W' av lw hw lx hx lg hg PW PX' PG := by
  have ho := h.ord
  exact ⟨(World.cell?_of_block (a := ⟨w.heap.size, 0, none⟩) (hG.block w.heap.size h.lt (by omega))).trans h.box, h.kw _ _ _ _ h.pw hG (by omega), hp, h.kg _ _ _ _ h.pg hG (by omega), h.kw, hk, h.kg, hG.below h.bel (by omega), Nat.lt_of_lt_of_le h.lt hG.size, ho⟩
theorem LL.markG {w W W' : World} {av : Value} {lw hw lx hx lg hg lo hi : Nat} {PW PX PG PG' : World → Prop} (h : LL w W av lw hw lx hx lg hg PW PX PG) (hG : Grew W W' lo hi) (h1 : lg ≤ lo) (h2 : hi ≤ hg) (hp : PG' W') (hk : Kpt PG' lg hg) : LL w W' av lw hw lx hx lg hg PW PX PG' := by
  have ho := h.ord
  exact ⟨(World.cell?_of_block (a := ⟨w.heap.size, 0, none⟩) (hG.block w.heap.size h.lt (by omega))).trans h.box, h.kw _ _ _ _ h.pw hG (by omega), h.kx _ _ _ _ h.px hG (by omega), hp, h.kw, h.kx, hk, hG.below h.bel (by omega), Nat.lt_of_lt_of_le h.lt hG.size, ho⟩

theorem c_eqInts' (v u : Value) (l : List Int) (w : World) {lo hi lo' hi' : Nat} (h1 : IOwn w lo hi v l) (h2 : IOwn w lo' hi' u l) (hl : l.length ≤ 1048576) :
    Calls Tryz.prog 43 #[v, u] w fun e w' => e = .returned (.bool true) ∧ Below w.heap.size w w' := by
  obtain ⟨a, ca, rfl, ha⟩ := h1.form
  obtain ⟨b, cb, rfl, hb⟩ := h2.form
  have := c_eqIntS a b l l ca cb w ha hb hl hl
  simpa using this
theorem c_eqForest' (v u : Value) (F : List Qd) (w : World) {lo hi lo' hi' : Nat} (h1 : FOwn w lo hi v F) (h2 : FOwn w lo' hi' u F) (hl : F.length ≤ 1048576) (hk : KidsLe F) :
    Calls Tryz.prog 40 #[.agg #[v], .agg #[u]] w fun e w' => e = .returned (.bool true) ∧ Below w.heap.size w w' := by
  obtain ⟨a, ca, rfl, _, _, ha⟩ := h1.form
  obtain ⟨b, cb, rfl, _, _, hb⟩ := h2.form
  have := c_eqForest a b F F ca cb w ha hb hl hl hk hk
  simpa using this
theorem c_markInts' (v : Value) (l : List Int) (k : Int) (w : World) {lo hi : Nat} (h : IOwn w lo hi v l) (hl : l.length ≤ 1048576) (k0 : 0 ≤ k) (k1 : k ≤ 16777216) :
    Calls Tryz.prog 44 #[v, .int .i64 k] w fun e w' => e = .returned (.int .i64 (k + (l.length : Int))) ∧ IOwn w' lo hi v (marksI k l.length) ∧ Grew w w' lo hi := by
  rcases h with ⟨rfl, rfl⟩ | ⟨g, cap, rfl, h2, h3, h4, h5, h6⟩
  · refine (c_markInts0 none 0 k w).mono ?_
    rintro e w' ⟨rfl, rfl⟩
    exact ⟨by simp, .inl ⟨rfl, rfl⟩, Grew.refl _ _ _⟩
  · refine (c_markInts g l.length cap (ia l) k w h6 (by omega) k0 k1).mono ?_
    rintro e w' ⟨rfl, hW, hG⟩
    refine ⟨rfl, .inr ⟨g, cap, by rw [marksI_length], by rw [marksI_length]; exact h2, h3, h4, Nat.le_trans h5 hG.size, fun j hj => ?_⟩, hG.wide h3 h4⟩
    rw [marksI_length] at hj
    rw [marksI_at k hj]
    exact hW j hj
theorem c_heldInts' (v : Value) (n : Nat) (w : World) {lo hi : Nat} (h : IOwn w lo hi v (marksI 1 n)) (hn : n ≤ 1048576) :
    Calls Tryz.prog 45 #[v, .int .i64 1] w fun e w' => e = .returned (.int .i64 (1 + (n : Int))) ∧ Below w.heap.size w w' := by
  obtain ⟨a, ca, rfl, hs⟩ := h.form
  rw [marksI_length]
  exact (c_heldInts a n ca 1 w hs (by omega) (by omega) (by omega)).mono fun e w' ⟨h1, h2⟩ => ⟨h1, by rw [h2]; exact Below.refl _ _⟩
theorem posF_tot {F : List Qd} : posF (nsF F) F.length = 1 + totQ F := by
  have : ∀ n, posF (nsF F) n = 1 + n + kidTo F n := by
    intro n
    induction n with
    | zero => rfl
    | succ n ih => simp only [posF, kidTo, ih, nsF]; omega
  rw [this]; unfold totQ; omega

end Go.Proofs.YtokemdbgcegjiaaGreat
