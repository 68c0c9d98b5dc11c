/- How many cells are near one: counted among the cells, and counted among the eight places about it. -/
import Derived.Test.YtgfdkolhldbehaaHas
namespace Go.Proofs.Ytgfdkolhldbehaa
open Go.RowKit
set_option linter.unusedVariables false

/-- Is x near c, and not c itself? -/
def nearB (c x : Cl) : Bool := decide (x ≠ c) && (decide (-1 ≤ x.1 - c.1) && decide (x.1 - c.1 ≤ 1)) && (decide (-1 ≤ x.2 - c.2) && decide (x.2 - c.2 ≤ 1))
/-- How many of the first k are near c. -/
def nearTo (l : List Cl) (c : Cl) (k : Nat) : Nat := (l.take k).countP (nearB c)
/-- How many are near c. -/
def near (l : List Cl) (c : Cl) : Nat := l.countP (nearB c)
/-- The eight places about c. -/
def about (c : Cl) : List Cl := [(c.1 - 1, c.2 - 1), (c.1, c.2 - 1), (c.1 + 1, c.2 - 1), (c.1 - 1, c.2), (c.1 + 1, c.2), (c.1 - 1, c.2 + 1), (c.1, c.2 + 1), (c.1 + 1, c.2 + 1)]

theorem nearTo_succ {l : List Cl} {c : Cl} {k : Nat} (h : k < l.length) : nearTo l c (k + 1) = nearTo l c k + if nearB c (at_ l k) then 1 else 0 := by
  unfold nearTo
  rw [List.take_succ_eq_append_getElem h, List.countP_append]
  simp [at_, h, List.countP_cons]
theorem nearTo_le (l : List Cl) (c : Cl) (k : Nat) : nearTo l c k ≤ k := by
  have h1 := List.countP_le_length (p := nearB c) (l := l.take k)
  have h2 := List.length_take_le k l
  unfold nearTo; omega
theorem nearTo_all (l : List Cl) (c : Cl) : nearTo l c l.length = near l c := by simp [nearTo, near]
theorem mem_about (c x : Cl) : x ∈ about c ↔ nearB c x = true := by
  obtain ⟨a, b⟩ := c
  obtain ⟨u, v⟩ := x
  simp [about, nearB]
  omega
theorem about_nodup (c : Cl) : (about c).Nodup := by
  obtain ⟨a, b⟩ := c
  simp [about]
  omega
theorem countP_or (A : List Cl) (x : Cl) (q : Cl → Bool) (h : q x = false) : A.countP (fun a => decide (a = x) || q a) = A.countP (fun a => decide (a = x)) + A.countP q := by
  induction A with
  | nil => rfl
  | cons a r ih =>
    rw [List.countP_cons, List.countP_cons, List.countP_cons, ih]
    by_cases e : a = x
    · subst e; simp [h]; omega
    · simp [e]; omega
theorem countP_is (A : List Cl) (x : Cl) (hA : A.Nodup) : A.countP (fun a => decide (a = x)) = if x ∈ A then 1 else 0 := by
  induction A with
  | nil => rfl
  | cons a r ih =>
    rw [List.nodup_cons] at hA
    rw [List.countP_cons, ih hA.2]
    by_cases e : a = x
    · subst e; simp [hA.1]
    · have e' : x ≠ a := fun h => e h.symm
      simp [e, e']
/-- Two lists without anything twice: as many of the one are in the other. -/
theorem countP_swap (l A : List Cl) (hl : l.Nodup) (hA : A.Nodup) : l.countP (fun x => decide (x ∈ A)) = A.countP (fun a => decide (a ∈ l)) := by
  induction l with
  | nil => simp
  | cons x r ih =>
    rw [List.nodup_cons] at hl
    have e : (fun a => decide (a ∈ x :: r)) = (fun a => decide (a = x) || decide (a ∈ r)) := by
      funext a; simp
    rw [List.countP_cons, ih hl.2, e, countP_or A x _ (by simp [hl.1]), countP_is A x hA]
    simp; omega
theorem ris_nodup {l : List Cl} (h : risTo l l.length = true) : l.Nodup := by
  rw [List.nodup_iff_pairwise_ne, List.pairwise_iff_getElem]
  intro i j hi hj hij e
  have := ris_lt h j hij hj
  simp only [at_, List.getD_eq_getElem?_getD, List.getElem?_eq_getElem hi, List.getElem?_eq_getElem hj, Option.getD_some] at this
  rw [e, ltC_irr] at this
  cases this
/-- The two ways of counting come to the same. -/
theorem near_about {l : List Cl} (h : risTo l l.length = true) (c : Cl) : near l c = (about c).countP (fun a => decide (a ∈ l)) := by
  rw [← countP_swap l (about c) (ris_nodup h) (about_nodup c)]
  unfold near
  congr 1
  funext x
  rw [Bool.eq_iff_iff]
  simp [mem_about]


set_option maxHeartbeats 400000 in
theorem c_l1Near (a : Option Addr) (l : List Cl) (ca : Nat) (c : Cl) (w : World) (ha : Seg w a l) (hl : l.length ≤ 1048576) (hin : ∀ i, i < l.length → inR (at_ l i) = true) (hc : -41 ≤ c.1 ∧ c.1 ≤ 41 ∧ -41 ≤ c.2 ∧ c.2 ≤ 41) :
    Calls Try.prog 138 #[.slice a l.length ca, .agg #[.int .i64 c.1, .int .i64 c.2]] w fun e w' => e = .returned (.int .i64 (near l c)) ∧ Below w.heap.size w w' := by
  obtain ⟨c1, c2, c3, c4⟩ := hc
  have HIN := hid hin
  clear hin
  go_enter Try.func138, Try.ntmps138
  go_wp2
  go_loopw [5, 10] (fun n i wr => ∃ k : Nat, k ≤ l.length ∧ i = .int .i64 k ∧ n = .int .i64 (nearTo l c k) ∧ BoxIn w wr c) (fun _ i _ => l.length - (intOf i).toNat)
  case atStart => exact ⟨0, Nat.zero_le _, rfl, rfl, BoxIn.new w c _⟩
  case round =>
    obtain ⟨k, hk, rfl, rfl, hX⟩ := hrel
    have hB := hX.below
    have g3 := hX.1
    have g4 := hX.2.1
    have hsz := hX.2.2.1
    have HX := hid hX
    clear hX
    by_cases hlt : k < l.length
    · obtain ⟨b1, o1, rfl, hb1, p1, p2⟩ := ha k hlt
      have g1 := (hB.cell (p := ⟨b1, o1 + k * 2, none⟩) hb1).trans p1
      have g2 := (hB.cell (p := ⟨b1, o1 + k * 2 + 1, none⟩) hb1).trans p2
      change _ = some (Value.int .i64 (at_ l k).1) at g1
      change _ = some (Value.int .i64 (at_ l k).2) at g2
      clear p1 p2
      have hbx : b1 < wr.heap.size := Nat.lt_of_lt_of_le hb1 hB.size
      have k0 : (0 : Int) ≤ (k : Int) := by omega
      have k1 : (k : Int) < (l.length : Int) := by omega
      have hr := HIN.out k hlt
      simp only [inR, Bool.and_eq_true, decide_eq_true_eq] at hr
      obtain ⟨⟨⟨x1, x2⟩, x3⟩, x4⟩ := hr
      have HS := hid (nearTo_succ (c := c) hlt)
      have hnl := nearTo_le l c k
      generalize at_ l k = x at *
      generalize nearTo l c k = n at *
      have hnb : nearB c x = (decide (x ≠ c) && (decide (-1 ≤ x.1 - c.1) && decide (x.1 - c.1 ≤ 1)) && (decide (-1 ≤ x.2 - c.2) && decide (x.2 - c.2 ≤ 1))) := rfl
      have HNB := hid hnb
      clear hnb
      by_cases h1 : x.1 = c.1
      · by_cases h2 : x.2 = c.2
        · have HN : Hid (nearTo l c (k + 1) = n) := by
            show _ = _
            rw [HS.out, HNB.out, Prod.ext h1 h2]; simp
          go_wp2
          go_roundw
          case rel => exact ⟨k + 1, by omega, by go_num, by rw [HN.out], HX.out.step ((Below.refl _ _).alloc (Nat.le_refl _) _)⟩
          case measure => simp [intOf]; omega
        · by_cases h3 : -1 ≤ x.2 - c.2 ∧ x.2 - c.2 ≤ 1
          · have hb : (decide (-1 ≤ x.2 - c.2) && decide (x.2 - c.2 ≤ 1)) = true := by simp; omega
            have hn : x ≠ c := fun e => h2 (by rw [e])
            have HN : Hid (nearTo l c (k + 1) = n + 1) := by
              show _ = _
              rw [HS.out, HNB.out, hb]; simp [hn, h1]
            clear hn
            go_wp2_with (go_at_call 102; refine (c_l1In _ _ _ _).mono ?_; rintro e w' ⟨rfl, rfl⟩)
            go_roundw
            case rel => exact ⟨k + 1, by omega, by go_num, by rw [HN.out]; go_num, HX.out.step ((Below.refl _ _).alloc (Nat.le_refl _) _)⟩
            case measure => simp [intOf]; omega
          · have hb : (decide (-1 ≤ x.2 - c.2) && decide (x.2 - c.2 ≤ 1)) = false := by simp; omega
            have HN : Hid (nearTo l c (k + 1) = n) := by
              show _ = _
              rw [HS.out, HNB.out, hb]; simp
            go_wp2_with (go_at_call 102; refine (c_l1In _ _ _ _).mono ?_; rintro e w' ⟨rfl, rfl⟩)
            go_roundw
            case rel => exact ⟨k + 1, by omega, by go_num, by rw [HN.out], HX.out.step ((Below.refl _ _).alloc (Nat.le_refl _) _)⟩
            case measure => simp [intOf]; omega
      · have hn : x ≠ c := fun e => h1 (by rw [e])
        by_cases h4 : -1 ≤ x.1 - c.1 ∧ x.1 - c.1 ≤ 1
        · have hb4 : (decide (-1 ≤ x.1 - c.1) && decide (x.1 - c.1 ≤ 1)) = true := by simp; omega
          by_cases h3 : -1 ≤ x.2 - c.2 ∧ x.2 - c.2 ≤ 1
          · have hb : (decide (-1 ≤ x.2 - c.2) && decide (x.2 - c.2 ≤ 1)) = true := by simp; omega
            have HN : Hid (nearTo l c (k + 1) = n + 1) := by
              show _ = _
              rw [HS.out, HNB.out, hb, hb4]; simp [hn]
            clear hn
            go_wp2_with (go_at_call 102; refine (c_l1In _ _ _ _).mono ?_; rintro e w' ⟨rfl, rfl⟩)
            go_roundw
            case rel => exact ⟨k + 1, by omega, by go_num, by rw [HN.out]; go_num, HX.out.step ((Below.refl _ _).alloc (Nat.le_refl _) _)⟩
            case measure => simp [intOf]; omega
          · have hb : (decide (-1 ≤ x.2 - c.2) && decide (x.2 - c.2 ≤ 1)) = false := by simp; omega
            have HN : Hid (nearTo l c (k + 1) = n) := by
              show _ = _
              rw [HS.out, HNB.out, hb]; simp
            clear hn
            go_wp2_with (go_at_call 102; refine (c_l1In _ _ _ _).mono ?_; rintro e w' ⟨rfl, rfl⟩)
            go_roundw
            case rel => exact ⟨k + 1, by omega, by go_num, by rw [HN.out], HX.out.step ((Below.refl _ _).alloc (Nat.le_refl _) _)⟩
            case measure => simp [intOf]; omega
        · have hb4 : (decide (-1 ≤ x.1 - c.1) && decide (x.1 - c.1 ≤ 1)) = false := by simp; omega
          have HN : Hid (nearTo l c (k + 1) = n) := by
            show _ = _
            rw [HS.out, HNB.out, hb4]; simp
          clear hn
          go_wp2_with (go_at_call 102; refine (c_l1In _ _ _ _).mono ?_; rintro e w' ⟨rfl, rfl⟩)
          go_roundw
          case rel => exact ⟨k + 1, by omega, by go_num, by rw [HN.out], HX.out.step ((Below.refl _ _).alloc (Nat.le_refl _) _)⟩
          case measure => simp [intOf]; omega
    · go_wp2
      go_ret
      have : k = l.length := by omega
      subst this
      exact ⟨ret_int (by rw [nearTo_all]), hB⟩

/-- The eight places, as a value. -/
def aboutV (c : Cl) : Value := .agg #[.int .i64 (c.1 - 1), .int .i64 (c.2 - 1), .int .i64 c.1, .int .i64 (c.2 - 1), .int .i64 (c.1 + 1), .int .i64 (c.2 - 1), .int .i64 (c.1 - 1), .int .i64 c.2, .int .i64 (c.1 + 1), .int .i64 c.2, .int .i64 (c.1 - 1), .int .i64 (c.2 + 1), .int .i64 c.1, .int .i64 (c.2 + 1), .int .i64 (c.1 + 1), .int .i64 (c.2 + 1)]

set_option maxHeartbeats 1000000 in
theorem c_around (c : Cl) (w : World) (hc : -41 ≤ c.1 ∧ c.1 ≤ 41 ∧ -41 ≤ c.2 ∧ c.2 ≤ 41) :
    Calls Try.prog 143 #[.agg #[.int .i64 c.1, .int .i64 c.2]] w fun e w' => e = .returned (aboutV c) ∧ Below w.heap.size w w' := by
  obtain ⟨c1, c2, c3, c4⟩ := hc
  go_enter Try.func143, Try.ntmps143
  go_wp2
  exact bodyPost_ret (v := aboutV c) (by simp [results, Try.results143, go_sem, aboutV]) rfl ⟨rfl, ((Below.refl _ _).alloc (Nat.le_refl _) _).alloc (by simp) _⟩

theorem about_index (c : Cl) (k : Nat) (hk : k < 8) (w : World) : (Instr.index 139 (aboutV c) (.int .i64 (k : Int))).run Try.prog w = .ok (.agg #[.int .i64 (at_ (about c) k).1, .int .i64 (at_ (about c) k).2]) w := by
  rcases (show k = 0 ∨ k = 1 ∨ k = 2 ∨ k = 3 ∨ k = 4 ∨ k = 5 ∨ k = 6 ∨ k = 7 by omega) with h | h | h | h | h | h | h | h
  all_goals
    subst h
    kernel_rfl

/-- How many of the first k of some places are among cells. -/
def hitsTo (m l : List Cl) (k : Nat) : Nat := (m.take k).countP (fun a => decide (a ∈ l))
theorem hitsTo_succ {m l : List Cl} {k : Nat} (h : k < m.length) : hitsTo m l (k + 1) = hitsTo m l k + if decide (at_ m k ∈ l) then 1 else 0 := by
  unfold hitsTo
  rw [List.take_succ_eq_append_getElem h, List.countP_append]
  simp [at_, h, List.countP_cons]
theorem hitsTo_le (m l : List Cl) (k : Nat) : hitsTo m l k ≤ k := by
  have h1 := List.countP_le_length (p := fun a => decide (a ∈ l)) (l := m.take k)
  have h2 := List.length_take_le k m
  unfold hitsTo; omega

theorem c_hasCell' (a : Option Addr) (l : List Cl) (ca : Nat) (c : Cl) (v : Bool) (h : decide (c ∈ l) = v) (w : World) (ha : Seg w a l) (hl : l.length ≤ 1048576) (hr : risTo l l.length = true) :
    Calls Try.prog 144 #[.slice a l.length ca, .agg #[.int .i64 c.1, .int .i64 c.2]] w fun e w' => e = .returned (.bool v) ∧ Below w.heap.size w w' := by
  rw [← h]; exact c_hasCell a l ca c w ha hl hr

/-- What NearOf answers. -/
def nearV (l : List Cl) (c : Cl) : Int × Bool := if good l && inR c then ((near l c : Int), true) else (0, false)

end Go.Proofs.Ytgfdkolhldbehaa
