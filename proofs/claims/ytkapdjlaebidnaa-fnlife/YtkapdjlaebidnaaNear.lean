/- How many cells are near one: counted among the cells, and counted among the eight places about it. -/
import Derived.Test.YtkapdjlaebidnaaHas
namespace Go.Proofs.Ytkapdjlaebidnaa
open Go.RowKit
set_option linter.unusedVariables false

/-- Is x near c, and not c itself? -/
def nearB (c x : Cl) : Bool := decide (x ≠ c) && (decide (-1 ≤ x.1 - c.1) && decide (x.1 - c.1 ≤ 1)) && (decide (-1 ≤ x.2 - c.2) && decide (x.2 - c.2 ≤ 1))
/-- How many of the first k are near c. -/
def nearTo (l : List Cl) (c : Cl) (k : Nat) : Nat := (l.take k).countP (nearB c)
/-- How many are near c. -/
def near (l : List Cl) (c : Cl) : Nat := l.countP (nearB c)
/-- The eight places about c. -/
def about (c : Cl) : List Cl := [(c.1 - 1, c.2 - 1), (c.1, c.2 - 1), (c.1 + 1, c.2 - 1), (c.1 - 1, c.2), (c.1 + 1, c.2), (c.1 - 1, c.2 + 1), (c.1, c.2 + 1), (c.1 + 1, c.2 + 1)]

theorem nearTo_succ {l : List Cl} {c : Cl} {k : Nat} (h : k < l.length) : nearTo l c (k + 1) = nearTo l c k + if nearB c (at_ l k) then 1 else 0 := by
  unfold nearTo
  rw [List.take_succ_eq_append_getElem h, List.countP_append]
  simp [at_, h, List.countP_cons]
theorem nearTo_le (l : List Cl) (c : Cl) (k : Nat) : nearTo l c k ≤ k := by
  have h1 := List.countP_le_length (p := nearB c) (l := l.take k)
  have h2 := List.length_take_le k l
  unfold nearTo; omega
theorem nearTo_all (l : List Cl) (c : Cl) : nearTo l c l.length = near l c := by simp [nearTo, near]
theorem mem_about (c x : Cl) : x ∈ about c ↔ nearB c x = true := by
  obtain ⟨a, b⟩ := c
  obtain ⟨u, v⟩ := x
  simp [about, nearB]
  omega
theorem about_nodup (c : Cl) : (about c).Nodup := by
  obtain ⟨a, b⟩ := c
  simp [about]
  omega
theorem countP_or (A : List Cl) (x : Cl) (q : Cl → Bool) (h : q x = false) : A.countP (fun a => decide (a = x) || q a) = A.countP (fun a => decide (a = x)) + A.countP q := by
  induction A with
  | nil => rfl
  | cons a r ih =>
    rw [List.countP_cons, List.countP_cons, List.countP_cons, ih]
    by_cases e : a = x
    · subst e; simp [h]; omega
    · simp [e]; omega
theorem countP_is (A : List Cl) (x : Cl) (hA : A.Nodup) : A.countP (fun a => decide (a = x)) = if x ∈ A then 1 else 0 := by
  induction A with
  | nil => rfl
  | cons a r ih =>
    rw [List.nodup_cons] at hA
    rw [List.countP_cons, ih hA.2]
    by_cases e : a = x
    · subst e; simp [hA.1]
    · have e' : x ≠ a := fun h => e h.symm
      simp [e, e']
/-- Two lists without anything twice: as many of the one are in the other. -/
theorem countP_swap (l A : List Cl) (hl : l.Nodup) (hA : A.Nodup) : l.countP (fun x => decide (x ∈ A)) = A.countP (fun a => decide (a ∈ l)) := by
  induction l with
  | nil => simp
  | cons x r ih =>
    rw [List.nodup_cons] at hl
    have e : (fun a => decide (a ∈ x :: r)) = (fun a => decide (a = x) || decide (a ∈ r)) := by
      funext a; simp
    rw [List.countP_cons, ih hl.2, e, countP_or A x _ (by simp [hl.1]), countP_is A x hA]
    simp; omega
theorem ris_nodup {l : List Cl} (h : risTo l l.length = true) : l.Nodup := by
  rw [List.nodup_iff_pairwise_ne, List.pairwise_iff_getElem]
  intro i j hi hj hij e
  have := ris_lt h j hij hj
  simp only [at_, List.getD_eq_getElem?_getD, List.getElem?_eq_getElem hi, List.getElem?_eq_getElem hj, Option.getD_some] at this
  rw [e, ltC_irr] at this
  cases this
/-- The two ways of counting come to the same. -/
theorem near_about {l : List Cl} (h : risTo l l.length = true) (c : Cl) : near l c = (about c).countP (fun a => decide (a ∈ l)) := by
  rw [← countP_swap l (about c) (ris_nodup h) (about_nodup c)]
  unfold near
  congr 1
  funext x
  rw [Bool.eq_iff_iff]
  simp [mem_about]


set_option maxHeartbeats 400000 in
theorem c_l1Near (a : Option Addr) (l : List Cl) (ca : Nat) (c : Cl) (w : World) (ha : Seg w a l) (hl : l.length ≤ 1048576) (hin : ∀ i, i < l.length → inR (at_ l i) = true) (hc : -41 ≤ c.1 ∧ c.1 ≤ 41 ∧ -41 ≤ c.2 ∧ c.2 ≤ 41) :
    Calls Try.prog 46 #[.slice a l.length ca, .agg #[.int .i64 c.1, .int .i64 c.2]] w fun e w' => e = .returned (.int .i64 (near l c)) ∧ Below w.heap.size w w' := by
  obtain ⟨c1, c2, c3, c4⟩ := hc
  have HIN := hid hin
  clear hin
  go_enter Try.func46, Try.ntmps46
  go_wp2
  go_loopw [5, 10] (fun n i wr => ∃ k : Nat, k ≤ l.length ∧ i = .int .i64 k ∧ n = .int .i64 (nearTo l c k) ∧ BoxIn w wr c) (fun _ i _ => l.length - (intOf i).toNat)
  case atStart => exact ⟨0, Nat.zero_le _, rfl, rfl, BoxIn.new w c _⟩
  case round =>
    obtain ⟨k, hk, rfl, rfl, hX⟩ := hrel
    have hB := hX.below
    have g3 := hX.1
    have g4 := hX.2.1
    have hsz := hX.2.2.1
    have HX := hid hX
    clear hX
    by_cases hlt : k < l.length
    · obtain ⟨b1, o1, rfl, hb1, p1, p2⟩ := ha k hlt
      have g1 := (hB.cell (p := ⟨b1, o1 + k * 2, none⟩) hb1).trans p1
      have g2 := (hB.cell (p := ⟨b1, o1 + k * 2 + 1, none⟩) hb1).trans p2
      change _ = some (Value.int .i64 (at_ l k).1) at g1
      change _ = some (Value.int .i64 (at_ l k).2) at g2
      clear p1 p2
      have hbx : b1 < wr.heap.size := Nat.lt_of_lt_of_le hb1 hB.size
      have k0 : (0 : Int) ≤ (k : Int) := by omega
      have k1 : (k : Int) < (l.length : Int) := by omega
      have hr := HIN.out k hlt
      simp only [inR, Bool.and_eq_true, decide_eq_true_eq] at hr
      obtain ⟨⟨⟨x1, x2⟩, x3⟩, x4⟩ := hr
      have HS := hid (nearTo_succ (c := c) hlt)
      have hnl := nearTo_le l c k
      generalize at_ l k = x at *
      generalize nearTo l c k = n at *
      have hnb : nearB c x = (decide (x ≠ c) && (decide (-1 ≤ x.1 - c.1) && decide (x.1 - c.1 ≤ 1)) && (decide (-1 ≤ x.2 - c.2) && decide (x.2 - c.2 ≤ 1))) := rfl
      have HNB := hid hnb
      clear hnb
      by_cases h1 : x.1 = c.1
      · by_cases h2 : x.2 = c.2
        · have HN : Hid (nearTo l c (k + 1) = n) := by
            show _ = _
            rw [HS.out, HNB.out, Prod.ext h1 h2]; simp
          go_wp2
          go_roundw
          case rel => exact ⟨k + 1, by omega, by go_num, by rw [HN.out], HX.out.step ((Below.refl _ _).alloc (Nat.le_refl _) _)⟩
          case measure => simp [intOf]; omega
        · by_cases h3 : -1 ≤ x.2 - c.2 ∧ x.2 - c.2 ≤ 1
          · have hb : (decide (-1 ≤ x.2 - c.2) && decide (x.2 - c.2 ≤ 1)) = true := by simp; omega
            have hn : x ≠ c := fun e => h2 (by rw [e])
            have HN : Hid (nearTo l c (k + 1) = n + 1) := by
              show _ = _
              rw [HS.out, HNB.out, hb]; simp [hn, h1]
            clear hn
            go_wp2_with (go_at_call 51; refine (c_l1In _ _ _ _).mono ?_; rintro e w' ⟨rfl, rfl⟩)
            go_roundw
            case rel => exact ⟨k + 1, by omega, by go_num, by rw [HN.out]; go_num, HX.out.step ((Below.refl _ _).alloc (Nat.le_refl _) _)⟩
            case measure => simp [intOf]; omega
          · have hb : (decide (-1 ≤ x.2 - c.2) && decide (x.2 - c.2 ≤ 1)) = false := by simp; omega
            have HN : Hid (nearTo l c (k + 1) = n) := by
              show _ = _
              rw [HS.out, HNB.out, hb]; simp
            go_wp2_with (go_at_call 51; refine (c_l1In _ _ _ _).mono ?_; rintro e w' ⟨rfl, rfl⟩)
            go_roundw
            case rel => exact ⟨k + 1, by omega, by go_num, by rw [HN.out], HX.out.step ((Below.refl _ _).alloc (Nat.le_refl _) _)⟩
            case measure => simp [intOf]; omega
      · have hn : x ≠ c := fun e => h1 (by rw [e])
        by_cases h4 : -1 ≤ x.1 - c.1 ∧ x.1 - c.1 ≤ 1
        · have hb4 : (decide (-1 ≤ x.1 - c.1) && decide (x.1 - c.1 ≤ 1)) = true := by simp; omega
          by_cases h3 : -1 ≤ x.2 - c.2 ∧ x.2 - c.2 ≤ 1
          · have hb : (decide (-1 ≤ x.2 - c.2) && decide (x.2 - c.2 ≤ 1)) = true := by simp; omega
            have HN : Hid (nearTo l c (k + 1) = n + 1) := by
              show _ = _
              rw [HS.out, HNB.out, hb, hb4]; simp [hn]
            clear hn
            go_wp2_with (go_at_call 51; refine (c_l1In _ _ _ _).mono ?_; rintro e w' ⟨rfl, rfl⟩)
            go_roundw
            case rel => exact ⟨k + 1, by omega, by go_num, by rw [HN.out]; go_num, HX.out.step ((Below.refl _ _).alloc (Nat.le_refl _) _)⟩
            case measure => simp [intOf]; omega
          · have hb : (decide (-1 ≤ x.2 - c.2) && decide (x.2 - c.2 ≤ 1)) = false := by simp; omega
            have HN : Hid (nearTo l c (k + 1) = n) := by
              show _ = _
              rw [HS.out, HNB.out, hb]; simp
            clear hn
            go_wp2_with (go_at_call 51; refine (c_l1In _ _ _ _).mono ?_; rintro e w' ⟨rfl, rfl⟩)
            go_roundw
            case rel => exact ⟨k + 1, by omega, by go_num, by rw [HN.out], HX.out.step ((Below.refl _ _).alloc (Nat.le_refl _) _)⟩
            case measure => simp [intOf]; omega
        · have hb4 : (decide (-1 ≤ x.1 - c.1) && decide (x.1 - c.1 ≤ 1)) = false := by simp; omega
          have HN : Hid (nearTo l c (k + 1) = n) := by
            show _ = _
            rw [HS.out, HNB.out, hb4]; simp
          clear hn
          go_wp2_with (go_at_call 51; refine (c_l1In _ _ _ _).mono ?_; rintro e w' ⟨rfl, rfl⟩)
          go_roundw
          case rel => exact ⟨k + 1, by omega, by go_num, by rw [HN.out], HX.out.step ((Below.refl _ _).alloc (Nat.le_refl _) _)⟩
          case measure => simp [intOf]; omega
    · go_wp2
      go_ret
      have : k = l.length := by omega
      subst this
      exact ⟨ret_int (by rw [nearTo_all]), hB⟩

/-- The eight places, as a value. -/
def aboutV (c : Cl) : Value := .agg #[.int .i64 (c.1 - 1), .int .i64 (c.2 - 1), .int .i64 c.1, .int .i64 (c.2 - 1), .int .i64 (c.1 + 1), .int .i64 (c.2 - 1), .int .i64 (c.1 - 1), .int .i64 c.2, .int .i64 (c.1 + 1), .int .i64 c.2, .int .i64 (c.1 - 1), .int .i64 (c.2 + 1), .int .i64 c.1, .int .i64 (c.2 + 1), .int .i64 (c.1 + 1), .int .i64 (c.2 + 1)]

set_option maxHeartbeats 1000000 in
theorem c_around (c : Cl) (w : World) (hc : -41 ≤ c.1 ∧ c.1 ≤ 41 ∧ -41 ≤ c.2 ∧ c.2 ≤ 41) :
    Calls Try.prog 42 #[.agg #[.int .i64 c.1, .int .i64 c.2]] w fun e w' => e = .returned (aboutV c) ∧ Below w.heap.size w w' := by
  obtain ⟨c1, c2, c3, c4⟩ := hc
  go_enter Try.func42, Try.ntmps42
  go_wp2
  exact bodyPost_ret (v := aboutV c) (by simp [results, Try.results42, go_sem, aboutV]) rfl ⟨rfl, ((Below.refl _ _).alloc (Nat.le_refl _) _).alloc (by simp) _⟩

theorem about_index (c : Cl) (k : Nat) (hk : k < 8) (w : World) : (Instr.index 53 (aboutV c) (.int .i64 (k : Int))).run Try.prog w = .ok (.agg #[.int .i64 (at_ (about c) k).1, .int .i64 (at_ (about c) k).2]) w := by
  rcases (show k = 0 ∨ k = 1 ∨ k = 2 ∨ k = 3 ∨ k = 4 ∨ k = 5 ∨ k = 6 ∨ k = 7 by omega) with h | h | h | h | h | h | h | h
  all_goals
    subst h
    kernel_rfl

/-- How many of the first k of some places are among cells. -/
def hitsTo (m l : List Cl) (k : Nat) : Nat := (m.take k).countP (fun a => decide (a ∈ l))
theorem hitsTo_succ {m l : List Cl} {k : Nat} (h : k < m.length) : hitsTo m l (k + 1) = hitsTo m l k + if decide (at_ m k ∈ l) then 1 else 0 := by
  unfold hitsTo
  rw [List.take_succ_eq_append_getElem h, List.countP_append]
  simp [at_, h, List.countP_cons]
theorem hitsTo_le (m l : List Cl) (k : Nat) : hitsTo m l k ≤ k := by
  have h1 := List.countP_le_length (p := fun a => decide (a ∈ l)) (l := m.take k)
  have h2 := List.length_take_le k m
  unfold hitsTo; omega

theorem c_hasCell' (a : Option Addr) (l : List Cl) (ca : Nat) (c : Cl) (v : Bool) (h : decide (c ∈ l) = v) (w : World) (ha : Seg w a l) (hl : l.length ≤ 1048576) (hr : risTo l l.length = true) :
    Calls Try.prog 43 #[.slice a l.length ca, .agg #[.int .i64 c.1, .int .i64 c.2]] w fun e w' => e = .returned (.bool v) ∧ Below w.heap.size w w' := by
  rw [← h]; exact c_hasCell a l ca c w ha hl hr

/-- What NearOf answers. -/
def nearV (l : List Cl) (c : Cl) : Int × Bool := if good l && inR c then ((near l c : Int), true) else (0, false)

set_option maxHeartbeats 1000000 in
theorem c_iNearOf (a : Option Addr) (l : List Cl) (ca : Nat) (c : Cl) (w : World) (ha : Seg w a l) (hl : l.length ≤ 1048576) :
    Calls Try.prog 11 #[.slice a l.length ca, .agg #[.int .i64 c.1, .int .i64 c.2]] w fun e w' => e = .returned (.tuple #[.int .i64 (nearV l c).1, .bool (nearV l c).2]) ∧ Below w.heap.size w w' := by
  have X0 := BoxIn.new w c 30
  have HX0 := hid X0
  have n0 := X0.1
  have n1 := X0.2.1
  clear X0
  cases hg : good l
  · have HC := hid (c_iGood' a l ca false hg _ (ha.below HX0.out.below) hl)
    have HV : Hid (nearV l c = (0, false)) := by simp [Hid, nearV, hg]
    clear ha n0 n1
    go_enter Try.func11, Try.ntmps11
    go_wp2_with fail
    refine HC.out.mono ?_
    rintro e w1 ⟨rfl, hb1⟩
    go_wp2
    go_ret2
    exact ⟨by rw [HV.out]; rfl, (HX0.out.step hb1).below⟩
  · have HC := hid (c_iGood' a l ca true hg _ (ha.below HX0.out.below) hl)
    cases hi : inR c
    · have HV : Hid (nearV l c = (0, false)) := by simp [Hid, nearV, hg, hi]
      go_enter Try.func11, Try.ntmps11
      go_wp2_with fail
      refine HC.out.mono ?_
      rintro e w1 ⟨rfl, hb1⟩
      have HX1 := hid (HX0.out.step hb1)
      have m0 := HX1.out.1
      have m1 := HX1.out.2.1
      clear n0 n1 hb1 HX0 HC
      go_wp2_with fail
      refine (c_inReach' c false hi _).mono ?_
      rintro e w2 ⟨rfl, hb2⟩
      have HX2 := hid (HX1.out.step hb2)
      clear m0 m1 hb2 HX1
      go_wp2
      go_ret2
      exact ⟨by rw [HV.out]; rfl, HX2.out.below⟩
    · have HV : Hid (nearV l c = ((near l c : Int), true)) := by simp [Hid, nearV, hg, hi]
      have hbd := inR_bd hi
      go_enter Try.func11, Try.ntmps11
      go_wp2_with fail
      refine HC.out.mono ?_
      rintro e w1 ⟨rfl, hb1⟩
      have HX1 := hid (HX0.out.step hb1)
      have m0 := HX1.out.1
      have m1 := HX1.out.2.1
      clear n0 n1 hb1 HX0 HC
      go_wp2_with fail
      refine (c_inReach' c true hi _).mono ?_
      rintro e w2 ⟨rfl, hb2⟩
      have HX2 := hid (HX1.out.step hb2)
      clear m0 m1 hb2 HX1
      have m0 := HX2.out.1
      have m1 := HX2.out.2.1
      go_wp2_with fail
      refine (c_around c _ hbd).mono ?_
      rintro e w3 ⟨rfl, hb3⟩
      have HX3 := hid (HX2.out.step hb3)
      clear m0 m1 hb3 HX2
      go_wp2_with fail
      go_loopw [6, 19] (fun n i wr => ∃ k : Nat, k ≤ 8 ∧ i = .int .i64 k ∧ n = .int .i64 (hitsTo (about c) l k) ∧ Below w.heap.size w wr) (fun _ i _ => 8 - (intOf i).toNat)
      case atStart => exact ⟨0, Nat.zero_le _, rfl, rfl, HX3.out.below⟩
      case round =>
        clear HX3
        obtain ⟨k, hk, rfl, rfl, hB⟩ := hrel
        by_cases hlt : k < 8
        · have hidx := about_index c k hlt
          have HS := hid (hitsTo_succ (m := about c) (l := l) (k := k) (by simpa [about] using hlt))
          have hle := hitsTo_le (about c) l k
          generalize at_ (about c) k = x at *
          generalize hitsTo (about c) l k = n at *
          have k0 : (0 : Int) ≤ (k : Int) := by omega
          have k1 : (k : Int) < 8 := by omega
          have HB := hid (hB.alloc hB.size (.cells #[.int .i64 x.1, .int .i64 x.2] 30))
          cases hm : decide (x ∈ l)
          · have HC := hid (c_hasCell' a l ca x false hm _ (ha.below HB.out) hl (good_ris hg))
            clear hB
            go_wp2_with fail
            refine HC.out.mono ?_
            rintro e w4 ⟨rfl, hb4⟩
            go_wp2
            go_roundw
            case rel => exact ⟨k + 1, by omega, by go_num, by rw [HS.out, hm]; rfl, HB.out.trans (hb4.mono HB.out.size)⟩
            case measure => simp [intOf]; omega
          · have HC := hid (c_hasCell' a l ca x true hm _ (ha.below HB.out) hl (good_ris hg))
            clear hB
            go_wp2_with fail
            refine HC.out.mono ?_
            rintro e w4 ⟨rfl, hb4⟩
            go_wp2
            go_roundw
            case rel => exact ⟨k + 1, by omega, by go_num, by rw [HS.out, hm]; go_num, HB.out.trans (hb4.mono HB.out.size)⟩
            case measure => simp [intOf]; omega
        · obtain rfl : k = 8 := by omega
          have HE : Hid (hitsTo (about c) l 8 = near l c) := by
            show _ = _
            rw [near_about (good_ris hg)]; rfl
          go_wp2
          go_ret2
          exact ⟨by rw [HV.out]; exact ret_two (by rw [HE.out]; rfl) rfl, hB⟩

set_option maxHeartbeats 400000 in
theorem c_sNearOf (a : Option Addr) (l : List Cl) (ca : Nat) (c : Cl) (w : World) (ha : Seg w a l) (hl : l.length ≤ 1048576) :
    Calls Try.prog 15 #[.slice a l.length ca, .agg #[.int .i64 c.1, .int .i64 c.2]] w fun e w' => e = .returned (.tuple #[.int .i64 (nearV l c).1, .bool (nearV l c).2]) ∧ Below w.heap.size w w' := by
  have hb0 : Below w.heap.size w (w.alloc (.cells #[.int .i64 c.1, .int .i64 c.2] 30)) := (Below.refl _ _).alloc (Nat.le_refl _) _
  have n0 := cell_new0 w (.int .i64 c.1) (.int .i64 c.2) 30
  have n1 := cell_new1 w (.int .i64 c.1) (.int .i64 c.2) 30
  cases hg : good l
  · have HC := hid (c_sGood' a l ca false hg _ (ha.below hb0) hl)
    have HV : Hid (nearV l c = (0, false)) := by simp [Hid, nearV, hg]
    clear ha n0 n1
    go_enter Try.func15, Try.ntmps15
    go_wp2_with fail
    refine HC.out.mono ?_
    rintro e w1 ⟨rfl, hb1⟩
    go_wp2
    go_ret2
    exact ⟨by rw [HV.out]; rfl, hb0.trans (hb1.mono hb0.size)⟩
  · have HC := hid (c_sGood' a l ca true hg _ (ha.below hb0) hl)
    cases hi : inR c
    · have HV : Hid (nearV l c = (0, false)) := by simp [Hid, nearV, hg, hi]
      go_enter Try.func15, Try.ntmps15
      go_wp2_with fail
      refine HC.out.mono ?_
      rintro e w1 ⟨rfl, hb1⟩
      have m0 := (hb1.cell (p := ⟨w.heap.size, 0, none⟩) (by simp)).trans n0
      have m1 := (hb1.cell (p := ⟨w.heap.size, 1, none⟩) (by simp)).trans n1
      go_wp2_with (go_at_call 39; refine (c_l1There' c false hi _).mono ?_; rintro e w2 ⟨rfl, hb2⟩)
      go_ret2
      have B1 := hb0.trans (hb1.mono hb0.size)
      exact ⟨by rw [HV.out]; rfl, B1.trans (hb2.mono B1.size)⟩
    · have HV : Hid (nearV l c = ((near l c : Int), true)) := by simp [Hid, nearV, hg, hi]
      go_enter Try.func15, Try.ntmps15
      go_wp2_with fail
      refine HC.out.mono ?_
      rintro e w1 ⟨rfl, hb1⟩
      have m0 := (hb1.cell (p := ⟨w.heap.size, 0, none⟩) (by simp)).trans n0
      have m1 := (hb1.cell (p := ⟨w.heap.size, 1, none⟩) (by simp)).trans n1
      have hsz : w.heap.size < w1.heap.size := by have := hb1.size; simp at this; omega
      have B1 := hid (hb0.trans (hb1.mono hb0.size))
      clear HC hb0 hb1 n0 n1
      go_wp2_with fail
      refine (c_l1There' c true hi _).mono ?_
      rintro e w2 ⟨rfl, hb2⟩
      have q0 := (hb2.cell (p := ⟨w.heap.size, 0, none⟩) hsz).trans m0
      have q1 := (hb2.cell (p := ⟨w.heap.size, 1, none⟩) hsz).trans m1
      have B2 := hid (B1.out.trans (hb2.mono B1.out.size))
      clear m0 m1 hb2 B1
      go_wp2_with fail
      refine (c_l1Near a l ca c _ (ha.below B2.out) hl (good_in hg) (inR_bd hi)).mono ?_
      rintro e w3 ⟨rfl, hb3⟩
      go_wp2
      go_ret2
      exact ⟨by rw [HV.out]; rfl, B2.out.trans (hb3.mono B2.out.size)⟩

end Go.Proofs.Ytkapdjlaebidnaa
