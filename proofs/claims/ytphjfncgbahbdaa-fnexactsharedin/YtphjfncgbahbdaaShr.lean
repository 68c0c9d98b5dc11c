/- What quads a quad is made of: plain facts, and what both SharedIn answer. -/
import Derived.Test.YtphjfncgbahbdaaPut
import Derived.Test.YtphjfncgbahbdaaCellQ
import Derived.Test.YtphjfncgbahbdaaLev
import Derived.Test.YtphjfncgbahbdaaCellI
namespace Go.Proofs.Ytphjfncgbahbdaa
open Go.RowKit Go.Maps
set_option linter.unusedVariables false
set_option linter.unusedSimpArgs false
attribute [local go_sem ↓] Go.wp_at_zero Go.wp_at_succ

/-- The quads that q is made of. -/
inductive Reach (F : List Qd) (q : Nat) : Nat → Prop
  | self : Reach F q q
  | kid {x i : Nat} : Reach F q x → 2 ≤ x → i < 4 → Reach F q (kidq F x i)
theorem Reach.trans {F : List Qd} {a b c : Nat} (h : Reach F a b) (k : Reach F b c) : Reach F a c := by
  induction k with
  | self => exact h
  | kid _ h2 hi ih => exact .kid ih h2 hi
theorem Reach.le {F : List Qd} (hg : goodF F = true) {q x : Nat} (h : Reach F q x) (hq : q < F.length) : x ≤ q := by
  induction h with
  | self => exact Nat.le_refl _
  | kid _ h2 hi ih => have := kid_lt hg (Nat.lt_of_le_of_lt ih hq) h2 hi; omega
theorem Reach.low {F : List Qd} (hg : goodF F = true) {q x : Nat} (hq : q < 2) (h : Reach F q x) : x = q := by
  induction h with
  | self => rfl
  | kid _ h2 hi ih => omega
/-- From q on: q itself, or what comes of a kid. -/
theorem reach_cases {F : List Qd} {q x : Nat} (h : Reach F q x) : x = q ∨ (2 ≤ q ∧ ∃ i, i < 4 ∧ Reach F (kidq F q i) x) := by
  induction h with
  | self => exact .inl rfl
  | kid hr h2 hi ih =>
    rename_i y j
    rcases ih with rfl | ⟨hq, i, hi', hr'⟩
    · exact .inr ⟨h2, j, hi, .self⟩
    · exact .inr ⟨hq, i, hi', .kid hr' h2 hi⟩
theorem reach_kid {F : List Qd} {q i x : Nat} (h2 : 2 ≤ q) (hi : i < 4) (h : Reach F (kidq F q i) x) : Reach F q x := (Reach.kid .self h2 hi).trans h

/-- The numbers of the quads that q is made of, rising. -/
noncomputable def shrL (F : List Qd) (q : Nat) : List Int := open Classical in if h : ∃ l, Asc l ∧ ∀ x, x ∈ l ↔ ∃ n : Nat, x = n ∧ Reach F q n then Classical.choose h else []
theorem shrL_eq {F : List Qd} {q : Nat} {l : List Int} (h1 : Asc l) (h2 : ∀ x, x ∈ l ↔ ∃ n : Nat, x = n ∧ Reach F q n) : shrL F q = l := by
  unfold shrL
  have h : ∃ l, Asc l ∧ ∀ x, x ∈ l ↔ ∃ n : Nat, x = n ∧ Reach F q n := ⟨l, h1, h2⟩
  rw [dif_pos h]
  exact asc_unique (Classical.choose_spec h).1 h1 (fun c => ((Classical.choose_spec h).2 c).trans (h2 c).symm)
/-- The numbers that SharedIn tells. -/
noncomputable def shrV (F : List Qd) (q : Int) : List Int := if thereB F q then shrL F q.toNat else []

set_option maxHeartbeats 2000000 in
set_option maxRecDepth 100000 in
theorem c_l3Shared {F : List Qd} (hg : goodF F = true) (a : Option Addr) (ca : Nat) (base : Nat) : ∀ (m : Nat) (q : Int) (v : Value) (out : List Int) (w : World),
    q.toNat < m → 0 ≤ q → q < (F.length : Int) → QSeg w a F → OwnI w base v out → base ≤ w.heap.size → Asc out → (∀ x ∈ out, 0 ≤ x ∧ x < (F.length : Int)) →
    (∀ x : Nat, (x : Int) ∈ out → x ≤ q.toNat → ∀ n, Reach F x n → (n : Int) ∈ out) →
    Calls Try.prog 72 #[.agg #[.slice a F.length ca], .int .i64 q, v] w fun e w' => ∃ v' out', e = .returned v' ∧ OwnI w' base v' out' ∧ Asc out' ∧ (∀ x, x ∈ out' ↔ x ∈ out ∨ ∃ n : Nat, x = n ∧ Reach F q.toNat n) ∧ Below w.heap.size w w' := by
  intro m
  induction m with
  | zero => intro q v out w hm; omega
  | succ m ih =>
    intro q v out w hm h0 h1 hQ hO hbase hA hin hinv
    have hlen := asc_len hA hin
    have h400 := good_len2 hg
    have BX := hid (Box1.new w (.slice a F.length ca) 24)
    have HO := hid hO
    have HQ := hid hQ
    have HA := hid hA
    have HI := hid hin
    have HINV := hid hinv
    obtain ⟨va, vca, hv, hvs⟩ := hO.seg
    have HVS := hid (hvs.below BX.out.2.2)
    by_cases hmem : q ∈ out
    · have HM := hid hmem
      have HC := hid (c_l1Has va out vca q _ HVS.out (by omega))
      rw [show decide (q ∈ out) = true by simp [hmem]] at HC
      subst hv
      clear hO hQ hA hin hinv hvs hmem
      go_enter Try.func72, Try.ntmps72
      go_wp2_with fail
      refine HC.out.mono ?_
      rintro e w1 ⟨rfl, rfl⟩
      go_wp2_with fail
      go_ret
      refine ⟨_, out, rfl, HO.out.below BX.out.2.2, HA.out, fun x => ⟨.inl, ?_⟩, BX.out.2.2⟩
      rintro (h | ⟨n, rfl, hn⟩)
      · exact h
      · exact HINV.out q.toNat (by rw [Int.toNat_of_nonneg h0]; exact HM.out) (Nat.le_refl _) n hn
    · have HC := hid (c_l1Has va out vca q _ HVS.out (by omega))
      rw [show decide (q ∈ out) = false by simp [hmem]] at HC
      have HP := hid (c_l1Put base v out q _ (HO.out.below BX.out.2.2) (Nat.le_trans hbase BX.out.2.2.size) (by omega) hA)
      subst hv
      obtain ⟨b1, o1, ak, ck, rfl, hb1, p1, p2, p3, p4⟩ := hQ q.toNat (by omega)
      have P3 := hid p3
      have P2 := hid p2
      have hk4 : (qa F q.toNat).2.length ≤ 4 := by
        by_cases h2 : q.toNat < 2
        · have := (good_zero hg (q := q.toNat) (by omega) h2).2; omega
        · have := (good_quad hg (q := q.toNat) (by omega) (by omega)).1; omega
      have HIH := hid ih
      have HB0 := hid hbase
      clear hO hQ hA hin hinv hvs hmem ih p1 p2 p3 p4
      go_enter Try.func72, Try.ntmps72
      go_wp2_with fail
      refine HC.out.mono ?_
      rintro e w1 ⟨rfl, rfl⟩
      clear HC
      go_wp2_with fail
      refine HP.out.mono ?_
      rintro e w2 ⟨v2, l2, rfl, hW2, hB2, hO2⟩
      have X2 := hid (BX.out.step hB2)
      have HO2 := hid hO2
      have HW2 := hid hW2
      clear HP hW2 hO2 hB2 BX HVS
      have x0 := X2.out.1
      have c2 := (X2.out.2.2.cell (p := ⟨b1, o1 + q.toNat * 2 + 1, none⟩) hb1).trans P2.out
      go_wp2_with fail
      go_loopw [23, 2] (fun i vi wr => ∃ (k : Nat) (l : List Int), k ≤ (qa F q.toNat).2.length ∧ i = .int .i64 k ∧ Hid (OwnI wr base vi l) ∧ Hid (Asc l) ∧ Hid (∀ x, x ∈ l ↔ x ∈ out ∨ x = q ∨ ∃ j n : Nat, j < k ∧ x = n ∧ Reach F (kidq F q.toNat j) n) ∧ Hid (Box1 w wr (.slice (some ⟨b1, o1, none⟩) F.length ca))) (fun i _ _ => (qa F q.toNat).2.length - (intOf i).toNat)
      case atStart =>
        refine ⟨0, l2, Nat.zero_le _, rfl, HO2.out, HW2.out.1, ?_, X2.out⟩
        intro x
        rw [HW2.out.2.1 x]
        constructor
        · rintro (h | h)
          · exact .inr (.inl h)
          · exact .inl h
        · rintro (h | h | ⟨j, n, hj, _⟩)
          · exact .inr h
          · exact .inl h
          · omega
      case round =>
        clear HO2 HW2 X2 x0 c2
        obtain ⟨k, l, hk, rfl, HOl, HAl, HMl, HX⟩ := hrel
        have h2q : k < (qa F q.toNat).2.length → 2 ≤ q.toNat := fun h => by
          by_cases h2 : q.toNat < 2
          · have := (good_zero hg (q := q.toNat) (by omega) h2).2; omega
          · omega
        by_cases hlt : k < (qa F q.toNat).2.length
        · have h2 := h2q hlt
          have hgk := (good_quad hg (q := q.toNat) (by omega) h2).2.2.2.1 k (by omega)
          have hkq : kidq F q.toNat k = (ia (qa F q.toNat).2 k).toNat := rfl
          have hl400 : ∀ x ∈ l, 0 ≤ x ∧ x < (F.length : Int) := by
            intro x hx
            rcases (HMl.out x).1 hx with h | rfl | ⟨j, n, hj, rfl, hr⟩
            · exact HI.out x h
            · omega
            · have e1 := kid_lt hg (q := q.toNat) (by omega) h2 (i := j) (by omega)
              have e2 := hr.le hg (by omega)
              omega
          have HL4 := hid hl400
          have HNV : Hid (∀ x : Nat, (x : Int) ∈ l → x ≤ (ia (qa F q.toNat).2 k).toNat → ∀ n, Reach F x n → (n : Int) ∈ l) := by
            intro x hx hxk n hn
            rcases (HMl.out x).1 hx with h | h | ⟨j, y, hj, hy, hr⟩
            · exact (HMl.out n).2 (.inl (HINV.out x h (by omega) n hn))
            · omega
            · have : x = y := by omega
              subst this
              exact (HMl.out n).2 (.inr (.inr ⟨j, n, hj, rfl, hr.trans hn⟩))
          obtain ⟨bk, ok, rfl, hbk, pk⟩ := P3.out k hlt
          have k0 : (0 : Int) ≤ (k : Int) := by omega
          have k1 : (k : Int) < ((qa F q.toNat).2.length : Int) := by omega
          have x0 := HX.out.1
          have ck0 := (HX.out.2.2.cell (p := ⟨bk, ok + k, none⟩) hbk).trans pk
          clear pk h2q
          go_wp2_with fail
          refine (HIH.out (ia (qa F q.toNat).2 k) _ l wr (by omega) (by omega) (by omega) (HQ.out.below HX.out.2.2) HOl.out (Nat.le_trans HB0.out HX.out.2.2.size) HAl.out HL4.out HNV.out).mono ?_
          rintro e w3 ⟨v3, l3, rfl, hO3, hA3, hM3, hB3⟩
          have HO3 := hid hO3
          have HA3 := hid hA3
          have X3 := hid (HX.out.step hB3)
          have HM3 : Hid (∀ x, x ∈ l3 ↔ x ∈ out ∨ x = q ∨ ∃ j n : Nat, j < k + 1 ∧ x = n ∧ Reach F (kidq F q.toNat j) n) := by
            intro x
            rw [hM3 x, HMl.out x]
            constructor
            · rintro ((h | h | ⟨j, n, hj, hx, hr⟩) | ⟨n, hx, hr⟩)
              · exact .inl h
              · exact .inr (.inl h)
              · exact .inr (.inr ⟨j, n, by omega, hx, hr⟩)
              · exact .inr (.inr ⟨k, n, by omega, hx, hr⟩)
            · rintro (h | h | ⟨j, n, hj, hx, hr⟩)
              · exact .inl (.inl h)
              · exact .inl (.inr (.inl h))
              · by_cases e : j = k
                · subst e; exact .inr ⟨n, hx, hr⟩
                · exact .inl (.inr (.inr ⟨j, n, by omega, hx, hr⟩))
          clear hO3 hA3 hM3 hB3 x0 ck0 HOl HAl HMl HNV HL4 hl400
          go_wp2_with fail
          go_roundw
          case rel => exact ⟨k + 1, l3, by omega, by go_num, HO3.out, HA3.out, HM3.out, X3.out⟩
          case measure => simp [intOf]; omega
        · go_wp2_with fail
          go_ret
          refine ⟨_, l, rfl, HOl.out, HAl.out, fun x => ?_, HX.out.2.2⟩
          rw [HMl.out x]
          constructor
          · rintro (h | rfl | ⟨j, n, hj, rfl, hr⟩)
            · exact .inl h
            · exact .inr ⟨x.toNat, by omega, .self⟩
            · have h2 : 2 ≤ q.toNat := by
                by_cases h2 : q.toNat < 2
                · have := (good_zero hg (q := q.toNat) (by omega) h2).2; omega
                · omega
              exact .inr ⟨n, rfl, reach_kid h2 (by omega) hr⟩
          · rintro (h | ⟨n, rfl, hr⟩)
            · exact .inl h
            · rcases reach_cases hr with rfl | ⟨h2, i, hi, hr'⟩
              · exact .inr (.inl (by omega))
              · have := (good_quad hg (q := q.toNat) (by omega) h2).1
                exact .inr (.inr ⟨i, n, by omega, rfl, hr'⟩)

set_option maxHeartbeats 1000000 in
theorem c_sSharedIn (a : Option Addr) (F : List Qd) (ca : Nat) (q : Int) (w : World) (ha : QSeg w a F) (hl : F.length ≤ 1048576) (hk : KidsLe F) (hca : F.length ≤ ca) (hcm : ca ≤ 9223372036854775807) :
    Calls Try.prog 41 #[.agg #[.slice a F.length ca], .int .i64 q] w fun e w' => ∃ v, e = .returned (.tuple #[v, .bool (thereB F q)]) ∧ OwnI w' w.heap.size v (shrV F q) ∧ Below w.heap.size w w' := by
  have BX := hid (Box1.new w (.slice a F.length ca) 24)
  cases ht : thereB F q
  · have HC := hid (c_l3There' a F ca q false ht _ (ha.below BX.out.2.2) hl hk hca hcm)
    have HV : Hid (shrV F q = []) := by simp [Hid, shrV, ht]
    clear ha ht
    go_enter Try.func41, Try.ntmps41
    go_wp2_with fail
    refine HC.out.mono ?_
    rintro e w1 ⟨rfl, hb⟩
    clear HC
    go_wp2
    go_ret2
    exact ⟨_, rfl, by rw [HV.out]; exact OwnI.nil _ _, (BX.out.step hb).2.2⟩
  · have HC := hid (c_l3There' a F ca q true ht _ (ha.below BX.out.2.2) hl hk hca hcm)
    have HV : Hid (shrV F q = shrL F q.toNat) := by simp [Hid, shrV, ht]
    obtain ⟨hg, h0, h1⟩ := there_bd ht
    have HA := hid ha
    clear ha ht
    go_enter Try.func41, Try.ntmps41
    go_wp2_with fail
    refine HC.out.mono ?_
    rintro e w1 ⟨rfl, hb⟩
    have X1 := hid (BX.out.step hb)
    have x := X1.out.1
    clear HC BX hb
    go_wp2_with fail
    refine (c_l3Shared hg a ca w.heap.size (q.toNat + 1) q (.slice none 0 0) [] w1 (by omega) h0 h1 (HA.out.below X1.out.2.2) (OwnI.nil _ _) X1.out.2.2.size List.Pairwise.nil (fun x hx => by simp at hx) (fun x hx => by simp at hx)).mono ?_
    rintro e w2 ⟨v2, l2, rfl, hO, hA2, hM, hB⟩
    have HE := hid (shrL_eq (F := F) (q := q.toNat) hA2 (fun x => by rw [hM x]; simp))
    have HO := hid hO
    have HB := hid (X1.out.2.2.trans (hB.mono X1.out.2.2.size))
    clear hO hB hA2 hM x
    go_wp2_with fail
    go_ret2
    exact ⟨_, rfl, by rw [HV.out, HE.out]; exact HO.out, HB.out⟩

/-- Marks while the program goes down: all that is marked is reached, q is marked, and of what lies behind n each marked quad's kids are marked. -/
structure Down (F : List Qd) (q n : Nat) (u : Nat → Bool) : Prop where
  reach : ∀ x, x ≤ q → u x = true → Reach F q x
  self : u q = true
  kids : ∀ y, n < y → y ≤ q → 2 ≤ y → u y = true → ∀ i, i < 4 → u (kidq F y i) = true
theorem Down.done {F : List Qd} (hg : goodF F = true) {q : Nat} (hq : q < F.length) {u : Nat → Bool} (h : Down F q 1 u) : ∀ x, x ≤ q → (u x = true ↔ Reach F q x) := by
  intro x hx
  refine ⟨h.reach x hx, fun hr => ?_⟩
  induction hr with
  | self => exact h.self
  | kid hr h2 hi ih =>
    have hle := hr.le hg hq
    exact h.kids _ (by omega) hle h2 (ih hle) _ hi
/-- Those of the first k numbers that are marked. -/
def gotTo (u : Nat → Bool) : Nat → List Int
  | 0 => []
  | k + 1 => if u k then gotTo u k ++ [(k : Int)] else gotTo u k
theorem gotTo_mem (u : Nat → Bool) : ∀ (k : Nat) (x : Int), x ∈ gotTo u k ↔ ∃ n : Nat, x = n ∧ n < k ∧ u n = true
  | 0, x => by simp [gotTo]
  | k + 1, x => by
    have ih := gotTo_mem u k x
    simp only [gotTo]
    by_cases h : u k = true
    · rw [if_pos h, List.mem_append, ih]
      constructor
      · rintro (⟨n, h1, h2, h3⟩ | h1)
        · exact ⟨n, h1, by omega, h3⟩
        · simp at h1; exact ⟨k, h1, by omega, h⟩
      · rintro ⟨n, h1, h2, h3⟩
        by_cases e : n = k
        · subst e; right; simp [h1]
        · exact .inl ⟨n, h1, by omega, h3⟩
    · rw [if_neg h, ih]
      constructor
      · rintro ⟨n, h1, h2, h3⟩; exact ⟨n, h1, by omega, h3⟩
      · rintro ⟨n, h1, h2, h3⟩
        by_cases e : n = k
        · subst e; exact absurd h3 h
        · exact ⟨n, h1, by omega, h3⟩
theorem gotTo_asc (u : Nat → Bool) : ∀ k, Asc (gotTo u k)
  | 0 => List.Pairwise.nil
  | k + 1 => by
    simp only [gotTo]
    split
    · show List.Pairwise _ _
      rw [List.pairwise_append]
      refine ⟨gotTo_asc u k, List.pairwise_singleton _ _, fun x hx y hy => ?_⟩
      obtain ⟨n, rfl, hn, _⟩ := (gotTo_mem u k x).1 hx
      simp at hy; omega
    · exact gotTo_asc u k
theorem gotTo_len (u : Nat → Bool) : ∀ k, (gotTo u k).length ≤ k
  | 0 => by simp [gotTo]
  | k + 1 => by
    have := gotTo_len u k
    simp only [gotTo]
    split
    · simp; omega
    · omega

theorem info_bool : (Try.prog.info? 4).map (fun i => (i.zero, i.size, i.bytes)) = some (some (.bool false), 1, 1) := by kernel_rfl
theorem make_Bools (n : Nat) (hn : n ≤ 1048576) (w : World) :
    (Instr.makeSlice 118 (.int .i64 (n : Int)) (.int .i64 (n : Int))).run Try.prog w = .ok (.slice (some ⟨w.heap.size, 0, none⟩) n n) (w.alloc (.cells (madeCells #[.bool false] n) 4)) := by
  obtain ⟨i, hi, hz, hs, hb⟩ := info_parts info_bool
  have := run_make (P := Try.prog) w 118 4 i _ Try.underlying118 hi hz .i64 .i64 n n (by omega) (Int.le_refl _) (by rw [hb]; omega) (by omega)
  simpa [hs, Value.cells] using this
/-- Marks, all of block g. -/
def BRow (w : World) (g n : Nat) (u : Nat → Bool) : Prop := w.rowIs g 4 n (fun j => .bool (u j))
theorem BRow.put {w : World} {g n : Nat} {u : Nat → Bool} (h : BRow w g n u) (i : Nat) : BRow (w.setCell ⟨g, i, none⟩ (.bool true)) g n (fun j => if j = i then true else u j) := by
  refine (World.rowIs.set h i (.bool true)).congr fun j hj => ?_
  by_cases e : j = i <;> simp [e]

end Go.Proofs.Ytphjfncgbahbdaa
