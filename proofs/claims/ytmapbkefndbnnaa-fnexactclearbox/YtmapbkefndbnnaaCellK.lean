/- What both CellsIn and both CountOf answer. -/
import Derived.Test.YtmapbkefndbnnaaCellC
import Derived.Test.YtmapbkefndbnnaaCellI
import Derived.Test.YtmapbkefndbnnaaSortN
import Derived.Test.YtmapbkefndbnnaaSortS
import Derived.Test.YtmapbkefndbnnaaLev
namespace Go.Proofs.Ytmapbkefndbnnaa
open Go.RowKit Go.Maps
set_option linter.unusedVariables false
set_option linter.unusedSimpArgs false
attribute [local go_sem ↓] Go.wp_at_zero Go.wp_at_succ

theorem ris_of_sorted {l : List Cl} (hs : Sorted l) (hn : l.Nodup) : risTo l l.length = true := by
  refine ris_of fun i hi => ?_
  have h1 := hs i (i + 1) (by omega) hi
  have hne : at_ l i ≠ at_ l (i + 1) := by
    intro e
    rw [List.nodup_iff_pairwise_ne, List.pairwise_iff_getElem] at hn
    have := hn i (i + 1) (by omega) hi (by omega)
    simp only [at_, List.getD_eq_getElem?_getD, List.getElem?_eq_getElem hi, List.getElem?_eq_getElem (show i < l.length by omega), Option.getD_some] at e
    exact this e
  exact ltC_total h1 (Ne.symm hne)

theorem cellsOfQ_len {F : List Qd} (hg : goodF F = true) {q : Nat} (hq : q < F.length) : (cellsOfQ F q).length ≤ 1024 := by
  have h1 := cellsL_len F (levN F q) q 0 0
  have h2 := lev_nonneg hg hq
  have h3 : levN F q ≤ 5 := by unfold levN; omega
  have h4 : 4 ^ levN F q ≤ 4 ^ 5 := Nat.pow_le_pow_right (by omega) h3
  unfold cellsOfQ
  omega
theorem pow_le_32 {n : Nat} (h : n ≤ 5) : (2 : Int) ^ n ≤ 32 := by
  rcases (show n = 0 ∨ n = 1 ∨ n = 2 ∨ n = 3 ∨ n = 4 ∨ n = 5 by omega) with rfl | rfl | rfl | rfl | rfl | rfl <;> decide
theorem pow4_le {n : Nat} (h : n ≤ 5) : (4 : Nat) ^ n ≤ 1024 := by
  rcases (show n = 0 ∨ n = 1 ∨ n = 2 ∨ n = 3 ∨ n = 4 ∨ n = 5 by omega) with rfl | rfl | rfl | rfl | rfl | rfl <;> decide
theorem levN_eq {F : List Qd} (hg : goodF F = true) {q : Int} (h0 : 0 ≤ q) (h1 : q < (F.length : Int)) : (qa F q.toNat).1 = (levN F q.toNat : Int) ∧ levN F q.toNat ≤ 5 := by
  have := lev_nonneg hg (q := q.toNat) (by omega)
  unfold levN
  omega

/-- All of a quad's cells, from the first corner on, put behind none. -/
theorem c_l3CellsAll {F : List Qd} (hg : goodF F = true) (a : Option Addr) (ca : Nat) (q : Int) (w : World) (ha : QSeg w a F) (h0 : 0 ≤ q) (h1 : q < (F.length : Int)) :
    Calls Try.prog 94 #[.agg #[.slice a F.length ca], .int .i64 q, .int .i64 0, .int .i64 0, .slice none 0 0] w fun e w' => ∃ v', e = .returned v' ∧ OwnS w' w.heap.size v' (cellsOfQ F q.toNat) ∧ Below w.heap.size w w' := by
  obtain ⟨e1, e2⟩ := levN_eq hg h0 h1
  have p1 := pow_le_32 e2
  have p2 := pow4_le e2
  refine (c_l3Cells hg a ca w ha (levN F q.toNat) q 0 0 (.slice none 0 0) [] w w.heap.size h0 h1 e1 (by omega) (by omega) (by omega) (by omega) (Below.refl _ _) (Nat.le_refl _) (Nat.le_refl _) (OwnS.nil _ _) (by simp; omega)).mono ?_
  rintro e w' ⟨v', he, hO, hG, _⟩
  exact ⟨v', he, by simpa [cellsOfQ] using hO, ⟨hG.os, hG.tape, hG.output, hG.size, fun k hk => hG.block k hk (by simp [Value.ownBlock])⟩⟩
theorem c_appendCellsAll {F : List Qd} (hg : goodF F = true) (q : Int) (w : World) {b0 p g cap mb : Nat} (hG : Grv w b0 p g cap mb F) (h0 : 0 ≤ q) (h1 : q < (F.length : Int)) :
    Calls Try.prog 133 #[.pointer (some ⟨p, 0, none⟩), .slice none 0 0, .int .i64 q, .agg #[.int .i64 0, .int .i64 0]] w fun e w' => ∃ v', e = .returned v' ∧ OwnS w' w.heap.size v' (cellsOfQ F q.toNat) ∧ Below w.heap.size w w' := by
  obtain ⟨e1, e2⟩ := levN_eq hg h0 h1
  have p1 := pow_le_32 e2
  have p2 := pow4_le e2
  refine (c_appendCells hg hG (levN F q.toNat) q 0 0 (.slice none 0 0) [] w w.heap.size h0 h1 e1 (by omega) (by omega) (by omega) (by omega) (Below.refl _ _) (Nat.le_refl _) (Nat.le_refl _) (OwnS.nil _ _) (by simp; omega)).mono ?_
  rintro e w' ⟨v', he, hO, hG, _⟩
  exact ⟨v', he, by simpa [cellsOfQ] using hO, ⟨hG.os, hG.tape, hG.output, hG.size, fun k hk => hG.block k hk (by simp [Value.ownBlock])⟩⟩

/-- Sorting cells that lie in memory of the call's own. -/
theorem c_sortAny (base : Nat) (v : Value) (l : List Cl) (w : World) (h : OwnS w base v l) (hl : l.length ≤ 4194304) (hn : l.Nodup) :
    Calls Try.prog 134 #[v, .func (.func 135) #[] #[]] w fun e w' =>
      e = .returned (.tuple #[]) ∧ OwnS w' base v (ordL l) ∧ w.grownBy w' v.ownBlock := by
  rcases h.2 with ⟨rfl, hz⟩ | ⟨g, cap, cur, rfl, _⟩
  · have hl0 : l = [] := List.eq_nil_of_length_eq_zero hz
    subst hl0
    refine (c_sortNil _ w).mono ?_
    rintro e w' ⟨rfl, rfl⟩
    have e0 : ordL ([] : List Cl) = [] := ordL_eq rfl (fun c => by simp)
    rw [e0]
    exact ⟨rfl, h, grown_refl _ _⟩
  · refine (c_sortOwn base g cap l w h hl).mono ?_
    rintro e w' ⟨rfl, l', hp, hs, hO, hG, hlen⟩
    have e0 : ordL l = l' := ordL_eq (ris_of_sorted hs (hp.nodup_iff.2 hn)) (fun c => hp.mem_iff)
    rw [e0]
    rw [hlen] at hO
    exact ⟨rfl, hO, hG⟩

set_option maxHeartbeats 1000000 in
theorem c_iCells {F : List Qd} (hg : goodF F = true) (q : Int) (w : World) {b0 p g cap mb : Nat} (hG : Grv w b0 p g cap mb F) (h0 : 0 ≤ q) (h1 : q < (F.length : Int)) :
    Calls Try.prog 89 #[.pointer (some ⟨p, 0, none⟩), .int .i64 q] w fun e w' => ∃ v', e = .returned v' ∧ OwnS w' w.heap.size v' (ordL (cellsOfQ F q.toNat)) ∧ Below w.heap.size w w' := by
  have HC := hid (c_appendCellsAll hg q w hG h0 h1)
  have hln := cellsOfQ_len hg (q := q.toNat) (by omega)
  have HND := hid (show (cellsOfQ F q.toNat).Nodup from cellsL_nodup _ _ _ _ _)
  clear hG
  go_enter Try.func89, Try.ntmps89
  go_wp2_with fail
  refine HC.out.mono ?_
  rintro e w1 ⟨v1, rfl, hO, hB⟩
  have HB := hid hB
  have HO := hid hO
  clear HC hO hB
  go_wp2_with fail
  refine (c_sortAny w.heap.size v1 _ w1 HO.out (by omega) HND.out).mono ?_
  rintro e w2 ⟨rfl, hO2, hG2⟩
  have HO2 := hid hO2
  have HB2 := hid (HB.out.grown hG2 HB.out.size fun k hk => (HO.out.lt k hk).1)
  clear hO2 hG2
  go_wp2_with fail
  go_ret
  exact ⟨_, rfl, HO2.out, HB2.out⟩

/-- The cells that CellsIn tells. -/
noncomputable def cinV (F : List Qd) (q : Int) : List Cl := if thereB F q then ordL (cellsOfQ F q.toNat) else []
/-- The number that CountOf tells. -/
def cntV (F : List Qd) (q : Int) : Int := if thereB F q then ((cellsOfQ F q.toNat).length : Int) else 0
theorem ordL_facts {l : List Cl} (h : ∃ l', risTo l' l'.length = true ∧ ∀ c, c ∈ l' ↔ c ∈ l) : risTo (ordL l) (ordL l).length = true ∧ ∀ c, c ∈ ordL l ↔ c ∈ l := by
  obtain ⟨l', h1, h2⟩ := h
  rw [ordL_eq h1 h2]
  exact ⟨h1, h2⟩

set_option maxHeartbeats 1000000 in
theorem c_sCellsIn (a : Option Addr) (F : List Qd) (ca : Nat) (q : Int) (w : World) (ha : QSeg w a F) (hl : F.length ≤ 1048576) (hk : KidsLe F) (hca : F.length ≤ ca) (hcm : ca ≤ 9223372036854775807) :
    Calls Try.prog 29 #[.agg #[.slice a F.length ca], .int .i64 q] w fun e w' => ∃ v, e = .returned (.tuple #[v, .bool (thereB F q)]) ∧ OwnS w' w.heap.size v (cinV F q) ∧ Below w.heap.size w w' := by
  have BX := hid (Box1.new w (.slice a F.length ca) 25)
  cases ht : thereB F q
  · have HC := hid (c_l3There' a F ca q false ht _ (ha.below BX.out.2.2) hl hk hca hcm)
    have HV : Hid (cinV F q = []) := by simp [Hid, cinV, ht]
    clear ha ht
    go_enter Try.func29, Try.ntmps29
    go_wp2_with fail
    refine HC.out.mono ?_
    rintro e w1 ⟨rfl, hb⟩
    clear HC
    go_wp2
    go_ret2
    exact ⟨_, rfl, by rw [HV.out]; exact OwnS.nil _ _, (BX.out.step hb).2.2⟩
  · have HC := hid (c_l3There' a F ca q true ht _ (ha.below BX.out.2.2) hl hk hca hcm)
    have HV : Hid (cinV F q = ordL (cellsOfQ F q.toNat)) := by simp [Hid, cinV, ht]
    obtain ⟨hg, h0, h1⟩ := there_bd ht
    have hln := cellsOfQ_len hg (q := q.toNat) (by omega)
    have HA := hid ha
    clear ha ht
    go_enter Try.func29, Try.ntmps29
    go_wp2_with fail
    refine HC.out.mono ?_
    rintro e w1 ⟨rfl, hb⟩
    have X1 := hid (BX.out.step hb)
    have x := X1.out.1
    clear HC BX hb
    go_wp2_with fail
    refine (c_l3CellsAll hg a ca q w1 (HA.out.below X1.out.2.2) h0 h1).mono ?_
    rintro e w2 ⟨v2, rfl, hO, hB⟩
    obtain ⟨a2, ca2, rfl, hS⟩ := hO.form
    have HS := hid hS
    have HB := hid (X1.out.2.2.trans (hB.mono X1.out.2.2.size))
    clear hO hB hS x
    go_wp2_with fail
    refine (c_l1Sort a2 _ ca2 w2 HS.out (by omega)).mono ?_
    rintro e w3 ⟨v3, l3, rfl, hO3, hr, hm, _, hB3⟩
    have HO3 := hid hO3
    have HB3 := hid (HB.out.trans (hB3.mono HB.out.size))
    have HE := hid (ordL_eq hr hm)
    have HSZ := hid HB.out.size
    clear hO3 hr hm hB3
    go_wp2_with fail
    go_ret2
    exact ⟨_, rfl, by rw [HV.out, HE.out]; exact HO3.out.mono HSZ.out, HB3.out⟩

set_option maxHeartbeats 1000000 in
theorem c_sCountOf (a : Option Addr) (F : List Qd) (ca : Nat) (q : Int) (w : World) (ha : QSeg w a F) (hl : F.length ≤ 1048576) (hk : KidsLe F) (hca : F.length ≤ ca) (hcm : ca ≤ 9223372036854775807) :
    Calls Try.prog 39 #[.agg #[.slice a F.length ca], .int .i64 q] w fun e w' => e = .returned (.tuple #[.int .i64 (cntV F q), .bool (thereB F q)]) ∧ Below w.heap.size w w' := by
  have BX := hid (Box1.new w (.slice a F.length ca) 25)
  cases ht : thereB F q
  · have HC := hid (c_l3There' a F ca q false ht _ (ha.below BX.out.2.2) hl hk hca hcm)
    have HV : Hid (cntV F q = 0) := by simp [Hid, cntV, ht]
    clear ha ht
    go_enter Try.func39, Try.ntmps39
    go_wp2_with fail
    refine HC.out.mono ?_
    rintro e w1 ⟨rfl, hb⟩
    clear HC
    go_wp2
    go_ret2
    exact ⟨by rw [HV.out]; rfl, (BX.out.step hb).2.2⟩
  · have HC := hid (c_l3There' a F ca q true ht _ (ha.below BX.out.2.2) hl hk hca hcm)
    have HV : Hid (cntV F q = ((cellsOfQ F q.toNat).length : Int)) := by simp [Hid, cntV, ht]
    obtain ⟨hg, h0, h1⟩ := there_bd ht
    have HA := hid ha
    clear ha ht
    go_enter Try.func39, Try.ntmps39
    go_wp2_with fail
    refine HC.out.mono ?_
    rintro e w1 ⟨rfl, hb⟩
    have X1 := hid (BX.out.step hb)
    have x := X1.out.1
    clear HC BX hb
    go_wp2_with fail
    refine (c_l3CellsAll hg a ca q w1 (HA.out.below X1.out.2.2) h0 h1).mono ?_
    rintro e w2 ⟨v2, rfl, hO, hB⟩
    obtain ⟨a2, ca2, rfl, hS⟩ := hO.form
    have HB := hid (X1.out.2.2.trans (hB.mono X1.out.2.2.size))
    clear hO hB hS x
    go_wp2_with fail
    go_ret2
    exact ⟨by rw [HV.out]; rfl, HB.out⟩

set_option maxHeartbeats 1000000 in
theorem c_iCellsIn (a : Option Addr) (F : List Qd) (ca : Nat) (q : Int) (w : World) (ha : QSeg w a F) (hl : F.length ≤ 1048576) (hk : KidsLe F) (hca : F.length ≤ ca) (hcm : ca ≤ 9223372036854775807) :
    Calls Try.prog 21 #[.agg #[.slice a F.length ca], .int .i64 q] w fun e w' => ∃ v, e = .returned (.tuple #[v, .bool (thereB F q)]) ∧ OwnS w' w.heap.size v (cinV F q) ∧ Below w.heap.size w w' := by
  have BX := hid (Box1.new w (.slice a F.length ca) 25)
  have HC := hid (c_groveOf a F ca _ (ha.below BX.out.2.2) hl hk hca hcm)
  clear ha
  cases hg : goodF F
  · have HT : Hid (thereB F q = false) := by simp [Hid, thereB, hg]
    have HV : Hid (cinV F q = []) := by simp [Hid, cinV, HT.out]
    rw [hg] at HC
    go_enter Try.func21, Try.ntmps21
    go_wp2_with fail
    refine HC.out.mono ?_
    rintro e w1 ⟨pv, rfl, ho, hb⟩
    clear HC ho
    go_wp2
    go_ret2
    exact ⟨_, by rw [HT.out]; rfl, by rw [HV.out]; exact OwnS.nil _ _, (BX.out.step hb).2.2⟩
  · rw [hg] at HC
    have HG := hid hg
    go_enter Try.func21, Try.ntmps21
    go_wp2_with fail
    refine HC.out.mono ?_
    rintro e w1 ⟨pv, rfl, ho, hb⟩
    have X1 := hid (BX.out.step hb)
    clear HC hb BX
    rcases ho with ⟨_, p, g, cap, mb, base, _, rfl, hGr⟩ | ⟨e, _⟩
    · have H1 := hid hGr
      cases hin : inB 0 ((F.length : Int) - 1) q
      · have HT : Hid (thereB F q = false) := by simp [Hid, thereB, hin]
        have HV : Hid (cinV F q = []) := by simp [Hid, cinV, HT.out]
        have HH := hid (c_has' q false w1 hin H1.out)
        clear hGr hin hg
        go_wp2_with fail
        refine HH.out.mono ?_
        rintro e w2 ⟨rfl, hb⟩
        go_wp2
        go_ret2
        exact ⟨_, by rw [HT.out]; rfl, by rw [HV.out]; exact OwnS.nil _ _, (X1.out.step hb).2.2⟩
      · have HT : Hid (thereB F q = true) := by simp [Hid, thereB, hin, hg]
        have HV : Hid (cinV F q = ordL (cellsOfQ F q.toNat)) := by simp [Hid, cinV, HT.out]
        have HH := hid (c_has' q true w1 hin H1.out)
        have hbd := inB_bd hin
        clear hGr hin hg
        go_wp2_with fail
        refine HH.out.mono ?_
        rintro e w2 ⟨rfl, hb⟩
        have H2 := hid (H1.out.below hb)
        have X2 := hid (X1.out.step hb)
        clear HH H1 X1 hb
        go_wp2_with fail
        refine (c_iCells HG.out q w2 H2.out (by omega) (by omega)).mono ?_
        rintro e w3 ⟨v3, rfl, hO3, hB3⟩
        have HO3 := hid hO3
        have X3 := hid (X2.out.step hB3)
        have HSZ := hid X2.out.2.2.size
        clear hO3 hB3
        go_wp2_with fail
        go_ret2
        exact ⟨_, by rw [HT.out]; rfl, by rw [HV.out]; exact HO3.out.mono HSZ.out, X3.out.2.2⟩
    · rw [HG.out] at e; cases e

theorem first_no (p : Nat → Bool) : ∀ n, ∃ k, k ≤ n ∧ (∀ i, i < k → p i = true) ∧ (k < n → p k = false)
  | 0 => ⟨0, Nat.le_refl _, fun i hi => by omega, fun h => by omega⟩
  | n + 1 => by
    obtain ⟨k, h1, h2, h3⟩ := first_no p n
    by_cases h : k < n
    · exact ⟨k, by omega, h2, fun _ => h3 h⟩
    · obtain rfl : k = n := by omega
      cases hp : p k
      · exact ⟨k, by omega, h2, fun _ => hp⟩
      · refine ⟨k + 1, by omega, fun i hi => ?_, fun h => by omega⟩
        by_cases e : i = k
        · rw [e]; exact hp
        · exact h2 i (by omega)
theorem ord_exists : ∀ l : List Cl, ∃ l' : List Cl, risTo l' l'.length = true ∧ ∀ c, c ∈ l' ↔ c ∈ l
  | [] => ⟨[], rfl, fun c => by simp⟩
  | x :: r => by
    obtain ⟨m, h1, h2⟩ := ord_exists r
    by_cases hx : x ∈ m
    · refine ⟨m, h1, fun c => ?_⟩
      rw [h2 c, List.mem_cons]
      constructor
      · exact .inr
      · rintro (rfl | h)
        · exact (h2 _).1 hx
        · exact h
    · obtain ⟨k, k1, k2, k3⟩ := first_no (fun i => ltC (at_ m i) x) m.length
      have hw := with_new (c := x) h1 k1 k2 (fun h => ⟨k3 h, fun e => hx (by rw [← e]; simp [at_, h])⟩)
      exact ⟨_, hw.1, fun c => by rw [hw.2.1 c, h2 c, List.mem_cons]⟩
theorem ordL_len {l : List Cl} (hn : l.Nodup) : (ordL l).length = l.length := by
  obtain ⟨h1, h2⟩ := ordL_facts (ord_exists l)
  exact ((List.perm_ext_iff_of_nodup (ris_nodup h1) hn).2 h2).length_eq
theorem cin_len (F : List Qd) (q : Int) : ((cinV F q).length : Int) = cntV F q := by
  cases ht : thereB F q
  · simp [cinV, cntV, ht]
  · simp only [cinV, cntV, ht, if_true]
    rw [ordL_len (l := cellsOfQ F q.toNat) (cellsL_nodup _ _ _ _ _)]

set_option maxHeartbeats 1000000 in
theorem c_iCountOf (a : Option Addr) (F : List Qd) (ca : Nat) (q : Int) (w : World) (ha : QSeg w a F) (hl : F.length ≤ 1048576) (hk : KidsLe F) (hca : F.length ≤ ca) (hcm : ca ≤ 9223372036854775807) :
    Calls Try.prog 22 #[.agg #[.slice a F.length ca], .int .i64 q] w fun e w' => e = .returned (.tuple #[.int .i64 (cntV F q), .bool (thereB F q)]) ∧ Below w.heap.size w w' := by
  have BX := hid (Box1.new w (.slice a F.length ca) 25)
  have HC := hid (c_iCellsIn a F ca q _ (ha.below BX.out.2.2) hl hk hca hcm)
  have HN := hid (cin_len F q)
  clear ha
  generalize thereB F q = tb at *
  go_enter Try.func22, Try.ntmps22
  go_wp2_with fail
  refine HC.out.mono ?_
  rintro e w1 ⟨v1, rfl, hO, hb⟩
  obtain ⟨a1, ca1, rfl, _⟩ := hO.form
  clear HC hO
  go_wp2_with fail
  go_ret2
  exact ⟨by rw [← HN.out]; rfl, (BX.out.step hb).2.2⟩

theorem cinV_le (F : List Qd) (q : Int) : (cinV F q).length ≤ 1048576 := by
  have h := cin_len F q
  cases ht : thereB F q
  · simp [cinV, ht]
  · obtain ⟨hg, h0, h1⟩ := there_bd ht
    have h2 := cellsOfQ_len hg (q := q.toNat) (by omega)
    simp only [cntV, ht, if_true] at h
    omega

end Go.Proofs.Ytmapbkefndbnnaa
