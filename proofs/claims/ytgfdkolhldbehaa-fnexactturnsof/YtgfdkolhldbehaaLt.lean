/- Texts of this seat, one behind the other: HIn, CmpG, CpcP, CpcW, SrtW. -/
import Derived.Test.YtgfdkolhldbehaaLn
import Derived.Test.YtgfdkolhldbehaaLs
import Derived.Test.YtgfdkolhldbehaaLc
import Derived.Lib.SliceRun
import Derived.Deep.RegionHeld3
import Derived.Test.YtgfdkolhldbehaaLayB
import Derived.Shelf.SlSortCmp.Whole1
namespace Go.Proofs.Ytgfdkolhldbehaa
open Go.RowKit
set_option linter.unusedVariables false

/-- The lists H lie below block n where the slice's address a leads to. -/
def HIn (n : Nat) (w : World) (a : Option Addr) (H : List (List Cl)) : Prop :=
  (∀ i, i < H.length → ∃ b o, a = some ⟨b, o, none⟩ ∧ b < n ∧ ∃ a' c', w.cell? ⟨b, o + i, none⟩ = some (.slice a' (ht H i).length c') ∧ (∀ j, j < (ht H i).length → ∃ b' o', a' = some ⟨b', o', none⟩ ∧ b' < n)) ∧ HSeg w a H
theorem HIn.of {w : World} {a : Option Addr} {H : List (List Cl)} (h : HSeg w a H) : HIn w.heap.size w a H :=
  ⟨fun i hi => by
    obtain ⟨b, o, e, hb, a', c', h1, h2, h3⟩ := h i hi
    exact ⟨b, o, e, hb, a', c', h1, fun j hj => by obtain ⟨b', o', e', hb', _⟩ := h2 j hj; exact ⟨b', o', e', hb'⟩⟩, h⟩
/-- Whatever keeps the blocks below n keeps it. -/
theorem HIn.blocks {n : Nat} {w w' : World} {a : Option Addr} {H : List (List Cl)} (h : HIn n w a H) (hn : w.heap.size ≤ w'.heap.size) (hk : ∀ k, k < n → w'.heap[k]? = w.heap[k]?) : HIn n w' a H := by
  refine ⟨fun i hi => ?_, fun i hi => ?_⟩
  · obtain ⟨b, o, e, hb, a', c', h1, h2⟩ := h.1 i hi
    exact ⟨b, o, e, hb, a', c', (World.cell?_of_block (a := ⟨b, o + i, none⟩) (hk b hb)).trans h1, h2⟩
  · obtain ⟨b, o, e, hb, a', c', h1, h2⟩ := h.1 i hi
    obtain ⟨b2, o2, e2, hb2, a2, c2, g1, g2, g3⟩ := h.2 i hi
    rw [e] at e2
    simp only [Option.some.injEq, Addr.mk.injEq, and_true] at e2
    obtain ⟨rfl, rfl⟩ := e2
    rw [h1] at g1
    simp only [Option.some.injEq, Value.slice.injEq, true_and] at g1
    obtain ⟨rfl, rfl⟩ := g1
    refine ⟨b, o, e, Nat.lt_of_lt_of_le hb2 hn, a', c', (World.cell?_of_block (a := ⟨b, o + i, none⟩) (hk b hb)).trans h1, fun j hj => ?_, g3⟩
    obtain ⟨b3, o3, e3, hb3, p1, p2⟩ := g2 j hj
    obtain ⟨b4, o4, e4, hb4⟩ := h2 j hj
    rw [e3] at e4
    simp only [Option.some.injEq, Addr.mk.injEq, and_true] at e4
    obtain ⟨rfl, rfl⟩ := e4
    exact ⟨b3, o3, e3, Nat.lt_of_lt_of_le hb3 hn, (World.cell?_of_block (a := ⟨b3, o3 + j * 2, none⟩) (hk b3 hb4)).trans p1, (World.cell?_of_block (a := ⟨b3, o3 + j * 2 + 1, none⟩) (hk b3 hb4)).trans p2⟩
theorem HIn.below {n : Nat} {w w' : World} {a : Option Addr} {H : List (List Cl)} (h : HIn n w a H) (hb : Below w.heap.size w w') : HIn n w' a H := by
  refine ⟨fun i hi => ?_, h.2.below hb⟩
  obtain ⟨b, o, e, hb1, a', c', h1, h2⟩ := h.1 i hi
  obtain ⟨b2, o2, e2, hb2, _⟩ := h.2 i hi
  rw [e] at e2
  simp only [Option.some.injEq, Addr.mk.injEq, and_true] at e2
  obtain ⟨rfl, rfl⟩ := e2
  exact ⟨b, o, e, hb1, a', c', (hb.cell (p := ⟨b, o + i, none⟩) hb2).trans h1, h2⟩
/-- A row at or beyond n is written. -/
theorem HIn.kept {n : Nat} {w w' : World} {a : Option Addr} {H : List (List Cl)} {row : Option Nat} (h : HIn n w a H) (hg : w.grownBy w' row) (hr : ∀ k, row = some k → n ≤ k) (hn : n ≤ w.heap.size) : HIn n w' a H :=
  h.blocks hg.size (fun k hk => hg.block k (by omega) (fun e => by have := hr k e.symm; omega))
theorem HIn.under {n m : Nat} {w w' : World} {a : Option Addr} {H : List (List Cl)} (h : HIn n w a H) (hb : Below m w w') (hm : n ≤ m) : HIn n w' a H :=
  h.blocks hb.size (fun k hk => hb.block k (by omega))
end Go.Proofs.Ytgfdkolhldbehaa

namespace Go.Proofs.Ytgfdkolhldbehaa
open Go.RowKit Go.Maps Go.Shelf Go.Lib Go.Sort
set_option linter.unusedVariables false
set_option linter.unusedSimpArgs false

/-- A world that has drawn and laid blocks, and is otherwise the same. -/
def GrW (w w' : World) : Prop := ∃ q os, w' = grow (w.drewN q) os
theorem GrW.refl (w : World) : GrW w w := ⟨0, #[], by rw [grow_empty]; rfl⟩
theorem GrW.trans {a b c : World} (h : GrW a b) (k : GrW b c) : GrW a c := by
  obtain ⟨q, os, rfl⟩ := h
  obtain ⟨q', os', rfl⟩ := k
  refine ⟨q + q', os ++ os', ?_⟩
  rw [← grow_grow]
  show grow (grow ((a.drewN q).drewN q') os) os' = _
  congr 2
  simp [World.drewN, Nat.add_assoc]
theorem GrW.alloc {a b : World} (h : GrW a b) (o : Obj) : GrW a (b.alloc o) := h.trans ⟨0, #[o], by rw [alloc_eq_grow]; rfl⟩
theorem GrW.below {a b : World} (h : GrW a b) : Below a.heap.size a b := by
  obtain ⟨q, os, rfl⟩ := h
  refine ⟨rfl, rfl, rfl, by show a.heap.size ≤ (a.heap ++ os).size; simp, fun k hk => ?_⟩
  show (a.heap ++ os)[k]? = _
  rw [Array.getElem?_append_left hk]

set_option maxRecDepth 100000 in
set_option maxHeartbeats 4000000 in
theorem c_compareFuncG (a b : Option Addr) (l m : List Cl) (ca cb : Nat) (w : World) (ha : Seg w a l) (hb : Seg w b m) (hl : l.length ≤ 1048576) (hm : m.length ≤ 1048576) :
    Calls Try.prog 134 #[.slice a l.length ca, .slice b m.length cb, .func (.func 125) #[] #[]] w fun e w' => e = .returned (.int .i64 (cmpL l m)) ∧ GrW w w' := by
  have HA := hid ha
  have HB := hid hb
  have HT1 := hid (fun (h : l.take m.length = m) (h2 : m.length < l.length) => cmpL_long h h2)
  have HT2 := hid (fun (h : m.take l.length = l) (h2 : l.length < m.length) => cmpL_short h h2)
  have HT3 := hid (fun (h : l = m) => show cmpL l m = 0 from by rw [h]; exact cmpL_same m)
  have HT4 := hid (fun (i : Nat) (h : l.take i = m.take i) (h1 : i < l.length) (h2 : i < m.length) (h3 : cmpC (at_ l i) (at_ m i) ≠ 0) => cmpL_at h h1 h2 h3)
  clear ha hb
  go_enter Try.func134, Try.ntmps134
  go_wp2_with fail
  go_loopw [13] (fun i wr => ∃ k : Nat, k ≤ l.length ∧ k ≤ m.length ∧ i = .int .i64 (k : Int) ∧ Hid (l.take k = m.take k) ∧ GrW w wr) (fun i _ => l.length - (intOf i).toNat)
  case atStart => exact ⟨0, Nat.zero_le _, Nat.zero_le _, rfl, (rfl : _ = _), GrW.refl _⟩
  case round =>
    obtain ⟨k, hk, hk2, rfl, ht, hG⟩ := hrel
    have hB := hG.below
    have HBl := hid hB
    have HG := hid hG
    clear hG
    by_cases hlt : k < l.length
    · obtain ⟨b1, o1, rfl, hb1, p1, p2⟩ := HA.out k hlt
      have g1 := (hB.cell (p := ⟨b1, o1 + k * 2, none⟩) hb1).trans p1
      have g2 := (hB.cell (p := ⟨b1, o1 + k * 2 + 1, none⟩) hb1).trans p2
      change _ = some (Value.int .i64 (at_ l k).1) at g1
      change _ = some (Value.int .i64 (at_ l k).2) at g2
      clear p1 p2 hB
      have G1 := hid (HG.out.alloc (.cells #[.int .i64 (at_ l k).1, .int .i64 (at_ l k).2] 36))
      by_cases hlt2 : k < m.length
      · obtain ⟨b2, o2, rfl, hb2, q1, q2⟩ := HB.out k hlt2
        have BA := (Below.refl wr.heap.size wr).alloc (Nat.le_refl _) (.cells #[.int .i64 (at_ l k).1, .int .i64 (at_ l k).2] 36)
        have g3 := ((HBl.out.trans (BA.mono HBl.out.size)).cell (p := ⟨b2, o2 + k * 2, none⟩) hb2).trans q1
        have g4 := ((HBl.out.trans (BA.mono HBl.out.size)).cell (p := ⟨b2, o2 + k * 2 + 1, none⟩) hb2).trans q2
        change _ = some (Value.int .i64 (at_ m k).1) at g3
        change _ = some (Value.int .i64 (at_ m k).2) at g4
        have hx1 : ¬ (k : Int) ≥ (m.length : Int) := by omega
        have HTT := hid (fun (h3 : cmpC (at_ l k) (at_ m k) = 0) => take_oneW hlt hlt2 ht.out (cmpC_zero' h3))
        have HTF := hid (fun (h3 : cmpC (at_ l k) (at_ m k) ≠ 0) => HT4.out k ht.out hlt hlt2 h3)
        have hcb := cmpC_bd (at_ l k) (at_ m k)
        clear q1 q2 BA ht HT4
        generalize at_ l k = x at *
        generalize at_ m k = y at *
        have R1 := hid (WRow.new wr (.int .i64 x.1) x.2 36)
        have BB := (Below.refl (wr.alloc (.cells #[.int .i64 x.1, .int .i64 x.2] 36)).heap.size (wr.alloc (.cells #[.int .i64 x.1, .int .i64 x.2] 36))).alloc (Nat.le_refl _) (.cells #[.int .i64 y.1, .int .i64 y.2] 36)
        have R1b := hid (R1.out.below BB)
        have G2 := hid (G1.out.alloc (.cells #[.int .i64 y.1, .int .i64 y.2] 36))
        have R2 := hid (WRow.new (wr.alloc (.cells #[.int .i64 x.1, .int .i64 x.2] 36)) (.int .i64 y.1) y.2 36)
        simp only [World.size_alloc] at R2
        have x0 := R1b.out.c0
        have x1 := R1b.out.c1
        have y0 := R2.out.c0
        have y1 := R2.out.c1
        have CC := hid (fun W => c_compareLays x y W)
        clear BB R1 G1
        cases hz : decide (cmpC x y = 0)
        · have hne : cmpC x y ≠ 0 := by simpa using hz
          have HV := hid (HTF.out hne)
          generalize cmpC x y = z at *
          have hzb : (z != 0) = true := by simp [hne]
          clear HTF HTT hz
          go_wp2_with fail
          refine (CC.out _).mono ?_
          rintro e w3 ⟨rfl, b3⟩
          go_wp2
          go_ret
          exact ⟨by rw [HV.out]; rfl, G2.out.trans b3⟩
        · have heq : cmpC x y = 0 := by simpa using hz
          have HT' := hid (HTT.out heq)
          rw [heq] at CC
          clear HTF HTT hz
          go_wp2_with fail
          refine (CC.out _).mono ?_
          rintro e w3 ⟨rfl, b3⟩
          have G3 := hid (G2.out.trans b3)
          clear b3 x0 x1 y0 y1
          go_wp2_with fail
          go_roundw
          case rel => exact ⟨k + 1, by omega, by omega, by go_num, HT'.out, G3.out⟩
          case measure => simp [intOf]; omega
      · have hx1 : (k : Int) ≥ (m.length : Int) := by omega
        have HV := hid (HT1.out (by have h := ht.out; rw [show m.length = k by omega, h, List.take_of_length_le (by omega)]) (by omega))
        go_wp2
        go_ret
        exact ⟨by rw [HV.out]; rfl, G1.out⟩
    · obtain rfl : k = l.length := by omega
      have htt := ht.out
      rw [List.take_length] at htt
      clear hB
      by_cases hlm : l.length < m.length
      · have HV := hid (HT2.out htt.symm hlm)
        clear htt ht
        have h1 : (l.length : Int) < (m.length : Int) := by omega
        go_wp2
        go_ret
        exact ⟨by rw [HV.out]; rfl, HG.out⟩
      · have HV := hid (HT3.out (by rw [htt, List.take_of_length_le (by omega)]))
        clear htt ht
        have h1 : ¬ (l.length : Int) < (m.length : Int) := by omega
        go_wp2
        go_ret
        exact ⟨by rw [HV.out]; rfl, HG.out⟩

set_option maxHeartbeats 1000000 in
theorem c_compareListsG (a b : Option Addr) (l m : List Cl) (ca cb : Nat) (w : World) (ha : Seg w a l) (hb : Seg w b m) (hl : l.length ≤ 1048576) (hm : m.length ≤ 1048576) :
    Calls Try.prog 97 #[.slice a l.length ca, .slice b m.length cb] w fun e w' => e = .returned (.int .i64 (cmpL l m)) ∧ GrW w w' := by
  have HC := hid (c_compareFuncG a b l m ca cb w ha hb hl hm)
  clear ha hb
  go_enter Try.func97, Try.ntmps97
  go_wp2_with fail
  refine HC.out.mono ?_
  rintro e w1 ⟨rfl, b1⟩
  go_wp2
  go_ret
  exact ⟨rfl, b1⟩

end Go.Proofs.Ytgfdkolhldbehaa

namespace Go.Proofs.Ytgfdkolhldbehaa
open Go.RowKit
set_option linter.unusedVariables false
set_option linter.unusedSimpArgs false

/-- No list is less than one ahead of it. -/
def Srt (H : List (List Cl)) : Prop := ∀ p q, p < q → q < H.length → ltL (ht H q) (ht H p) = false
theorem srt_adj {H : List (List Cl)} (hs : Srt H) {m p : Nat} (hm : m < H.length) (hne : ht H m ≠ ht H (m - 1)) (hp : p < m) : ltL (ht H p) (ht H m) = true := by
  have h1 := hs p m hp hm
  by_cases e : ht H p = ht H m
  · exfalso
    by_cases e2 : p = m - 1
    · subst e2; exact hne e.symm
    · have h2 := hs p (m - 1) (by omega) (by omega)
      have h3 := hs (m - 1) m (by omega) hm
      rw [e] at h2
      rcases ltL_tri hne with h | h
      · rw [h] at h3; cases h3
      · rw [h] at h2; cases h2
  · rcases ltL_tri e with h | h
    · exact h
    · rw [h] at h1; cases h1
structure Cpc (H : List (List Cl)) (vs us : List Value) (σ : List Nat) (k m : Nat) : Prop where
  len : us.length = H.length
  sl : σ.length = k
  km : k + 1 ≤ m
  mn : m ≤ H.length
  inc : σ.Pairwise (· < ·)
  lt : ∀ i ∈ σ, i < m
  top : ∀ i, i < k → va us i = va vs (σ.getD i 0)
  rest : ∀ i, m - 1 ≤ i → i < H.length → va us i = va vs i
  asl : Asl (σ.map (ht H))
  mem : ∀ x, x ∈ σ.map (ht H) ↔ ∃ p, p < m ∧ x = ht H p
theorem Cpc.start {H : List (List Cl)} {vs : List Value} (hs : Srt H) (hv : vs.length = H.length) {K : Nat} (h0 : 0 < K) (hK : K < H.length) (hd : ∀ i, 0 < i → i < K → ht H i ≠ ht H (i - 1)) (he : ht H K = ht H (K - 1)) : Cpc H vs vs (List.range K) K (K + 1) := by
  refine ⟨hv, by simp, by omega, by omega, List.pairwise_lt_range, fun i hi => by have := List.mem_range.1 hi; omega, fun i hi => ?_, fun i _ _ => rfl, ?_, fun x => ?_⟩
  · rw [List.getD_eq_getElem?_getD]; simp [hi]
  · unfold Asl
    rw [List.pairwise_map]
    refine List.Pairwise.imp_of_mem (R := (· < ·)) (fun {a b} ha hb hab => ?_) List.pairwise_lt_range
    have hb' := List.mem_range.1 hb
    exact srt_adj hs (by omega) (hd b (by omega) hb') hab
  · rw [List.mem_map]
    constructor
    · rintro ⟨p, hp, rfl⟩
      exact ⟨p, by have := List.mem_range.1 hp; omega, rfl⟩
    · rintro ⟨p, hp, rfl⟩
      by_cases e : p = K
      · subst e; exact ⟨p - 1, List.mem_range.2 (by omega), he.symm⟩
      · exact ⟨p, List.mem_range.2 (by omega), rfl⟩
theorem Cpc.skip {H : List (List Cl)} {vs us : List Value} {σ : List Nat} {k m : Nat} (h : Cpc H vs us σ k m) (hm : m < H.length) (he : ht H m = ht H (m - 1)) : Cpc H vs us σ k (m + 1) := by
  have hkm := h.km
  refine ⟨h.len, h.sl, by omega, by omega, h.inc, fun i hi => by have := h.lt i hi; omega, h.top, fun i h1 h2 => h.rest i (by omega) h2, h.asl, fun x => ?_⟩
  rw [h.mem]
  constructor
  · rintro ⟨p, hp, e⟩; exact ⟨p, by omega, e⟩
  · rintro ⟨p, hp, e⟩
    by_cases e2 : p = m
    · subst e2; exact ⟨p - 1, by omega, e.trans he⟩
    · exact ⟨p, by omega, e⟩
theorem Cpc.take {H : List (List Cl)} {vs us : List Value} {σ : List Nat} {k m : Nat} (hs : Srt H) (h : Cpc H vs us σ k m) (hm : m < H.length) (hne : ht H m ≠ ht H (m - 1)) : Cpc H vs (us.set k (va vs m)) (σ ++ [m]) (k + 1) (m + 1) := by
  have hkm := h.km
  have hku : k < us.length := by rw [h.len]; omega
  refine ⟨by simp [h.len], by simp [h.sl], by omega, by omega, ?_, fun i hi => ?_, fun i hi => ?_, fun i h1 h2 => ?_, ?_, fun x => ?_⟩
  · rw [List.pairwise_append]
    refine ⟨h.inc, by simp, fun a ha b hb => ?_⟩
    rw [List.mem_singleton] at hb
    have := h.lt a ha
    omega
  · rcases List.mem_append.1 hi with h1 | h1
    · have := h.lt i h1; omega
    · rw [List.mem_singleton] at h1; omega
  · rw [va_set hku]
    by_cases e : i = k
    · rw [if_pos e, e, List.getD_eq_getElem?_getD, List.getElem?_append_right (by rw [h.sl]; exact Nat.le_refl _), h.sl]
      simp
    · rw [if_neg e, h.top i (by omega), List.getD_eq_getElem?_getD, List.getD_eq_getElem?_getD, List.getElem?_append_left (by rw [h.sl]; omega)]
  · rw [va_set hku, if_neg (by omega)]
    exact h.rest i (by omega) h2
  · rw [List.map_append]
    unfold Asl
    rw [List.pairwise_append]
    refine ⟨h.asl, by simp, fun a ha b hb => ?_⟩
    simp only [List.map_cons, List.map_nil, List.mem_singleton] at hb
    obtain ⟨p, hp, rfl⟩ := (h.mem a).1 ha
    rw [hb]
    exact srt_adj hs hm hne hp
  · rw [List.map_append, List.mem_append, h.mem]
    simp only [List.map_cons, List.map_nil, List.mem_singleton]
    constructor
    · rintro (⟨p, hp, e⟩ | e)
      · exact ⟨p, by omega, e⟩
      · exact ⟨m, by omega, e⟩
    · rintro ⟨p, hp, e⟩
      by_cases e2 : p = m
      · subst e2; exact .inr e
      · exact .inl ⟨p, by omega, e⟩
/-- None twice at all. -/
theorem srt_asl {H : List (List Cl)} (hs : Srt H) (hd : ∀ i, 0 < i → i < H.length → ht H i ≠ ht H (i - 1)) : Asl H := by
  unfold Asl
  rw [List.pairwise_iff_getElem]
  intro i j hi hj hij
  have := srt_adj hs hj (hd j (by omega) hj) hij
  simpa [ht, hi, hj] using this
/-- The first of a row's slices, whatever stands behind. -/
theorem row_first {w : World} {base g n cap k : Nat} {us : List Value} (h : w.ownsRow base 23 1 (.slice (some ⟨g, 0, none⟩) n cap) n us) (hk : k ≤ n) : w.ownsRow base 23 1 (.slice (some ⟨g, 0, none⟩) k cap) k (us.take k) := by
  have hl := h.1
  rcases h.2 with ⟨e, _⟩ | ⟨g', cap', cur, e, hb, hg, hc, hm, hs, ht⟩
  · cases e
  · simp only [Value.slice.injEq, Option.some.injEq, Addr.mk.injEq, and_true, true_and] at e
    obtain ⟨rfl, rfl⟩ := e
    refine ⟨by rw [List.length_take]; omega, .inr ⟨g, cap, cur, rfl, hb, hg, by omega, hm, hs, ?_⟩⟩
    rw [← ht, List.take_take]
    congr 1
    omega
theorem Cpc.own {w : World} {base g cap k m : Nat} {H : List (List Cl)} {vs us : List Value} {σ : List Nat} (h : Cpc H vs us σ k m) (hr : w.ownsRow base 23 1 (.slice (some ⟨g, 0, none⟩) k cap) k (us.take k)) (he : ∀ i, i < H.length → OwnS w base (va vs i) (ht H i))
    (ha : ∀ i j, i < j → j < H.length → ∀ q, (va vs i).ownBlock = some q → (va vs j).ownBlock ≠ some q) : OwnH w base (.slice (some ⟨g, 0, none⟩) k cap) (us.take k) (σ.map (ht H)) := by
  have hkm := h.km
  have hmn := h.mn
  have hsl : (σ.map (ht H)).length = k := by rw [List.length_map, h.sl]
  have hva : ∀ i, i < k → va (us.take k) i = va vs (σ.getD i 0) := fun i hi => by
    rw [← h.top i hi]
    simp only [va, List.getD_eq_getElem?_getD, List.getElem?_take, hi, if_true]
  have hσ : ∀ i, i < k → σ.getD i 0 < m := fun i hi => h.lt _ (by simp [show i < σ.length by rw [h.sl]; exact hi])
  have hht : ∀ i, i < k → ht (σ.map (ht H)) i = ht H (σ.getD i 0) := fun i hi => by
    have : i < σ.length := by rw [h.sl]; exact hi
    simp [ht, this]
  refine ⟨by rw [List.length_take, h.len, hsl]; omega, by rw [hsl]; exact hr, fun i hi => ?_, fun i j hij hj q hq => ?_⟩
  · rw [hsl] at hi
    rw [hva i hi, hht i hi]
    exact he _ (by have := hσ i hi; omega)
  · rw [hsl] at hj
    rw [hva i (by omega)] at hq
    rw [hva j hj]
    refine ha _ _ ?_ (by have := hσ j hj; omega) q hq
    have h1 := List.pairwise_iff_getElem.1 h.inc i j (by rw [h.sl]; omega) (by rw [h.sl]; exact hj) hij
    simpa [show i < σ.length by rw [h.sl]; omega, show j < σ.length by rw [h.sl]; exact hj] using h1
/-- Cells of the row written over, from a place on. -/
theorem row_cleared {base g cap n : Nat} : ∀ (q k : Nat) (w : World) (us : List Value), w.ownsRow base 23 1 (.slice (some ⟨g, 0, none⟩) n cap) n us → ∃ us', (w.setCells g k (List.replicate q (.slice none 0 0))).ownsRow base 23 1 (.slice (some ⟨g, 0, none⟩) n cap) n us' ∧ us'.take k = us.take k ∧ w.grownBy (w.setCells g k (List.replicate q (.slice none 0 0))) (some g)
  | 0, k, w, us, h => ⟨us, h, rfl, grown_refl _ _⟩
  | q + 1, k, w, us, h => by
    obtain ⟨h1, h2⟩ := h.stored k (.slice none 0 0)
    obtain ⟨us', h3, h4, h5⟩ := row_cleared q (k + 1) _ _ h1
    refine ⟨us', h3, ?_, grown_trans h2 h5⟩
    have h6 := congrArg (List.take k) h4
    rw [List.take_take, List.take_take, Nat.min_eq_left (by omega)] at h6
    rw [h6, List.take_set_of_le (by omega)]
end Go.Proofs.Ytgfdkolhldbehaa

namespace Go.Proofs.Ytgfdkolhldbehaa
open Go.RowKit Go.Maps
set_option linter.unusedVariables false
set_option linter.unusedSimpArgs false

theorem mem_ht {H : List (List Cl)} (x : List Cl) : x ∈ H ↔ ∃ p, p < H.length ∧ x = ht H p := by
  rw [List.mem_iff_getElem]
  constructor
  · rintro ⟨i, hi, e⟩; exact ⟨i, hi, by simp [ht, hi, e]⟩
  · rintro ⟨i, hi, e⟩; exact ⟨i, hi, by rw [e]; simp [ht, hi]⟩
theorem c_slicesEqual' (a b : Option Addr) (l m : List Cl) (ca cb : Nat) (v : Bool) (h : decide (l = m) = v) (w : World) (ha : Seg w a l) (hb : Seg w b m) (hl : l.length ≤ 1048576) (hm : m.length ≤ 1048576) :
    Calls Try.prog 100 #[.slice a l.length ca, .slice b m.length cb] w fun e w' => e = .returned (.bool v) ∧ Below w.heap.size w w' := by
  rw [← h]; exact c_slicesEqual a b l m ca cb w ha hb hl hm

set_option maxRecDepth 100000 in
set_option maxHeartbeats 16000000 in
theorem c_compactFunc (base g cap : Nat) (vs : List Value) (H : List (List Cl)) (w : World) (h : OwnH w base (.slice (some ⟨g, 0, none⟩) H.length cap) vs H) (hs : Srt H) (h2 : 2 ≤ H.length) (hl : H.length ≤ 1000) (h1 : ∀ i, i < H.length → (ht H i).length ≤ 1048576) (hb : base ≤ w.heap.size) :
    Calls Try.prog 99 #[.slice (some ⟨g, 0, none⟩) H.length cap, .func (.func 100) #[] #[]] w fun e w' => ∃ (k : Nat) (us : List Value) (D : List (List Cl)), e = .returned (.slice (some ⟨g, 0, none⟩) k cap) ∧ OwnH w' base (.slice (some ⟨g, 0, none⟩) k cap) us D ∧ Asl D ∧ (∀ x, x ∈ D ↔ x ∈ H) ∧ D.length = k ∧ Below base w w' := by
  have HO := hid h
  have HS := hid hs
  have H1 := hid h1
  obtain ⟨_, hgz, hcap, hca, _⟩ := h.cellsAt
  have HCA := hid hca
  have hn2 : ¬ (H.length : Int) < 2 := by omega
  clear h hs h1 hca
  go_enter Try.func99, Try.ntmps99
  go_wp2_with fail
  go_loopw [5] (fun i wr => ∃ k : Nat, 0 < k ∧ k ≤ H.length ∧ i = .int .i64 (k : Int) ∧ Hid (∀ i, 0 < i → i < k → ht H i ≠ ht H (i - 1)) ∧ Below w.heap.size w wr) (fun i _ => H.length - (intOf i).toNat)
  case atStart => exact ⟨1, by omega, by omega, rfl, (fun i h h' => by omega), Below.refl _ _⟩
  case round =>
    obtain ⟨k, hk0, hk, rfl, hD, hB⟩ := hrel
    have HB := hid hB
    clear hB
    by_cases hlt : k < H.length
    · obtain ⟨q, rfl⟩ : ∃ q, k = q + 1 := ⟨k - 1, by omega⟩
      obtain ⟨g1, a1, c1, f1, -, -, e1, p1⟩ := HO.out.at hlt
      simp only [Option.some.injEq, Addr.mk.injEq, and_true] at f1
      subst f1
      obtain ⟨g2, a2, c2, f2, -, -, e2, p2⟩ := HO.out.at (show q < H.length by omega)
      simp only [Option.some.injEq, Addr.mk.injEq, and_true] at f2
      subst f2
      have s1 := HO.out.each (q + 1) hlt
      rw [e1] at s1
      have s2 := HO.out.each q (by omega)
      rw [e2] at s2
      have q1 := (HB.out.cell (p := ⟨g, q + 1, none⟩) hgz).trans p1
      have q2 := (HB.out.cell (p := ⟨g, q, none⟩) hgz).trans p2
      have hgw : g < wr.heap.size := Nat.lt_of_lt_of_le hgz HB.out.size
      have S1 := hid (s1.seg.below HB.out)
      have S2 := hid (s2.seg.below HB.out)
      have hx1 := H1.out (q + 1) hlt
      have hx2 := H1.out q (by omega)
      clear s1 s2 e1 e2 p1 p2
      obtain ⟨K, hK⟩ : ∃ K : Int, K = ((q + 1 : Nat) : Int) := ⟨_, rfl⟩
      have kt1 : q + 1 = K.toNat := by omega
      have kt2 : q = K.toNat - 1 := by omega
      have k0 : 1 ≤ K := by omega
      have k1 : K < (H.length : Int) := by omega
      rw [← hK]
      have q1' : wr.cell? ⟨g, K.toNat, none⟩ = some (.slice a1 (ht H (q + 1)).length c1) := by rw [← kt1]; exact q1
      have q2' : wr.cell? ⟨g, K.toNat - 1, none⟩ = some (.slice a2 (ht H q).length c2) := by rw [← kt2]; exact q2
      have n1 := fun z : Gr wr => z.cell q1' hgw
      have n2 := fun z : Gr wr => z.cell q2' hgw
      have hne := Gr.ne wr
      have HK := hid (show K = ((q + 1 : Nat) : Int) ∧ q + 1 = K.toNat ∧ q = K.toNat - 1 from ⟨hK, kt1, kt2⟩)
      cases hv : decide (ht H (q + 1) = ht H q)
      · have CE := hid (fun z : Gr wr => c_slicesEqual' a1 a2 (ht H (q + 1)) (ht H q) c1 c2 false hv z.val (S1.out.below z.below) (S2.out.below z.below) hx1 hx2)
        have HV := hid hv
        clear hK kt1 kt2 q1 q2 q1' q2'
        go_wp2
        refine wp_region_gr (by kernel_rfl) (by kernel_rfl) ?_
        repeat (go_big_quiet_step (first | (go_at_call 100; exact Calls.gr _ (CE.out _))))
        refine wpQuiet_nil ?_
        rintro _ ⟨z, rfl⟩
        have HBz := hid (HB.out.trans (z.below.mono HB.out.size))
        have HD' := hid (show ∀ i, 0 < i → i < q + 1 + 1 → ht H i ≠ ht H (i - 1) from fun i hi hi2 => by
          by_cases e : i = q + 1
          · subst e; simpa using HV.out
          · exact hD.out i hi (by omega))
        clear n1 n2 hne CE
        go_wp2
        go_roundw
        case rel => exact ⟨q + 1 + 1, by omega, by omega, by rw [HK.out.1]; go_num, HD'.out, HBz.out⟩
        case measure => simp [intOf]; omega
      · have CE := hid (fun z : Gr wr => c_slicesEqual' a1 a2 (ht H (q + 1)) (ht H q) c1 c2 true hv z.val (S1.out.below z.below) (S2.out.below z.below) hx1 hx2)
        have HV := hid hv
        clear hK kt1 kt2 q1 q2 q1' q2'
        go_wp2
        refine wp_region_gr (by kernel_rfl) (by kernel_rfl) ?_
        repeat (go_big_quiet_step (first | (go_at_call 100; exact Calls.gr _ (CE.out _))))
        refine wpQuiet_nil ?_
        rintro _ ⟨z, rfl⟩
        have HBz := hid (HB.out.trans (z.below.mono HB.out.size))
        have HCP := hid (Cpc.start HS.out HO.out.len (show 0 < q + 1 by omega) hlt hD.out (by simpa using HV.out))
        clear n1 n2 hne CE
        have HOz := hid (HO.out.below HBz.out)
        have HRz := hid (show z.val.ownsRow base 23 1 (.slice (some ⟨g, 0, none⟩) H.length cap) H.length vs from HOz.out.row)
        have HEz := hid (show ∀ i, i < H.length → OwnS z.val base (va vs i) (ht H i) from fun i hi => HOz.out.each i hi)
        have kn : K.toNat = q + 1 := by have := HK.out.2.1; omega
        have ki : K = ((q + 1 : Nat) : Int) := HK.out.1
        clear HOz HV S1 S2 HB
        go_wp2_with fail
        go_loopw [5, 7] (fun kv jv wq => ∃ (k : Nat) (j : Int) (us : List Value) (σ : List Nat), kv = .int .i64 (k : Int) ∧ jv = .int .i64 j ∧ 1 ≤ j ∧ j ≤ ((H.length - (q + 1) : Nat) : Int) ∧ Hid (Cpc H vs us σ k (q + 1 + j.toNat)) ∧ Hid (wq.ownsRow base 23 1 (.slice (some ⟨g, 0, none⟩) H.length cap) H.length us) ∧ Hid (∀ i, i < H.length → OwnS wq base (va vs i) (ht H i)) ∧ Below base w wq) (fun _ jv _ => H.length - (intOf jv).toNat)
        case atStart => exact ⟨q + 1, 1, vs, _, by rw [ki], rfl, by omega, by omega, HCP.out, HRz.out, HEz.out, HBz.out.mono hb⟩
        case round =>
          clear HCP HRz HEz HBz
          obtain ⟨k, j, us, σ, rfl, rfl, hj1, hj2, hC, hR, hE, hBb⟩ := hrel
          have HBb := hid hBb
          clear hBb
          have hkm := hC.out.km
          have hmn := hC.out.mn
          have hgq : g < wr.heap.size := (World.ownsRow.lt hR.out g rfl).2
          have hgb : base ≤ g := (World.ownsRow.lt hR.out g rfl).1
          have f1 := World.ownsRow.frozenAt hR.out k
          have x1 := World.ownsRow.cellAt hR.out k (by omega)
          rw [va_get (show k < us.length by rw [hC.out.len]; omega)] at x1
          by_cases hjl : j < ((H.length - (q + 1) : Nat) : Int)
          · have hm : q + 1 + j.toNat < H.length := by omega
            have y1 := World.ownsRow.cellAt hR.out (q + 1 + j.toNat) (by omega)
            rw [va_get (show q + 1 + j.toNat < us.length by rw [hC.out.len]; omega), hC.out.rest _ (by omega) hm] at y1
            have y2 := World.ownsRow.cellAt hR.out (q + 1 + (j.toNat - 1)) (by omega)
            rw [va_get (show q + 1 + (j.toNat - 1) < us.length by rw [hC.out.len]; omega), hC.out.rest _ (by omega) (by omega)] at y2
            have t1 := hE.out (q + 1 + j.toNat) hm
            have t2 := hE.out (q + 1 + (j.toNat - 1)) (by omega)
            obtain ⟨a3, c3, e3, s3⟩ := t1.form
            obtain ⟨a4, c4, e4, s4⟩ := t2.form
            have hx3 := H1.out (q + 1 + j.toNat) hm
            have hx4 := H1.out (q + 1 + (j.toNat - 1)) (by omega)
            rw [e3] at y1
            rw [e4] at y2
            have E3 := hid e3
            have n1 := fun z : Gr wr => z.cell y1 hgq
            have n2 := fun z : Gr wr => z.cell y2 hgq
            have hneq := Gr.ne wr
            have hqj : q + 1 + (j.toNat - 1) = q + 1 + j.toNat - 1 := by omega
            have HQJ := hid hqj
            clear t1 t2 e3 e4 y1 y2 hqj
            cases hv : decide (ht H (q + 1 + j.toNat) = ht H (q + 1 + (j.toNat - 1)))
            · have HV := hid hv
              have CE := hid (fun z : Gr wr => c_slicesEqual' a3 a4 (ht H (q + 1 + j.toNat)) (ht H (q + 1 + (j.toNat - 1))) c3 c4 false hv z.val (s3.below z.below) (s4.below z.below) hx3 hx4)
              clear hv s3 s4
              go_wp2
              refine wp_region_gr (by kernel_rfl) (by kernel_rfl) ?_
              repeat (go_big_quiet_step (first | (go_at_call 100; exact Calls.gr _ (CE.out _))))
              refine wpQuiet_nil ?_
              rintro _ ⟨z, rfl⟩
              have z1 := n1 z
              have f2 : z.val.frozen? ⟨g, k, none⟩ = false := by
                have := World.ownsRow.frozenAt (World.ownsRow.kept hR.out (grown_of_below z.below none) (by simp [Value.ownBlock])) k
                exact this
              have x2 := z.cell x1 hgq
              have HR2 := hid (World.ownsRow.stored (World.ownsRow.kept hR.out (grown_of_below z.below none) (by simp [Value.ownBlock])) k (va vs (q + 1 + j.toNat)))
              have HE2 := hid (show ∀ i, i < H.length → OwnS (z.val.setCell ⟨g, k, none⟩ (va vs (q + 1 + j.toNat))) base (va vs i) (ht H i) from fun i hi => own_rowkept (World.ownsRow.kept hR.out (grown_of_below z.below none) (by simp [Value.ownBlock])) HR2.out.2 ((hE.out i hi).below z.below))
              have HC2 := hid (hC.out.take HS.out hm (by rw [← HQJ.out]; simpa using HV.out))
              rw [E3.out] at HR2 HE2
              have HB2 := hid ((HBb.out.trans (z.below.mono (Nat.le_of_lt (Nat.lt_of_le_of_lt hgb hgq)))).setCell (p := ⟨g, k, none⟩) hgb (.slice a3 (ht H (q + 1 + j.toNat)).length c3))
              clear n1 n2 hneq CE x1 f1
              go_wp2_with fail
              go_roundw
              case rel => exact ⟨k + 1, j + 1, _, _, by go_num, by go_num, by omega, by omega, by rw [show q + 1 + (j + 1).toNat = q + 1 + j.toNat + 1 by omega]; exact HC2.out, by rw [E3.out]; exact HR2.out.1, HE2.out, HB2.out⟩
              case measure => simp [intOf]; omega
            · have HV := hid hv
              have CE := hid (fun z : Gr wr => c_slicesEqual' a3 a4 (ht H (q + 1 + j.toNat)) (ht H (q + 1 + (j.toNat - 1))) c3 c4 true hv z.val (s3.below z.below) (s4.below z.below) hx3 hx4)
              clear hv s3 s4
              go_wp2
              refine wp_region_gr (by kernel_rfl) (by kernel_rfl) ?_
              repeat (go_big_quiet_step (first | (go_at_call 100; exact Calls.gr _ (CE.out _))))
              refine wpQuiet_nil ?_
              rintro _ ⟨z, rfl⟩
              have HR2 := hid (World.ownsRow.kept hR.out (grown_of_below z.below none) (by simp [Value.ownBlock]))
              have HE2 := hid (show ∀ i, i < H.length → OwnS z.val base (va vs i) (ht H i) from fun i hi => (hE.out i hi).below z.below)
              have HC2 := hid (hC.out.skip hm (by rw [← HQJ.out]; simpa using HV.out))
              have HB2 := hid (HBb.out.trans (z.below.mono (Nat.le_of_lt (Nat.lt_of_le_of_lt hgb hgq))))
              clear n1 n2 hneq CE x1 f1
              go_wp2
              go_roundw
              case rel => exact ⟨k, j + 1, us, σ, rfl, by go_num, by omega, by omega, by rw [show q + 1 + (j + 1).toNat = q + 1 + j.toNat + 1 by omega]; exact HC2.out, HR2.out, HE2.out, HB2.out⟩
              case measure => simp [intOf]; omega
          · have hm : q + 1 + j.toNat = H.length := by omega
            have hkl : k < H.length := by omega
            have hck : ¬ cap = k := by omega
            have hki : (k : Int) ≤ (H.length : Int) := by omega
            have hkc : (k : Int) ≤ (cap : Int) := by omega
            have hclr := Go.Lib.run_clear_slice (P := Try.prog) wr 39 23 0 (.slice none 0 0) Try.underlying39 (fun w => by kernel_rfl) rfl rfl g k (H.length - k) (cap - k) (by omega) (fun i hi => by
              have := World.ownsRow.cellAt hR.out (k + i) (by omega)
              rw [va_get (show k + i < us.length by rw [hC.out.len]; omega)] at this
              rw [this]; rfl) (fun i hi => World.ownsRow.frozenAt hR.out (k + i))
            obtain ⟨us', hr1, hr2, hr3⟩ := row_cleared (H.length - k) k wr us hR.out
            have HF := hid (Cpc.own hC.out (by have := row_first hr1 (show k ≤ H.length by omega); rw [hr2] at this; exact this) (fun i hi => own_rowkept hR.out hr3 (hE.out i hi)) HO.out.apart)
            have HBf := hid (HBb.out.grown hr3 (Nat.le_trans hb HBb.out.size) (fun r hr => by cases hr; exact hgb))
            clear hr1 hr2 hr3 x1 f1
            go_wp2
            go_ret
            have hmem : ∀ x, x ∈ σ.map (ht H) ↔ x ∈ H := fun x => by
              rw [hC.out.mem, hm]
              exact (mem_ht x).symm
            first
              | exact ⟨k, rfl, _, _, HF.out, hC.out.asl, hmem, by rw [List.length_map, hC.out.sl], HBf.out⟩
              | exact ⟨k, _, _, rfl, HF.out, hC.out.asl, hmem, by rw [List.length_map, hC.out.sl], HBf.out⟩
    · obtain rfl : k = H.length := by omega
      go_wp2
      go_ret
      first
        | exact ⟨H.length, rfl, vs, H, HO.out.below HB.out, srt_asl HS.out hD.out, fun x => Iff.rfl, rfl, HB.out.mono hb⟩
        | exact ⟨H.length, vs, H, rfl, HO.out.below HB.out, srt_asl HS.out hD.out, fun x => Iff.rfl, rfl, HB.out.mono hb⟩
end Go.Proofs.Ytgfdkolhldbehaa

namespace Go.Proofs.Ytgfdkolhldbehaa
open Go.RowKit Go.Maps Go.Shelf Go.Lib Go.Sort
set_option linter.unusedVariables false
set_option linter.unusedSimpArgs false

theorem ext_all {α : Type} (d : Array α) (n : Nat) (h : d.size = n) : d.extract 0 n = d := by subst h; simp
def encL (vs : List Value) (i : Fin 8) : Value := va vs i.val
def cmpF (H : List (List Cl)) (i j : Fin 8) : Int := cmpL (ht H i.val) (ht H j.val)
def all8 : Array (Fin 8) := (List.finRange 8).toArray
theorem ltOf_cmpF (H : List (List Cl)) (i j : Fin 8) : ltOf (cmpF H) i j = ltL (ht H i.val) (ht H j.val) := by
  have h := cmpL_neg (a := ht H i.val) (b := ht H j.val)
  unfold ltOf cmpF
  rw [Bool.eq_iff_iff, decide_eq_true_eq]
  exact h
theorem ltL_ntr {a b c : List Cl} (h1 : ltL a b = false) (h2 : ltL b c = false) : ltL a c = false := by
  rw [Bool.eq_false_iff]
  intro h
  by_cases e : a = b
  · subst e; rw [h] at h2; cases h2
  · rcases ltL_tri e with h3 | h3
    · rw [h3] at h1; cases h1
    · rw [ltL_tr h3 h] at h2; cases h2
theorem swoF (H : List (List Cl)) : SWO (ltOf (cmpF H)) where
  irrefl x := by rw [ltOf_cmpF]; exact ltL_no _
  trans x y z h1 h2 := by rw [ltOf_cmpF] at *; exact ltL_tr h1 h2
  ntrans x y z h1 h2 := by rw [ltOf_cmpF] at *; exact ltL_ntr h1 h2
theorem sort_grown (enc : Fin 8 → Value) (w : World) (g m : Nat) (d : Array (Fin 8)) (os : Array Obj) : w.grownBy (sortWorld enc w g 0 m d os) (some g) := by
  refine ⟨rfl, rfl, rfl, ?_, fun k hk hne => ?_⟩
  · show w.heap.size ≤ ((putRow enc (Sort.ahead w m) g 0 d).heap ++ os).size
    simp [putRow, mapBlock, Sort.ahead]
  · show ((putRow enc (Sort.ahead w m) g 0 d).heap ++ os)[k]? = _
    rw [Array.getElem?_append_left (by simpa [putRow, mapBlock, Sort.ahead] using hk)]
    have : g ≠ k := fun e => hne (by rw [e])
    simp [putRow, mapBlock, Sort.ahead, Array.getElem?_modify, this]
theorem va_map (vs : List Value) (d : List (Fin 8)) {i : Nat} (hi : i < d.length) : va (d.map (encL vs)) i = va vs (d[i]).val := by
  simp [va, hi, encL]
theorem ht_map (H : List (List Cl)) (d : List (Fin 8)) {i : Nat} (hi : i < d.length) : ht (d.map fun j => ht H j.val) i = ht H (d[i]).val := by
  have : i < (d.map fun j => ht H j.val).length := by simpa using hi
  show ((d.map fun j => ht H j.val).getD i []) = _
  rw [List.getD_eq_getElem?_getD]
  simp [hi]
/-- The row behind the sorting. -/
theorem sorted_row {w : World} {base g cap m : Nat} {vs : List Value} {H : List (List Cl)} {d : Array (Fin 8)} {os : Array Obj} (h : OwnH w base (.slice (some ⟨g, 0, none⟩) 8 cap) vs H) (hl : H.length = 8) (hd : d.size = 8) (hp : d.toList.Perm all8.toList) :
    OwnH (sortWorld (encL vs) w g 0 m d os) base (.slice (some ⟨g, 0, none⟩) 8 cap) (d.toList.map (encL vs)) (d.toList.map fun j => ht H j.val) := by
  have hdl : d.toList.length = 8 := by simpa using hd
  have hg := sort_grown (encL vs) w g m d os
  have hnd : d.toList.Nodup := hp.nodup_iff.2 (by show (List.finRange 8).Nodup; exact List.nodup_finRange 8)
  refine ⟨by simp, ?_, fun i hi => ?_, fun i j hij hj q hq hq2 => ?_⟩
  · rw [List.length_map, hdl]
    have h0 := h.row
    rw [hl] at h0
    rcases h0.2 with ⟨e, _⟩ | ⟨g', cap', cur, e, hb, hgb, hc, hm, hs, ht⟩
    · cases e
    · simp only [Value.slice.injEq, Option.some.injEq, Addr.mk.injEq, and_true, true_and] at e
      obtain ⟨rfl, rfl⟩ := e
      have hlt : g < w.heap.size := (Array.getElem?_eq_some_iff.1 hgb).1
      have hblk : (sortWorld (encL vs) w g 0 m d os).heap[g]? = some (.cells (putCells (encL vs) 0 d cur) 23 (0, 0)) := by
        show ((putRow (encL vs) (Sort.ahead w m) g 0 d).heap ++ os)[g]? = _
        rw [Array.getElem?_append_left (by simpa [putRow, mapBlock, Sort.ahead] using hlt)]
        simp [putRow, mapBlock, Sort.ahead, Array.getElem?_modify, hgb, onCells]
      refine ⟨by rw [List.length_map, hdl], .inr ⟨g, cap, putCells (encL vs) 0 d cur, rfl, hb, hblk, hc, hm, by simpa [putCells] using hs, ?_⟩⟩
      have hcs : (putCells (encL vs) 0 d cur).size = cap := by simpa [putCells] using hs
      refine List.ext_getElem? fun i => ?_
      rw [List.getElem?_take]
      by_cases hi : i < 8
      · have hic : i < cur.size := by omega
        rw [if_pos (by omega), Array.getElem?_toList, List.getElem?_map]
        simp only [putCells, Array.getElem?_mapIdx, Array.getElem?_eq_getElem hic, Option.map_some]
        rw [if_pos (by omega), Nat.sub_zero, getElem!_pos d i (by omega)]
        simp [show i < d.size by omega]
      · rw [if_neg (by omega), List.getElem?_map, List.getElem?_eq_none (by omega)]
        rfl
  · rw [List.length_map] at hi
    rw [va_map vs _ hi, ht_map H _ hi]
    exact own_rowkept h.row hg (h.each _ (by rw [hl]; exact (d.toList[i]).isLt))
  · rw [List.length_map] at hj
    rw [va_map vs _ (by omega)] at hq
    rw [va_map vs _ hj] at hq2
    have hne : d.toList[i]'(by omega) ≠ d.toList[j] := List.pairwise_iff_getElem.1 (List.nodup_iff_pairwise_ne.1 hnd) i j (by omega) hj hij
    rcases Nat.lt_or_gt_of_ne (fun e => hne (Fin.ext e)) with h3 | h3
    · exact h.apart _ _ h3 (by rw [hl]; exact (d.toList[j]).isLt) q hq hq2
    · exact h.apart _ _ h3 (by rw [hl]; exact (d.toList[i]'(by omega)).isLt) q hq2 hq

theorem c_sortLists (base g cap : Nat) (vs : List Value) (H : List (List Cl)) (w : World) (h : OwnH w base (.slice (some ⟨g, 0, none⟩) 8 cap) vs H) (hl : H.length = 8) (h1 : ∀ i, i < H.length → (ht H i).length ≤ 1048576) :
    Calls Try.prog 98 #[.slice (some ⟨g, 0, none⟩) 8 cap, .func (.func 97) #[] #[]] w fun e w' =>
      e = .returned (.tuple #[]) ∧ ∃ vs' H', OwnH w' base (.slice (some ⟨g, 0, none⟩) 8 cap) vs' H' ∧ Srt H' ∧ (∀ x, x ∈ H' ↔ x ∈ H) ∧ H'.length = 8 ∧ (∀ i, i < 8 → ∃ p, p < 8 ∧ ht H' i = ht H p) ∧ w.grownBy w' (some g) := by
  obtain ⟨_, hgz, _, hca, hone⟩ := h.cellsAt
  have h8 : all8.size = 8 := by simp [all8]
  have hvl : vs.length = 8 := by rw [h.len, hl]
  have hO : OneCell (encL vs) := fun x => hone _ (by
    have : x.val < vs.length := by rw [hvl]; exact x.isLt
    simp [encL, va, this])
  have eg : ∀ args w, (callFunc 97 args).run Try.prog w = .ok (.enter 97 args) w := enters_of Try.func97 (by kernel_rfl) rfl
  have hcmp : CmpLays1 Try.prog 97 #[] (encL vs) (cmpF H) g 0 all8.size w := by
    intro m os dk _ x y
    have hg := sort_grown (encL vs) w g m dk os
    have hx := own_rowkept h.row hg (h.each x.val (by rw [hl]; exact x.isLt))
    have hy := own_rowkept h.row hg (h.each y.val (by rw [hl]; exact y.isLt))
    obtain ⟨a, c, e1, s1⟩ := hx.form
    obtain ⟨b, c', e2, s2⟩ := hy.form
    show Calls Try.prog 97 #[va vs x.val, va vs y.val] _ _
    rw [e1, e2]
    exact c_compareListsG a b (ht H x.val) (ht H y.val) c c' _ s1 s2 (h1 _ (by rw [hl]; exact x.isLt)) (h1 _ (by rw [hl]; exact y.isLt))
  have hH : Holds (encL vs) w g 0 all8 := by
    intro j hj
    rw [h8] at hj
    have hr := h.row
    rw [hl] at hr
    have hc := hca j (va vs j) (by simp [va, show j < vs.length by rw [hvl]; exact hj])
    have hj8 : all8[j]! = (⟨j, hj⟩ : Fin 8) := by
      rw [getElem!_pos all8 j (by rw [h8]; exact hj)]
      simp [all8]
    rw [hj8, Nat.zero_add]
    exact ⟨hc, World.ownsRow.frozenAt hr j⟩
  have hcon := Any.slices_SortFunc Try.sortList (encL vs) hO (cmpF H) (swoF H) 97 #[] g 0 cap all8 w eg hcmp hH hgz (by rw [h8]; omega)
  rw [h8] at hcon
  refine hcon.mono fun e w' ⟨he, d, n, os, hp, hs, hw⟩ => ⟨he, d.toList.map (encL vs), d.toList.map (fun j => ht H j.val), ?_⟩
  have hds : d.size = 8 := by rw [hp.1, h8]
  have hpl : d.toList.Perm all8.toList := by
    have h3 := hp.2.2
    have e1 : d.extract 0 8 = d := ext_all d 8 hds
    have e2 : all8.extract 0 8 = all8 := ext_all all8 8 h8
    rw [e1, e2] at h3
    exact h3
  have hdl : d.toList.length = 8 := by simpa using hds
  have hall : ∀ j : Fin 8, j ∈ d.toList := fun j => hpl.mem_iff.2 (by show j ∈ List.finRange 8; exact List.mem_finRange j)
  subst hw
  refine ⟨sorted_row h hl hds hpl, fun p q hpq hq => ?_, fun x => ?_, by rw [List.length_map, hdl], fun i hi => ?_, sort_grown (encL vs) w g n d os⟩
  · rw [List.length_map] at hq
    have := hs p q (Nat.zero_le _) hpq (by omega)
    rw [ltOf_cmpF, getElem!_pos d q (by omega), getElem!_pos d p (by omega)] at this
    rw [ht_map H _ hq, ht_map H _ (show p < d.toList.length by omega)]
    simpa using this
  · rw [mem_ht (H := H), List.mem_map]
    constructor
    · rintro ⟨j, _, rfl⟩; exact ⟨j.val, by rw [hl]; exact j.isLt, rfl⟩
    · rintro ⟨p, hp', rfl⟩
      rw [hl] at hp'
      exact ⟨⟨p, hp'⟩, hall _, rfl⟩
  · exact ⟨(d.toList[i]'(by omega)).val, (d.toList[i]'(by omega)).isLt, ht_map H _ (by omega)⟩

theorem c_bitsLen0 (W : World) : Calls Try.prog 136 #[.int .u64 0] W fun e w' => (∃ l : Int, e = .returned (.int .i64 l)) ∧ w' = W := by
  have h := Any.bits_Len (SlLaysF0.n15.bits (P := Try.prog) (ρ := Try.sortList_ren) { Try.sortList with }) 0 W (by omega) (by omega)
  exact h.mono fun e w' ⟨h1, h2⟩ => ⟨⟨_, h1⟩, h2⟩
theorem c_insertNone (w : World) (fv : Value) :
    Calls Try.prog 145 #[.slice none 0 0, .int .i64 0, .int .i64 0, fv] w fun e w' => e = .returned (.tuple #[]) ∧ w' = w := by
  go_enter Try.func145, Try.ntmps145
  go_wp2
  go_loopw [8] (fun i wr => i = .int .i64 1 ∧ wr = w) (fun _ _ => 0)
  case atStart => exact ⟨rfl, rfl⟩
  case round =>
    obtain ⟨rfl, rfl⟩ := hrel
    go_wp2
    go_end0
    exact ⟨rfl, rfl⟩
theorem c_pdqNone (w : World) (l : Int) (fv : Value) :
    Calls Try.prog 135 #[.slice none 0 0, .int .i64 0, .int .i64 0, .int .i64 l, fv] w fun e w' => e = .returned (.tuple #[]) ∧ w' = w := by
  go_enter Try.func135, Try.ntmps135
  go_wp2
  refine wp_loop_rounds 1 ?_
  rw [rounds_succ]
  go_wp2_with fail
  refine (c_insertNone _ _).mono ?_
  rintro e w1 ⟨rfl, rfl⟩
  go_wp2
  (try simp only [Exit.inBlock, Exit.then])
  refine bodyPost_ret (results_none rfl _ _ _) rfl ?_
  exact ⟨rfl, rfl⟩
theorem c_sortNone (w : World) (fv : Value) :
    Calls Try.prog 98 #[.slice none 0 0, fv] w fun e w' => e = .returned (.tuple #[]) ∧ w' = w := by
  go_enter Try.func98, Try.ntmps98
  go_wp2_with fail
  refine (c_bitsLen0 _).mono ?_
  rintro e w1 ⟨⟨l, rfl⟩, rfl⟩
  go_wp2_with fail
  refine (c_pdqNone _ _ _).mono ?_
  rintro e w2 ⟨rfl, rfl⟩
  go_wp2
  go_end0
  exact ⟨rfl, rfl⟩
theorem c_compactNone (w : World) (fv : Value) :
    Calls Try.prog 99 #[.slice none 0 0, fv] w fun e w' => e = .returned (.slice none 0 0) ∧ w' = w := by
  go_enter Try.func99, Try.ntmps99
  go_wp2
  go_ret
  exact ⟨rfl, rfl⟩

set_option maxRecDepth 100000 in
set_option maxHeartbeats 4000000 in
theorem c_iTurnsOf (a : Option Addr) (l : List Cl) (ca : Nat) (w : World) (ha : Seg w a l) (hl : l.length ≤ 1048576) :
    Calls Try.prog 44 #[.slice a l.length ca] w fun e w' => ∃ v vs, e = .returned (.tuple #[v, .bool (homeOk l)]) ∧ OwnH w' w.heap.size v vs (turnsL l) ∧ Below w.heap.size w w' := by
  cases hh : homeOk l
  · have HV : Hid (turnsL l = []) := by simp [Hid, turnsL, hh]
    have HC := hid (c_formsOf_no a l ca w ha hl hh)
    clear ha
    go_enter Try.func44, Try.ntmps44
    go_wp2_with fail
    refine HC.out.mono ?_
    rintro e w1 ⟨rfl, b1⟩
    go_wp2_with fail
    refine (c_sortNone _ _).mono ?_
    rintro e w2 ⟨rfl, rfl⟩
    go_wp2_with fail
    refine (c_compactNone _ _).mono ?_
    rintro e w3 ⟨rfl, rfl⟩
    go_wp2
    go_ret2
    exact ⟨_, [], rfl, by rw [HV.out]; exact OwnH.nil _ _, b1⟩
  · have hg : good l = true := by have := hh; simp only [homeOk, Bool.and_eq_true] at this; exact this.1
    have HV : Hid (turnsL l = frmTo l 8) := by simp [Hid, turnsL, hh]
    have HL : Hid (∀ i, i < (fmTo l 8).length → (ht (fmTo l 8) i).length ≤ 1048576) := fun i hi => by
      rw [fmTo_len] at hi
      rw [fmTo_ht l 8 hi, if_pos hi]
      have := hm_le l i hi hg
      omega
    have HM := hid (fun x => show x ∈ fmTo l 8 ↔ x ∈ frmTo l 8 from by
      rw [mem_ht, frmTo_mem, fmTo_len]
      constructor
      · rintro ⟨p, hp, e⟩; exact ⟨p, hp, by rw [e, fmTo_ht l 8 hp, if_pos hp]⟩
      · rintro ⟨p, hp, e⟩; exact ⟨p, hp, by rw [e, fmTo_ht l 8 hp, if_pos hp]⟩)
    have HA := hid (frmTo_asl l 8)
    have hF8 := fmTo_len l 8
    have HC := hid (c_formsOf_yes a l ca w ha hl hh)
    clear ha hh hg
    generalize fmTo l 8 = F at *
    generalize frmTo l 8 = R at *
    go_enter Try.func44, Try.ntmps44
    go_wp2_with fail
    refine HC.out.mono ?_
    rintro e w1 ⟨g, vs, rfl, o1, b1⟩
    have hgb := (o1.lt g rfl).1
    have B1 := hid b1
    have CS := hid (c_sortLists w.heap.size g 8 vs F w1 o1 hF8 HL.out)
    clear o1 b1 HC
    go_wp2_with fail
    refine CS.out.mono ?_
    rintro e w2 ⟨rfl, vs', H', o2, hs2, hm2, hl2, hp2, g2⟩
    have B2 := hid (B1.out.grown g2 B1.out.size (fun r hr => by cases hr; exact hgb))
    have CP := c_compactFunc w.heap.size g 8 vs' H' w2 (by rw [hl2]; exact o2) hs2 (by omega) (by omega) (fun i hi => by
      obtain ⟨p, hp, e⟩ := hp2 i (by omega)
      rw [e]; exact HL.out p (by rw [hF8]; exact hp)) B2.out.size
    rw [hl2] at CP
    have CP := hid CP
    have HM2 := hid hm2
    clear o2 hs2 hm2 hp2 g2 CS hgb hF8 hl2
    go_wp2_with fail
    refine CP.out.mono ?_
    rintro e w3 ⟨k, us, D, rfl, o3, ha3, hm3, hk3, b3⟩
    have hD : D = R := asl_unique ha3 HA.out (fun x => (hm3 x).trans ((HM2.out x).trans (HM.out x)))
    subst hD
    go_wp2
    go_ret2
    exact ⟨_, us, rfl, by rw [HV.out]; exact o3, B2.out.trans b3⟩
end Go.Proofs.Ytgfdkolhldbehaa
