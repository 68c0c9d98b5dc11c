/- What inOrder tells of a map keyed by cells: its keys, each once, in order. -/
import Derived.Test.YtgfdkolhldbehaaMap
namespace Go.Proofs.Ytgfdkolhldbehaa
open Go.RowKit Go.Maps
set_option linter.unusedVariables false

/-- What has been gathered of a map's keys while it is gone through. -/
def Got (D : DataW Unit) (left : Lit → Bool) (ks : List Cl) : Prop :=
  ks.Nodup ∧ (∀ c ∈ ks, fits c ∧ Maps.has D (kap c) = true ∧ left (kap c) = false) ∧ (∀ c, fits c → Maps.has D (kap c) = true → left (kap c) = false → c ∈ ks)
theorem Got.start (D : DataW Unit) : Got D (Maps.has D) [] := ⟨List.nodup_nil, fun c hc => by simp at hc, fun c _ h1 h2 => by rw [h1] at h2; cases h2⟩
theorem kap_same {c d : Cl} (hc : fits c) (hd : fits d) : (kap c).sameKey (kap d) = decide (c = d) := by
  by_cases e : c = d
  · subst e
    rw [WideAt.sameKey_self (law.key (key_of c hc))]; simp
  · rw [Maps.sameKey_ne (fun h => e (kap_inj hc hd h))]; simp [e]
theorem Got.step {D : DataW Unit} {left : Lit → Bool} {ks : List Cl} (h : Got D left ks) {x : Cl} (hx : fits x) (hD : Maps.has D (kap x) = true) (hl : left (kap x) = true) : Got D (fun z => left z && !z.sameKey (kap x)) (ks ++ [x]) := by
  obtain ⟨h1, h2, h3⟩ := h
  have hxn : x ∉ ks := fun hm => by have := (h2 x hm).2.2; rw [hl] at this; cases this
  refine ⟨?_, fun c hc => ?_, fun c hf hd hlc => ?_⟩
  · rw [List.nodup_append]
    refine ⟨h1, by simp, fun a ha b hb e => ?_⟩
    simp at hb
    subst hb; subst e
    exact hxn ha
  · rw [List.mem_append] at hc
    rcases hc with hc | hc
    · obtain ⟨a1, a2, a3⟩ := h2 c hc
      exact ⟨a1, a2, by simp [a3]⟩
    · simp at hc
      subst hc
      exact ⟨hx, hD, by simp [kap_same hx hx]⟩
  · rw [List.mem_append]
    by_cases e : c = x
    · right; simp [e]
    · left
      refine h3 c hf hd ?_
      have hlc' : (left (kap c) && !(kap c).sameKey (kap x)) = false := hlc
      rw [kap_same hf hx] at hlc'
      simpa [e] using hlc'
theorem nodup_sorted_ris {l : List Cl} (hs : Sorted l) (hn : l.Nodup) : risTo l l.length = true := by
  simp only [risTo, List.all_eq_true, List.mem_range]
  intro i hi
  by_cases h0 : i = 0
  · simp [h0]
  · have h1 := hs (i - 1) i (by omega) hi
    have hne : at_ l (i - 1) ≠ at_ l i := by
      intro e
      rw [List.nodup_iff_pairwise_ne, List.pairwise_iff_getElem] at hn
      have := hn (i - 1) i (by omega) hi (by omega)
      simp only [at_, List.getD_eq_getElem?_getD, List.getElem?_eq_getElem hi, List.getElem?_eq_getElem (show i - 1 < l.length by omega), Option.getD_some] at e
      exact this e
    have : ltC (at_ l (i - 1)) (at_ l i) = true := by
      generalize at_ l (i - 1) = p at *
      generalize at_ l i = q at *
      obtain ⟨x, y⟩ := p
      obtain ⟨u, v⟩ := q
      simp [ltC] at h1 hne ⊢
      omega
    simp [this]

theorem make_Cells0 (n : Nat) (hn : n ≤ 1048576) (w : World) :
    (Instr.makeSlice 23 (.int .i64 0) (.int .i64 (n : Int))).run Try.prog w = .ok (.slice (some ⟨w.heap.size, 0, none⟩) 0 n) (w.alloc (.cells (madeCells #[.int .i64 0, .int .i64 0] (n * 2)) 36)) := by
  obtain ⟨i, hi, hz, hs, hb⟩ := info_parts info_Cell
  have := run_make (P := Try.prog) w 23 36 i _ Try.underlying23 hi hz .i64 .i64 0 n (by omega) (by omega) (by rw [hb]; omega) (by omega)
  simpa [hs, Value.cells] using this
theorem made_own0 (w : World) (n : Nat) (hn : n ≤ 1048576) : OwnS (w.alloc (.cells (madeCells #[.int .i64 0, .int .i64 0] (n * 2)) 36)) w.heap.size (.slice (some ⟨w.heap.size, 0, none⟩) 0 n) [] :=
  World.ownsRow_made w _ n (Nat.le_refl _) (by unfold maxLen; omega) (size_madeCells _ _)

theorem own_ne_iter {W : World} {base b r n m g cap : Nat} {D : DataW Unit} {left : Lit → Bool} {cn : Nat} {l : List Cl} (hO : OwnS W base (.slice (some ⟨g, 0, none⟩) m cap) l) (hr : W.ranges Try.prog 36 (plainElem Try.prog 3) b r n D left cn) : g ≠ r ∧ g ≠ b := by
  rcases hO.2 with ⟨e, _⟩ | ⟨g', cap', cur, e, _, hg, _⟩
  · cases e
  · injection e with e1 _ _
    injection e1 with e1
    injection e1 with e1
    subst e1
    obtain ⟨es, clock, since, seen, c0, hb, _, _, _, hri, _⟩ := hr
    constructor
    · intro e; subst e; rw [hg] at hri; cases hri
    · intro e; subst e; rw [hg] at hb; cases hb
theorem own_snoc_form {W : World} {base : Nat} {v : Value} {l : List Cl} {x : Cl} (h : OwnS W base v (l ++ [x])) : ∃ g cap, v = .slice (some ⟨g, 0, none⟩) (l ++ [x]).length cap :=
  Joins.ownsRow_form h (by simp)

set_option maxHeartbeats 1000000 in
theorem c_inOrder (b n : Nat) (dom : Cl → Bool) (f : Cl → Int) (w : World) (h : MapIs w b n dom f) (hn : n ≤ 1048576) :
    Calls Try.prog 79 #[.map (some b)] w fun e w' => ∃ v l', e = .returned v ∧ OwnS w' w.heap.size v l' ∧ risTo l' l'.length = true ∧ (∀ c, c ∈ l' ↔ fits c ∧ dom c = true) ∧ l'.length ≤ n ∧ Below w.heap.size w w' := by
  obtain ⟨D, hown, hdom, hf⟩ := h
  have hSZ : Maps.size D ≤ n := by
    obtain ⟨es, clock, hb, F, hs, hD⟩ := hown
    rw [hD]
    simp only [Maps.size]
    rw [length_sorted]
    simpa using hs
  have hmk := make_Cells0 (Maps.size D) (by omega)
  have hblt := hown.lt
  have HO1 := hid (hown.alloc (.cells (madeCells #[.int .i64 0, .int .i64 0] (Maps.size D * 2)) 36))
  have HW1 := hid (made_own0 w (Maps.size D) (by omega))
  have HO := hid hown
  have HDOM := hid hdom
  clear hown hdom hf
  go_enter Try.func79, Try.ntmps79
  go_wp2_with (first | (at_len; refine wpList_len_own _ rfl _ 95 rfl 36 3 mund _ b n D rfl HO.out ?_) | (at_range; refine wpList_range_own _ rfl _ 95 rfl 36 3 law mund _ b n D rfl HO1.out ?_; intro w2 hrg2 hg2 hs2))
  go_frame
  have e1 : (w.alloc (.cells (madeCells #[.int .i64 0, .int .i64 0] (Maps.size D * 2)) 36)).heap.size = w.heap.size + 1 := by simp
  have HW2 := hid (own_keep HW1.out hg2 (fun k _ e => by cases e))
  have HB2 : Hid (Below w.heap.size w w2) := ((Below.refl _ _).alloc (Nat.le_refl _) _).grown hg2 (by simp) (fun k e => by cases e)
  clear hg2
  generalize (w.alloc (.cells (madeCells #[.int .i64 0, .int .i64 0] (Maps.size D * 2)) 36)).heap.size = r at *
  have HRG2 := hid hrg2
  have HZ2 : Hid (r < w2.heap.size) := by show _ < _; omega
  have HR := hid e1
  clear hrg2 hs2 e1 hmk HO1 HW1
  go_loopw [3] (fun v wr => ∃ (left : Lit → Bool) (cn : Nat) (ks : List Cl) (g cap : Nat), v = .slice (some ⟨g, 0, none⟩) ks.length cap ∧ wr.ranges Try.prog 36 (plainElem Try.prog 3) b r n D left cn ∧ Got D left ks ∧ ks.length + cn ≤ Maps.size D ∧ OwnS wr w.heap.size v ks ∧ r < wr.heap.size ∧ Below w.heap.size w wr) (fun _ wr => wr.rangeLeft b r)
  case atStart => exact ⟨_, _, [], w.heap.size, Maps.size D, rfl, HRG2.out, Got.start D, by simp, HW2.out, HZ2.out, HB2.out⟩
  case round =>
    clear HRG2 HW2 HB2 HZ2
    obtain ⟨left, cn, ks, g, cap, rfl, hrg, hgot, hlen, hO, hz, hB⟩ := hrel
    have hgne := own_ne_iter hO hrg
    have HGOT := hid hgot
    have HRG := hid hrg
    have HOO := hid hO
    have HB := hid hB
    have HGN := hid hgne
    clear hgot hrg hO hB hgne
    go_wp2_with (at_next; refine wpList_next_ranges _ rfl _ rfl 36 law (plainElem Try.prog 3) (fun c : Cl => .agg #[.int .i64 c.1, .int .i64 c.2]) (Value.int .i64) (fun key kl hk => by obtain ⟨c, hc, _⟩ := key_inv hk; exact ⟨c, hc⟩) (fun v y hv => by obtain ⟨c, rfl, _⟩ := plainElem_int_inv Try.underlying3 hv; exact ⟨c, rfl⟩) b r n _ _ _ rfl HRG.out ?_ ?_)
    · intro _ hl0
      have HL0 := hid hl0
      clear hl0
      have HSRT := hid (c_sortOwn w.heap.size g cap ks wr HOO.out (by omega))
      go_wp2_with fail
      refine HSRT.out.mono ?_
      rintro e w3 ⟨rfl, l', hperm, hsrt, hO3, hg3, hll⟩
      have hll' := hid hll
      rw [hll] at hO3
      clear hll
      go_wp2
      go_ret
      have hgb := (HOO.out.lt g rfl).1
      refine ⟨_, l', rfl, hO3, nodup_sorted_ris hsrt (hperm.symm.nodup HGOT.out.1), fun c => ?_, by have := hll'.out; omega, HB.out.grown hg3 HB.out.size (fun k e => by cases e; exact hgb)⟩
      rw [hperm.mem_iff]
      constructor
      · intro hm
        obtain ⟨f1, f2, _⟩ := HGOT.out.2.1 c hm
        exact ⟨f1, by rw [← HDOM.out c f1]; exact f2⟩
      · rintro ⟨f1, f2⟩
        exact HGOT.out.2.2 c f1 (by rw [HDOM.out c f1]; exact f2) (HL0.out _)
    · intro x1 x2 c kl yd yp w3 cn2 hkey hlk hv hat hrg2 hlt hg2 hs2 hen
      obtain ⟨x, hxe, hxf, rfl⟩ := key_inv hkey
      simp only [Value.agg.injEq, Array.mk.injEq, List.cons.injEq, Value.int.injEq, true_and, and_true] at hxe
      obtain ⟨rfl, rfl⟩ := hxe
      have HXF := hid hxf
      have hD : Maps.has D (kap x) = true := Maps.has_true_of_atKey (y := yd) (fun z => hat z)
      have HG' := hid (HGOT.out.step hxf hD hlk)
      have HRG3 := hid hrg2
      have HO3 := hid (own_keep HOO.out hg2 (fun k hk e => by cases e; simp [Value.ownBlock] at hk; exact HGN.out.1 hk))
      have HB3 := hid (HB.out.grown hg2 HB.out.size (fun k e => by cases e; have := HR.out; omega))
      have HCN := hid hlt
      have HZ3 : Hid (r < w3.heap.size) := by show _ < _; rw [hs2]; exact hz
      clear hs2 hg2 hrg2 hlt hat hv hlk hkey hD hxf
      have HO4 := hid ((HO3.out.below ((Below.refl w3.heap.size w3).alloc (Nat.le_refl _) (.cells #[.int .i64 x.1, .int .i64 x.2] 36))).below ((Below.refl _ _).alloc (Nat.le_refl _) (.cells #[.int .i64 x.1, .int .i64 x.2] 36)))
      have HB4 := hid ((HB3.out.alloc HB3.out.size (.cells #[.int .i64 x.1, .int .i64 x.2] 36)).alloc (by have := HB3.out.size; simp; omega) (.cells #[.int .i64 x.1, .int .i64 x.2] 36))
      have hs4 : (w3.alloc (.cells #[.int .i64 x.1, .int .i64 x.2] 36)).heap.size = w3.heap.size + 1 := by simp
      have HSeg := (seg_block (c := x) (heap_alloc_new (w3.alloc (.cells #[.int .i64 x.1, .int .i64 x.2] 36)) (.cells #[.int .i64 x.1, .int .i64 x.2] 36)))
      rw [hs4] at HSeg
      have HSg := hid HSeg
      clear HSeg hs4
      go_wp2_with (at_builtin; refine wpList_app rfl _ _ rfl w.heap.size (.slice (some ⟨g, 0, none⟩) ks.length cap) ks [x] _ 1 rfl HO4.out rfl HSg.out (by intro h; cases h) (by simp; omega) HB4.out.size ?_; intro v' w5 hO5 hG5)
      have HRG5 := hid (((HRG3.out.alloc (.cells #[.int .i64 x.1, .int .i64 x.2] 36)).alloc (.cells #[.int .i64 x.1, .int .i64 x.2] 36)).kept hG5 (fun e => HGN.out.2 (by simp [Value.ownBlock] at e; exact e.symm)) (fun e => HGN.out.1 (by simp [Value.ownBlock] at e; exact e.symm)))
      have HB5 := hid (below_grown HB4.out HO4.out hG5)
      have hz5 := hG5.size
      obtain ⟨g5, cap5, hv5⟩ := own_snoc_form hO5
      have HV5 := hid hv5
      have HO5 := hid hO5
      clear hv5 hO5 hG5
      go_roundw
      case rel => exact ⟨_, cn2, ks ++ [x], g5, cap5, HV5.out, HRG5.out, HG'.out, by rw [List.length_append]; have := HCN.out; simp; omega, HO5.out, by have := HZ3.out; simp at hz5; omega, HB5.out⟩
      case measure => rw [HRG5.out.left_eq, HRG.out.left_eq]; exact HCN.out
end Go.Proofs.Ytgfdkolhldbehaa
