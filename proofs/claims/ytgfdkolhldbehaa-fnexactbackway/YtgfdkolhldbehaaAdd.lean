/- Putting a cell to its place, once (l1Add): the cells with that one, in order. -/
import Derived.Test.YtgfdkolhldbehaaApp
import Derived.Test.YtgfdkolhldbehaaNear
namespace Go.Proofs.Ytgfdkolhldbehaa
open Go.RowKit
set_option linter.unusedVariables false

/-- The slice v holds the cells l. -/
def SL (w : World) (v : Value) (l : List Cl) : Prop :=
  (v = .slice none 0 0 ∧ l = []) ∨ ∃ g o ca, v = .slice (some ⟨g, o, none⟩) l.length ca ∧ l.length ≤ ca ∧ ca ≤ maxLen ∧ Seg w (some ⟨g, o, none⟩) l
theorem SL.below {w w' : World} {v : Value} {l : List Cl} (h : SL w v l) (hb : Below w.heap.size w w') : SL w' v l := by
  rcases h with h | ⟨g, o, ca, h1, h2, h3, h4⟩
  · exact .inl h
  · exact .inr ⟨g, o, ca, h1, h2, h3, h4.below hb⟩
theorem OwnS.sl {w : World} {base : Nat} {v : Value} {l : List Cl} (h : OwnS w base v l) : SL w v l := by
  have h0 := h
  rcases h.2 with ⟨e, hn⟩ | ⟨g, cap, cur, e, _, _, hc, hm, _⟩
  · exact .inl ⟨e, List.eq_nil_of_length_eq_zero hn⟩
  · subst e
    exact .inr ⟨g, 0, cap, rfl, hc, hm, h0.seg⟩
theorem Seg.take {w : World} {a : Option Addr} {l : List Cl} (h : Seg w a l) (k : Nat) : Seg w a (l.take k) := by
  intro i hi
  rw [List.length_take] at hi
  obtain ⟨b, o, e, hb, h1, h2⟩ := h i (by omega)
  refine ⟨b, o, e, hb, ?_, ?_⟩
  · rw [h1, List.getD_eq_getElem?_getD, List.getD_eq_getElem?_getD, List.getElem?_take_of_lt (by omega)]
  · rw [h2, List.getD_eq_getElem?_getD, List.getD_eq_getElem?_getD, List.getElem?_take_of_lt (by omega)]
theorem Seg.drop {w : World} {g o : Nat} {l : List Cl} (h : Seg w (some ⟨g, o, none⟩) l) (k : Nat) : Seg w (some ⟨g, o + k * 2, none⟩) (l.drop k) := by
  intro i hi
  rw [List.length_drop] at hi
  obtain ⟨b, o', e, hb, h1, h2⟩ := h (k + i) (by omega)
  simp only [Option.some.injEq, Addr.mk.injEq, and_true] at e
  obtain ⟨rfl, rfl⟩ := e
  refine ⟨g, o + k * 2, rfl, hb, ?_, ?_⟩
  · rw [show o + k * 2 + i * 2 = o + (k + i) * 2 by omega, h1, List.getD_eq_getElem?_getD, List.getD_eq_getElem?_getD, List.getElem?_drop]
  · rw [show o + k * 2 + i * 2 + 1 = o + (k + i) * 2 + 1 by omega, h2, List.getD_eq_getElem?_getD, List.getD_eq_getElem?_getD, List.getElem?_drop]

/-- l' is l with c, each once, in order. -/
def With (l : List Cl) (c : Cl) (l' : List Cl) : Prop := risTo l' l'.length = true ∧ (∀ d, d ∈ l' ↔ d = c ∨ d ∈ l) ∧ l'.length ≤ l.length + 1

theorem ris_of {l : List Cl} (h : ∀ i, i + 1 < l.length → ltC (at_ l i) (at_ l (i + 1)) = true) : risTo l l.length = true := by
  simp only [risTo, List.all_eq_true, List.mem_range]
  intro i hi
  by_cases h0 : i = 0
  · simp [h0]
  · have := h (i - 1) (by omega)
    rw [show i - 1 + 1 = i by omega] at this
    simp [this]
theorem ltC_irr2 {a b : Cl} (h : ltC a b = true) : ltC b a = false := by
  obtain ⟨x, y⟩ := a
  obtain ⟨u, v⟩ := b
  simp [ltC] at h ⊢
  omega
theorem ltC_total {a b : Cl} (h1 : ltC a b = false) (h2 : a ≠ b) : ltC b a = true := by
  obtain ⟨x, y⟩ := a
  obtain ⟨u, v⟩ := b
  simp [ltC] at h1 h2 ⊢
  omega
theorem with_same {l : List Cl} {c : Cl} (hr : risTo l l.length = true) (hm : c ∈ l) : With l c l :=
  ⟨hr, fun d => ⟨fun h => .inr h, fun h => h.elim (fun e => by rw [e]; exact hm) id⟩, by omega⟩
theorem with_new {l : List Cl} {c : Cl} {k : Nat} (hr : risTo l l.length = true) (hk : k ≤ l.length) (h1 : ∀ i, i < k → ltC (at_ l i) c = true) (h2 : k < l.length → ltC (at_ l k) c = false ∧ at_ l k ≠ c) : With l c (l.take k ++ [c] ++ l.drop k) := by
  refine ⟨?_, ?_, ?_⟩
  · have hlen : (l.take k ++ [c] ++ l.drop k).length = l.length + 1 := by simp; omega
    have hat : ∀ i, i < l.length + 1 → at_ (l.take k ++ [c] ++ l.drop k) i = if i < k then at_ l i else if i = k then c else at_ l (i - 1) := by
      intro i hi
      unfold at_
      simp only [List.getD_eq_getElem?_getD]
      by_cases a : i < k
      · rw [if_pos a, List.append_assoc, List.getElem?_append_left (by simp; omega), List.getElem?_take_of_lt a]
      · rw [if_neg a]
        by_cases b : i = k
        · subst b
          rw [if_pos rfl, List.append_assoc, List.getElem?_append_right (by simp; omega)]
          simp [List.length_take, Nat.min_eq_left hk]
        · rw [if_neg b, List.getElem?_append_right (by simp; omega), List.getElem?_drop]
          congr 2
          simp [List.length_take, Nat.min_eq_left hk]
          omega
    refine ris_of fun i hi => ?_
    rw [hlen] at hi
    rw [hat i (by omega), hat (i + 1) hi]
    by_cases a : i + 1 < k
    · rw [if_pos (by omega), if_pos a]; exact ris_next hr (by omega)
    · rw [if_neg a]
      by_cases b : i + 1 = k
      · rw [if_pos (by omega), if_pos b]; exact h1 i (by omega)
      · rw [if_neg b, if_neg (by omega)]
        by_cases e : i = k
        · rw [if_pos e, show i + 1 - 1 = i by omega, e]
          obtain ⟨q1, q2⟩ := h2 (by omega)
          exact ltC_total q1 q2
        · rw [if_neg e]
          have := ris_next hr (i := i - 1) (by omega)
          rw [show i - 1 + 1 = i by omega] at this
          rw [show i + 1 - 1 = i by omega]; exact this
  · intro d
    simp only [List.mem_append, List.mem_singleton]
    constructor
    · rintro ((h | h) | h)
      · exact .inr (List.mem_of_mem_take h)
      · exact .inl h
      · exact .inr (List.mem_of_mem_drop h)
    · rintro (h | h)
      · exact .inl (.inr h)
      · have := List.take_append_drop k l
        rw [← this, List.mem_append] at h
        rcases h with h | h
        · exact .inl (.inl h)
        · exact .inr h
  · simp; omega

theorem tail_ne {w z : World} {c : Cl} (h : BoxIn w z c) : some w.heap.size ≠ (Value.slice (some ⟨z.heap.size, 0, none⟩) 0 0).ownBlock := by
  have := h.2.2.1
  simp [Value.ownBlock]; omega

/-- Appending nothing, whatever the address. -/
theorem wpList_app0 {w : World} {ops : Array Oper} {rest : List Oper} {o : Oper} {a : Act} {Q : Exit → Act → World → Prop} (hgd : o.guard = none) (s x : Operand)
    (ho : o.op = .call { callee := .builtin .append, args := #[s, x], argTypes := #[23, 23] })
    (base : Nat) (v : Value) (l : List Cl) (hs : a.eval s = v) (hown : OwnS w base v l) (hx : ∃ ad n k, a.eval x = .slice ad n k ∧ n = 0 ∧ (ad = none → k = 0)) (hlen : l.length ≤ 4194304) (hbase : base ≤ w.heap.size)
    (h : ∀ v' w', OwnS w' base v' l → w.grownBy w' v.ownBlock → wpList Try.prog ops Q rest (a.put o.dst v') w') : wpList Try.prog ops Q (o :: rest) a w := by
  obtain ⟨ad, n, k, h1, h2, h3⟩ := hx
  subst h2
  exact wpList_app' hgd s x ho base v l [] ad 0 k hs hown h1 rfl (fun i hi => absurd hi (Nat.not_lt_zero _)) h3 (by simpa using hlen) hbase (by simpa using h)

set_option maxHeartbeats 1000000 in
theorem c_l1Add_some (g o ca : Nat) (l : List Cl) (c : Cl) (w : World) (ha : Seg w (some ⟨g, o, none⟩) l) (hl : l.length ≤ 1048576) (hca : l.length ≤ ca) (hcm : ca ≤ maxLen) (hr : risTo l l.length = true) :
    Calls Try.prog 126 #[.slice (some ⟨g, o, none⟩) l.length ca, .agg #[.int .i64 c.1, .int .i64 c.2]] w fun e w' => ∃ v l', e = .returned v ∧ SL w' v l' ∧ With l c l' ∧ Below w.heap.size w w' ∧ (OwnS w' w.heap.size v l' ∨ (v = .slice (some ⟨g, o, none⟩) l.length ca ∧ l' = l)) := by
  have HR := hid hr
  have hcm' : ca ≤ 9223372036854775807 := by unfold maxLen at hcm; omega
  clear hr
  go_enter Try.func126, Try.ntmps126
  go_wp2
  go_loopw [5] (fun i wr => ∃ k : Nat, k ≤ l.length ∧ i = .int .i64 k ∧ Hid (∀ i, i < k → ltC (at_ l i) c = true) ∧ BoxIn w wr c) (fun i _ => l.length - (intOf i).toNat)
  case atStart => exact ⟨0, Nat.zero_le _, rfl, (fun i hi => absurd hi (Nat.not_lt_zero _)), BoxIn.new w c _⟩
  case round =>
    obtain ⟨k, hk, rfl, hT, hX⟩ := hrel
    have HX := hid hX
    have g3 := fun x : Gr wr => x.cell HX.out.1 HX.out.2.2.1
    have g4 := fun x : Gr wr => x.cell HX.out.2.1 HX.out.2.2.1
    have hne := Gr.ne wr
    clear hX
    by_cases hlt : k < l.length
    · obtain ⟨b1, o1, e1, hb1, p1, p2⟩ := ha k hlt
      simp only [Option.some.injEq, Addr.mk.injEq, and_true] at e1
      obtain ⟨rfl, rfl⟩ := e1
      have hbx : g < wr.heap.size := Nat.lt_of_lt_of_le hb1 HX.out.below.size
      have g1 := fun x : Gr wr => x.cell ((HX.out.below.cell (p := ⟨g, o + k * 2, none⟩) hb1).trans p1) hbx
      have g2 := fun x : Gr wr => x.cell ((HX.out.below.cell (p := ⟨g, o + k * 2 + 1, none⟩) hb1).trans p2) hbx
      change ∀ x : Gr wr, _ = some (Value.int .i64 (at_ l k).1) at g1
      change ∀ x : Gr wr, _ = some (Value.int .i64 (at_ l k).2) at g2
      clear p1 p2
      have k0 : (0 : Int) ≤ (k : Int) := by omega
      have k1 : (k : Int) < (l.length : Int) := by omega
      have HN := hid (show ltC (at_ l k) c = true → ∀ i, i < k + 1 → ltC (at_ l i) c = true from fun hn t ht => by
        by_cases e : t = k
        · rw [e]; exact hn
        · exact hT.out t (by omega))
      have HM := hid (fun e : at_ l k = c => with_same HR.out (mem_at.2 ⟨k, hlt, e⟩))
      have HW := hid (fun (h1 : ltC (at_ l k) c = false) (h2 : at_ l k ≠ c) => with_new HR.out hk hT.out (fun _ => ⟨h1, h2⟩))
      generalize at_ l k = x at *
      cases hin : ltC x c
      · go_wp2
        refine wp_region_gr (by kernel_rfl) (by kernel_rfl) ?_
        repeat (go_big_quiet_step (first | (go_at_call 120; exact Calls.gr _ (c_l1Less' x c false hin _))))
        refine wpQuiet_nil ?_
        rintro _ ⟨q, rfl⟩
        have HQ := hid (HX.out.step q.below)
        have g1' := g1 q
        have g2' := g2 q
        have g3' := g3 q
        have g4' := g4 q
        have hbq : g < q.val.heap.size := Nat.lt_of_lt_of_le hbx q.below.size
        clear g1 g2 g3 g4 hne
        have n1 := fun z : Gr q.val => z.cell g1' hbq
        have n2 := fun z : Gr q.val => z.cell g2' hbq
        have n3 := fun z : Gr q.val => z.cell g3' HQ.out.2.2.1
        have n4 := fun z : Gr q.val => z.cell g4' HQ.out.2.2.1
        have hne := Gr.ne q.val
        by_cases h1 : x.1 = c.1
        · by_cases h2 : x.2 = c.2
          · have HW' := hid (HM.out (Prod.ext h1 h2))
            go_wp2
            refine wp_region_gr (by kernel_rfl) (by kernel_rfl) ?_
            repeat (go_big_quiet_step (fail))
            refine wpQuiet_nil ?_
            rintro _ ⟨z, rfl⟩
            have HZ := hid (HQ.out.step z.below)
            clear n1 n2 n3 n4 hne g1' g2' g3' g4'
            go_wp2
            go_ret
            exact ⟨_, l, rfl, .inr ⟨g, o, ca, rfl, hca, hcm, ha.below HZ.out.below⟩, HW'.out, HZ.out.below, .inr ⟨rfl, rfl⟩⟩
          · have HW' := hid (HW.out hin (fun e => h2 (by rw [e])))
            go_wp2
            refine wp_region_gr (by kernel_rfl) (by kernel_rfl) ?_
            repeat (go_big_quiet_step (fail))
            refine wpQuiet_nil ?_
            rintro _ ⟨z, rfl⟩
            have HZ := hid (HQ.out.step z.below)
            clear n1 n2 n3 n4 hne g1' g2' g3' g4' h1 h2
            have HB6 := hid (HZ.out.below.alloc HZ.out.below.size (.cells #[] 36))
            have HO6 := hid ((slice_empty_build z.val).mono HZ.out.below.size)
            have HX6 := hid (HZ.out.step ((Below.refl z.val.heap.size z.val).alloc (Nat.le_refl _) (.cells #[] 36)))
            have HS6 := hid ((ha.take k).below HX6.out.below)
            have kk0 : (0 : Int) ≤ (k : Int) := by omega
            have kk1 : (k : Int) ≤ (l.length : Int) := by omega
            have kk2 : (k : Int) ≤ (ca : Int) := by omega
            have kk3 : (l.length : Int) ≤ (ca : Int) := by omega
            go_wp2_with (first | (at_builtin; refine wpList_app' rfl (.tmp 34) (.tmp 37) rfl w.heap.size _ [] (l.take k) (some ⟨g, o, none⟩) k ca rfl HO6.out rfl (by rw [List.length_take]; omega) HS6.out (by intro h; cases h) (by simp; omega) HB6.out.size ?_; intro v6 w6 hO6 hG6; have HB7 := hid (below_grown HB6.out HO6.out hG6); have y0 := hG6.cell HX6.out.1 (tail_ne HZ.out); have y1 := hG6.cell HX6.out.2.1 (tail_ne HZ.out); have HO7 := hid hO6; clear hO6 hG6) | (at_builtin; refine wpList_app' rfl (.tmp 39) (.tmp 41) rfl w.heap.size v6 ([] ++ l.take k) [c] (some ⟨w6.heap.size, 0, none⟩) 1 1 rfl (HO7.out.below ((Below.refl w6.heap.size w6).alloc (Nat.le_refl _) (.cells #[.int .i64 c.1, .int .i64 c.2] 36))) rfl rfl (seg_block (heap_alloc_new w6 _)) (by intro h; cases h) (by simp; omega) (HB7.out.alloc HB7.out.size _).size ?_; intro v7 w7 hO7 hG7; have HB8 := hid (below_grown (HB7.out.alloc HB7.out.size _) (HO7.out.below ((Below.refl w6.heap.size w6).alloc (Nat.le_refl _) (.cells #[.int .i64 c.1, .int .i64 c.2] 36))) hG7); have HO8 := hid hO7; clear hO7 hG7) | (at_builtin; refine wpList_app' rfl (.tmp 43) (.tmp 46) rfl w.heap.size v7 ([] ++ l.take k ++ [c]) (l.drop k) (some ⟨g, o + k * 2, none⟩) (l.length - k) (ca - k) rfl HO8.out rfl (by simp) ((ha.drop k).below HB8.out) (by intro h; cases h) (by simp; omega) HB8.out.size ?_; intro v8 w8 hO9 hG9))
            go_ret
            exact ⟨_, _, rfl, hO9.sl, by simpa using HW'.out, below_grown HB8.out HO8.out hG9, .inl hO9⟩
        · have HW' := hid (HW.out hin (fun e => h1 (by rw [e])))
          go_wp2
          refine wp_region_gr (by kernel_rfl) (by kernel_rfl) ?_
          repeat (go_big_quiet_step (fail))
          refine wpQuiet_nil ?_
          rintro _ ⟨z, rfl⟩
          have HZ := hid (HQ.out.step z.below)
          clear n1 n2 n3 n4 hne g1' g2' g3' g4' h1
          have HB6 := hid (HZ.out.below.alloc HZ.out.below.size (.cells #[] 36))
          have HO6 := hid ((slice_empty_build z.val).mono HZ.out.below.size)
          have HX6 := hid (HZ.out.step ((Below.refl z.val.heap.size z.val).alloc (Nat.le_refl _) (.cells #[] 36)))
          have HS6 := hid ((ha.take k).below HX6.out.below)
          have kk0 : (0 : Int) ≤ (k : Int) := by omega
          have kk1 : (k : Int) ≤ (l.length : Int) := by omega
          have kk2 : (k : Int) ≤ (ca : Int) := by omega
          have kk3 : (l.length : Int) ≤ (ca : Int) := by omega
          go_wp2_with (first | (at_builtin; refine wpList_app' rfl (.tmp 34) (.tmp 37) rfl w.heap.size _ [] (l.take k) (some ⟨g, o, none⟩) k ca rfl HO6.out rfl (by rw [List.length_take]; omega) HS6.out (by intro h; cases h) (by simp; omega) HB6.out.size ?_; intro v6 w6 hO6 hG6; have HB7 := hid (below_grown HB6.out HO6.out hG6); have y0 := hG6.cell HX6.out.1 (tail_ne HZ.out); have y1 := hG6.cell HX6.out.2.1 (tail_ne HZ.out); have HO7 := hid hO6; clear hO6 hG6) | (at_builtin; refine wpList_app' rfl (.tmp 39) (.tmp 41) rfl w.heap.size v6 ([] ++ l.take k) [c] (some ⟨w6.heap.size, 0, none⟩) 1 1 rfl (HO7.out.below ((Below.refl w6.heap.size w6).alloc (Nat.le_refl _) (.cells #[.int .i64 c.1, .int .i64 c.2] 36))) rfl rfl (seg_block (heap_alloc_new w6 _)) (by intro h; cases h) (by simp; omega) (HB7.out.alloc HB7.out.size _).size ?_; intro v7 w7 hO7 hG7; have HB8 := hid (below_grown (HB7.out.alloc HB7.out.size _) (HO7.out.below ((Below.refl w6.heap.size w6).alloc (Nat.le_refl _) (.cells #[.int .i64 c.1, .int .i64 c.2] 36))) hG7); have HO8 := hid hO7; clear hO7 hG7) | (at_builtin; refine wpList_app' rfl (.tmp 43) (.tmp 46) rfl w.heap.size v7 ([] ++ l.take k ++ [c]) (l.drop k) (some ⟨g, o + k * 2, none⟩) (l.length - k) (ca - k) rfl HO8.out rfl (by simp) ((ha.drop k).below HB8.out) (by intro h; cases h) (by simp; omega) HB8.out.size ?_; intro v8 w8 hO9 hG9))
          go_ret
          exact ⟨_, _, rfl, hO9.sl, by simpa using HW'.out, below_grown HB8.out HO8.out hG9, .inl hO9⟩
      · go_wp2
        refine wp_region_gr (by kernel_rfl) (by kernel_rfl) ?_
        repeat (go_big_quiet_step (first | (go_at_call 120; exact Calls.gr _ (c_l1Less' x c true hin _))))
        refine wpQuiet_nil ?_
        rintro _ ⟨q, rfl⟩
        have HQ := hid (HX.out.step q.below)
        clear g1 g2 g3 g4
        go_wp2
        go_roundw
        case rel => exact ⟨k + 1, by omega, by go_num, HN.out hin, HQ.out⟩
        case measure => simp [intOf]; omega
    · have hkl : decide ((k : Int) < (l.length : Int)) = false := by simp; omega
      have HW' := hid (with_new HR.out hk hT.out (fun h => absurd h hlt))
      go_wp2
      refine wp_region_gr (by kernel_rfl) (by kernel_rfl) ?_
      repeat (go_big_quiet_step (fail))
      refine wpQuiet_nil ?_
      rintro _ ⟨q, rfl⟩
      have HQ := hid (HX.out.step q.below)
      clear g3 g4 hne
      have hne := Gr.ne q.val
      go_wp2
      refine wp_region_gr (by kernel_rfl) (by kernel_rfl) ?_
      repeat (go_big_quiet_step (fail))
      refine wpQuiet_nil ?_
      rintro _ ⟨z, rfl⟩
      have HZ := hid (HQ.out.step z.below)
      have hle : l.length ≤ k := by omega
      have HWW : Hid (With l c ([] ++ l.take k ++ [c])) := hid (by have := HW'.out; rw [List.drop_eq_nil_of_le hle, List.append_nil] at this; exact this)
      clear hne hkl hlt
      have HB6 := hid (HZ.out.below.alloc HZ.out.below.size (.cells #[] 36))
      have HO6 := hid ((slice_empty_build z.val).mono HZ.out.below.size)
      have HX6 := hid (HZ.out.step ((Below.refl z.val.heap.size z.val).alloc (Nat.le_refl _) (.cells #[] 36)))
      have HS6 := hid ((ha.take k).below HX6.out.below)
      have kk0 : (0 : Int) ≤ (k : Int) := by omega
      have kk1 : (k : Int) ≤ (l.length : Int) := by omega
      have kk2 : (k : Int) ≤ (ca : Int) := by omega
      have kk3 : (l.length : Int) ≤ (ca : Int) := by omega
      go_wp2_with (first | (at_builtin; refine wpList_app' rfl (.tmp 34) (.tmp 37) rfl w.heap.size _ [] (l.take k) (some ⟨g, o, none⟩) k ca rfl HO6.out rfl (by rw [List.length_take]; omega) HS6.out (by intro h; cases h) (by simp; omega) HB6.out.size ?_; intro v6 w6 hO6 hG6; have HB7 := hid (below_grown HB6.out HO6.out hG6); have y0 := hG6.cell HX6.out.1 (tail_ne HZ.out); have y1 := hG6.cell HX6.out.2.1 (tail_ne HZ.out); have HO7 := hid hO6; clear hO6 hG6) | (at_builtin; refine wpList_app' rfl (.tmp 39) (.tmp 41) rfl w.heap.size v6 ([] ++ l.take k) [c] (some ⟨w6.heap.size, 0, none⟩) 1 1 rfl (HO7.out.below ((Below.refl w6.heap.size w6).alloc (Nat.le_refl _) (.cells #[.int .i64 c.1, .int .i64 c.2] 36))) rfl rfl (seg_block (heap_alloc_new w6 _)) (by intro h; cases h) (by simp; omega) (HB7.out.alloc HB7.out.size _).size ?_; intro v7 w7 hO7 hG7; have HB8 := hid (below_grown (HB7.out.alloc HB7.out.size _) (HO7.out.below ((Below.refl w6.heap.size w6).alloc (Nat.le_refl _) (.cells #[.int .i64 c.1, .int .i64 c.2] 36))) hG7); have HO8 := hid hO7; clear hO7 hG7) | (at_builtin; refine wpList_app0 rfl (.tmp 43) (.tmp 46) rfl w.heap.size v7 ([] ++ l.take k ++ [c]) rfl HO8.out ⟨_, _, _, rfl, by omega, by intro h; split at h <;> cases h⟩ (by simp; omega) HB8.out.size ?_; intro v8 w8 hO9 hG9))
      all_goals go_ret
      all_goals first
        | exact ⟨_, _, rfl, hO9.sl, HWW.out, below_grown HB8.out HO8.out hG9, .inl hO9⟩
        | exact ⟨_, rfl, _, hO9.sl, HWW.out, below_grown HB8.out HO8.out hG9, .inl hO9⟩

theorem one_with (c : Cl) : With [] c [c] := by
  refine ⟨rfl, fun d => by simp, by simp⟩

set_option maxHeartbeats 1000000 in
theorem c_l1Add_nil (c : Cl) (w : World) :
    Calls Try.prog 126 #[.slice none 0 0, .agg #[.int .i64 c.1, .int .i64 c.2]] w fun e w' => ∃ v l', e = .returned v ∧ SL w' v l' ∧ With [] c l' ∧ Below w.heap.size w w' ∧ OwnS w' w.heap.size v l' := by
  have HX := hid (BoxIn.new w c 36)
  go_enter Try.func126, Try.ntmps126
  go_wp2
  refine wp_loop_rounds 1 ?_
  rw [rounds_succ]
  go_wp2
  have hne := Gr.ne (w.alloc (.cells #[.int .i64 c.1, .int .i64 c.2] 36))
  refine wp_region_gr (by kernel_rfl) (by kernel_rfl) ?_
  repeat (go_big_quiet_step (fail))
  refine wpQuiet_nil ?_
  rintro _ ⟨q, rfl⟩
  have HQ := hid (HX.out.step q.below)
  clear hne
  have hne := Gr.ne q.val
  go_wp2
  refine wp_region_gr (by kernel_rfl) (by kernel_rfl) ?_
  repeat (go_big_quiet_step (fail))
  refine wpQuiet_nil ?_
  rintro _ ⟨z, rfl⟩
  have HZ := hid (HQ.out.step z.below)
  clear hne
  have HB6 := hid (HZ.out.below.alloc HZ.out.below.size (.cells #[] 36))
  have HO6 := hid ((slice_empty_build z.val).mono HZ.out.below.size)
  have HX6 := hid (HZ.out.step ((Below.refl z.val.heap.size z.val).alloc (Nat.le_refl _) (.cells #[] 36)))
  have HN : ∀ W : World, Hid (Seg W none []) := fun W i hi => by simp at hi
  go_wp2_with (first | (at_builtin; refine wpList_app' rfl (.tmp 34) (.tmp 37) rfl w.heap.size _ [] [] none 0 0 rfl HO6.out rfl rfl (HN _).out (fun _ => rfl) (by simp) HB6.out.size ?_; intro v6 w6 hO6 hG6; have HB7 := hid (below_grown HB6.out HO6.out hG6); have y0 := hG6.cell HX6.out.1 (tail_ne HZ.out); have y1 := hG6.cell HX6.out.2.1 (tail_ne HZ.out); have HO7 := hid hO6; clear hO6 hG6) | (at_builtin; refine wpList_app' rfl (.tmp 39) (.tmp 41) rfl w.heap.size v6 ([] ++ []) [c] (some ⟨w6.heap.size, 0, none⟩) 1 1 rfl (HO7.out.below ((Below.refl w6.heap.size w6).alloc (Nat.le_refl _) (.cells #[.int .i64 c.1, .int .i64 c.2] 36))) rfl rfl (seg_block (heap_alloc_new w6 _)) (by intro h; cases h) (by simp) (HB7.out.alloc HB7.out.size _).size ?_; intro v7 w7 hO7 hG7; have HB8 := hid (below_grown (HB7.out.alloc HB7.out.size _) (HO7.out.below ((Below.refl w6.heap.size w6).alloc (Nat.le_refl _) (.cells #[.int .i64 c.1, .int .i64 c.2] 36))) hG7); have HO8 := hid hO7; clear hO7 hG7) | (at_builtin; refine wpList_app' rfl (.tmp 43) (.tmp 46) rfl w.heap.size v7 ([] ++ [] ++ [c]) [] none 0 0 rfl HO8.out rfl rfl (HN _).out (fun _ => rfl) (by simp) HB8.out.size ?_; intro v8 w8 hO9 hG9))
  go_ret
  exact ⟨_, _, rfl, hO9.sl, by simpa using one_with c, below_grown HB8.out HO8.out hG9, hO9⟩

/-- Putting a cell to its place, whatever the slice: what comes of it owns its memory, or is the slice itself. -/
theorem c_l1AddO (v : Value) (l : List Cl) (c : Cl) (w : World) (h : SL w v l) (hl : l.length ≤ 1048576) (hr : risTo l l.length = true) :
    Calls Try.prog 126 #[v, .agg #[.int .i64 c.1, .int .i64 c.2]] w fun e w' => ∃ v' l', e = .returned v' ∧ SL w' v' l' ∧ With l c l' ∧ Below w.heap.size w w' ∧ (OwnS w' w.heap.size v' l' ∨ (v' = v ∧ l' = l)) := by
  rcases h with ⟨rfl, rfl⟩ | ⟨g, o, ca, rfl, h1, h2, h3⟩
  · exact (c_l1Add_nil c w).mono fun e w' ⟨v', l', h1, h2, h3, h4, h5⟩ => ⟨v', l', h1, h2, h3, h4, .inl h5⟩
  · exact c_l1Add_some g o ca l c w h3 hl h1 h2 hr
theorem c_l1Add (v : Value) (l : List Cl) (c : Cl) (w : World) (h : SL w v l) (hl : l.length ≤ 1048576) (hr : risTo l l.length = true) :
    Calls Try.prog 126 #[v, .agg #[.int .i64 c.1, .int .i64 c.2]] w fun e w' => ∃ v l', e = .returned v ∧ SL w' v l' ∧ With l c l' ∧ Below w.heap.size w w' :=
  (c_l1AddO v l c w h hl hr).mono fun e w' ⟨v', l', h1, h2, h3, h4, _⟩ => ⟨v', l', h1, h2, h3, h4⟩

/-- Two lists in order with the same cells are one. -/
theorem ris_unique : ∀ {l m : List Cl}, risTo l l.length = true → risTo m m.length = true → (∀ c, c ∈ l ↔ c ∈ m) → l = m := by
  have key : ∀ {l : List Cl}, risTo l l.length = true → l.Pairwise (fun a b => ltC a b = true) := by
    intro l h
    rw [List.pairwise_iff_getElem]
    intro i j hi hj hij
    have := ris_lt h j hij hj
    simpa only [at_, List.getD_eq_getElem?_getD, List.getElem?_eq_getElem hi, List.getElem?_eq_getElem hj, Option.getD_some] using this
  intro l m hl hm h
  have hp : l.Perm m := (List.perm_ext_iff_of_nodup (ris_nodup hl) (ris_nodup hm)).2 h
  exact hp.eq_of_pairwise (fun a b _ _ h1 h2 => by rw [ltC_irr2 h1] at h2; cases h2) (key hl) (key hm)

end Go.Proofs.Ytgfdkolhldbehaa
