/- Plain facts on the reading of a text of runs. -/
import Derived.Test.YthmjcjcamcdpkaaDoorRunsP
import Derived.Test.YthmjcjcamcdpkaaDoorByt
import Derived.Lib.AtoiAll
namespace Go.Proofs.YthmjcjcamcdpkaaDoor
set_option linter.unusedVariables false

/-! Numbers -/
/-- The value of digits, and that value as far as it stays at most 31. -/
def val : Nat → List Nat → Nat
  | acc, [] => acc
  | acc, d :: r => val (10 * acc + d) r
def numCut : Nat → List Nat → Nat
  | acc, [] => acc
  | acc, d :: r => if acc ≤ 31 then numCut (10 * acc + d) r else acc
theorem val_ge : ∀ (r : List Nat) (acc : Nat), acc ≤ val acc r
  | [], acc => Nat.le_refl _
  | d :: r, acc => by
    have := val_ge r (10 * acc + d)
    simp only [val]; omega
theorem numCut_val : ∀ (r : List Nat) (acc : Nat), (numCut acc r ≤ 31 → val acc r = numCut acc r) ∧ (31 < numCut acc r → 31 < val acc r)
  | [], acc => ⟨fun _ => rfl, fun h => h⟩
  | d :: r, acc => by
    simp only [numCut, val]
    by_cases h : acc ≤ 31
    · rw [if_pos h]; exact numCut_val r _
    · rw [if_neg h]
      have := val_ge r (10 * acc + d)
      exact ⟨fun h2 => absurd h2 h, fun _ => by omega⟩
def digs (l : List UInt8) : List Nat := l.map fun b => b.toNat - 48
def allDig (l : List UInt8) : Prop := ∀ b ∈ l, 48 ≤ b.toNat ∧ b.toNat ≤ 57
theorem parse_val : ∀ (l : List UInt8) (acc : Nat), allDig l → Lib.parseUint10 acc l = .ok (val acc (digs l)) ∨ (Lib.parseUint10 acc l = .range ∧ 31 < val acc (digs l))
  | [], acc, _ => .inl rfl
  | c :: r, acc, h => by
    have hc := h c (by simp)
    have hr : allDig r := fun b hb => h b (by simp [hb])
    have hv := val_ge (digs r) (10 * acc + (c.toNat - 48))
    simp only [Lib.parseUint10, if_pos hc]
    have e : val acc (digs (c :: r)) = val (10 * acc + (c.toNat - 48)) (digs r) := rfl
    rw [e]
    split
    · exact .inr ⟨rfl, by omega⟩
    · split
      · exact .inr ⟨rfl, by omega⟩
      · have := parse_val r (acc * 10 + (c.toNat - 48)) hr
        rw [show acc * 10 + (c.toNat - 48) = 10 * acc + (c.toNat - 48) by omega] at this
        rw [show acc * 10 + (c.toNat - 48) = 10 * acc + (c.toNat - 48) by omega]
        exact this
/-- What Atoi tells of digits. -/
theorem atoi_digs {l : List UInt8} (h : allDig l) (hn : l ≠ []) : Lib.atoiAll l = .ok (val 0 (digs l) : Int) ∨ (Lib.atoiAll l = .range ∧ 31 < val 0 (digs l)) := by
  cases l with
  | nil => exact absurd rfl hn
  | cons c r =>
    have hc := h c (by simp)
    have h43 : ¬ (c.toNat = 43 ∨ c.toNat = 45) := by omega
    have h45 : ¬ c.toNat = 45 := by omega
    simp only [Lib.atoiAll, if_neg h43, Lib.parseMag]
    rw [if_neg (by simp)]
    rcases parse_val (c :: r) 0 h with e | ⟨e, e2⟩
    · rw [e]
      by_cases hb : 9223372036854775808 ≤ val 0 (digs (c :: r))
      · refine .inr ⟨?_, by omega⟩
        simp [h45, hb]
      · refine .inl ?_
        simp [h45, hb]
    · rw [e]
      exact .inr ⟨rfl, e2⟩

/-! Places -/
def sg (s : Tx) (i j : Nat) : List UInt8 := (s.data.toList.drop i).take (j - i)
def dg (s : Tx) (i : Nat) : Bool := decide (48 ≤ byt s i) && decide (byt s i ≤ 57)
def scan (s : Tx) : Nat → Nat → Nat
  | 0, k => k
  | f + 1, k => if k < s.size ∧ dg s k = true then scan s f (k + 1) else k
/-- The first place from k on at which no digit stands. -/
def sc (s : Tx) (k : Nat) : Nat := scan s s.size k
theorem scan_spec (s : Tx) : ∀ f k m, k ≤ m → m ≤ s.size → s.size ≤ k + f → (∀ j, k ≤ j → j < m → dg s j = true) → (m < s.size → dg s m = false) → scan s f k = m
  | 0, k, m, h1, h2, h3, _, _ => by simp only [scan]; omega
  | f + 1, k, m, h1, h2, h3, h4, h5 => by
    unfold scan
    by_cases e : k = m
    · subst e
      rw [if_neg (fun h => by rw [h5 h.1] at h; exact absurd h.2 (by simp))]
    · rw [if_pos ⟨by omega, h4 k (Nat.le_refl _) (by omega)⟩]
      exact scan_spec s f (k + 1) m (by omega) h2 (by omega) (fun j h1 h2 => h4 j (by omega) h2) h5
theorem sc_eq {s : Tx} {k m : Nat} (h1 : k ≤ m) (h2 : m ≤ s.size) (h4 : ∀ j, k ≤ j → j < m → dg s j = true) (h5 : m < s.size → dg s m = false) : sc s k = m :=
  scan_spec s s.size k m h1 h2 (by omega) h4 h5
theorem sg_len {s : Tx} {i j : Nat} (h : j ≤ s.size) : (sg s i j).length = j - i := by
  have : s.data.toList.length = s.size := by cases s; rfl
  simp only [sg, List.length_take, List.length_drop, this]; omega
theorem sg_get {s : Tx} {i j t : Nat} (h : j ≤ s.size) (ht : t < j - i) : (sg s i j)[t]? = some (s.data.getD (i + t) 0) := by
  unfold sg
  rw [List.getElem?_take_of_lt ht, List.getElem?_drop]
  exact byt_list s (i + t) (by omega)
theorem sg_dig {s : Tx} {i j : Nat} (h : j ≤ s.size) (hd : ∀ t, i ≤ t → t < j → dg s t = true) : allDig (sg s i j) := by
  intro b hb
  obtain ⟨t, ht⟩ := List.getElem?_of_mem hb
  have hlt : t < j - i := by
    have := (List.getElem?_eq_some_iff.1 ht).1
    rw [sg_len h] at this; exact this
  rw [sg_get h hlt] at ht
  have := hd (i + t) (by omega) (by omega)
  simp only [dg, byt, Bool.and_eq_true] at this
  simp only [Option.some.injEq] at ht
  rw [← ht]; exact ⟨of_decide_eq_true this.1, of_decide_eq_true this.2⟩
theorem sg_drop {s : Tx} {i j t : Nat} (h : j ≤ s.size) (ht : t < j - i) : digs ((sg s i j).drop t) = (byt s (i + t) - 48) :: digs ((sg s i j).drop (t + 1)) := by
  have e := sg_get h ht
  have hl : t < (sg s i j).length := by rw [sg_len h]; exact ht
  rw [List.drop_eq_getElem_cons hl]
  have e2 : (sg s i j)[t] = s.data.getD (i + t) 0 := by
    rw [List.getElem?_eq_getElem hl] at e
    simpa using e
  rw [e2]
  rfl

/-! The reading -/
/-- The number ahead of place k, at having been reached. -/
def nOf (s : Tx) (at' k : Nat) : Nat := if at' < k then numCut 0 (digs (sg s at' k)) else 1
def okN (s : Tx) (at' k : Nat) : Bool := if at' < k then decide (byt s at' ≠ 48) && decide (2 ≤ nOf s at' k) && decide (nOf s at' k ≤ 31) else true
theorem nOf_bd {s : Tx} {a k : Nat} (h : okN s a k = true) : 1 ≤ nOf s a k ∧ nOf s a k ≤ 31 := by
  unfold okN at h
  split at h
  · simp at h; omega
  · rename_i hn
    simp [nOf, hn]
def runC (x y n : Nat) : List Cl := (List.range n).map fun i : Nat => (((x + i : Nat) : Int), (y : Int))
theorem runC_succ (x y n : Nat) : runC x y (n + 1) = runC x y n ++ [(((x + n : Nat) : Int), (y : Int))] := by simp [runC, List.range_succ]
theorem runC_len (x y n : Nat) : (runC x y n).length = n := by simp [runC]
def room (x y len n : Nat) : Bool := decide (x + n ≤ 31) && decide (y ≤ 30) && decide (len + n ≤ 120)
def piece (s : Tx) (i j : Nat) : Tx := ⟨(sg s i j).toArray⟩
abbrev Rd := List Cl × List Tx × Nat
def rd (s : Tx) : Nat → Nat → Nat → Nat → List Cl → List Tx → Rd
  | 0, _, _, _, _, _ => ([], [], 1)
  | f + 1, a, x, y, l, T =>
    if a < s.size then
      let k := sc s a
      if okN s a k then
        if k < s.size then
          let n := nOf s a k
          let T' := T ++ [piece s a (k + 1)]
          if byt s k = 33 then (if a < k then ([], [], 1) else if k + 1 < s.size then ([], [], 2) else (l, T', 0))
          else if byt s k = 36 then rd s f (k + 1) 0 (y + n) l T'
          else if byt s k = 98 then rd s f (k + 1) (x + n) y l T'
          else if byt s k = 111 then (if room x y l.length n then rd s f (k + 1) (x + n) y (l ++ runC x y n) T' else ([], [], 4))
          else ([], [], 1)
        else ([], [], 1)
      else ([], [], 3)
    else ([], [], 1)
/-- What is read of a text. -/
def rdAll (s : Tx) : Rd := rd s (s.size + 1) 0 0 0 [] []

/-! What is read has a text -/
theorem all_congr_range {n : Nat} {p q : Nat → Bool} (h : ∀ i, i < n → p i = q i) : (List.range n).all p = (List.range n).all q := by
  rw [Bool.eq_iff_iff]
  simp only [List.all_eq_true, List.mem_range]
  exact ⟨fun hp i hi => by rw [← h i hi]; exact hp i hi, fun hp i hi => by rw [h i hi]; exact hp i hi⟩
structure Rdg (l : List Cl) (x y : Nat) : Prop where
  len : l.length ≤ 120
  ris : risTo l l.length = true
  inn : inTTo l l.length = true
  ahead : ∀ i, i < l.length → (at_ l i).2 < (y : Int) ∨ ((at_ l i).2 = (y : Int) ∧ (at_ l i).1 < (x : Int))
theorem at_app {l : List Cl} {c : Cl} {i : Nat} (h : i < l.length) : at_ (l ++ [c]) i = at_ l i := by
  unfold at_
  rw [List.getD_eq_getElem?_getD, List.getElem?_append_left h, ← List.getD_eq_getElem?_getD]
theorem at_last (l : List Cl) (c : Cl) : at_ (l ++ [c]) l.length = c := by simp [at_]
theorem Rdg.one {l : List Cl} {x y : Nat} (h : Rdg l x y) (hx : x ≤ 30) (hy : y ≤ 30) (hl : l.length + 1 ≤ 120) : Rdg (l ++ [((x : Int), (y : Int))]) (x + 1) y := by
  have hlen : (l ++ [((x : Int), (y : Int))]).length = l.length + 1 := by simp
  refine ⟨by omega, ?_, ?_, ?_⟩
  · rw [hlen, risTo_succ, at_last]
    have e1 : risTo (l ++ [((x : Int), (y : Int))]) l.length = risTo l l.length := by
      unfold risTo
      refine all_congr_range fun i hi => ?_
      rw [at_app hi, at_app (show i - 1 < l.length by omega)]
    rw [e1, h.ris]
    by_cases e : l.length = 0
    · simp [e]
    · have := h.ahead (l.length - 1) (by omega)
      rw [at_app (show l.length - 1 < l.length by omega)]
      simp only [e, decide_false, Bool.false_or, Bool.true_and]
      simp only [ltC, Bool.or_eq_true, Bool.and_eq_true, decide_eq_true_eq]
      omega
  · rw [hlen, inTTo_succ, at_last]
    have e1 : inTTo (l ++ [((x : Int), (y : Int))]) l.length = inTTo l l.length := by
      unfold inTTo
      refine all_congr_range fun i hi => ?_
      rw [at_app hi]
    rw [e1, h.inn]
    simp [inT]; omega
  · intro i hi
    rw [hlen] at hi
    by_cases e : i = l.length
    · subst e
      rw [at_last]
      simp; omega
    · rw [at_app (by omega)]
      have := h.ahead i (by omega)
      omega
theorem Rdg.run {l : List Cl} {x y : Nat} (h : Rdg l x y) : ∀ n, room x y l.length n = true → Rdg (l ++ runC x y n) (x + n) y
  | 0, _ => by simpa [runC] using h
  | n + 1, hr => by
    simp only [room, Bool.and_eq_true, decide_eq_true_eq] at hr
    have := (Rdg.run h n (by simp only [room, Bool.and_eq_true, decide_eq_true_eq]; omega)).one (by omega) hr.1.2 (by simp [runC_len]; omega)
    rw [runC_succ, ← List.append_assoc]
    exact this
theorem Rdg.right {l : List Cl} {x y : Nat} (h : Rdg l x y) (n : Nat) : Rdg l (x + n) y := ⟨h.len, h.ris, h.inn, fun i hi => by have := h.ahead i hi; omega⟩
theorem Rdg.down {l : List Cl} {x y : Nat} (h : Rdg l x y) {n : Nat} (hn : 1 ≤ n) : Rdg l 0 (y + n) := ⟨h.len, h.ris, h.inn, fun i hi => by have := h.ahead i hi; omega⟩
theorem Rdg.text {l : List Cl} {x y : Nat} (h : Rdg l x y) : TextL l := ⟨h.len, h.ris, h.inn⟩
theorem Rdg.nil : Rdg [] 0 0 := ⟨by simp, rfl, rfl, fun i hi => by simp at hi⟩
theorem rd_text (s : Tx) : ∀ f a x y l T, Rdg l x y → (rd s f a x y l T).2.2 = 0 → TextL (rd s f a x y l T).1
  | 0, a, x, y, l, T, _, h => by simp [rd] at h
  | f + 1, a, x, y, l, T, hg, h => by
    unfold rd at h ⊢
    by_cases ha : a < s.size
    · by_cases ho : okN s a (sc s a) = true
      · have hn := nOf_bd ho
        by_cases hk : sc s a < s.size
        · simp only [if_pos ha, if_pos ho, if_pos hk] at h ⊢
          by_cases e1 : byt s (sc s a) = 33
          · simp only [if_pos e1] at h ⊢
            split at h
            · simp at h
            · rename_i g1
              rw [if_neg g1]
              split at h
              · simp at h
              · rename_i g2
                rw [if_neg g2]
                exact hg.text
          · simp only [if_neg e1] at h ⊢
            by_cases e2 : byt s (sc s a) = 36
            · simp only [if_pos e2] at h ⊢
              exact rd_text s f _ _ _ _ _ (hg.down hn.1) h
            · simp only [if_neg e2] at h ⊢
              by_cases e3 : byt s (sc s a) = 98
              · simp only [if_pos e3] at h ⊢
                exact rd_text s f _ _ _ _ _ (hg.right _) h
              · simp only [if_neg e3] at h ⊢
                by_cases e4 : byt s (sc s a) = 111
                · simp only [if_pos e4] at h ⊢
                  by_cases e5 : room x y l.length (nOf s a (sc s a)) = true
                  · simp only [if_pos e5] at h ⊢
                    exact rd_text s f _ _ _ _ _ (hg.run _ e5) h
                  · simp [e5] at h
                · simp [e4] at h
        · simp [ha, ho, hk] at h
      · simp [ha, ho] at h
    · simp [ha] at h
theorem rdAll_text {s : Tx} (h : (rdAll s).2.2 = 0) : TextL (rdAll s).1 := rd_text s _ _ _ _ _ _ Rdg.nil h
end Go.Proofs.YthmjcjcamcdpkaaDoor
