/- Rows of texts in memory: slices of strings, owned, taken over, compared. -/
import Derived.Test.YthmjcjcamcdpkaaDoorApp
import Derived.Laws.BytesArg
namespace Go.Proofs.YthmjcjcamcdpkaaDoor
open Go.RowKit
set_option linter.unusedVariables false

abbrev Tx := ByteArray
/-- The text at a place. -/
def tx (L : List Tx) (i : Nat) : Tx := L.getD i ByteArray.empty
theorem tx_get {L : List Tx} {i : Nat} (h : i < L.length) : L[i]? = some (tx L i) := by simp [tx, h]
/-- The texts L lie where the slice's address a leads to, below the heap's end. -/
def TSeg (w : World) (a : Option Addr) (L : List Tx) : Prop :=
  ∀ i, i < L.length → ∃ b o, a = some ⟨b, o, none⟩ ∧ b < w.heap.size ∧ w.cell? ⟨b, o + i, none⟩ = some (.string (tx L i))
theorem TSeg.below {w w' : World} {a : Option Addr} {L : List Tx} (h : TSeg w a L) (hb : Below w.heap.size w w') : TSeg w' a L := by
  intro i hi
  obtain ⟨b, o, rfl, hlt, h1⟩ := h i hi
  exact ⟨b, o, rfl, Nat.lt_of_lt_of_le hlt hb.size, (hb.cell (p := ⟨b, _, none⟩) hlt).trans h1⟩

/-- The slice v owns the texts L, among the blocks from base on. -/
def OwnT (w : World) (base : Nat) (v : Value) (L : List Tx) : Prop := w.ownsRow base 9 1 v L.length (L.map Value.string)
theorem OwnT.nil (w : World) (base : Nat) : OwnT w base (.slice none 0 0) [] := World.ownsRow_nil w base 9 1
theorem OwnT.form {w : World} {base : Nat} {v : Value} {L : List Tx} (h : OwnT w base v L) : ∃ a cap, v = .slice a L.length cap ∧ TSeg w a L := by
  have h0 := h
  rcases h.2 with ⟨rfl, hn⟩ | ⟨g, cap, cur, rfl, hb, hg, hcap, hm, hs, ht⟩
  · exact ⟨none, 0, by rw [hn], fun i hi => by omega⟩
  · refine ⟨some ⟨g, 0, none⟩, cap, rfl, fun i hi => ⟨g, 0, rfl, (Array.getElem?_eq_some_iff.1 hg).1, ?_⟩⟩
    have := World.ownsRow.cellAt h0 i (by omega)
    rw [List.getElem?_map, tx_get hi] at this
    rw [Nat.zero_add]
    exact this
theorem OwnT.below {w w' : World} {base : Nat} {v : Value} {L : List Tx} (h : OwnT w base v L) (hb : Below w.heap.size w w') : OwnT w' base v L :=
  World.ownsRow.kept h (grown_of_below hb none) (by cases v.ownBlock <;> simp)
theorem OwnT.lt {w : World} {base : Nat} {v : Value} {L : List Tx} (h : OwnT w base v L) : ∀ k, v.ownBlock = some k → base ≤ k ∧ k < w.heap.size := World.ownsRow.lt h
theorem OwnT.mono {w : World} {base base' : Nat} {v : Value} {L : List Tx} (h : OwnT w base v L) (hb : base' ≤ base) : OwnT w base' v L := World.ownsRow.mono h hb
theorem OwnT.seg {w : World} {base n ca : Nat} {a : Option Addr} {L : List Tx} (h : OwnT w base (.slice a n ca) L) : TSeg w a L := by
  obtain ⟨a', ca', e, hs⟩ := h.form
  simp only [Value.slice.injEq] at e
  rw [e.1]; exact hs
theorem ownT_keep {W W' : World} {base : Nat} {v : Value} {L : List Tx} {row : Option Nat} (h : OwnT W base v L) (hg : W.grownBy W' row) (hne : ∀ k, v.ownBlock = some k → row ≠ some k) : OwnT W' base v L := by
  refine World.ownsRow.kept h hg ?_
  cases e : v.ownBlock with
  | none => exact .inl rfl
  | some k => exact .inr fun e2 => hne k e e2.symm

theorem info_string : (Tryd.prog.info? 9).map (fun i => (i.zero, i.size, i.bytes)) = some (some (.string ByteArray.empty), 1, 16) := by kernel_rfl

/-- Texts of which the first k are those of M, the others those of L. -/
def setTo (M L : List Tx) (k : Nat) : List Tx := M.take k ++ L.drop k
theorem setTo_length {M L : List Tx} {k : Nat} (h : M.length = L.length) (hk : k ≤ L.length) : (setTo M L k).length = L.length := by simp [setTo]; omega
theorem setTo_zero (M L : List Tx) : setTo M L 0 = L := by simp [setTo]
theorem setTo_all {M L : List Tx} (h : M.length = L.length) : setTo M L L.length = M := by simp [setTo, ← h]
theorem setTo_succ {M L : List Tx} {k : Nat} (h : M.length = L.length) (hk : k < L.length) : (setTo M L k).set k (tx M k) = setTo M L (k + 1) := by
  unfold setTo
  have hm : (M.take k).length = k := by simp; omega
  rw [List.set_append_right _ _ (by omega), hm, Nat.sub_self]
  obtain ⟨x, r, e⟩ : ∃ x r, L.drop k = x :: r := by
    cases hd : L.drop k with
    | nil => have := congrArg List.length hd; simp at this; omega
    | cons x r => exact ⟨x, r, rfl⟩
  have e2 : L.drop (k + 1) = r := by rw [← List.drop_drop, e]; rfl
  have e3 : M.take (k + 1) = M.take k ++ [tx M k] := by
    rw [List.take_succ_eq_append_getElem (by omega : k < M.length)]
    simp [tx, show k < M.length by omega]
  rw [e, e2, e3]
  simp
theorem tx_setTo {M L : List Tx} {k : Nat} (h : M.length = L.length) (hk : k < L.length) : tx (setTo M L k) k = tx L k := by
  unfold tx setTo
  have hm : (M.take k).length = k := by simp; omega
  rw [List.getD_eq_getElem?_getD, List.getElem?_append_right (by omega), hm, Nat.sub_self, List.getElem?_drop, Nat.add_zero, ← List.getD_eq_getElem?_getD]

/-- A store into an owned row of texts. -/
theorem ownT_store {W : World} {base g ca : Nat} {M L : List Tx} {k : Nat} (h : OwnT W base (.slice (some ⟨g, 0, none⟩) L.length ca) (setTo M L k)) (hl : M.length = L.length) (hk : k < L.length) :
    OwnT (W.setCell ⟨g, k, none⟩ (.string (tx M k))) base (.slice (some ⟨g, 0, none⟩) L.length ca) (setTo M L (k + 1)) ∧ W.grownBy (W.setCell ⟨g, k, none⟩ (.string (tx M k))) (some g) := by
  unfold OwnT at h ⊢
  rw [setTo_length hl (by omega)] at h ⊢
  obtain ⟨h1, g1⟩ := World.ownsRow.stored h k (.string (tx M k))
  refine ⟨?_, g1⟩
  rw [← setTo_succ hl hk, List.map_set]
  exact h1
theorem ownT_cell {W : World} {base g ca : Nat} {M L : List Tx} {k : Nat} (h : OwnT W base (.slice (some ⟨g, 0, none⟩) L.length ca) (setTo M L k)) (hl : M.length = L.length) (hk : k < L.length) :
    W.cell? ⟨g, k, none⟩ = some (.string (tx L k)) ∧ W.frozen? ⟨g, k, none⟩ = false := by
  unfold OwnT at h
  rw [setTo_length hl (by omega)] at h
  refine ⟨?_, World.ownsRow.frozenAt h k⟩
  have := World.ownsRow.cellAt h k (by omega)
  rw [List.getElem?_map, tx_get (by rw [setTo_length hl (by omega)]; exact hk), tx_setTo hl hk] at this
  exact this

/-- So many empty texts. -/
def blanks (n : Nat) : List Tx := List.replicate n ByteArray.empty
theorem blanks_length (n : Nat) : (blanks n).length = n := by simp [blanks]

theorem make_Strs (n : Nat) (hn : n ≤ 1048576) (w : World) :
    (Instr.makeSlice 26 (.int .i64 (n : Int)) (.int .i64 (n : Int))).run Tryd.prog w = .ok (.slice (some ⟨w.heap.size, 0, none⟩) n n) (w.alloc (.cells (madeCells #[.string ByteArray.empty] n) 9)) := by
  obtain ⟨i, hi, hz, hs, hb⟩ := info_parts info_string
  have := run_make (P := Tryd.prog) w 26 9 i _ Tryd.underlying26 hi hz .i64 .i64 n n (by omega) (Int.le_refl _) (by rw [hb]; omega) (by omega)
  simpa [hs, Value.cells] using this
theorem made_own (w : World) (n : Nat) (hn : n ≤ 1048576) : OwnT (w.alloc (.cells (madeCells #[.string ByteArray.empty] n) 9)) w.heap.size (.slice (some ⟨w.heap.size, 0, none⟩) n n) (blanks n) := by
  unfold OwnT
  rw [blanks_length]
  refine ⟨by simp [blanks], .inr ⟨w.heap.size, n, _, rfl, Nat.le_refl _, heap_alloc_new _ _, Nat.le_refl _, by unfold maxLen; omega, by simp [madeCells], ?_⟩⟩
  apply List.ext_getElem?
  intro j
  by_cases hj : j < n
  · have e0 : j % 1 = 0 := by omega
    simp [madeCells, blanks, hj, e0]
  · rw [List.getElem?_eq_none (by simp [madeCells]; omega), List.getElem?_eq_none (by simp [blanks]; omega)]

theorem bytes_eq {s t : Tx} (h : s.toList = t.toList) : s = t := by
  rw [ByteArray.toList_eq, ByteArray.toList_eq] at h
  apply ByteArray.ext
  exact Array.toList_inj.1 h
theorem bytes_beq (s t : Tx) : (s.toList == t.toList) = decide (s = t) := by
  by_cases h : s = t
  · simp [h]
  · have : ¬ s.toList = t.toList := fun e => h (bytes_eq e)
    simp [h, this]
theorem takeT_succ {l m : List Tx} {k : Nat} (h1 : k < l.length) (h2 : k < m.length) (ht : l.take k = m.take k) (h : tx l k = tx m k) : l.take (k + 1) = m.take (k + 1) := by
  rw [List.take_succ_eq_append_getElem h1, List.take_succ_eq_append_getElem h2, ht]
  simp [tx, h1, h2] at h
  rw [h]

end Go.Proofs.YthmjcjcamcdpkaaDoor
