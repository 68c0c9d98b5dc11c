/- Rows and cells, there and back: plain facts. -/
import Derived.Test.YthmjcjcamcdpkaaDoorRowsOf
import Derived.Test.YthmjcjcamcdpkaaDoorOfRows
namespace Go.Proofs.YthmjcjcamcdpkaaDoor
set_option linter.unusedVariables false

theorem byt_row {l : List Cl} {y w i : Nat} (h : i < w) : byt (rowTx l y w) i = if sigB l y i then 35 else 46 := by
  have e : (rowTx l y w).data.getD i 0 = UInt8.ofNat (sigN l y i).toNat := by
    simp [rowTx, strOfNums, h]
  unfold byt
  rw [e]
  unfold sigN
  split <;> rfl
theorem signs_row (l : List Cl) (y w : Nat) : signsTo (rowTx l y w) w = true := by
  simp only [signsTo, List.all_eq_true, List.mem_range]
  intro i hi
  rw [byt_row hi]
  cases sigB l y i <;> simp
theorem mem_cellsTo {s : Tx} {y k : Nat} {c : Cl} : c ∈ cellsTo s y k ↔ ∃ i, i < k ∧ byt s i = 35 ∧ c = ((i : Int), (y : Int)) := by
  simp only [cellsTo, List.mem_map, List.mem_filter, List.mem_range, decide_eq_true_eq]
  exact ⟨fun ⟨i, ⟨h1, h2⟩, e⟩ => ⟨i, h1, h2, e.symm⟩, fun ⟨i, h1, h2, e⟩ => ⟨i, ⟨h1, h2⟩, e.symm⟩⟩
theorem mem_rowsTo {R : List Tx} {c : Cl} : ∀ k, c ∈ rowsTo R k ↔ ∃ y, y < k ∧ c ∈ cellsTo (tx R y) y (tx R y).size
  | 0 => by simp [rowsTo]
  | k + 1 => by
    simp only [rowsTo, List.mem_append]
    rw [mem_rowsTo k]
    constructor
    · rintro (⟨y, h1, h2⟩ | h)
      · exact ⟨y, by omega, h2⟩
      · exact ⟨k, by omega, h⟩
    · rintro ⟨y, h1, h2⟩
      by_cases e : y = k
      · subst e; exact .inr h2
      · exact .inl ⟨y, by omega, h2⟩
/-- The cells of the rows of cells are the cells within the rows. -/
theorem mem_back {l : List Cl} {w h : Nat} {c : Cl} : c ∈ rowsTo (rowsL l w h) h ↔ 0 ≤ c.1 ∧ c.1 < (w : Int) ∧ 0 ≤ c.2 ∧ c.2 < (h : Int) ∧ c ∈ l := by
  rw [mem_rowsTo]
  constructor
  · rintro ⟨y, hy, hc⟩
    rw [rowsL_at hy, rowTx_size] at hc
    obtain ⟨i, hi, hb, rfl⟩ := mem_cellsTo.1 hc
    rw [byt_row hi] at hb
    have hs : sigB l y i = true := by
      cases e : sigB l y i
      · rw [e] at hb; simp at hb
      · rfl
    refine ⟨by simp, by simp only; omega, by simp, by simp only; omega, ?_⟩
    simpa [sigB] using hs
  · rintro ⟨h1, h2, h3, h4, h5⟩
    obtain ⟨x, y⟩ := c
    simp only at h1 h2 h3 h4
    obtain ⟨i, rfl⟩ : ∃ i : Nat, x = (i : Int) := ⟨x.toNat, by omega⟩
    obtain ⟨j, rfl⟩ : ∃ j : Nat, y = (j : Int) := ⟨y.toNat, by omega⟩
    refine ⟨j, by omega, ?_⟩
    rw [rowsL_at (by omega), rowTx_size]
    refine mem_cellsTo.2 ⟨i, by omega, ?_, rfl⟩
    rw [byt_row (by omega)]
    have hs : sigB l j i = true := by simpa [sigB] using h5
    rw [hs]; rfl
theorem sig_back {l : List Cl} {w h y x : Nat} (hy : y < h) (hx : x < w) : sigB (rowsTo (rowsL l w h) h) y x = sigB l y x := by
  unfold sigB
  rw [Bool.eq_iff_iff, decide_eq_true_eq, decide_eq_true_eq, mem_back]
  constructor
  · intro h; exact h.2.2.2.2
  · intro hm; exact ⟨by simp, by simp only; omega, by simp, by simp only; omega, hm⟩
theorem rows_same {l m : List Cl} {w h : Nat} (hs : ∀ y x, y < h → x < w → sigB m y x = sigB l y x) : rowsL m w h = rowsL l w h := by
  unfold rowsL
  refine List.map_congr_left fun y hy => ?_
  have hy' : y < h := by simpa using hy
  unfold rowTx
  congr 1
  refine List.map_congr_left fun x hx => ?_
  have hx' : x < w := by simpa using hx
  unfold sigN
  rw [hs y x hy' hx']
/-- The rows of the cells of rows are those rows. -/
theorem rows_again (l : List Cl) (w h : Nat) : rowsL (rowsTo (rowsL l w h) h) w h = rowsL l w h := rows_same fun y x hy hx => sig_back hy hx
/-- What OfRows tells of the rows of cells, where it tells anything. -/
theorem ofRows_rows {l : List Cl} {x y : Int} (ho : rowsOfOk l x y = true) (hb : ofRowsOk (rowsOfL l x y) = true) :
    (∀ c, decide (c ∈ ofRowsL (rowsOfL l x y)) = (decide (0 ≤ c.1) && decide (c.1 < x) && (decide (0 ≤ c.2) && decide (c.2 < y)) && decide (c ∈ l))) ∧ rowsOfOk (ofRowsL (rowsOfL l x y)) x y = true ∧ rowsOfL (ofRowsL (rowsOfL l x y)) x y = rowsOfL l x y := by
  have h1 : rowsOfL l x y = rowsL l x.toNat y.toNat := by unfold rowsOfL; rw [if_pos ho]
  have ho' := ho
  unfold rowsOfOk at ho'
  simp only [Bool.and_eq_true] at ho'
  have hx := inS_bd ho'.1.2
  have hy := inS_bd ho'.2
  rw [h1] at hb ⊢
  have hb' := hb
  unfold ofRowsOk at hb'
  simp only [Bool.and_eq_true] at hb'
  have h2 : ofRowsL (rowsL l x.toNat y.toNat) = rowsTo (rowsL l x.toNat y.toNat) y.toNat := by
    unfold ofRowsL tellV
    rw [if_pos hb'.1, if_pos hb'.2, rowsL_length]
  rw [rowsL_length] at hb'
  rw [h2]
  have h3 : rowsOfOk (rowsTo (rowsL l x.toNat y.toNat) y.toNat) x y = true := by
    unfold rowsOfOk
    rw [hb'.2, ho'.1.2, ho'.2]
    rfl
  refine ⟨fun c => ?_, h3, ?_⟩
  · rw [Bool.eq_iff_iff]
    simp only [Bool.and_eq_true, decide_eq_true_eq]
    rw [mem_back]
    constructor
    · rintro ⟨a, b, c, d, e⟩; exact ⟨⟨⟨a, by omega⟩, c, by omega⟩, e⟩
    · rintro ⟨⟨⟨a, b⟩, c, d⟩, e⟩; exact ⟨a, by omega, c, by omega, e⟩
  · unfold rowsOfL
    rw [if_pos h3]
    exact rows_again l _ _
end Go.Proofs.YthmjcjcamcdpkaaDoor
