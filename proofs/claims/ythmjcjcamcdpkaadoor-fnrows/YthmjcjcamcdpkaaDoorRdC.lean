/- The tokens of a text that is read, one behind the other, are the text. -/
import Derived.Test.YthmjcjcamcdpkaaDoorRunTok
namespace Go.Proofs.YthmjcjcamcdpkaaDoor
set_option linter.unusedVariables false

/-- Texts, one behind the other. -/
def catT (T : List Tx) : List UInt8 := T.flatMap fun t => t.data.toList
theorem catT_snoc (T : List Tx) (t : Tx) : catT (T ++ [t]) = catT T ++ t.data.toList := by simp [catT]
theorem scan_ge (s : Tx) : ∀ f k, k ≤ scan s f k
  | 0, k => Nat.le_refl _
  | f + 1, k => by
    unfold scan
    split
    · exact Nat.le_trans (Nat.le_succ k) (scan_ge s f (k + 1))
    · exact Nat.le_refl _
theorem take_piece {s : Tx} {a k : Nat} (h : a ≤ k) : s.data.toList.take a ++ (piece s a k).data.toList = s.data.toList.take k := by
  show s.data.toList.take a ++ ((s.data.toList.drop a).take (k - a)).toArray.toList = _
  rw [List.toList_toArray, ← List.take_append_drop a (s.data.toList.take k), List.take_take, Nat.min_eq_left h, List.drop_take]
theorem rd_cat (s : Tx) : ∀ f a x y l T, (rd s f a x y l T).2.2 = 0 → catT T = s.data.toList.take a → catT (rd s f a x y l T).2.1 = s.data.toList
  | 0, a, x, y, l, T, h, _ => by simp [rd] at h
  | f + 1, a, x, y, l, T, h, hT => by
    by_cases ha : a < s.size
    · have hge : a ≤ sc s a := scan_ge s _ a
      have hc : catT (T ++ [piece s a (sc s a + 1)]) = s.data.toList.take (sc s a + 1) := by
        rw [catT_snoc, hT, take_piece (by omega)]
      obtain ⟨hp, _, ⟨he, e⟩ | ⟨x', y', l', e⟩⟩ := rd_goes ha rfl h
      · rw [e, hc]
        have hl : s.data.toList.length = s.size := by cases s; rfl
        exact List.take_of_length_le (by omega)
      · rw [e] at h ⊢
        exact rd_cat s f _ _ _ _ _ h hc
    · rw [rd_stop ha] at h
      cases h
theorem tok_cat {s : Tx} (h : ofOk s = true) : catT (tokT s) = s.data.toList := by
  have h' := h
  simp only [ofOk, Bool.and_eq_true, decide_eq_true_eq] at h'
  unfold tokT
  rw [if_pos h]
  exact rd_cat s _ _ _ _ _ _ h'.1.2 rfl
end Go.Proofs.YthmjcjcamcdpkaaDoor
