/- The signs of a text. -/
import Derived.Test.YthmjcjcamcdpkaaDoorTxt
namespace Go.Proofs.YthmjcjcamcdpkaaDoor
/-- The sign at a place of a text. -/
def byt (s : Tx) (i : Nat) : Nat := (s.data.getD i 0).toNat
theorem byt_get (s : Tx) (i : Nat) (h : i < s.size) : (s[i]'h).toNat = byt s i := by
  have h' : i < s.data.size := h
  simp only [byt, Array.getD, h', dif_pos]
  rfl
theorem byt_lt (s : Tx) (i : Nat) : byt s i < 256 := (s.data.getD i 0).toNat_lt
theorem byt_list (s : Tx) (i : Nat) (h : i < s.size) : s.data.toList[i]? = some (s.data.getD i 0) := by
  have h' : i < s.data.size := h
  rw [Array.getElem?_toList, Array.getElem?_eq_getElem h', Array.getD, dif_pos h']
  rfl
end Go.Proofs.YthmjcjcamcdpkaaDoor
