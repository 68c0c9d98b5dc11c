/- Texts that are marked and found marked; how much texts hold together. -/
import Derived.Test.YthmjcjcamcdpkaaDoorTxt
namespace Go.Proofs.YthmjcjcamcdpkaaDoor
open Go.RowKit
set_option linter.unusedVariables false

/-- The text of one sign. -/
def sgn (n : Int) : Tx := strOfNums [n]
/-- The signs of k, put ahead of out. -/
def mtGo : Nat → Int → Tx → Tx
  | 0, _, out => out
  | f + 1, k, out => if 0 < k then mtGo f (k / 10) (sgn (48 + k % 10) ++ out) else out
/-- The text that k is marked with. -/
def mt (k : Int) : Tx := (⟨#[109]⟩ : Tx) ++ mtGo k.toNat k ⟨#[]⟩

theorem sgn_size (n : Int) : (sgn n).size = 1 := by simp [sgn, strOfNums_size]

theorem conv_one (n : Int) (W : World) :
    (convert 22 9 (.slice (some ⟨W.heap.size, 0, none⟩) 1 1)).run Tryd.prog (W.alloc (.cells #[.int .u8 n] 5)) = .ok (.string (sgn n)) (W.alloc (.cells #[.int .u8 n] 5)) := by
  refine run_convert_bytes_arg _ 22 5 Tryd.underlying22 Tryd.underlying5 _ 0 1 1 [n] rfl (fun i hi => ?_) 9 Tryd.underlying9
  have h0 : i = 0 := by omega
  subst h0
  unfold World.cell?; rw [heap_alloc_new]; rfl

theorem mt_size_aux (f : Nat) (k : Int) (out : Tx) : (mtGo f k out).size ≤ f + out.size := by
  induction f generalizing k out with
  | zero => simp [mtGo]
  | succ f ih =>
    unfold mtGo
    split
    · have := ih (k / 10) (sgn (48 + k % 10) ++ out)
      rw [ByteArray.size_append', sgn_size] at this
      omega
    · omega

/-- Marks of texts. -/
def marksT (k : Int) (n : Nat) : List Tx := (List.range n).map fun i : Nat => mt (k + (i : Int))
theorem marksT_length (k : Int) (n : Nat) : (marksT k n).length = n := by simp [marksT]
theorem marksT_at {k : Int} {n i : Nat} (h : i < n) : tx (marksT k n) i = mt (k + (i : Int)) := by simp [tx, marksT, h]

end Go.Proofs.YthmjcjcamcdpkaaDoor
