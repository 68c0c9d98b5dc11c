/- What is answered of a forest and a quad: plain. -/
import Derived.Test.YtnabgfbempkgnaaSTree
namespace Go.Proofs.Ytnabgfbempkgnaa
set_option linter.unusedVariables false

/-- What is answered where ok, of a forest and a quad. -/
def ansF (ok : Bool) (R : List Qd × Nat) : List Qd := if ok then tellF R.1 else []
def ansQ (ok : Bool) (R : List Qd × Nat) : Int := if ok then tellQ R.1 (R.2 : Int) else 0
def ansB (ok : Bool) (R : List Qd × Nat) : Bool := ok && tellB R.1
theorem ans_no (R : List Qd × Nat) : ansF false R = [] ∧ ansQ false R = 0 ∧ ansB false R = false := ⟨rfl, rfl, rfl⟩
theorem ans_yes (R : List Qd × Nat) : ansF true R = tellF R.1 ∧ ansQ true R = tellQ R.1 (R.2 : Int) ∧ ansB true R = tellB R.1 := ⟨rfl, rfl, rfl⟩
/-- Is there a quad of so great a level? -/
def quadB (F : List Qd) (q m : Int) : Bool := thereB F q && decide (m ≤ (qa F q.toNat).1)

end Go.Proofs.Ytnabgfbempkgnaa
