/- Texts of this seat, one behind the other: Meet. -/
import Derived.Test.YtgfdkolhldbehaaKa
import Derived.Deep.Cut
namespace Go.Proofs.Ytgfdkolhldbehaa
set_option linter.unusedVariables false
theorem meet_fun {R : Prop} (h : R) {l : List Value} {T : (Nat → Value) → Array Value} (e : Act.mk l.toArray [] = Act.mk (T (fun i => l.getD i (.bool false))) []) : ∃ f : Nat → Value, Act.mk l.toArray [] = Act.mk (T f) [] ∧ R := ⟨_, e, h⟩
end Go.Proofs.Ytgfdkolhldbehaa
