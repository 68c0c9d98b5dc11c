/- A slice of texts that came in, opened: the list of texts that it holds; how much they hold together. -/
import Derived.Test.YtpldhbfblmffjaaOpen
import Derived.Test.YtpldhbfblmffjaaTxt
import Derived.Deep.Strs
namespace Go.Proofs.Ytpldhbfblmffjaa
open Go.RowKit Go.ChangeShapes Go.WideShapes Go.ChangeAt Go.Deep Go.Joins
set_option linter.unusedVariables false

theorem cells_string : Try.prog.cellsOf 9 = 1 := by kernel_rfl

/-- A slice of texts that came in. -/
theorem open_texts {H : Type} {enc : TypeId × Value → H} {W : World} {base fuel : Nat} {spare : Nat → Bool} {held : Bool} {a : Option Addr} {len cap : Nat} {x : DataW H × List MemPlace}
    (h : DataW.trod enc Try.prog W base spare held fuel 24 [.slice a len cap] = some x) : ∃ L : List Tx, L.length = len ∧ L.length ≤ maxLen ∧ TSeg W a L ∧ ∀ i, i < L.length → (tx L i).size ≤ maxLen := by
  rcases open_strs Try.underlying24 Try.underlying9 cells_string h with ⟨hcs, _⟩ | ⟨ad, len', cap', m, Sx, hcs, _, hl, hm, hmm, _, hc⟩
  · simp at hcs
    obtain ⟨rfl, rfl, rfl⟩ := hcs
    exact ⟨[], rfl, by simp [maxLen], fun i hi => by simp at hi, fun i hi => by simp at hi⟩
  · simp at hcs
    obtain ⟨rfl, rfl, rfl⟩ := hcs
    have hlm : len ≤ m := by rw [hmm]; split <;> omega
    refine ⟨(List.range len).map Sx, by simp, by simp; omega, fun i hi => ?_, fun i hi => ?_⟩
    · simp at hi
      obtain ⟨c0, _⟩ := hc i (by omega)
      obtain ⟨c00, _⟩ := hc 0 (by omega)
      obtain ⟨b, o, spot⟩ := ad
      have hspot : spot = none := by simpa [Addr.add] using World.cell?_spot c00
      subst hspot
      rw [add_plain] at c0
      have hlt := lt_of_cell c0
      refine ⟨b, o, rfl, hlt, ?_⟩
      rw [c0]; simp [tx, hi]
    · simp at hi
      have := (hc i (by omega)).2
      simpa [tx, hi] using this

/-- How much the first k texts hold together. -/
def totTo (L : List Tx) : Nat → Nat
  | 0 => 0
  | k + 1 => totTo L k + (tx L k).size
theorem totTo_mono (L : List Tx) {j k : Nat} (h : j ≤ k) : totTo L j ≤ totTo L k := by
  induction k with
  | zero => have : j = 0 := by omega
            subst this; exact Nat.le_refl _
  | succ k ih =>
    by_cases e : j = k + 1
    · rw [e]; exact Nat.le_refl _
    · have := ih (by omega)
      simp only [totTo]; omega
theorem totTo_le (L : List Tx) {k n : Nat} (h : k < n) : (tx L k).size ≤ totTo L n := by
  have := totTo_mono L (show k + 1 ≤ n by omega)
  simp only [totTo] at this; omega
/-- All that texts hold. -/
def tot (L : List Tx) : Nat := L.length + totTo L L.length

/-- What is left. -/
def leftT (L : List Tx) : Int := if tot L ≤ 1048576 then 1048576 - (tot L : Int) else -1

set_option maxHeartbeats 400000 in
theorem c_szStringS (a : Option Addr) (L : List Tx) (ca : Nat) (w : World) (ha : TSeg w a L) (hm : L.length ≤ maxLen) (hs : ∀ i, i < L.length → (tx L i).size ≤ maxLen) :
    Calls Try.prog 14 #[.slice a L.length ca, .int .i64 1048576] w fun e w' => e = .returned (.int .i64 (leftT L)) ∧ w' = w := by
  unfold maxLen at hm hs
  by_cases hL : (L.length : Int) ≤ 1048576
  · go_enter Try.func14, Try.ntmps14
    have h0 : ¬ 1048576 - (L.length : Int) < 0 := by omega
    go_wp2
    go_loop [1, 5] (fun s i => ∃ j : Nat, j ≤ L.length ∧ i = .int .i64 j ∧ s = .int .i64 (1048576 - (L.length : Int) - (totTo L j : Int)) ∧ (L.length : Int) + (totTo L j : Int) ≤ 1048576) (fun _ i => L.length - (intOf i).toNat)
    case atStart => exact ⟨0, Nat.zero_le _, rfl, by simp [totTo], by simp [totTo]; omega⟩
    case round =>
      obtain ⟨j, hj, rfl, rfl, hT⟩ := hrel
      by_cases hlt : j < L.length
      · obtain ⟨b1, o1, rfl, hb1, p1⟩ := ha j hlt
        have hsj := hs j hlt
        have HS := hid (show totTo L (j + 1) = totTo L j + (tx L j).size from rfl)
        have HM := hid (totTo_mono L (show j + 1 ≤ L.length by omega))
        have j0 : (0 : Int) ≤ (j : Int) := by omega
        have j1 : (j : Int) < (L.length : Int) := by omega
        generalize totTo L j = T at *
        by_cases hgo : (L.length : Int) + (T : Int) + ((tx L j).size : Int) ≤ 1048576
        · have e1 : ¬ 1048576 - (L.length : Int) - (T : Int) - ((tx L j).size : Int) < 0 := by omega
          go_wp2
          go_round
          case rel => exact ⟨j + 1, by omega, by go_num, by rw [HS.out]; go_num, by rw [HS.out]; omega⟩
          case measure => simp [intOf]; omega
        · have e1 : 1048576 - (L.length : Int) - (T : Int) - ((tx L j).size : Int) < 0 := by omega
          go_wp2
          go_ret
          have hbig : ¬ tot L ≤ 1048576 := by unfold tot; have := HM.out; rw [HS.out] at this; omega
          exact ⟨by simp [leftT, hbig], rfl⟩
      · go_wp2
        go_ret
        obtain rfl : j = L.length := by omega
        have hsm : tot L ≤ 1048576 := by unfold tot; omega
        exact ⟨by simp only [leftT, if_pos hsm]; unfold tot; exact ret_int (by omega), rfl⟩
  · have h0 : 1048576 - (L.length : Int) < 0 := by omega
    go_enter Try.func14, Try.ntmps14
    go_wp2
    go_ret
    have hbig : ¬ tot L ≤ 1048576 := by unfold tot; omega
    exact ⟨by simp [leftT, hbig], rfl⟩
end Go.Proofs.Ytpldhbfblmffjaa
