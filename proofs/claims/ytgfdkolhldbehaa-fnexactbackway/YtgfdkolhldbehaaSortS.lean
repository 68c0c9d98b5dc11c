/- The specification's sorting of cells. -/
import Derived.Test.YtgfdkolhldbehaaAdd
namespace Go.Proofs.Ytgfdkolhldbehaa
open Go.RowKit
set_option linter.unusedVariables false

/-- The cells of l, each once, in order. -/
noncomputable def ordL (l : List Cl) : List Cl := open Classical in if h : ∃ l', risTo l' l'.length = true ∧ ∀ c, c ∈ l' ↔ c ∈ l then Classical.choose h else []
theorem ordL_eq {l l' : List Cl} (h1 : risTo l' l'.length = true) (h2 : ∀ c, c ∈ l' ↔ c ∈ l) : ordL l = l' := by
  unfold ordL
  have h : ∃ l', risTo l' l'.length = true ∧ ∀ c, c ∈ l' ↔ c ∈ l := ⟨l', h1, h2⟩
  rw [dif_pos h]
  exact ris_unique (Classical.choose_spec h).1 h1 (fun c => ((Classical.choose_spec h).2 c).trans (h2 c).symm)

set_option maxHeartbeats 1000000 in
theorem c_l1Sort (a : Option Addr) (l : List Cl) (ca : Nat) (w : World) (ha : Seg w a l) (hl : l.length ≤ 524288) :
    Calls Try.prog 77 #[.slice a l.length ca] w fun e w' => ∃ v l', e = .returned v ∧ OwnS w' w.heap.size v l' ∧ risTo l' l'.length = true ∧ (∀ c, c ∈ l' ↔ c ∈ l) ∧ l'.length ≤ l.length ∧ Below w.heap.size w w' := by
  go_enter Try.func77, Try.ntmps77
  go_wp2
  go_loopw [3, 8] (fun v i wr => ∃ (k : Nat) (m : List Cl), k ≤ l.length ∧ i = .int .i64 k ∧ OwnS wr w.heap.size v m ∧ risTo m m.length = true ∧ (∀ c, c ∈ m ↔ c ∈ l.take k) ∧ m.length ≤ k ∧ Below w.heap.size w wr) (fun _ i _ => l.length - (intOf i).toNat)
  case atStart => exact ⟨0, [], Nat.zero_le _, rfl, OwnS.nil _ _, rfl, fun c => by simp, by simp, Below.refl _ _⟩
  case round =>
    obtain ⟨k, m, hk, rfl, hSL, hris, hmem, hml, hbel⟩ := hrel
    have HR := hid hris
    have HM := hid hmem
    have HB := hid hbel
    have HSL := hid hSL
    clear hris hmem hSL
    by_cases hlt : k < l.length
    · obtain ⟨b1, o1, rfl, hb1, p1, p2⟩ := ha k hlt
      have g1 := (hbel.cell (p := ⟨b1, o1 + k * 2, none⟩) hb1).trans p1
      have g2 := (hbel.cell (p := ⟨b1, o1 + k * 2 + 1, none⟩) hb1).trans p2
      change _ = some (Value.int .i64 (at_ l k).1) at g1
      change _ = some (Value.int .i64 (at_ l k).2) at g2
      have HT := hid (take_snoc' hlt)
      generalize at_ l k = x at *
      clear p1 p2 hbel
      have q0 := cell_new0 wr (.int .i64 x.1) (.int .i64 x.2) 36
      have q1 := cell_new1 wr (.int .i64 x.1) (.int .i64 x.2) 36
      have HB1 := hid (HB.out.alloc HB.out.size (.cells #[.int .i64 x.1, .int .i64 x.2] 36))
      have HS1 := hid (HSL.out.below ((Below.refl wr.heap.size wr).alloc (Nat.le_refl _) (.cells #[.int .i64 x.1, .int .i64 x.2] 36)))
      go_wp2_with fail
      refine (c_l1AddO _ m x _ HS1.out.sl (by omega) HR.out).mono ?_
      rintro e w3 ⟨v3, m3, rfl, hS3, hW3, hb3, hO3⟩
      have HB3 := hid (HB1.out.trans (hb3.mono HB1.out.size))
      have HS3 : Hid (OwnS w3 w.heap.size v3 m3) := by
        rcases hO3 with h | ⟨rfl, rfl⟩
        · exact h.mono HB1.out.size
        · exact HS1.out.below hb3
      have HW3 := hid hW3
      clear hS3 hW3 hb3 hO3
      go_wp2
      go_roundw
      case rel => exact ⟨k + 1, m3, by omega, by go_num, HS3.out, HW3.out.1, fun c => by rw [HW3.out.2.1, HM.out, HT.out, List.mem_append, List.mem_singleton]; exact Or.comm, by have := HW3.out.2.2; omega, HB3.out⟩
      case measure => simp [intOf]; omega
    · clear hbel
      go_wp2
      go_ret
      have : k = l.length := by omega
      subst this
      exact ⟨_, m, rfl, HSL.out, HR.out, fun c => by rw [HM.out, List.take_length], hml, HB.out⟩

theorem SL.form {w : World} {v : Value} {l : List Cl} (h : SL w v l) : ∃ a ca, v = .slice a l.length ca ∧ Seg w a l ∧ (a = none → ca = 0) := by
  rcases h with ⟨rfl, rfl⟩ | ⟨g, o, ca, rfl, _, _, hs⟩
  · exact ⟨none, 0, rfl, fun i hi => by simp at hi, fun _ => rfl⟩
  · exact ⟨_, ca, rfl, hs, fun h => by cases h⟩

end Go.Proofs.Ytgfdkolhldbehaa
