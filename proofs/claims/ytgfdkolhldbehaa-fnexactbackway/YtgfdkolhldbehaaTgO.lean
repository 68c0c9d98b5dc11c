/- The turnings of ways: the program's turningsOf. -/
import Derived.Test.YtgfdkolhldbehaaTuB
namespace Go.Proofs.Ytgfdkolhldbehaa
open Go.RowKit
set_option linter.unusedVariables false
set_option linter.unusedSimpArgs false

/-- Ways, as the program's numbers. -/
def iw (ws : List Nat) : List Int := ws.map fun w : Nat => (w : Int)
theorem iw_at {ws : List Nat} {i : Nat} (h : i < ws.length) : ia (iw ws) i = ((ws.getD i 0 : Nat) : Int) := by simp [ia, iw, h]
theorem tnW_take {ws : List Nat} {k : Nat} (h : k < ws.length) : tnW (ws.take (k + 1)) = tnW (ws.take k) ++ [(Kd.mir, ws.getD k 0 / 4), (Kd.qtr, ws.getD k 0 % 4)] := by
  unfold tnW
  rw [List.take_succ_eq_append_getElem h, List.flatMap_append, show ws.getD k 0 = ws[k] by simp [h]]
  rfl
theorem tseg_two {w : World} {B : Nat} {q r : Nat} {fr : Nat × Nat} (hb : w.heap[B]? = some (.cells #[tnV .mir, .int .i64 (q : Int), tnV .qtr, .int .i64 (r : Int)] 119 fr)) : TSeg w (some ⟨B, 0, none⟩) [(.mir, q), (.qtr, r)] := by
  have hlt : B < w.heap.size := (Array.getElem?_eq_some_iff.1 hb).1
  intro i hi
  simp only [List.length_cons, List.length_nil] at hi
  rcases (show i = 0 ∨ i = 1 by omega) with rfl | rfl
  · refine ⟨B, 0, rfl, hlt, ?_, ?_, trivial⟩
    · unfold World.cell?; rw [hb]; rfl
    · unfold World.cell?; rw [hb]; rfl
  · refine ⟨B, 0, rfl, hlt, ?_, ?_, trivial⟩
    · unfold World.cell?; rw [hb]; rfl
    · unfold World.cell?; rw [hb]; rfl
theorem tnW_kinds (ws : List Nat) : ∀ t ∈ tnW ws, t.1 = .mir ∨ t.1 = .qtr := by
  intro t ht
  simp only [tnW, List.mem_flatMap, List.mem_cons, List.not_mem_nil, or_false] at ht
  obtain ⟨w, _, rfl | rfl⟩ := ht
  · exact .inl rfl
  · exact .inr rfl
theorem ta_mem {T : List Tn} {i : Nat} (h : i < T.length) : ta T i ∈ T := by simp [ta, h]
theorem tnW_ok (ws : List Nat) (W : World) : ∀ i, i < (tnW ws).length → KdOk W (ta (tnW ws) i).1 := by
  intro i hi
  rcases tnW_kinds ws _ (ta_mem hi) with h | h <;> rw [h] <;> trivial

set_option maxRecDepth 100000 in
set_option maxHeartbeats 4000000 in
theorem c_turningsOf (a : Option Addr) (ws : List Nat) (ca : Nat) (w : World) (ha : ISeg w a (iw ws)) (hl : ws.length ≤ 1000) (hw : ∀ x ∈ ws, x < 8) :
    Calls Try.prog 84 #[.slice a ws.length ca] w fun e w' => ∃ v, e = .returned v ∧ OwnT w' w.heap.size v (tnW ws) ∧ Below w.heap.size w w' := by
  have HA := hid ha
  have HW := hid (fun k (h : k < ws.length) => hw (ws.getD k 0) (by simp [h]))
  clear ha hw
  go_enter Try.func84, Try.ntmps84
  go_wp2_with fail
  go_loopw [3, 8] (fun v i wr => ∃ k : Nat, k ≤ ws.length ∧ i = .int .i64 k ∧ OwnT wr w.heap.size v (tnW (ws.take k)) ∧ Below w.heap.size w wr) (fun _ i _ => ws.length - (intOf i).toNat)
  case atStart => exact ⟨0, Nat.zero_le _, rfl, OwnT.nil _ _, Below.refl _ _⟩
  case round =>
    obtain ⟨k, hk, rfl, hO, hB⟩ := hrel
    have HO := hid hO
    have HB := hid hB
    clear hO hB
    by_cases hlt : k < ws.length
    · obtain ⟨b, o, rfl, hb, g⟩ := HA.out k (by simpa [iw] using hlt)
      replace g := (HB.out.cell (p := ⟨b, o + k, none⟩) hb).trans g
      rw [iw_at hlt] at g
      have HT := hid (tnW_take hlt)
      have HLn := hid (tnW_len (ws.take k))
      have hlk : (ws.take k).length ≤ 1000 := by rw [List.length_take]; omega
      have hx := HW.out k hlt
      generalize ws.getD k 0 = x at *
      obtain ⟨q, hq⟩ : ∃ q : Nat, q = x / 4 := ⟨_, rfl⟩
      obtain ⟨r, hr⟩ : ∃ r : Nat, r = x % 4 := ⟨_, rfl⟩
      rw [← hq, ← hr] at HT
      have e1 : (x : Int) / 4 = (q : Int) := by omega
      have e2 : (x : Int) % 4 = (r : Int) := by omega
      clear hq hr
      have BA := (Below.refl wr.heap.size wr).alloc (Nat.le_refl _) (.cells #[tnV .mir, .int .i64 (q : Int), tnV .qtr, .int .i64 (r : Int)] 119)
      have HO6 := hid (HO.out.below BA)
      have HB6 := hid (HB.out.trans (BA.mono HB.out.size))
      have HSg := hid (tseg_two (q := q) (r := r) (heap_alloc_new wr (.cells #[tnV .mir, .int .i64 (q : Int), tnV .qtr, .int .i64 (r : Int)] 119)))
      have hl1 := HLn.out
      clear BA
      dsimp only [tnV] at *
      go_wp2_with (at_builtin; refine wpList_appTg rfl _ _ rfl w.heap.size _ _ [(.mir, q), (.qtr, r)] _ 2 2 rfl HO6.out rfl rfl HSg.out (by simp; omega) HB6.out.size ?_; intro v' w5 hO5 hG5; have HB7 := hid (below_grownT HB6.out HO6.out hG5); have HO7 := hid hO5; clear hO5 hG5)
      go_roundw
      case rel => exact ⟨k + 1, by omega, by go_num, by rw [HT.out]; exact HO7.out, HB7.out⟩
      case measure => simp [intOf]; omega
    · obtain rfl : k = ws.length := by omega
      have HTT : Hid (ws.take ws.length = ws) := List.take_length
      go_wp2
      go_ret
      exact ⟨_, rfl, by rw [← HTT.out]; exact HO.out, HB.out⟩
end Go.Proofs.Ytgfdkolhldbehaa
