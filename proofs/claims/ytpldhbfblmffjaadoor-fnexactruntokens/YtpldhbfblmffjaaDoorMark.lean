/- Texts that are marked and found marked; how much texts hold together. -/
import Derived.Test.YtpldhbfblmffjaaDoorTxt
namespace Go.Proofs.YtpldhbfblmffjaaDoor
open Go.RowKit
set_option linter.unusedVariables false

/-- The text of one sign. -/
def sgn (n : Int) : Tx := strOfNums [n]
/-- The signs of k, put ahead of out. -/
def mtGo : Nat → Int → Tx → Tx
  | 0, _, out => out
  | f + 1, k, out => if 0 < k then mtGo f (k / 10) (sgn (48 + k % 10) ++ out) else out
/-- The text that k is marked with. -/
def mt (k : Int) : Tx := (⟨#[109]⟩ : Tx) ++ mtGo k.toNat k ⟨#[]⟩

theorem sgn_size (n : Int) : (sgn n).size = 1 := by simp [sgn, strOfNums_size]

theorem conv_one (n : Int) (W : World) :
    (convert 58 9 (.slice (some ⟨W.heap.size, 0, none⟩) 1 1)).run Tryd.prog (W.alloc (.cells #[.int .u8 n] 5)) = .ok (.string (sgn n)) (W.alloc (.cells #[.int .u8 n] 5)) := by
  refine run_convert_bytes_arg _ 58 5 Tryd.underlying58 Tryd.underlying5 _ 0 1 1 [n] rfl (fun i hi => ?_) 9 Tryd.underlying9
  have h0 : i = 0 := by omega
  subst h0
  unfold World.cell?; rw [heap_alloc_new]; rfl

set_option maxHeartbeats 400000 in
theorem c_markText (k : Int) (k0 : 0 < k) (k1 : k ≤ 67108864) (w : World) :
    Calls Tryd.prog 34 #[.int .i64 k] w fun e w' => e = .returned (.string (mt k)) ∧ Below w.heap.size w w' := by
  go_enter Tryd.func34, Tryd.ntmps34
  go_wp2
  go_loopw [0, 3] (fun s o wr => ∃ (j : Int) (out : Tx) (f : Nat), s = .int .i64 j ∧ o = .string out ∧ 0 ≤ j ∧ j ≤ k ∧ j.toNat ≤ f ∧ Hid (mtGo f j out = mtGo k.toNat k ⟨#[]⟩) ∧ (out.size : Int) + j ≤ k ∧ Below w.heap.size w wr) (fun s _ _ => (intOf s).toNat)
  case atStart => exact ⟨k, ⟨#[]⟩, k.toNat, rfl, rfl, by omega, by omega, Nat.le_refl _, (rfl : _ = _), by simp [ByteArray.size], Below.refl _ _⟩
  case round =>
    obtain ⟨j, out, f, rfl, rfl, hj0, hjk, hf, hM, hs, hbel⟩ := hrel
    by_cases hpos : 0 < j
    · have hcv := fun (n : Int) (W : World) => conv_one n W
      have hB := hid hbel
      have hsz : ¬ 9223372036854775807 < ByteArray.size (sgn (48 + j % 10)) + ByteArray.size out := by rw [sgn_size]; omega
      clear hbel
      go_wp2
      go_roundw
      case rel =>
        obtain ⟨g, rfl⟩ : ∃ g, f = g + 1 := ⟨f - 1, by omega⟩
        refine ⟨j / 10, _, g, rfl, rfl, by omega, by omega, by omega, ?_, ?_, hB.out.alloc hB.out.size _⟩
        · show _ = _
          rw [← hM.out]
          simp [mtGo, hpos]
        · rw [ByteArray.size_append', sgn_size]
          omega
      case measure => simp [intOf]; omega
    · obtain rfl : j = 0 := by omega
      have e1 : mtGo f 0 out = out := by cases f <;> simp [mtGo]
      have hsz : ¬ 9223372036854775807 < ByteArray.size (⟨#[109]⟩ : Tx) + ByteArray.size out := by
        have : ByteArray.size (⟨#[109]⟩ : Tx) = 1 := rfl
        rw [this]; omega
      have HO : Hid (out = mtGo k.toNat k ⟨#[]⟩) := by
        have := hM.out
        rw [e1] at this
        exact this
      clear hM e1
      go_wp2
      go_ret
      refine ⟨?_, hbel⟩
      unfold mt
      rw [← HO.out]
      rfl

theorem mt_size_aux (f : Nat) (k : Int) (out : Tx) : (mtGo f k out).size ≤ f + out.size := by
  induction f generalizing k out with
  | zero => simp [mtGo]
  | succ f ih =>
    unfold mtGo
    split
    · have := ih (k / 10) (sgn (48 + k % 10) ++ out)
      rw [ByteArray.size_append', sgn_size] at this
      omega
    · omega

/-- Marks of texts. -/
def marksT (k : Int) (n : Nat) : List Tx := (List.range n).map fun i : Nat => mt (k + (i : Int))
theorem marksT_length (k : Int) (n : Nat) : (marksT k n).length = n := by simp [marksT]
theorem marksT_at {k : Int} {n i : Nat} (h : i < n) : tx (marksT k n) i = mt (k + (i : Int)) := by simp [tx, marksT, h]

theorem c_markT_nil (ca : Nat) (a : Option Addr) (k : Int) (w : World) :
    Calls Tryd.prog 19 #[.slice a 0 ca, .int .i64 k] w fun e w' => e = .returned (.int .i64 k) ∧ w' = w := by
  go_enter Tryd.func19, Tryd.ntmps19
  go_wp2
  refine wp_loop_rounds 1 ?_
  rw [rounds_succ]
  go_wp2
  go_ret
  exact ⟨rfl, rfl⟩

set_option maxHeartbeats 400000 in
theorem c_markT_some (g ca base : Nat) (L : List Tx) (k : Int) (w : World) (h : OwnT w base (.slice (some ⟨g, 0, none⟩) L.length ca) L) (hl : L.length ≤ 1048576) (k0 : 0 < k) (k1 : k ≤ 16777216) :
    Calls Tryd.prog 19 #[.slice (some ⟨g, 0, none⟩) L.length ca, .int .i64 k] w fun e w' => e = .returned (.int .i64 (k + (L.length : Int))) ∧ OwnT w' base (.slice (some ⟨g, 0, none⟩) L.length ca) (marksT k L.length) ∧ w.grownBy w' (some g) := by
  have H := hid h
  have hml := marksT_length k L.length
  have HML := hid hml
  clear h hml
  go_enter Tryd.func19, Tryd.ntmps19
  go_wp2
  go_loopw [1, 5] (fun s i wr => ∃ j : Nat, j ≤ L.length ∧ i = .int .i64 j ∧ s = .int .i64 (k + (j : Int)) ∧ OwnT wr base (.slice (some ⟨g, 0, none⟩) L.length ca) (setTo (marksT k L.length) L j) ∧ w.grownBy wr (some g)) (fun _ i _ => L.length - (intOf i).toNat)
  case atStart => exact ⟨0, Nat.zero_le _, rfl, by simp, by rw [setTo_zero]; exact H.out, grown_refl _ _⟩
  case round =>
    clear H
    obtain ⟨j, hj, rfl, rfl, hO, hG⟩ := hrel
    by_cases hlt : j < L.length
    · have HO := hid hO
      have HG := hid hG
      have HM := hid (marksT_at (k := k) hlt)
      have j0 : (0 : Int) ≤ (j : Int) := by omega
      have j1 : (j : Int) < (L.length : Int) := by omega
      clear hO hG
      go_wp2_with (go_at_call 34; refine (c_markText (k + (j : Int)) (by omega) (by omega) _).mono ?_; rintro e w1 ⟨rfl, hb1⟩; have ho1 := HO.out.below hb1; have c1 := (ownT_cell ho1 HML.out hlt).1; have f1 := (ownT_cell ho1 HML.out hlt).2; have S1 := hid (ownT_store ho1 HML.out hlt); rw [HM.out] at S1)
      go_roundw
      case rel => exact ⟨j + 1, by omega, by go_num, by go_num, S1.out.1, grown_trans HG.out (grown_trans (grown_of_below hb1 (some g)) S1.out.2)⟩
      case measure => simp [intOf]; omega
    · go_wp2
      go_ret
      obtain rfl : j = L.length := by omega
      rw [setTo_all HML.out] at hO
      exact ⟨rfl, hO, hG⟩

/-- Marking texts, whatever slice. -/
theorem c_markT (a : Option Addr) (ca base : Nat) (L : List Tx) (k : Int) (w : World) (h : OwnT w base (.slice a L.length ca) L) (hl : L.length ≤ 1048576) (k0 : 0 < k) (k1 : k ≤ 16777216) :
    Calls Tryd.prog 19 #[.slice a L.length ca, .int .i64 k] w fun e w' => e = .returned (.int .i64 (k + (L.length : Int))) ∧ OwnT w' base (.slice a L.length ca) (marksT k L.length) ∧ w.grownBy w' ((Value.slice a L.length ca).ownBlock) := by
  rcases h.2 with ⟨e, hn⟩ | ⟨g, cap, cur, e, _⟩
  · have hl0 : L = [] := List.eq_nil_of_length_eq_zero hn
    subst hl0
    simp only [List.length_nil, Value.slice.injEq] at e ⊢
    refine (c_markT_nil ca a k w).mono fun e w' ⟨he, hw⟩ => ⟨by rw [he]; simp, ?_, by rw [hw]; exact grown_refl _ _⟩
    rw [hw]; exact h
  · simp only [Value.slice.injEq, true_and] at e
    obtain ⟨rfl, rfl⟩ := e
    exact c_markT_some g ca base L k w h hl k0 k1

set_option maxHeartbeats 400000 in
/-- Texts that were marked are found so. -/
theorem c_heldT (a : Option Addr) (ca n : Nat) (k : Int) (w : World) (ha : TSeg w a (marksT k n)) (hn : n ≤ 1048576) (k0 : 0 < k) (k1 : k ≤ 16777216) :
    Calls Tryd.prog 20 #[.slice a n ca, .int .i64 k] w fun e w' => e = .returned (.int .i64 (k + (n : Int))) ∧ Below w.heap.size w w' := by
  go_enter Tryd.func20, Tryd.ntmps20
  go_wp2
  go_loopw [1, 5] (fun s i wr => ∃ j : Nat, j ≤ n ∧ i = .int .i64 j ∧ s = .int .i64 (k + (j : Int)) ∧ Below w.heap.size w wr) (fun _ i _ => n - (intOf i).toNat)
  case atStart => exact ⟨0, Nat.zero_le _, rfl, by simp, Below.refl _ _⟩
  case round =>
    obtain ⟨j, hj, rfl, rfl, hbel⟩ := hrel
    by_cases hlt : j < n
    · obtain ⟨b1, o1, rfl, hb1, p1⟩ := ha j (by rw [marksT_length]; exact hlt)
      rw [marksT_at hlt] at p1
      have hw1 : b1 < wr.heap.size := Nat.lt_of_lt_of_le hb1 hbel.size
      have g1 := fun g : Gr wr => g.cell ((hbel.cell (p := ⟨b1, o1 + j, none⟩) hb1).trans p1) hw1
      clear p1
      have j0 : (0 : Int) ≤ (j : Int) := by omega
      have j1 : (j : Int) < (n : Int) := by omega
      have x1 : ((mt (k + (j : Int))).toList == (mt (k + (j : Int))).toList) = true := by simp
      have HB := hid hbel
      clear hbel
      go_wp2
      refine wp_region_gr (by kernel_rfl) (by kernel_rfl) ?_
      repeat (go_big_quiet_step (first | (go_at_call 34; exact Calls.gr _ (c_markText (k + (j : Int)) (by omega) (by omega) _)) | exact rfl))
      refine wpQuiet_nil ?_
      rintro _ ⟨g, rfl⟩
      clear g1
      go_wp2
      go_roundw
      case rel => exact ⟨j + 1, by omega, by go_num, by go_num, HB.out.trans (g.below.mono HB.out.size)⟩
      case measure => simp [intOf]; omega
    · go_wp2
      go_ret
      obtain rfl : j = n := by omega
      exact ⟨rfl, hbel⟩

end Go.Proofs.YtpldhbfblmffjaaDoor
