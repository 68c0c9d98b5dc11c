/- A forest that came in, opened; how much it holds. -/
import Derived.Test.YtmapbkefndbnnaaQuadT
import Derived.Test.YtmapbkefndbnnaaOpen
import Derived.ChangeSlices
import Derived.ChangeSame
namespace Go.Proofs.Ytmapbkefndbnnaa
open Go.RowKit Go.ChangeShapes Go.WideShapes Go.ChangeAt Go.Deep Go.Joins
set_option linter.unusedVariables false
attribute [local go_sem ↓] Go.wp_at_zero Go.wp_at_succ

theorem und_Quad : ∃ f0 f1 : Field, Try.prog.underlying 159 = some (.struct #[f0, f1]) ∧ f0.offset = 0 ∧ f1.offset = 1 ∧ f0.type = 3 ∧ f1.type = 47 :=
  ⟨_, _, Try.underlying159, rfl, rfl, rfl, rfl⟩
theorem und_Forest : ∃ f0 : Field, Try.prog.underlying 73 = some (.struct #[f0]) ∧ f0.offset = 0 ∧ f0.type = 71 :=
  ⟨_, Try.underlying73, rfl, rfl⟩
theorem cells_Quad : Try.prog.cellsOf 159 = 2 := by kernel_rfl
theorem cells_Forest : Try.prog.cellsOf 73 = 1 := by kernel_rfl
theorem cells_Ints : Try.prog.cellsOf 47 = 1 := by kernel_rfl
theorem cells_Quads : Try.prog.cellsOf 71 = 1 := by kernel_rfl

/-- A slice of numbers that came in. -/
theorem open_nums {H : Type} {enc : TypeId × Value → H} {W : World} {base fuel : Nat} {spare : Nat → Bool} {held : Bool} {v : Value} {x : DataW H × List MemPlace}
    (h : DataW.trod enc Try.prog W base spare held fuel 47 [v] = some x) : ∃ (a : Option Addr) (l : List Int) (cap : Nat), v = .slice a l.length cap ∧ l.length ≤ maxLen ∧ l.length ≤ cap ∧ ISeg W a l := by
  rcases open_ints Try.underlying47 Try.underlying3 cells_int h with ⟨hcs, _⟩ | ⟨ad, len', cap', zs, hcs, _, hl, hm, hz, _, hc, hw⟩
  · simp at hcs
    exact ⟨none, [], 0, hcs, by simp [maxLen], by simp, fun i hi => by simp at hi⟩
  · simp at hcs
    have hlm : len' ≤ zs.length := by rw [hz]; split <;> omega
    refine ⟨some ad, zs.take len', cap', by rw [hcs]; simp; omega, by simp; omega, by simp; omega, fun i hi => ?_⟩
    have hi' : i < len' := by simp at hi; omega
    have c0 := hc i (by omega)
    have c00 := hc 0 (by omega)
    obtain ⟨b, o, spot⟩ := ad
    have hspot : spot = none := by simpa [Addr.add] using World.cell?_spot c00
    subst hspot
    rw [add_plain] at c0
    have hlt := lt_of_cell c0
    have hget : ia (zs.take len') i = zs.getD i 0 := by
      unfold ia
      rw [List.getD_eq_getElem?_getD, List.getD_eq_getElem?_getD, List.getElem?_take_of_lt hi']
    exact ⟨b, o, rfl, hlt, by rw [hget]; exact c0⟩

/-- A slice of quads that came in. -/
theorem open_quads {H : Type} {enc : TypeId × Value → H} {W : World} {base fuel : Nat} {spare : Nat → Bool} {held : Bool} {v : Value} {x : DataW H × List MemPlace}
    (h : DataW.trod enc Try.prog W base spare held fuel 71 [v] = some x) : ∃ (a : Option Addr) (F : List Qd) (cap : Nat), v = .slice a F.length cap ∧ F.length ≤ maxLen ∧ (∀ i, i < F.length → (qa F i).2.length ≤ maxLen) ∧ QSeg W a F := by
  obtain ⟨f0, f1, he, o0, o1, t0, t1⟩ := und_Quad
  rcases open_slice_pairs Try.underlying71 he cells_Quad o0 o1 (by rw [t0]; exact cells_int) (by rw [t1]; exact cells_Ints) h with ⟨hcs, _⟩ | ⟨ad, len, cap', m, n, V0, V1, D0, D1, P0, P1, hcs, _, hl, hm, hmm, _, hc⟩
  · simp at hcs
    exact ⟨none, [], 0, hcs, by simp [maxLen], fun i hi => by simp at hi, fun i hi => by simp at hi⟩
  · simp at hcs
    have hlm : len ≤ m := by rw [hmm]; split <;> omega
    have each : ∀ i, i < len → ∃ q : Qd × Option Addr × Nat, V0 i = .int .i64 q.1.1 ∧ V1 i = .slice q.2.1 q.1.2.length q.2.2 ∧ q.1.2.length ≤ maxLen ∧ q.1.2.length ≤ q.2.2 ∧ ISeg W q.2.1 q.1.2 := by
      intro i hi
      obtain ⟨_, _, r0, r1⟩ := hc i (by omega)
      rw [t0] at r0
      rw [t1] at r1
      obtain ⟨n0, e0, _⟩ := DataW.trod_int Try.underlying3 r0
      simp at e0
      obtain ⟨a, l, c, e1, h1, h2, h3⟩ := open_nums r1
      exact ⟨((n0, l), a, c), e0, e1, h1, h2, h3⟩
    obtain ⟨q, hq⟩ := choose_lt each
    have hqa : ∀ i, i < len → qa ((List.range len).map fun i => (q i).1) i = (q i).1 := by
      intro i hi
      simp [qa, hi]
    refine ⟨some ad, (List.range len).map fun i => (q i).1, cap', by rw [hcs]; simp, by simp; omega, fun i hi => ?_, fun i hi => ?_⟩
    · simp at hi
      rw [hqa i hi]
      exact (hq i hi).2.2.1
    · simp at hi
      obtain ⟨c0, c1, _, _⟩ := hc i (by omega)
      obtain ⟨c00, _, _, _⟩ := hc 0 (by omega)
      obtain ⟨b, o, spot⟩ := ad
      have hspot : spot = none := by simpa [Addr.add] using World.cell?_spot c00
      subst hspot
      rw [add_plain] at c0 c1
      have hlt := lt_of_cell c0
      rw [hqa i hi]
      refine ⟨b, o, (q i).2.1, (q i).2.2, rfl, hlt, ?_, ?_, (hq i hi).2.2.2.2, (hq i hi).2.2.2.1⟩
      · rw [c0, (hq i hi).1]
      · rw [show o + i * 2 + 1 = o + (i * 2 + 1) by omega, c1, (hq i hi).2.1]

set_option maxRecDepth 100000 in
/-- A forest that came in. -/
theorem open_forest {H : Type} {enc : TypeId × Value → H} {W : World} {base base' : Nat} {spare : Nat → Bool} {held : Bool} {v : Value} {d : DataW H} {p : List MemPlace}
    (hval : Value.okWide Try.prog W .any base' 73 v) (h : DataW.Trod enc Try.prog W base spare held 73 v d p) :
    ∃ (a : Option Addr) (F : List Qd) (cap : Nat), v = .agg #[.slice a F.length cap] ∧ F.length ≤ maxLen ∧ (∀ i, i < F.length → (qa F i).2.length ≤ maxLen) ∧ QSeg W a F := by
  obtain ⟨f0, hu, o0, t0⟩ := und_Forest
  obtain ⟨cs, rfl, hsz⟩ := okWide_struct hu hval
  have hsz' : cs.size = 1 := hsz.trans cells_Forest
  obtain ⟨c0, rfl⟩ : ∃ c0, cs = #[c0] := by
    obtain ⟨l⟩ := cs
    match l, hsz' with
    | [u], _ => exact ⟨u, rfl⟩
  obtain ⟨fuel, hf⟩ := h
  obtain ⟨y0, n, hx, _, h0⟩ := trod_struct1 hu hf
  rw [t0, o0, cells_Quads] at h0
  simp [Value.cells] at h0
  obtain ⟨a, F, cap, rfl, h1, h2, h3⟩ := open_quads h0
  exact ⟨a, F, cap, rfl, h1, h2, h3⟩

/-- How many kids the first k quads have. -/
def kidTo (F : List Qd) : Nat → Nat
  | 0 => 0
  | k + 1 => kidTo F k + (qa F k).2.length
theorem kidTo_mono (F : List Qd) {j k : Nat} (h : j ≤ k) : kidTo F j ≤ kidTo F k := by
  induction k with
  | zero => have : j = 0 := by omega
            subst this; exact Nat.le_refl _
  | succ k ih =>
    by_cases e : j = k + 1
    · rw [e]; exact Nat.le_refl _
    · have := ih (by omega)
      simp only [kidTo]; omega
def totQ (F : List Qd) : Nat := F.length + kidTo F F.length
def leftQ (F : List Qd) : Int := if totQ F ≤ 1048576 then 1048576 - (totQ F : Int) else -1
theorem totQ_kids {F : List Qd} (h : totQ F ≤ 1048576) : KidsLe F ∧ F.length ≤ 1048576 := by
  unfold totQ at h
  refine ⟨fun i hi => ?_, by omega⟩
  have := kidTo_mono F (show i + 1 ≤ F.length by omega)
  simp only [kidTo] at this
  omega

set_option maxHeartbeats 400000 in
theorem c_szIntS (a : Option Addr) (n ca : Nat) (L : Int) (w : World) (hn : n ≤ 9223372036854775807) (h0 : 0 ≤ L) (h1 : L ≤ 1048576) :
    Calls Try.prog 153 #[.slice a n ca, .int .i64 L] w fun e w' => e = .returned (.int .i64 (if (n : Int) ≤ L then L - n else -1)) ∧ w' = w := by
  by_cases h : (n : Int) ≤ L
  · have h2 : ¬ L - (n : Int) < 0 := by omega
    go_enter Try.func153, Try.ntmps153
    go_wp2
    go_ret
    exact ⟨ret_int (by first | rfl | (split <;> omega)), rfl⟩
  · have h2 : L - (n : Int) < 0 := by omega
    go_enter Try.func153, Try.ntmps153
    go_wp2
    go_ret
    exact ⟨ret_int (by first | rfl | (split <;> omega)), rfl⟩

set_option maxHeartbeats 400000 in
theorem c_szQuad (q : Qd) (a : Option Addr) (ca : Nat) (L : Int) (w : World) (hn : q.2.length ≤ 9223372036854775807) (h0 : 0 ≤ L) (h1 : L ≤ 1048576) :
    Calls Try.prog 144 #[.agg #[.int .i64 q.1, .slice a q.2.length ca], .int .i64 L] w fun e w' => e = .returned (.int .i64 (if (q.2.length : Int) ≤ L then L - q.2.length else -1)) ∧ Below w.heap.size w w' := by
  have HC := hid (c_szIntS a q.2.length ca L (w.alloc (.cells #[.int .i64 q.1, .slice a q.2.length ca] 159)) hn h0 h1)
  by_cases h : (q.2.length : Int) ≤ L
  · rw [if_pos h] at HC
    have h2 : ¬ L - (q.2.length : Int) < 0 := by omega
    go_enter Try.func144, Try.ntmps144
    go_wp2_with fail
    refine HC.out.mono ?_
    rintro e w1 ⟨rfl, rfl⟩
    clear HC
    go_wp2
    go_ret
    exact ⟨ret_int (by first | rfl | (split <;> omega)), (Below.refl _ _).alloc (Nat.le_refl _) _⟩
  · rw [if_neg h] at HC
    go_enter Try.func144, Try.ntmps144
    go_wp2_with fail
    refine HC.out.mono ?_
    rintro e w1 ⟨rfl, rfl⟩
    clear HC
    go_wp2
    go_ret
    exact ⟨ret_int (by first | rfl | (split <;> omega)), (Below.refl _ _).alloc (Nat.le_refl _) _⟩

set_option maxHeartbeats 1000000 in
theorem c_szQuadS (a : Option Addr) (F : List Qd) (ca : Nat) (w : World) (ha : QSeg w a F) (hm : F.length ≤ 9223372036854775807) (hs : ∀ i, i < F.length → (qa F i).2.length ≤ 9223372036854775807) :
    Calls Try.prog 122 #[.slice a F.length ca, .int .i64 1048576] w fun e w' => e = .returned (.int .i64 (leftQ F)) ∧ Below w.heap.size w w' := by
  by_cases hL : (F.length : Int) ≤ 1048576
  · go_enter Try.func122, Try.ntmps122
    have h0 : ¬ 1048576 - (F.length : Int) < 0 := by omega
    go_wp2
    go_loopw [1, 5] (fun s i wr => ∃ j : Nat, j ≤ F.length ∧ i = .int .i64 j ∧ s = .int .i64 (1048576 - (F.length : Int) - (kidTo F j : Int)) ∧ (F.length : Int) + (kidTo F j : Int) ≤ 1048576 ∧ Below w.heap.size w wr) (fun _ i _ => F.length - (intOf i).toNat)
    case atStart => exact ⟨0, Nat.zero_le _, rfl, by simp [kidTo], by simp [kidTo]; omega, Below.refl _ _⟩
    case round =>
      obtain ⟨j, hj, rfl, rfl, hT, hbel⟩ := hrel
      by_cases hlt : j < F.length
      · obtain ⟨b1, o1, ak, ck, rfl, hb1, p1, p2, _, _⟩ := ha j hlt
        have g1 := (hbel.cell (p := ⟨b1, o1 + j * 2, none⟩) hb1).trans p1
        have g2 := (hbel.cell (p := ⟨b1, o1 + j * 2 + 1, none⟩) hb1).trans p2
        clear p1 p2
        have hsj := hs j hlt
        have HS := hid (show kidTo F (j + 1) = kidTo F j + (qa F j).2.length from rfl)
        have HM := hid (kidTo_mono F (show j + 1 ≤ F.length by omega))
        have j0 : (0 : Int) ≤ (j : Int) := by omega
        have j1 : (j : Int) < (F.length : Int) := by omega
        generalize kidTo F j = T at *
        have HC := hid (c_szQuad (qa F j) ak ck (1048576 - (F.length : Int) - (T : Int)) wr hsj (by omega) (by omega))
        generalize qa F j = q at *
        by_cases hgo : (q.2.length : Int) ≤ 1048576 - (F.length : Int) - (T : Int)
        · rw [if_pos hgo] at HC
          have e1 : ¬ 1048576 - (F.length : Int) - (T : Int) - (q.2.length : Int) < 0 := by omega
          go_wp2_with fail
          refine HC.out.mono ?_
          rintro e w1 ⟨rfl, hb⟩
          clear HC
          go_wp2
          go_roundw
          case rel => exact ⟨j + 1, by omega, by go_num, by rw [HS.out]; go_num, by rw [HS.out]; omega, hbel.trans (hb.mono hbel.size)⟩
          case measure => simp [intOf]; omega
        · rw [if_neg hgo] at HC
          go_wp2_with fail
          refine HC.out.mono ?_
          rintro e w1 ⟨rfl, hb⟩
          clear HC
          go_wp2
          go_ret
          have hbig : ¬ totQ F ≤ 1048576 := by unfold totQ; have := HM.out; rw [HS.out] at this; omega
          exact ⟨by simp [leftQ, hbig], hbel.trans (hb.mono hbel.size)⟩
      · go_wp2
        go_ret
        obtain rfl : j = F.length := by omega
        have hsm : totQ F ≤ 1048576 := by unfold totQ; omega
        exact ⟨by simp only [leftQ, if_pos hsm]; unfold totQ; exact ret_int (by omega), hbel⟩
  · have h0 : 1048576 - (F.length : Int) < 0 := by omega
    go_enter Try.func122, Try.ntmps122
    go_wp2
    go_ret
    have hbig : ¬ totQ F ≤ 1048576 := by unfold totQ; omega
    exact ⟨by simp [leftQ, hbig], Below.refl _ _⟩

set_option maxHeartbeats 400000 in
theorem c_szForest (a : Option Addr) (F : List Qd) (ca : Nat) (w : World) (ha : QSeg w a F) (hm : F.length ≤ 9223372036854775807) (hs : ∀ i, i < F.length → (qa F i).2.length ≤ 9223372036854775807) :
    Calls Try.prog 66 #[.agg #[.slice a F.length ca], .int .i64 1048576] w fun e w' => e = .returned (.int .i64 (leftQ F)) ∧ Below w.heap.size w w' := by
  have B1 := hid ((Below.refl w.heap.size w).alloc (Nat.le_refl _) (.cells #[.slice a F.length ca] 73))
  have HC := hid (c_szQuadS a F ca _ (ha.below B1.out) hm hs)
  by_cases h : totQ F ≤ 1048576
  · have hL : leftQ F = 1048576 - (totQ F : Int) := by simp [leftQ, h]
    rw [hL] at HC ⊢
    have h2 : ¬ 1048576 - (totQ F : Int) < 0 := by omega
    generalize (1048576 - (totQ F : Int)) = L at *
    go_enter Try.func66, Try.ntmps66
    go_wp2_with fail
    refine HC.out.mono ?_
    rintro e w1 ⟨rfl, hb⟩
    clear HC
    go_wp2
    go_ret
    exact ⟨rfl, Below.then B1.out hb (by simp)⟩
  · have hL : leftQ F = -1 := by simp [leftQ, h]
    rw [hL] at HC ⊢
    go_enter Try.func66, Try.ntmps66
    go_wp2_with fail
    refine HC.out.mono ?_
    rintro e w1 ⟨rfl, hb⟩
    clear HC
    go_wp2
    go_ret
    exact ⟨rfl, Below.then B1.out hb (by simp)⟩

end Go.Proofs.Ytmapbkefndbnnaa
