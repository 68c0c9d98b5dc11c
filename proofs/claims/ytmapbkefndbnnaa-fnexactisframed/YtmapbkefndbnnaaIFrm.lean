/- What the program's frame answers. -/
import Derived.Test.YtmapbkefndbnnaaIMid
namespace Go.Proofs.Ytmapbkefndbnnaa
open Go.RowKit Go.Maps
set_option linter.unusedVariables false
set_option linter.unusedSimpArgs false
attribute [local go_sem ↓] Go.wp_at_zero Go.wp_at_succ

theorem cornK_at {b k : Int} {i j : Nat} (hi : i < 4) (hj : j < 4) : ia (cornK b k i) j = if j = 3 - i then k else b := by
  rcases (show i = 0 ∨ i = 1 ∨ i = 2 ∨ i = 3 by omega) with rfl | rfl | rfl | rfl <;> rcases (show j = 0 ∨ j = 1 ∨ j = 2 ∨ j = 3 by omega) with rfl | rfl | rfl | rfl <;> rfl
theorem cornK_len (b k : Int) (i : Nat) : (cornK b k i).length = 4 := rfl
/-- What the corners of a frame leave. -/
structure FrF (n : Nat) (b : Int) (ks : List Int) (B : List Qd) (k : Nat) : Prop where
  grows : Grows (frk b ks B k).1
  more : B.length ≤ (frk b ks B k).1.length
  most : (frk b ks B k).1.length ≤ B.length + k
  old : ∀ i, i < B.length → qa (frk b ks B k).1 i = qa B i
  len : (frk b ks B k).2.length = k
  kid : ∀ j, j < k → 0 ≤ ia (frk b ks B k).2 j ∧ ia (frk b ks B k).2 j < ((frk b ks B k).1.length : Int)
theorem frk_facts {n : Nat} (hn : n < 4) {b : Int} {ks : List Int} {B : List Qd} (hB : Grows B) (hb : 0 ≤ b ∧ b < (B.length : Int) ∧ (qa B b.toNat).1 = (n : Int)) (hk : ∀ j, j < 4 → 0 ≤ ia ks j ∧ ia ks j < (B.length : Int) ∧ (qa B (ia ks j).toNat).1 = (n : Int)) : ∀ k, k ≤ 4 → FrF n b ks B k
  | 0, _ => ⟨hB, Nat.le_refl _, by simp [frk], fun _ _ => rfl, rfl, fun j hj => by omega⟩
  | k + 1, hk4 => by
    have h := frk_facts hn hB hb hk k (by omega)
    have hkk := hk k (by omega)
    have cj : ∀ j, j < 4 → 0 ≤ ia (cornK b (ia ks k) k) j ∧ ia (cornK b (ia ks k) k) j < (B.length : Int) ∧ (qa B (ia (cornK b (ia ks k) k) j).toNat).1 = (n : Int) := by
      intro j hj
      rw [cornK_at (by omega) hj]
      split
      · exact hkk
      · exact hb
    have c0 := cj 0 (by omega)
    have hm := h.more
    have hl := joinF_len (frk b ks B k).1 (cornK b (ia ks k) k)
    refine ⟨joinF_grows h.grows rfl (fun j hj => by have := cj j hj; omega) (by rw [h.old _ (by omega)]; omega), Nat.le_trans hm hl.1, ?_, fun i hi => ?_, by simp [frk, h.len], fun j hj => ?_⟩
    · have := h.most; show (joinF (frk b ks B k).1 (cornK b (ia ks k) k)).1.length ≤ _; omega
    · show qa (joinF (frk b ks B k).1 (cornK b (ia ks k) k)).1 i = _
      rw [joinF_old _ _ (by omega), h.old i hi]
    · simp only [frk]
      by_cases e : j = k
      · subst e
        have : ia ((frk b ks B j).2 ++ [((joinF (frk b ks B j).1 (cornK b (ia ks j) j)).2 : Int)]) j = ((joinF (frk b ks B j).1 (cornK b (ia ks j) j)).2 : Int) := by
          simp only [ia, List.getD_eq_getElem?_getD]
          rw [List.getElem?_append_right (by rw [h.len]; exact Nat.le_refl _), h.len]
          simp
        rw [this]
        have := joinF_lt (frk b ks B j).1 (cornK b (ia ks j) j)
        omega
      · have hj' : j < k := by omega
        have : ia ((frk b ks B k).2 ++ [((joinF (frk b ks B k).1 (cornK b (ia ks k) k)).2 : Int)]) j = ia (frk b ks B k).2 j := by
          simp only [ia, List.getD_eq_getElem?_getD]
          rw [List.getElem?_append_left (by rw [h.len]; exact hj')]
        rw [this]
        have := h.kid j hj'
        omega
theorem frk_at {n : Nat} {b : Int} {ks : List Int} {B : List Qd} {k : Nat} (h : FrF n b ks B k) (j : Nat) : (if j = k then ((joinF (frk b ks B k).1 (cornK b (ia ks k) k)).2 : Int) else if j < k then ia (frk b ks B k).2 j else 0) = (if j < k + 1 then ia (frk b ks B (k + 1)).2 j else 0) := by
  have h3 := h.len
  by_cases e : j = k
  · subst e
    rw [if_pos rfl, if_pos (by omega)]
    simp only [frk, ia, List.getD_eq_getElem?_getD]
    rw [List.getElem?_append_right (by omega), h3]
    simp
  · rw [if_neg e]
    by_cases e2 : j < k
    · rw [if_pos e2, if_pos (by omega)]
      simp only [frk, ia, List.getD_eq_getElem?_getD]
      rw [List.getElem?_append_left (by omega)]
    · rw [if_neg e2, if_neg (by omega)]
theorem frow4_new (w : World) (b : Int) : FRow (w.alloc (.cells #[.int .i64 b, .int .i64 b, .int .i64 b, .int .i64 b] 107)) w.heap.size (fun _ => b) := by
  refine ⟨_, heap_alloc_new _ _, rfl, fun i hi => ?_⟩
  rcases (show i = 0 ∨ i = 1 ∨ i = 2 ∨ i = 3 by omega) with rfl | rfl | rfl | rfl <;> rfl
theorem below_none (w : World) : Below ({ w with heap := #[] } : World).heap.size { w with heap := #[] } w := ⟨rfl, rfl, rfl, Nat.zero_le _, fun k hk => absurd hk (Nat.not_lt_zero _)⟩
/-- A blank tree, by the program. -/
theorem c_plantBlank (n : Nat) (w : World) {base p g cap mb : Nat} {G : List Qd} (hn : n ≤ 5) (hGr : Grows G) (hlen : G.length + 4 ^ n ≤ 10000) (hG : Grv w base p g cap mb G) :
    Calls Try.prog 80 #[.pointer (some ⟨p, 0, none⟩), .int .i64 (n : Int), .agg #[.int .i64 0, .int .i64 0], .slice none 0 0] w fun e w' => ∃ g' cap', e = .returned (.int .i64 ((treeL [] n 0 0 G).2 : Int)) ∧ Grv w' base p g' cap' mb (treeL [] n 0 0 G).1 ∧ Below base w w' ∧ RowsKept w w' := by
  have hp := pow_le5 hn
  exact c_plant [] none 0 { w with heap := #[] } (fun i hi => by simp at hi) (by simp) rfl base p mb (Nat.zero_le _) n 0 0 G g cap w hn hGr hlen (by omega) (by omega) (by omega) (by omega) hG (below_none w)

set_option maxHeartbeats 4000000 in
set_option maxRecDepth 100000 in
theorem c_frame {L : List Cl} {X Y : Int} (n q : Nat) (hn : n < 4) (w : World) {base p g cap mb : Nat} {G : List Qd} (hGr : Grows G) (hlen : G.length ≤ 5000) (hT : IsT L G (n + 1) q X Y) (hG : Grv w base p g cap mb G) :
    Calls Try.prog 118 #[.pointer (some ⟨p, 0, none⟩), .int .i64 (q : Int)] w fun e w' => ∃ g' cap', e = .returned (.int .i64 ((joinF (frk ((treeL [] n 0 0 G).2 : Int) (qa G q).2 (treeL [] n 0 0 G).1 4).1 (frk ((treeL [] n 0 0 G).2 : Int) (qa G q).2 (treeL [] n 0 0 G).1 4).2).2 : Int)) ∧ Grv w' base p g' cap' mb (joinF (frk ((treeL [] n 0 0 G).2 : Int) (qa G q).2 (treeL [] n 0 0 G).1 4).1 (frk ((treeL [] n 0 0 G).2 : Int) (qa G q).2 (treeL [] n 0 0 G).1 4).2).1 ∧ Below base w w' ∧ RowsKept w w' := by
  have hq := hT.lt hGr.two
  have hlev := hT.lev hGr
  have hks := hT.kids
  have hbs : base ≤ w.heap.size := Nat.le_trans hG.lowp (Nat.le_of_lt hG.box.lt)
  have h4 : (4 : Nat) ^ n ≤ 256 := by
    rcases (show n = 0 ∨ n = 1 ∨ n = 2 ∨ n = 3 by omega) with rfl | rfl | rfl | rfl <;> decide
  have t := treeL_tr [] n 0 0 G (by omega) hGr
  have hkl : ∀ j, j < 4 → 0 ≤ ia (qa G q).2 j ∧ ia (qa G q).2 j < ((treeL [] n 0 0 G).1.length : Int) ∧ (qa (treeL [] n 0 0 G).1 (ia (qa G q).2 j).toNat).1 = (n : Int) := by
    intro j hj
    have a := hT.kid j hj
    have b := a.lt hGr.two
    have c := a.lev hGr
    have m := t.more
    rw [hks.2.2.1 j hj]
    exact ⟨by omega, by omega, by rw [Int.toNat_natCast, t.old _ b]; exact c⟩
  have HFF := hid (fun k hk => frk_facts (b := ((treeL [] n 0 0 G).2 : Int)) hn t.grows ⟨by omega, by have := t.lt; omega, by rw [Int.toNat_natCast]; exact t.lev⟩ hkl k hk)
  have HMOST := hid (show (treeL [] n 0 0 G).1.length ≤ 6000 by have := t.most; omega)
  have hkl0 := hid hkl
  have HLT := hid t.lt
  have HLEV := hid t.lev
  have c0 := hG.c0
  have n0 := hG.lev hq
  have n1 := hG.kidAt hq (j := 0) (by omega)
  have n2 := hG.kidAt hq (j := 1) (by omega)
  have n3 := hG.kidAt hq (j := 2) (by omega)
  have n4 := hG.kidAt hq (j := 3) (by omega)
  rw [Nat.add_zero] at n1
  rw [hlev, show ((n + 1 : Nat) : Int) = (n : Int) + 1 by omega] at n0
  have i0 : (0 : Int) ≤ (q : Int) := by omega
  have i1 : (q : Int) < (G.length : Int) := by omega
  have hpl := hG.box.lt
  have hgl := hG.lt.2
  have hb1 := (Below.refl w.heap.size w).alloc (Nat.le_refl _) (.cells #[.int .i64 ((n : Int) + 1), .int .i64 (ia (qa G q).2 0), .int .i64 (ia (qa G q).2 1), .int .i64 (ia (qa G q).2 2), .int .i64 (ia (qa G q).2 3)] 109)
  have N1 : Hid (NRow (w.alloc (.cells #[.int .i64 ((n : Int) + 1), .int .i64 (ia (qa G q).2 0), .int .i64 (ia (qa G q).2 1), .int .i64 (ia (qa G q).2 2), .int .i64 (ia (qa G q).2 3)] 109)) w.heap.size ((n : Int) + 1, (qa G q).2)) := nrow_new w ((n : Int) + 1, (qa G q).2)
  have HB1 := hid hb1
  have HPB := hid (c_plantBlank n _ (by omega) hGr (by omega) (hG.below hb1))
  clear hks hlev hb1 hG t hkl hT
  go_enter Try.func118, Try.ntmps118
  go_wp2_with fail
  refine HPB.out.mono ?_
  rintro e w3 ⟨g3, cap3, rfl, hG3, hb3, hr3⟩
  have N3 : Hid (NRow w3 w.heap.size ((n : Int) + 1, (qa G q).2)) := hr3 _ _ _ _ (by decide) (by decide) N1.out
  have HBW := hid ((HB1.out.mono hbs).trans hb3)
  have HRW := hid ((RowsKept.of_below HB1.out).trans hr3)
  have hwl : w.heap.size < w3.heap.size := World.rowIs.lt N3.out
  have ba := (Below.refl w3.heap.size w3).alloc (Nat.le_refl _) (.cells #[.int .i64 0, .int .i64 0, .int .i64 0, .int .i64 0] 107)
  have N4 : Hid (NRow (w3.alloc (.cells #[.int .i64 0, .int .i64 0, .int .i64 0, .int .i64 0] 107)) w.heap.size ((n : Int) + 1, (qa G q).2)) := World.rowIs.alloc N3.out _
  have HF4 := hid (frow_new w3)
  have HG4 := hid (hG3.below ba)
  have HB4 := hid (HBW.out.alloc (Nat.le_trans hbs (Nat.le_of_lt hwl)) (.cells #[.int .i64 0, .int .i64 0, .int .i64 0, .int .i64 0] 107))
  have HR4 := hid (HRW.out.trans (RowsKept.of_below ba))
  have l1 := N4.out.kid 0 (by omega)
  have l2 := N4.out.kid 1 (by omega)
  have l3 := N4.out.kid 2 (by omega)
  have l4 := N4.out.kid 3 (by omega)
  dsimp only at l1 l2 l3 l4
  rw [Nat.add_zero] at l1
  clear HPB hG3 hb3 hr3 N3 HBW HRW ba c0 n0 n1 n2 n3 n4 N1 HB1
  generalize hTB : treeL [] n 0 0 G = TB at *
  go_wp2_with fail
  clear l1 l2 l3 l4 N4
  generalize w3.alloc (.cells #[.int .i64 0, .int .i64 0, .int .i64 0, .int .i64 0] 107) = W4 at *
  generalize hFB : w3.heap.size = FB at *
  clear hFB
  go_loopw [26] (fun i wr => ∃ (k g' cap' : Nat), k ≤ 4 ∧ i = .int .i64 k ∧ Hid (Grv wr base p g' cap' mb (frk (TB.2 : Int) (qa G q).2 TB.1 k).1) ∧ Hid (FRow wr FB (fun j => if j < k then ia (frk (TB.2 : Int) (qa G q).2 TB.1 k).2 j else 0)) ∧ Hid (Below base w wr) ∧ Hid (RowsKept w wr)) (fun i _ => 4 - (intOf i).toNat)
  case atStart => exact ⟨0, g3, cap3, by omega, rfl, HG4.out, (HF4.out.congr fun j hj => by simp), HB4.out, HR4.out⟩
  case round =>
    clear HG4 HF4 HB4 HR4
    obtain ⟨k, g1, cap1, hk, rfl, HG, HFR, HB, HRK⟩ := hrel
    have ff := HFF.out k hk
    have FFR := hid ff
    clear ff
    have hwr : base ≤ wr.heap.size := Nat.le_trans HG.out.lowp (Nat.le_of_lt HG.out.box.lt)
    by_cases hlt : k < 4
    · have hidx := four_index (qa G q).2 k hlt
      unfold kv at hidx
      have k0 : (0 : Int) ≤ (k : Int) := by omega
      have k1 : (k : Int) < 4 := by omega
      have kk := hid (hkl0.out k hlt)
      have HIN := hid (fun W => c_inner k hlt W)
      have hlist : ([.int .i64 (TB.2 : Int), .int .i64 (TB.2 : Int), .int .i64 (TB.2 : Int), .int .i64 (TB.2 : Int)] : List Value).set (3 - k) (.int .i64 (ia (qa G q).2 k)) = [.int .i64 (ia (cornK (TB.2 : Int) (ia (qa G q).2 k) k) 0), .int .i64 (ia (cornK (TB.2 : Int) (ia (qa G q).2 k) k) 1), .int .i64 (ia (cornK (TB.2 : Int) (ia (qa G q).2 k) k) 2), .int .i64 (ia (cornK (TB.2 : Int) (ia (qa G q).2 k) k) 3)] := by
        rcases (show k = 0 ∨ k = 1 ∨ k = 2 ∨ k = 3 by omega) with rfl | rfl | rfl | rfl <;> rfl
      have HLI := hid hlist
      clear hlist
      have bc2 := (Below.refl wr.heap.size wr).alloc (Nat.le_refl _) (.cells #[.int .i64 (ia (cornK (TB.2 : Int) (ia (qa G q).2 k) k) 0), .int .i64 (ia (cornK (TB.2 : Int) (ia (qa G q).2 k) k) 1), .int .i64 (ia (cornK (TB.2 : Int) (ia (qa G q).2 k) k) 2), .int .i64 (ia (cornK (TB.2 : Int) (ia (qa G q).2 k) k) 3)] 107)
      have G6 := hid (HG.out.below bc2)
      have HFB := hid (World.rowIs.lt HFR.out)
      have hFBl := HFB.out
      have FR6 := hid (World.rowIs.of_block HFR.out (bc2.block _ hFBl))
      have HB6 := hid (HB.out.trans (bc2.mono hwr))
      have HR6 := hid (HRK.out.trans (RowsKept.of_below bc2))
      have hcj : ∀ j, j < 4 → 0 ≤ ia (cornK (TB.2 : Int) (ia (qa G q).2 k) k) j ∧ ia (cornK (TB.2 : Int) (ia (qa G q).2 k) k) j < ((frk (TB.2 : Int) (qa G q).2 TB.1 k).1.length : Int) := by
        intro j hj
        rw [cornK_at hlt hj]
        have := kk.out
        have := HLT.out
        have := FFR.out.more
        split <;> omega
      have HJ := hid (c_ijoin (cornK (TB.2 : Int) (ia (qa G q).2 k) k) rfl _ G6.out FFR.out.grows (by have := FFR.out.most; have := HMOST.out; omega) hcj)
      unfold kv at HJ
      have HPK := hid (show (frk (TB.2 : Int) (qa G q).2 TB.1 (k + 1)).1 = (joinF (frk (TB.2 : Int) (qa G q).2 TB.1 k).1 (cornK (TB.2 : Int) (ia (qa G q).2 k) k)).1 from rfl)
      have HPA := hid (fun j => frk_at FFR.out j)
      clear hcj bc2 G6
      have j2 : (0 : Int) ≤ ((3 - k : Nat) : Int) := by omega
      have j3 : ((3 - k : Nat) : Int) < 4 := by omega
      have c5 := World.rowIs.cell (frow4_new wr (TB.2 : Int)) (i := 3 - k) (by omega)
      have f5 := World.rowIs.frozen (frow4_new wr (TB.2 : Int)) (3 - k)
      generalize hCK : cornK (TB.2 : Int) (ia (qa G q).2 k) k = CK at *
      generalize hKK : ia (qa G q).2 k = KK at *
      generalize hk3 : 3 - k = K3 at *
      clear hk3
      go_wp2_with fail
      refine (HIN.out _).mono ?_
      rintro e w7 ⟨rfl, rfl⟩
      go_wp2_with fail
      simp only [HLI.out, List.getElem_cons_zero, List.getElem_cons_succ]
      refine HJ.out.mono ?_
      rintro e w8 ⟨g8, cap8, rfl, hG8, hb8, hr8⟩
      have hF8 := hr8 _ _ _ _ (by decide) (by decide) FR6.out
      have c9 := hF8.cell (i := k) (by omega)
      have f9 := hF8.frozen k
      have hF9 : FRow (w8.setCell ⟨FB, k, none⟩ (.int .i64 ((joinF (frk (TB.2 : Int) (qa G q).2 TB.1 k).1 CK).2 : Int))) FB (fun j => if j < k + 1 then ia (frk (TB.2 : Int) (qa G q).2 TB.1 (k + 1)).2 j else 0) := by
        refine (World.rowIs.set hF8 k _).congr fun j hj => ?_
        dsimp only
        rw [← HPA.out j]
        by_cases e : j = k
        · rw [if_pos e, if_pos e]
        · rw [if_neg e, if_neg e]
      have HF9 := hid hF9
      have HG9 := hid (hG8.setFour hF8 k ((joinF (frk (TB.2 : Int) (qa G q).2 TB.1 k).1 CK).2 : Int))
      have HB9 := hid ((HB6.out.trans hb8).setCell (p := ⟨FB, k, none⟩) (by dsimp only; omega) (.int .i64 ((joinF (frk (TB.2 : Int) (qa G q).2 TB.1 k).1 CK).2 : Int)))
      have HR9 := hid (rows_set (HR6.out.trans hr8) (show w.heap.size ≤ FB by omega) k (.int .i64 ((joinF (frk (TB.2 : Int) (qa G q).2 TB.1 k).1 CK).2 : Int)))
      rw [← HPK.out] at HG9
      clear HJ hG8 hb8 hr8 hF8 hF9 FR6 HB6 HR6 HIN HG HFR HB HRK
      generalize ((joinF (frk (TB.2 : Int) (qa G q).2 TB.1 k).1 CK).2 : Int) = TQ at *
      go_wp2_with fail
      go_roundw
      case rel => exact ⟨k + 1, g8, cap8, by omega, by go_num, HG9.out, HF9.out, HB9.out, HR9.out⟩
      case measure => simp [intOf]; omega
    · obtain rfl : k = 4 := by omega
      have b0 := World.rowIs.cell HFR.out (i := 0) (by omega)
      have b1 := World.rowIs.cell HFR.out (i := 1) (by omega)
      have b2 := World.rowIs.cell HFR.out (i := 2) (by omega)
      have b3 := World.rowIs.cell HFR.out (i := 3) (by omega)
      simp only [show (0 : Nat) < 4 by omega, show (1 : Nat) < 4 by omega, show (2 : Nat) < 4 by omega, show (3 : Nat) < 4 by omega, if_true] at b0 b1 b2 b3
      have HJ := hid (c_ijoin (frk (TB.2 : Int) (qa G q).2 TB.1 4).2 FFR.out.len wr HG.out FFR.out.grows (by have := FFR.out.most; have := HMOST.out; omega) FFR.out.kid)
      unfold kv at HJ
      generalize hPP : frk (TB.2 : Int) (qa G q).2 TB.1 4 = PP at *
      go_wp2_with fail
      refine HJ.out.mono ?_
      rintro e w8 ⟨g8, cap8, rfl, hG8, hb8, hr8⟩
      have HG3 := hid hG8
      have HB3 := hid (HB.out.trans hb8)
      have HR3 := hid (HRK.out.trans hr8)
      clear hG8 hb8 hr8 HJ
      go_wp2_with fail
      go_ret
      subst hPP
      subst hTB
      exact ⟨g8, cap8, rfl, HG3.out, HB3.out, HR3.out⟩

end Go.Proofs.Ytmapbkefndbnnaa
