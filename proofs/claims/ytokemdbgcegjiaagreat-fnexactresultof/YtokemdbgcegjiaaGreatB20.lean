/- Texts of this seat, one behind the other: FJoinE, IEach. -/
import Derived.Test.YtokemdbgcegjiaaGreatB12
import Derived.Test.YtokemdbgcegjiaaGreatB19
import Derived.Test.YtokemdbgcegjiaaGreatB18
namespace Go.Proofs.YtokemdbgcegjiaaGreat
open Go.RowKit Go.Maps
set_option linter.unusedVariables false
set_option linter.unusedSimpArgs false
attribute [local go_sem ↓] Go.wp_at_zero Go.wp_at_succ

set_option maxHeartbeats 4000000 in
set_option maxRecDepth 100000 in
theorem c_joinEachE (sa : Option Addr) (n sca : Nat) (sq : Nat → List Int) (w : World) {base p g cap mb : Nat} {G : List Qd} {lv : Int} (h : Grv w base p g cap mb G) (hs : FSq w sa n sq) (hn : n ≤ 1000) (hlen : G.length ≤ 90000) (hl : ∀ i, i < n → (sq i).length = 4) (hk : ∀ i, i < n → ∀ j, j < 4 → 0 ≤ ia (sq i) j ∧ ia (sq i) j < (G.length : Int)) (hf : ∀ k, k ≤ n → JTo G lv k (jTo G sq k)) :
    Calls Tryz.prog 75 #[.pointer (some ⟨p, 0, none⟩), .slice sa n sca] w fun e w' => ∃ B g' cap', e = .returned (.slice (some ⟨B, 0, none⟩) n n) ∧ Grv w' base p g' cap' mb (jTo G sq n).1 ∧ IRow w' B (jTo G sq n).2 ∧ w.heap.size ≤ B ∧ Below base w w' ∧ RowsKept w w' ∧ GElse w w' p g mb ∧ (g' = g ∨ w.heap.size ≤ g') := by
  have HF := hid hf
  have HL4 := hid hl
  have HKK := hid hk
  have ba := (Below.refl w.heap.size w).alloc (Nat.le_refl _) (.cells (madeCells #[.int .i64 0] n) 3)
  have HG1 := hid (h.below ba)
  have HS1 := hid (hs.below ba)
  have HR1 := hid (zeros_row w n)
  have HRK1 := hid (RowsKept.of_below ba)
  have hbs : base ≤ w.heap.size := Nat.le_trans h.lowp (Nat.le_of_lt h.box.lt)
  have HB1 := hid (ba.mono hbs)
  have HE1 := hid (GElse.of_below (p := p) (g := g) (mb := mb) ba)
  have HZ1 := hid ba.size
  have hmm := run_makeInts n hn
  clear h hs hf hl hk ba
  go_enter Tryz.func75, Tryz.ntmps75
  go_wp2
  generalize w.alloc (.cells (madeCells #[.int .i64 0] n) 3) = W1 at *
  go_loopw [13] (fun i wr => ∃ (k g1 cap : Nat), k ≤ n ∧ i = .int .i64 k ∧ Hid (Grv wr base p g1 cap mb (jTo G sq k).1) ∧ Hid (wr.rowIs w.heap.size 3 n (fun j => .int .i64 (if j < k then ia (jTo G sq k).2 j else 0))) ∧ Hid (FSq wr sa n sq) ∧ Hid (Below base w wr) ∧ Hid (RowsKept w wr) ∧ Hid (GElse w wr p g mb) ∧ Hid (g1 = g ∨ w.heap.size ≤ g1)) (fun i _ => n - (intOf i).toNat)
  case atStart => exact ⟨0, g, cap, Nat.zero_le _, rfl, HG1.out, HR1.out.congr fun j hj => by simp, HS1.out, HB1.out, HRK1.out, HE1.out, (.inl rfl : _ ∨ _)⟩
  case round =>
    obtain ⟨k, g1, cap, hk, rfl, HG, HR, HS, HB, HRK, HGE, HGG⟩ := hrel
    by_cases hlt : k < n
    · have hlt' : (k : Int) < (n : Int) := by omega
      have HX := hid (Box4.new wr (sq k) 96)
      obtain ⟨b, cur, rfl, hb, hc⟩ := HS.out k hlt
      have z0 := hc 0 (by omega)
      have z1 := hc 1 (by omega)
      have z2 := hc 2 (by omega)
      have z3 := hc 3 (by omega)
      rw [Nat.add_zero] at z0
      have hfk := HF.out k (by omega)
      have HFK := hid hfk
      have HGX := hid (HG.out.below HX.out.2.2)
      have HSX := hid (HS.out.below HX.out.2.2)
      have HRX := hid (HR.out.of_block (HX.out.2.2.block _ HR.out.lt))
      have hbw : base ≤ wr.heap.size := Nat.le_trans HG.out.lowp (Nat.le_of_lt HG.out.box.lt)
      have HBX := hid (HB.out.trans (HX.out.2.2.mono hbw))
      have HRKX := hid (HRK.out.trans (RowsKept.of_below HX.out.2.2))
      have x0 := HX.out.1 0 (by omega)
      have x1 := HX.out.1 1 (by omega)
      have x2 := HX.out.1 2 (by omega)
      have x3 := HX.out.1 3 (by omega)
      have hmo := hfk.more
      have hms := hfk.most
      have HEX := hid (GElse.trans HGE.out HB.out.size HGG.out (GElse.of_below (p := p) (g := g1) (mb := mb) HX.out.2.2))
      have HZX := hid (Nat.le_trans HB.out.size HX.out.2.2.size)
      have HJ := hid (c_ijoinE (sq k) (HL4.out k hlt) _ HGX.out hfk.grows (by omega) (fun j hj => by have := HKK.out k hlt j hj; omega))
      unfold kv at HJ
      have HAT := hid (fun j => jTo_at G sq (k := k) (j := j) hfk.len)
      have HJT := hid (show (jTo G sq (k + 1)).1 = (joinF (jTo G sq k).1 (sq k)).1 from rfl)
      clear hc hb hfk HG HS HR HB HRK HGE hmo hms
      go_wp2_with fail
      refine HJ.out.mono ?_
      rintro e w5 ⟨g5, cap5, rfl, hG5, hB5, hR5, hE5, hg5⟩
      have HG5 := hid hG5
      have HS5 := hid (HSX.out.rows hR5)
      have hr5 := hR5 _ _ _ _ (by decide) (fun e => absurd e (by decide)) HRX.out
      have f5 := World.rowIs.frozen hr5 k
      have c5 := World.rowIs.cell hr5 hlt
      have HR5 := hid hr5
      have HB5 := hid (HBX.out.trans hB5)
      have HK5 := hid (HRKX.out.trans hR5)
      have HE5 := hid (HEX.out.trans HZX.out HGG.out hE5)
      have HG55 := hid (show g5 = g ∨ w.heap.size ≤ g5 by
        have h1 := HGG.out
        have h2 := HZX.out
        rcases hg5 with rfl | h3
        · exact h1
        · exact .inr (Nat.le_trans h2 h3))
      clear hE5 hg5 HGG HEX HZX
      clear hG5 hB5 hR5 hr5 HJ HGX HSX HRX HBX HRKX HX x0 x1 x2 x3
      go_wp2_with fail
      have HRS := hid (World.rowIs.set HR5.out k (.int .i64 ((joinF (jTo G sq k).1 (sq k)).2 : Int)))
      go_roundw
      case rel =>
        refine ⟨k + 1, g5, cap5, by omega, by go_num, ?_, HRS.out.congr fun j hj => ?_, ?_, HB5.out.setCell (p := ⟨w.heap.size, k, none⟩) hbs _, ?_, HE5.out.set (Nat.le_refl _) k _, HG55.out⟩
        · rw [HJT.out]
          exact HG5.out.setInts HR5.out k _
        · have := HAT.out j
          rw [← this]
          by_cases e : j = k
          · subst e; simp
          · simp [e]
        · exact FSq.setInts HS5.out HR5.out k _
        · exact rows_set HK5.out (Nat.le_refl _) k _
      case measure => simp [intOf]; omega
    · obtain rfl : k = n := by omega
      have hle := (HF.out k (Nat.le_refl _)).len
      go_wp2
      go_ret
      refine ⟨w.heap.size, g1, cap, rfl, HG.out, ?_, Nat.le_refl _, HB.out, HRK.out, HGE.out, HGG.out⟩
      unfold IRow
      rw [hle]
      exact HR.out.congr fun j hj => by rw [if_pos hj]

end Go.Proofs.YtokemdbgcegjiaaGreat

namespace Go.Proofs.YtokemdbgcegjiaaGreat
open Go.RowKit Go.Maps
set_option linter.unusedVariables false
set_option linter.unusedSimpArgs false
attribute [local go_sem ↓] Go.wp_at_zero Go.wp_at_succ

/-- How many quads a result of level m + 2 puts behind all at most. -/
def TTm : Nat → Nat
  | 0 => 16
  | m + 1 => 24 + 13 * TTm m
/-- What the closure does with a quad of level m + 2. -/
def ResC (K : SysK) (m : Nat) : Prop := ∀ (w : World) (g : Nat) (B : List Qd) (n q : Nat), Sys K w g B n → B.length + TTm m ≤ 80000 → n + TTm m ≤ 1000000000 → (∃ P, IsP P B (m + 2) q 0 0) →
    Calls Tryz.prog 119 #[.int .i64 (q : Int), .pointer (some ⟨K.ob, 0, none⟩), .pointer (some ⟨K.gb, 0, none⟩), .pointer (some ⟨K.kb, 0, none⟩), .pointer (some ⟨K.rb, 0, none⟩)] w fun e w' => ∃ (g' : Nat) (B' : List Qd) (n' r : Nat), e = .returned (.int .i64 (r : Int)) ∧ Sys K w' g' B' n' ∧ More B B' ∧ B'.length ≤ B.length + TTm m ∧ n' ≤ n + TTm m ∧ ResP B' m q r ∧ r < B'.length ∧ Below K.base w w' ∧ RElse K w w' g ∧ (g' = g ∨ w.heap.size ≤ g')
theorem Sys.setInts {K : SysK} {w : World} {g n : Nat} {B : List Qd} (h : Sys K w g B n) {b m : Nat} {f : Nat → Value} (hr : w.rowIs b 3 m f) (k : Nat) (v : Int) : Sys K (w.setCell ⟨b, k, none⟩ (.int .i64 v)) g B n := by
  obtain ⟨cap, hG⟩ := h.gv
  obtain ⟨M, hM, hK⟩ := h.kept
  obtain ⟨d, hd, hO⟩ := h.once
  have hb := fun (i : Nat) (hi : i ≠ b) => Below.heap_setCell w ⟨b, k, none⟩ (.int .i64 v) i hi
  obtain ⟨c, hc, _⟩ := id hr
  have ne : ∀ {b' m' : Nat} {t : TypeId} {f' : Nat → Value}, w.rowIs b' t m' f' → t ≠ 3 → b' ≠ b := by
    intro b' m' t f' hr' ht
    rintro rfl
    obtain ⟨c2, hc2, _⟩ := hr'
    rw [hc] at hc2
    simp at hc2
    exact ht hc2.2.symm
  refine ⟨⟨cap, hG.setInts hr k v⟩, h.gr, ⟨M, hM.blk (hb _ ?_), hK⟩, ⟨d, hd, World.rowIs.of_block hO (hb _ (ne hO (by decide)))⟩, ⟨h.vars.gbx.of_block (hb _ (ne h.vars.gbx (by decide))), h.vars.kbx.of_block (hb _ (ne h.vars.kbx (by decide))), h.vars.rbx.of_block (hb _ (ne h.vars.rbx (by decide))), h.vars.lkm, h.vars.lob, h.vars.dkm⟩⟩
  rintro e
  obtain ⟨D, ⟨es, clock, hd, _⟩, _⟩ := hM
  rw [e, hc] at hd
  simp at hd

set_option maxHeartbeats 4000000 in
set_option maxRecDepth 100000 in
theorem c_eachOf (K : SysK) (m : Nat) (hres : ResC K m) (l : List Int) (k : Nat) (hl : l.length = k) (hk : k ≤ 9) (w : World) {g n Bi : Nat} {B : List Qd} (hS : Sys K w g B n) (hI : IRow w Bi l) (hlen : B.length + k * TTm m ≤ 80000) (hn : n + k * TTm m ≤ 1000000000) (hT : ∀ i, i < k → ∃ a : Nat, ia l i = (a : Int) ∧ ∃ P, IsP P B (m + 2) a 0 0) :
    Calls Tryz.prog 98 #[.slice (some ⟨Bi, 0, none⟩) k k, K.cv] w fun e w' => ∃ (Bo g' : Nat) (B' : List Qd) (n' : Nat) (out : List Int), e = .returned (.slice (some ⟨Bo, 0, none⟩) k k) ∧ IRow w' Bo out ∧ out.length = k ∧ Sys K w' g' B' n' ∧ More B B' ∧ B'.length ≤ B.length + k * TTm m ∧ n' ≤ n + k * TTm m ∧ (∀ i, i < k → ∃ a r : Nat, ia l i = (a : Int) ∧ ia out i = (r : Int) ∧ r < B'.length ∧ ResP B' m a r) ∧ Below K.base w w' ∧ RElse K w w' g ∧ (g' = g ∨ w.heap.size ≤ g') := by
  have HRES := hid hres
  have ba := (Below.refl w.heap.size w).alloc (Nat.le_refl _) (.cells (madeCells #[.int .i64 0] k) 3)
  have hbs : K.base ≤ w.heap.size := by obtain ⟨cap, hG⟩ := hS.gv; exact Nat.le_trans hG.lowp (Nat.le_of_lt hG.box.lt)
  have HS1 := hid (hS.below ba)
  have HI1 := hid (World.rowIs.of_block hI (ba.block _ (World.rowIs.lt hI)))
  have HR1 := hid (zeros_row w k)
  have HB1 := hid (ba.mono hbs)
  have HE1 := hid (RElse.of_below (K := K) (g := g) ba)
  have HIL := hid (World.rowIs.lt hI)
  have HT := hid hT
  have HGR := hid hS.gr
  have HL := hid hl
  have hmm := run_makeInts k (by omega)
  unfold SysK.cv
  clear hS hI hres ba hT hl
  go_enter Tryz.func98, Tryz.ntmps98
  go_wp2
  generalize w.alloc (.cells (madeCells #[.int .i64 0] k) 3) = W1 at *
  go_loopw [13] (fun i wr => ∃ (j gj nj : Nat) (Bj : List Qd) (out : List Int), j ≤ k ∧ i = .int .i64 j ∧ Hid (Sys K wr gj Bj nj) ∧ Hid (More B Bj) ∧ Hid (Bj.length ≤ B.length + j * TTm m) ∧ Hid (nj ≤ n + j * TTm m) ∧ Hid (wr.rowIs w.heap.size 3 k (fun t => .int .i64 (if t < j then ia out t else 0))) ∧ Hid (out.length = j) ∧ Hid (∀ i, i < j → ∃ a r : Nat, ia l i = (a : Int) ∧ ia out i = (r : Int) ∧ r < Bj.length ∧ ResP Bj m a r) ∧ Hid (wr.rowIs Bi 3 l.length (fun j => .int .i64 (ia l j))) ∧ Hid (Below K.base w wr) ∧ Hid (RElse K w wr g) ∧ Hid (gj = g ∨ w.heap.size ≤ gj)) (fun i _ => k - (intOf i).toNat)
  case atStart => exact ⟨0, g, n, B, [], Nat.zero_le _, rfl, HS1.out, More.refl HGR.out, (by simp : _ ≤ _), (by simp : _ ≤ _), HR1.out.congr fun j hj => by simp, (rfl : _ = _), fun i hi => absurd hi (Nat.not_lt_zero _), HI1.out, HB1.out, HE1.out, (.inl rfl : _ ∨ _)⟩
  case round =>
    clear HS1 HR1 HI1 HB1 HE1
    obtain ⟨j, gj, nj, Bj, out, hj, rfl, HS, HM, HLB, HLN, HR, HOL, HRS, HI, HB, HE, HGG⟩ := hrel
    by_cases hlt : j < k
    · have hlt' : (j : Int) < (k : Int) := by omega
      obtain ⟨a, ea, P, hP⟩ := HT.out j hlt
      have z0 := World.rowIs.cell HI.out (i := j) (by have := HL.out; omega)
      rw [ea] at z0
      have hmul : (j + 1) * TTm m ≤ k * TTm m := Nat.mul_le_mul_right _ (by omega)
      have hsm : (j + 1) * TTm m = j * TTm m + TTm m := Nat.succ_mul _ _
      have HSM := hid hsm
      have HC := hid (HRES.out wr gj Bj nj a HS.out (by have := HLB.out; omega) (by have := HLN.out; omega) ⟨P, HM.out.isP hP⟩)
      have HPA := hid (show a < Bj.length from (HM.out.isP hP).lt HM.out.grows.two)
      have HEA := hid ea
      clear hmul hsm hP ea
      go_wp2_with fail
      refine HC.out.mono ?_
      rintro e w3 ⟨g3, B3, n3, r, rfl, hS3, hM3, hL3, hN3, hRr, hrl, hb3, he3, hg3⟩
      have hr3 := HS.out.row he3 HR.out (by decide) (by decide) (by decide)
      have f3 := World.rowIs.frozen hr3 j
      have c3 := World.rowIs.cell hr3 hlt
      have HS3 := hid hS3
      have HR3 := hid hr3
      have HI3 := hid (HS.out.row he3 HI.out (by decide) (by decide) (by decide))
      have HM3 := hid (HM.out.trans hM3)
      have HLB3 := hid (show B3.length ≤ B.length + (j + 1) * TTm m by have := HLB.out; have := HSM.out; omega)
      have HLN3 := hid (show n3 ≤ n + (j + 1) * TTm m by have := HLN.out; have := HSM.out; omega)
      have HB3 := hid (HB.out.trans hb3)
      have HE3 := hid (HE.out.trans HB.out.size HGG.out he3)
      have HGG3 := hid (fresh_trans HGG.out HB.out.size hg3)
      have HRS3 := hid (show ∀ i, i < j + 1 → ∃ a r' : Nat, ia l i = (a : Int) ∧ ia (out ++ [(r : Int)]) i = (r' : Int) ∧ r' < B3.length ∧ ResP B3 m a r' from fun i hi => by
        by_cases e : i < j
        · obtain ⟨a', r', q1, q2, q3, q4⟩ := HRS.out i e
          obtain ⟨a2, e2, P2, hP2⟩ := HT.out i (by omega)
          have : a' = a2 := by rw [q1] at e2; omega
          subst this
          exact ⟨a', r', q1, by rw [ia_app_old (by have := HOL.out; omega)]; exact q2, Nat.lt_of_lt_of_le q3 hM3.len, q4.more HM.out.grows hM3 ((HM.out.isP hP2).lt HM.out.grows.two)⟩
        · obtain rfl : i = j := by omega
          have e2 : ia (out ++ [(r : Int)]) i = (r : Int) := by
            have := ia_app_new out (r : Int)
            rw [HOL.out] at this
            exact this
          exact ⟨a, r, HEA.out, e2, hrl, hRr⟩)
      clear hS3 hM3 hL3 hN3 hRr hrl hb3 he3 hg3 hr3 HC HS HR HI HM HLB HLN HB HE HGG HRS
      go_wp2_with fail
      have HRW := hid (World.rowIs.set HR3.out j (.int .i64 (r : Int)))
      go_roundw
      case rel =>
        refine ⟨j + 1, g3, n3, B3, out ++ [(r : Int)], by omega, by go_num, HS3.out.setInts HR3.out j _, HM3.out, HLB3.out, HLN3.out, HRW.out.congr fun t ht => ?_, ?_, HRS3.out, World.rowIs.setOther HI3.out (a := ⟨w.heap.size, j, none⟩) (by have := HIL.out; show Bi ≠ w.heap.size; omega) _, HB3.out.setCell (p := ⟨w.heap.size, j, none⟩) hbs _, HE3.out.set (Nat.le_refl _) j _, HGG3.out⟩
        · have ho := HOL.out
          by_cases e : t = j
          · subst e
            have e2 : ia (out ++ [(r : Int)]) t = (r : Int) := by
              have := ia_app_new out (r : Int)
              rw [ho] at this
              exact this
            simp [e2]
          · by_cases e3 : t < j
            · rw [if_neg e, if_pos e3, if_pos (by omega), ia_app_old (by omega)]
            · rw [if_neg e, if_neg e3, if_neg (by omega)]
        · show _ = _
          simp [HOL.out]
      case measure => simp [intOf]; omega
    · obtain rfl : j = k := by omega
      go_wp2
      go_ret
      refine ⟨w.heap.size, gj, Bj, nj, out, rfl, ?_, HOL.out, HS.out, HM.out, HLB.out, HLN.out, HRS.out, HB.out, HE.out, HGG.out⟩
      unfold IRow
      rw [HOL.out]
      exact HR.out.congr fun t ht => by rw [if_pos ht]

end Go.Proofs.YtokemdbgcegjiaaGreat
