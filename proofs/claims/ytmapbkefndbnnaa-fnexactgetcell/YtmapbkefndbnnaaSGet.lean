/- What the specification's GetCell answers. -/
import Derived.Test.YtmapbkefndbnnaaSMrg
import Derived.Deep.RegionHeld3
namespace Go.Proofs.Ytmapbkefndbnnaa
open Go.RowKit
set_option linter.unusedVariables false
set_option linter.unusedSimpArgs false
attribute [local go_sem ↓] Go.wp_at_zero Go.wp_at_succ

/-- GetCell. -/
def getV (F : List Qd) (q : Int) (c : Cl) : Bool := setOK F q c && decide (c ∈ cellsOfQ F q.toNat)

set_option maxHeartbeats 4000000 in
set_option maxRecDepth 100000 in
theorem c_sGetCell (a : Option Addr) (F : List Qd) (ca : Nat) (q : Int) (c : Cl) (w : World) (ha : QSeg w a F) (hl : F.length ≤ 1048576) (hk : KidsLe F) (hca : F.length ≤ ca) (hcm : ca ≤ 9223372036854775807) :
    Calls Try.prog 51 #[.agg #[.slice a F.length ca], .int .i64 q, .agg #[.int .i64 c.1, .int .i64 c.2]] w fun e w' => e = .returned (.tuple #[.bool (getV F q c), .bool (setOK F q c)]) ∧ Below w.heap.size w w' := by
  have B1 := (Bx.nil w).add (by simp) #[.slice a F.length ca] 25
  have B2 := hid (B1.add (by simp) #[.int .i64 c.1, .int .i64 c.2] 39)
  have Q2 := hid (ha.below B2.out.2.2)
  clear B1
  have x0 := B2.out.cell 0 0 (v := .slice a F.length ca) rfl rfl
  rw [Nat.add_zero] at x0
  cases hth : thereB F q
  · have HC := hid (c_l3There' a F ca q false hth _ Q2.out hl hk hca hcm)
    have HV := hid (show setOK F q c = false by simp [setOK, hth])
    have HW := hid (show getV F q c = false by simp [getV, HV.out])
    clear hth ha
    go_enter Try.func51, Try.ntmps51
    go_wp2_with fail
    refine HC.out.mono ?_
    rintro e w3 ⟨rfl, hb⟩
    have B3 := hid (B2.out.step hb)
    clear HC hb
    go_wp2_with fail
    go_ret2
    exact ⟨by rw [HV.out, HW.out]; rfl, B3.out.2.2⟩
  · have HC := hid (c_l3There' a F ca q true hth _ Q2.out hl hk hca hcm)
    obtain ⟨hg, h0, h1⟩ := there_bd hth
    obtain ⟨hn5, hlevN⟩ := levN_le hg (show q.toNat < F.length by omega)
    cases hw : hoB (levN F q.toNat) c
    · have HV := hid (show setOK F q c = false by simp [setOK, hth, hw])
      have HW := hid (show getV F q c = false by simp [getV, HV.out])
      have HD := hid (fun (W : World) (hQ : QSeg W a F) => c_l4Within a F ca q c (levN F q.toNat) hn5 false W hw h0 h1 hlevN hQ)
      clear hth ha hw hlevN hn5 hg
      go_enter Try.func51, Try.ntmps51
      go_wp2_with fail
      refine HC.out.mono ?_
      rintro e w3 ⟨rfl, hb⟩
      have B3 := hid (B2.out.step hb)
      have Q3 := hid (Q2.out.below hb)
      have x3 := B3.out.cell 0 0 (v := .slice a F.length ca) rfl rfl
      rw [Nat.add_zero] at x3
      have c0 := B3.out.cell 1 0 (v := .int .i64 c.1) rfl rfl
      have c1 := B3.out.cell 1 1 (v := .int .i64 c.2) rfl rfl
      clear HC hb x0
      go_wp2_with fail
      refine (HD.out _ Q3.out).mono ?_
      rintro e w4 ⟨rfl, hb4⟩
      have B4 := hid (B3.out.step hb4)
      clear hb4 x3 c0 c1
      go_wp2_with fail
      go_ret2
      exact ⟨by rw [HV.out, HW.out]; rfl, B4.out.2.2⟩
    · have HV := hid (show setOK F q c = true by simp [setOK, hth, hw])
      have HW := hid (show getV F q c = decide (c ∈ cellsOfQ F q.toNat) by simp [getV, HV.out])
      have HD := hid (fun (W : World) (hQ : QSeg W a F) => c_l4Within a F ca q c (levN F q.toNat) hn5 true W hw h0 h1 hlevN hQ)
      have LA := cellsOfQ_le hg (show q.toNat < F.length by omega)
      have HL1 := hid (fun (W : World) (hQ : QSeg W a F) => c_l3CellsAll hg a ca q W hQ h0 h1)
      have HAL := hid (fun (W : World) (aa : Option Addr) (cc : Nat) (h : Seg W aa (cellsOfQ F q.toNat)) => c_l1Alive aa (cellsOfQ F q.toNat) cc c W h (by omega))
      generalize cellsOfQ F q.toNat = CA at *
      clear hth ha hw hlevN hn5 hg LA
      go_enter Try.func51, Try.ntmps51
      go_wp2_with fail
      refine HC.out.mono ?_
      rintro e w3 ⟨rfl, hb⟩
      have B3 := hid (B2.out.step hb)
      have Q3 := hid (Q2.out.below hb)
      have x3 := B3.out.cell 0 0 (v := .slice a F.length ca) rfl rfl
      rw [Nat.add_zero] at x3
      have c0 := B3.out.cell 1 0 (v := .int .i64 c.1) rfl rfl
      have c1 := B3.out.cell 1 1 (v := .int .i64 c.2) rfl rfl
      clear HC hb x0
      go_wp2_with fail
      refine (HD.out _ Q3.out).mono ?_
      rintro e w4 ⟨rfl, hb4⟩
      have B4 := hid (B3.out.step hb4)
      have Q4 := hid (Q3.out.below hb4)
      clear hb4 x3 c0 c1
      have keep : Hid (∀ W : World, Below w4.heap.size w4 W → W.cell? ⟨w.heap.size, 0, none⟩ = some (.slice a F.length ca) ∧ W.cell? ⟨w.heap.size + 1, 0, none⟩ = some (.int .i64 c.1) ∧ W.cell? ⟨w.heap.size + 1, 1, none⟩ = some (.int .i64 c.2)) := fun W h => ⟨by have := (B4.out.step h).cell 0 0 (v := .slice a F.length ca) rfl rfl; rwa [Nat.add_zero] at this, (B4.out.step h).cell 1 0 (v := .int .i64 c.1) rfl rfl, (B4.out.step h).cell 1 1 (v := .int .i64 c.2) rfl rfl⟩
      have bd := (Below.refl w4.heap.size w4).drew
      have S4 := hid (keep.out _ (Below.refl w4.heap.size w4))
      have S4d := hid (keep.out _ bd)
      have Q4d := hid (Q4.out.below bd)
      go_wp2_with fail
      go_region_held3 (fun W => W.cell? ⟨w.heap.size, 0, none⟩ = some (.slice a F.length ca) ∧ W.cell? ⟨w.heap.size + 1, 0, none⟩ = some (.int .i64 c.1) ∧ W.cell? ⟨w.heap.size + 1, 1, none⟩ = some (.int .i64 c.2))
        (first | exact S4d.out | exact S4.out | exact S5.out | exact S6.out | go_keep)
        (first
          | (go_at_call 94; refine (HL1.out _ Q4d.out).mono ?_; rintro e w5 ⟨v5, rfl, hO5, hb5⟩; obtain ⟨a5, c5, rfl, hS5⟩ := hO5.form; have bb5 := bd.trans (hb5.mono bd.size); have S5 := hid (keep.out _ bb5); have HS5 := hid hS5)
          | (go_at_call 111; refine (HAL.out _ _ _ HS5.out).mono ?_; rintro e w6 ⟨rfl, hb6⟩; have bb6 := bb5.trans (hb6.mono bb5.size); have S6 := hid (keep.out _ bb6)))
      have B6 := hid (B4.out.step bb6)
      clear S4 S4d S5 S6 keep bb5 bb6 hb5 hb6 bd hO5 hS5
      go_wp2_with fail
      go_ret2
      exact ⟨by rw [HV.out, HW.out]; rfl, B6.out.2.2⟩

end Go.Proofs.Ytmapbkefndbnnaa
