/- Texts of this seat, one behind the other: AdvW. -/
import Derived.Test.YtnabgfbempkgnaaGreatDoorDrA
import Derived.Test.YtnabgfbempkgnaaGreatDoorAdvP
namespace Go.Proofs.YtnabgfbempkgnaaGreatDoor
open Go.RowKit
set_option linter.unusedVariables false

/-- A world in a variable: its box is b, its cells lie elsewhere. -/
def WV (W : World) (b : Nat) (a : Option Addr) (l : List Cl) (c : Nat) (t : Int) : Prop :=
  OwnS W 0 (.slice a l.length c) l ∧ (∀ j, (Value.slice a l.length c).ownBlock = some j → j ≠ b) ∧ WRow W b (.slice a l.length c) t 25
theorem WV.below {W W' : World} {b : Nat} {a : Option Addr} {l : List Cl} {c : Nat} {t : Int} (h : WV W b a l c t) (hb : Below W.heap.size W W') : WV W' b a l c t :=
  ⟨h.1.below hb, h.2.1, h.2.2.below hb⟩
theorem WV.new {W : World} {base : Nat} {a : Option Addr} {l : List Cl} {c : Nat} {t : Int} (h : OwnS W base (.slice a l.length c) l) : WV (W.alloc (.cells #[.slice a l.length c, .int .i64 t] 25)) W.heap.size a l c t :=
  ⟨(h.mono (Nat.zero_le _)).below ((Below.refl W.heap.size W).alloc (Nat.le_refl _) _), fun j hj => by have := (h.lt j hj).2; omega, WRow.new _ _ _ _⟩
theorem WV.put {W : World} {b base : Nat} {s0 : Value} {t0 : Int} {a : Option Addr} {l : List Cl} {c : Nat} {t : Int} (hr : WRow W b s0 t0 25) (h : OwnS W base (.slice a l.length c) l) (hne : ∀ j, (Value.slice a l.length c).ownBlock = some j → j ≠ b) :
    WV ((W.setCell ⟨b, 0, none⟩ (.slice a l.length c)).setCell ⟨b, 1, none⟩ (.int .i64 t)) b a l c t :=
  ⟨((h.mono (Nat.zero_le _)).other hne _).other hne _, hne, hr.put _ _⟩
theorem WV.seg {W : World} {b : Nat} {a : Option Addr} {l : List Cl} {c : Nat} {t : Int} (h : WV W b a l c t) : Seg W a l := h.1.seg
theorem WV.c0 {W : World} {b : Nat} {a : Option Addr} {l : List Cl} {c : Nat} {t : Int} (h : WV W b a l c t) : W.cell? ⟨b, 0, none⟩ = some (.slice a l.length c) := h.2.2.c0
theorem WV.c1 {W : World} {b : Nat} {a : Option Addr} {l : List Cl} {c : Nat} {t : Int} (h : WV W b a l c t) : W.cell? ⟨b, 1, none⟩ = some (.int .i64 t) := h.2.2.c1

theorem preS_all (L : List Int) : preS L L.length = L.foldl (· + ·) 0 := by unfold preS; rw [List.take_length]
theorem ia_mem {L : List Int} {k : Nat} (h : k < L.length) : ia L k ∈ L := by simp [ia, h]
/-- The worlds that the parts lead through. -/
theorem adv_parts {l : List Cl} {t s : Int} (h : advOk l t s = true) : inB 0 1000 s = true ∧ ∃ (X : Nat → List Cl) (T : Nat → Int), X 0 = l ∧ T 0 = t ∧ X (splV s).length = advL l t s ∧ T (splV s).length = advT l t s ∧
    ∀ k, k < (splV s).length → advOk (X k) (T k) (ia (splV s) k) = true ∧ advL (X k) (T k) (ia (splV s) k) = X (k + 1) ∧ advT (X k) (T k) (ia (splV s) k) = T (k + 1) ∧ (X k).length ≤ 1048576 := by
  have h0 := h
  simp only [advOk, Bool.and_eq_true] at h0
  obtain ⟨⟨hg, hok⟩, hg2⟩ := h0
  have hgl : good l = true := by simp only [gw, Bool.and_eq_true] at hg; exact hg.1
  have hs := times_bd hok
  have hsp := spl_sum s.toNat (by omega)
  rw [show ((s.toNat : Nat) : Int) = s by omega] at hsp
  have hz := times_pre (m := 0) (Nat.zero_le s.toNat) (show (timesO s.toNat l).isSome = true by simp only [timesOk, Bool.and_eq_true] at hok; exact hok.2)
  have t0 : timesL l 0 = l := by
    have : inT 0 = true := by simp [inT]
    simp [timesL, hgl, this, timesO]
  have pall : preS (splV s) (splV s).length = s := by rw [preS_all]; exact hsp.1
  refine ⟨by simp [inB]; omega, fun k => timesL l (preS (splV s) k), fun k => t + preS (splV s) k, by simpa [preS] using t0, by simp [preS], ?_, ?_, fun k hk => ?_⟩
  · simp only [pall, advL, h, if_true]
  · simp only [pall, advT, h, if_true]
  · have p0 : 0 ≤ ia (splV s) k := hsp.2 _ (ia_mem hk)
    have c0 : 0 ≤ preS (splV s) k := by
      have := preS_mono hsp.2 (j := 0) (k := k) (Nat.zero_le _) (by omega)
      simpa [preS] using this
    have c1 := preS_mono hsp.2 (j := k + 1) (k := (splV s).length) (by omega) (Nat.le_refl _)
    rw [preS_succ hk, pall] at c1
    obtain ⟨h1, h2, h3⟩ := adv_part h c0 p0 c1
    refine ⟨h1, ?_, ?_, ?_⟩
    · show _ = timesL l (preS (splV s) (k + 1))
      rw [preS_succ hk]; exact h2
    · show _ = t + preS (splV s) (k + 1)
      rw [preS_succ hk]; exact h3
    · have := timesL_le l (preS (splV s) k)
      show (timesL l (preS (splV s) k)).length ≤ _
      omega

end Go.Proofs.YtnabgfbempkgnaaGreatDoor
