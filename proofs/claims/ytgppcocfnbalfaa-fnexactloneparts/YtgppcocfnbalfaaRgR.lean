/- A loop over an iterator of which each element is known, when it is handed on, by what lies in memory then: the iterator's word (SeqR) and the law of the caller. -/
import Derived.Test.YtgppcocfnbalfaaRows
import Derived.RangeFuncWrites
namespace Go.Proofs.Ytgppcocfnbalfaa
open Go.RowKit
set_option linter.unusedVariables false

/-- The word of an iterator: what it hands on behind others is so (R), when it is handed on. -/
def SeqR {α : Type} (F : Fence) (n : Nat) (P : Program) (g : Nat) (lb : Array Value) (encs : α → Array Value) (R : List α → α → World → Prop) (Kp : World → World → Prop) (S Sp : List α → Prop) (w : World) : Prop :=
  ∀ (l : Nat) (J Jx : List α → World → Prop) (W : World), Below w.heap.size w W → AbidesFrom W.heap.size J → AbidesFrom W.heap.size Jx →
    (∀ done x W1, J done W1 → R done x W1 → YieldAt F (n - 1) P l (encs x) W1 fun e W' =>
      (e = .returned (.bool true) ∧ J (done ++ [x]) W' ∧ Kp W1 W') ∨ (e = .returned (.bool false) ∧ Jx (done ++ [x]) W')) →
    J [] W →
    CallsIn F n P g (#[.func (.yield l) #[] #[]] ++ lb) W fun e W' => (∃ v, e = .returned v) ∧ ((∃ xs, S xs ∧ J xs W') ∨ (∃ xs, Sp xs ∧ Jx xs W'))

/-- The loop's record and the block of the rounds' deferred calls, as they stand. -/
structure Bk (B : Nat) (rc : LoopState → Option Code → Loop) (st : LoopState) (pe : Option Code) (W : World) : Prop where
  rcd : W.heap[B + 1]? = some (.loop (rc st pe))
  dfr : W.heap[B]? = some (.deferred (some []))

theorem Bk.lt {B : Nat} {rc : LoopState → Option Code → Loop} {st : LoopState} {pe : Option Code} {W : World} (h : Bk B rc st pe W) : B + 1 < W.heap.size := (Array.getElem?_eq_some_iff.1 h.rcd).1
theorem Bk.walks {B : Nat} {rc : LoopState → Option Code → Loop} {st : LoopState} {pe : Option Code} {W W' : World} {row : Option Nat} (h : Bk B rc st pe W) (hg : W.grownBy W' row)
    (hr : ∀ r, row = some r → ∃ o : Obj, W.heap[r]? = some o ∧ o.isWalk = true) : Bk B rc st pe W' :=
  ⟨(grownBy_keeps hg hr h.rcd rfl).trans h.rcd, (grownBy_keeps hg hr h.dfr rfl).trans h.dfr⟩
theorem Bk.body {B : Nat} {rc : LoopState → Option Code → Loop} {st : LoopState} {pe : Option Code} {W W' : World} (h : Bk B rc st pe W) (hk : KeepsOthers W W') : Bk B rc st pe W' :=
  ⟨hk.same _ _ h.rcd rfl, hk.same _ _ h.dfr rfl⟩
theorem Bk.turn {B : Nat} {rc : LoopState → Option Code → Loop} {st st' : LoopState} {pe pe' : Option Code} {W : World} (h : Bk B rc st pe W) : Bk B rc st' pe' (W.putObj (B + 1) (.loop (rc st' pe'))) :=
  ⟨World.putObj_heap_same h.lt, (World.putObj_heap_other (by omega)).trans h.dfr⟩

variable {F : Fence} {n : Nat} {P : Program}

/-- The law of the caller. -/
theorem wpIn_rangeR {α : Type} {g : Operand} {ps : Array Tmp} {assign body : Code} {Q : Exit → Act → World → Prop} {a : Act} {w : World}
    (hro : F.round = none) (h1 : 1 ≤ n) {gf : Nat} {lb : Array Value} (hg : a.eval g = .func (.func gf) #[] lb) (hFg : F.fn gf) (eg : ∀ args w, (callFunc gf args).run P w = .ok (.enter gf args) w)
    {encs : α → Array Value} {R : List α → α → World → Prop} {Kp : World → World → Prop} {S Sp : List α → Prop} (hseq : SeqR F (n - 1) P gf lb encs R Kp S Sp w)
    (hKt : ∀ {A B C : World}, Kp A B → Kp B C → Kp A C) (hKb : ∀ (W : World) (l : Nat) (o o' : Obj), w.heap.size ≤ l → W.heap[l]? = some o → o.isCells = false → Kp W (W.putObj l o')) (hps : ∀ x, (encs x).size = ps.size)
    (hR : OwnFrom w.heap.size (fun (s : List α × α) W => R s.1 s.2 W))
    (I : List α → World → Prop) (Ix : Code → List α → World → Prop) (hI : OwnFrom w.heap.size I) (hIx : ∀ c, OwnFrom w.heap.size (Ix c)) (h0 : I [] w) (a₁ : α → Act)
    (hassign : ∀ (l : Nat) (x : α) (W : World) (K : Act → World → Prop), K (a₁ x) W →
      assign.wpIn (F.inRound l) (n - 1 - 1) P (Exit.then K (fun _ _ _ => False)) { tmps := (ps.zip (encs x)).foldl (fun t (p, v) => t.setIfInBounds p v) a.tmps, defers := [] } W)
    (hbody : ∀ (l : Nat) (done : List α) (x : α) (W : World), I done W → R done x W → body.wpIn (F.inRound l) (n - 1 - 1) P (ownPostK Kp I Ix (done ++ [x]) W) (a₁ x) W)
    (hdone : ∀ (D : Nat) (xs : List α) (W : World), w.heap.size ≤ D → S xs → I xs W → W.heap[D]? = some (.deferred (some [])) → Q .normal { a with defers := { target := .collected D, args := #[] } :: a.defers } W)
    (hstop : ∀ (D : Nat) (c : Code) (xs : List α) (W : World), w.heap.size ≤ D → Sp xs → Ix c xs W → W.heap[D]? = some (.deferred (some [])) → c.wpIn F n P Q { a with defers := { target := .collected D, args := #[] } :: a.defers } W) :
    (Code.rangeFunc g ps assign body).wpIn F n P Q a w := by
  refine wpIn_rangeFunc fun fn hfn => ?_
  rw [hro]
  generalize hB : w.heap.size = B at *
  let rc : LoopState → Option Code → Loop := fun st pe => { state := st, pending := pe, fn, tmps := a.tmps, params := ps, assign, body, defers := B }
  generalize hV : (w.alloc (.deferred (some []))).alloc (.loop (rc .ready none)) = V
  have hk : Bk B rc .ready none V := by
    refine ⟨?_, ?_⟩
    · have := World.alloc_heap_new (w.alloc (.deferred (some []))) (.loop (rc .ready none))
      rw [World.size_alloc, hB] at this
      rw [← hV]; exact this
    · have := World.alloc_heap_new w (.deferred (some []))
      rw [hB] at this
      rw [← hV]; exact (Below.heap_alloc _ _ _ (by simp; omega)).trans this
  have hBV : Below w.heap.size w V := by
    rw [← hV]; exact ((Below.refl _ w).alloc (Nat.le_refl _) _).alloc (by simp) _
  have hVs : B + 2 ≤ V.heap.size := by have := hk.lt; omega
  have hwalk : ∀ {A : World} {row : Option Nat}, (∀ r, row = some r → V.heap.size ≤ r ∧ ∃ o : Obj, A.heap[r]? = some o ∧ o.isWalk = true) → ∀ r, row = some r → B ≤ r ∧ ∃ o : Obj, A.heap[r]? = some o ∧ o.isCells = false := by
    intro A row hr r e
    obtain ⟨h2, o, ho, hw⟩ := hr r e
    exact ⟨by omega, o, ho, Obj.not_cells_of_walk hw⟩
  refine ⟨B + 1, [{ target := .collected B, args := #[] }], V, { target := .fn (.func gf) lb, args := #[.func (.yield (B + 1)) #[] #[]] }, V, gf, #[.func (.yield (B + 1)) #[] #[]] ++ lb, V, ?_, ?_, ?_, ?_, fun _ => h1, ?_⟩
  · have := run_enterLoop_outer (P := P) (w := w) fn a.tmps ps assign body
    rw [hB] at this
    rw [← hV]; exact this
  · simp only [resolve, hg]; simp [go_sem]
  · intro f' hf'
    simp [Target.leads] at hf'
    subst hf'
    exact hFg
  · simp [invoke, go_sem, eg]
  have hcall := hseq (B + 1) (fun xs W => I xs W ∧ Bk B rc .ready none W) (fun xs W => ∃ c, Ix c xs W ∧ Bk B rc .done (some c) W) V (by rw [← hB] at *; exact hBV)
    (fun s A A' row hs hg' hr => ⟨hI s A A' row hs.1 hg' (hwalk hr), hs.2.walks hg' fun r e => (hr r e).2⟩)
    (fun s A A' row hs hg' hr => by
      obtain ⟨c, h2, h3⟩ := hs
      exact ⟨c, hIx c s A A' row h2 hg' (hwalk hr), h3.walks hg' fun r e => (hr r e).2⟩)
    ?round ⟨by rw [← hV]; exact hI.alloc _ (hI.alloc _ h0), hk⟩
  case round =>
    rintro done x W ⟨hi, hb⟩ hx
    have hy := run_yield (P := P) (args := encs x) hb.rcd (by exact hps x)
    refine ⟨fn, _, assign, body, hy, roundIn_of_wpIn hfn (hassign _ x W _ ⟨_, run_beginRound hb.rcd rfl, ?_⟩)⟩
    have hb2 : Bk B rc .busy none (W.putObj (B + 1) (.loop (rc .busy none))) := hb.turn
    have hq : Kp W (W.putObj (B + 1) (.loop (rc .busy none))) := hKb _ _ _ _ (by omega) hb.rcd rfl
    have hx2 : R done x (W.putObj (B + 1) (.loop (rc .busy none))) := hR.putObj (s := (done, x)) _ hx (by omega) hb.rcd rfl
    refine wpIn_mono (hbody _ done x _ (hI.putObj _ hi (by omega) hb.rcd rfl) hx2) ?_
    have stop : ∀ (c : Code) (W3 : World), KeepsOthers (W.putObj (B + 1) (.loop (rc .busy none))) W3 → Ix c (done ++ [x]) W3 →
        ∃ v W4, (Instr.endRound (B + 1) (some c)).run P W3 = .ok v W4 ∧ ((Ending.returned v = .returned (.bool true) ∧ (I (done ++ [x]) W4 ∧ Bk B rc .ready none W4) ∧ Kp W W4) ∨ (Ending.returned v = .returned (.bool false) ∧ ∃ c, Ix c (done ++ [x]) W4 ∧ Bk B rc .done (some c) W4)) := by
      intro c W3 hk3 hi3
      have hb3 := hb2.body hk3
      exact ⟨_, _, run_endRound (some c) hb3.rcd, .inr ⟨rfl, c, (hIx c).putObj _ hi3 (by omega) hb3.rcd rfl, hb3.turn⟩⟩
    rintro e a3 W3 hp
    cases e with
    | normal =>
      obtain ⟨hk3, hkp, hi3⟩ := hp
      have hb3 := hb2.body hk3
      exact ⟨_, _, run_endRound none hb3.rcd, .inl ⟨rfl, ⟨hI.putObj _ hi3 (by omega) hb3.rcd rfl, hb3.turn⟩, hKt (hKt hq hkp) (hKb _ _ _ _ (by omega) hb3.rcd rfl)⟩⟩
    | ret => exact stop .ret W3 hp.1 hp.2
    | exit id => exact stop (.exit id) W3 hp.1 hp.2
    | goto t => exact stop (.goto t) W3 hp.1 hp.2
    | panic ch => exact hp.elim
    | outgrown => exact hp.elim
  refine hcall.mono ?_
  rintro e W2 ⟨⟨v, rfl⟩, (⟨xs, hS, hi, hb⟩ | ⟨xs, hS, c, hi, hb⟩)⟩
  · exact ⟨none, _, run_endLoop hb.rcd (by simp [rc]), hdone _ xs _ (by omega) hS (hI.putObj _ hi (by omega) hb.rcd rfl) ((World.putObj_heap_other (by omega)).trans hb.dfr)⟩
  · exact ⟨some c, _, run_endLoop hb.rcd (by simp [rc]), hstop _ c xs _ (by omega) hS ((hIx c).putObj _ hi (by omega) hb.rcd rfl) ((World.putObj_heap_other (by omega)).trans hb.dfr)⟩

end Go.Proofs.Ytgppcocfnbalfaa
