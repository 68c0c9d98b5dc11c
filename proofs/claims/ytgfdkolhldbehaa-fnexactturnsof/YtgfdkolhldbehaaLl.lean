/- Texts of this seat, one behind the other: HistP, RgR, Hss, Pic, PicO, St7. -/
import Derived.Test.YtgfdkolhldbehaaLe
import Derived.Test.YtgfdkolhldbehaaLg
import Derived.Test.YtgfdkolhldbehaaRows
import Derived.RangeFuncWrites
import Derived.Test.YtgfdkolhldbehaaLa
import Derived.Deep.WholeRow
import Derived.Laws.CopyRow
import Derived.ChangeKeysEq
import Derived.Laws.CopyOwn
import Derived.Test.YtgfdkolhldbehaaLi
namespace Go.Proofs.Ytgfdkolhldbehaa
open Go.RowKit
set_option linter.unusedVariables false

/-- The list at a place of a list of lists. -/
def ht (H : List (List Cl)) (i : Nat) : List Cl := H.getD i []
theorem ht_get {H : List (List Cl)} {i : Nat} (h : i < H.length) : H[i]? = some (ht H i) := by simp [ht, h]
theorem ht_mem {H : List (List Cl)} {m : List Cl} (h : m ∈ H) : ∃ i, i < H.length ∧ ht H i = m := by
  obtain ⟨i, hi, e⟩ := List.mem_iff_getElem.1 h
  exact ⟨i, hi, by simp [ht, hi, e]⟩
theorem ht_in {H : List (List Cl)} {i : Nat} (h : i < H.length) : ht H i ∈ H := by simp [ht, h]

/-- Cells after 0, 1 and more steps, as long as they are good. -/
noncomputable def hist : Nat → List Cl → List (List Cl)
  | 0, l => [l]
  | n + 1, l => l :: (match nxtO l with | none => [] | some m => hist n m)

theorem hist_none {n : Nat} {l : List Cl} (h : nxtO l = none) : hist n l = [l] := by
  cases n with
  | zero => rfl
  | succ n => simp [hist, h]
theorem hist_some {n : Nat} {l m : List Cl} (h : nxtO l = some m) : hist (n + 1) l = l :: hist n m := by simp [hist, h]
theorem hist_zero (l : List Cl) : hist 0 l = [l] := rfl
theorem hist_le : ∀ (n : Nat) (l : List Cl), (hist n l).length ≤ n + 1
  | 0, l => by simp [hist]
  | n + 1, l => by
    cases h : nxtO l with
    | none => rw [hist_none h]; simp
    | some m => rw [hist_some h]; have := hist_le n m; simp; omega
theorem hist_pos (n : Nat) (l : List Cl) : 0 < (hist n l).length := by
  cases n <;> simp [hist]
theorem hist_first (n : Nat) (l : List Cl) : ht (hist n l) 0 = l := by
  cases n <;> simp [hist, ht]
theorem hist_good : ∀ {n : Nat} {l : List Cl}, good l = true → ∀ m ∈ hist n l, good m = true
  | 0, l, hg, m, hm => by simp [hist] at hm; rw [hm]; exact hg
  | n + 1, l, hg, m, hm => by
    cases h : nxtO l with
    | none => rw [hist_none h] at hm; simp at hm; rw [hm]; exact hg
    | some k =>
      rw [hist_some h] at hm
      rcases List.mem_cons.1 hm with e | e
      · rw [e]; exact hg
      · exact hist_good (nxtO_good h) m e
theorem hist_times : ∀ {n : Nat} {l : List Cl} {k : Nat}, k < (hist n l).length → timesO k l = some (ht (hist n l) k)
  | n, l, 0, _ => by rw [hist_first]; rfl
  | 0, l, k + 1, h => by simp [hist] at h
  | n + 1, l, k + 1, h => by
    cases e : nxtO l with
    | none => rw [hist_none e] at h; simp at h
    | some m =>
      rw [hist_some e] at h ⊢
      have := hist_times (n := n) (l := m) (k := k) (by simp at h; omega)
      simp only [timesO, e]
      show timesO k m = _
      rw [this]
      simp [ht]
theorem hist_has : ∀ {n : Nat} {l m : List Cl} {k : Nat}, k ≤ n → timesO k l = some m → k < (hist n l).length
  | n, l, m, 0, _, _ => hist_pos n l
  | 0, l, m, k + 1, h, _ => by omega
  | n + 1, l, m, k + 1, h, ht => by
    cases e : nxtO l with
    | none => simp [timesO, e] at ht
    | some r =>
      rw [hist_some e]
      have := hist_has (n := n) (l := r) (m := m) (k := k) (by omega) (by simpa [timesO, e] using ht)
      simp; omega
theorem hist_full (n : Nat) (l : List Cl) : (hist n l).length = n + 1 ↔ (timesO n l).isSome = true := by
  constructor
  · intro h
    rw [hist_times (n := n) (k := n) (by omega)]; rfl
  · intro h
    obtain ⟨m, hm⟩ := Option.isSome_iff_exists.1 h
    have := hist_has (n := n) (Nat.le_refl n) hm
    have := hist_le n l
    omega

/-! ### The first place where something is so -/
def fstAt (p : Nat → Bool) (n : Nat) : Option Nat := (List.range n).find? p
theorem fstAt_none {p : Nat → Bool} {n : Nat} (h : ∀ k, k < n → p k = false) : fstAt p n = none := by
  unfold fstAt
  rw [List.find?_eq_none]
  intro k hk
  rw [h k (List.mem_range.1 hk)]
  simp
theorem fstAt_some {p : Nat → Bool} {n k : Nat} (hk : k < n) (hp : p k = true) (h : ∀ j, j < k → p j = false) : fstAt p n = some k := by
  unfold fstAt
  rw [List.find?_range_eq_some]
  exact ⟨hp, List.mem_range.2 hk, fun j hj => by simp [h j hj]⟩
theorem fstAt_is {p : Nat → Bool} {n k : Nat} (h : fstAt p n = some k) : k < n ∧ p k = true ∧ ∀ j, j < k → p j = false := by
  unfold fstAt at h
  rw [List.find?_range_eq_some] at h
  exact ⟨List.mem_range.1 h.2.1, h.1, fun j hj => by have := h.2.2 j hj; simpa using this⟩
theorem fstAt_no {p : Nat → Bool} {n : Nat} (h : fstAt p n = none) : ∀ k, k < n → p k = false := by
  intro k hk
  unfold fstAt at h
  rw [List.find?_eq_none] at h
  have := h k (List.mem_range.2 hk)
  simpa using this
/-- A number or nought, and whether there is one. -/
def oN (o : Option Nat) : Int := ((o.getD 0 : Nat) : Int)

/-! ### What chapter 7 answers -/
/-- A number of steps in 1 to 20. -/
def inMo (t : Int) : Bool := decide (1 ≤ t) && decide (t ≤ 20)
theorem inMo_bd {t : Int} (h : inMo t = true) : 1 ≤ t ∧ t ≤ 20 := by simp [inMo] at h; exact h
/-- What comes of good cells, where they and the number of steps are as they are to be; nothing else. -/
noncomputable def histG (l : List Cl) (t : Int) : List (List Cl) := if good l && inMo t then hist t.toNat l else []
theorem histG_len (l : List Cl) (t : Int) : (histG l t).length ≤ 21 := by
  unfold histG; split
  · rename_i h
    rw [Bool.and_eq_true] at h
    have := inMo_bd h.2
    have := hist_le t.toNat l
    omega
  · simp
noncomputable def perO (l : List Cl) (t : Int) : Option Nat := fstAt (fun k => decide (0 < k) && decide (ht (histG l t) k = l)) (histG l t).length
noncomputable def dieO (l : List Cl) (t : Int) : Option Nat := fstAt (fun k => decide ((ht (histG l t) k).length = 0)) (histG l t).length

end Go.Proofs.Ytgfdkolhldbehaa

namespace Go.Proofs.Ytgfdkolhldbehaa
open Go.RowKit
set_option linter.unusedVariables false

/-- The word of an iterator: what it hands on behind others is so (R), when it is handed on. -/
def SeqR {α : Type} (F : Fence) (n : Nat) (P : Program) (g : Nat) (lb : Array Value) (encs : α → Array Value) (R : List α → α → World → Prop) (Kp : World → World → Prop) (S Sp : List α → Prop) (w : World) : Prop :=
  ∀ (l : Nat) (J Jx : List α → World → Prop) (W : World), Below w.heap.size w W → AbidesFrom W.heap.size J → AbidesFrom W.heap.size Jx →
    (∀ done x W1, J done W1 → R done x W1 → YieldAt F (n - 1) P l (encs x) W1 fun e W' =>
      (e = .returned (.bool true) ∧ J (done ++ [x]) W' ∧ Kp W1 W') ∨ (e = .returned (.bool false) ∧ Jx (done ++ [x]) W')) →
    J [] W →
    CallsIn F n P g (#[.func (.yield l) #[] #[]] ++ lb) W fun e W' => (∃ v, e = .returned v) ∧ ((∃ xs, S xs ∧ J xs W') ∨ (∃ xs, Sp xs ∧ Jx xs W'))

/-- The loop's record and the block of the rounds' deferred calls, as they stand. -/
structure Bk (B : Nat) (rc : LoopState → Option Code → Loop) (st : LoopState) (pe : Option Code) (W : World) : Prop where
  rcd : W.heap[B + 1]? = some (.loop (rc st pe))
  dfr : W.heap[B]? = some (.deferred (some []))

theorem Bk.lt {B : Nat} {rc : LoopState → Option Code → Loop} {st : LoopState} {pe : Option Code} {W : World} (h : Bk B rc st pe W) : B + 1 < W.heap.size := (Array.getElem?_eq_some_iff.1 h.rcd).1
theorem Bk.walks {B : Nat} {rc : LoopState → Option Code → Loop} {st : LoopState} {pe : Option Code} {W W' : World} {row : Option Nat} (h : Bk B rc st pe W) (hg : W.grownBy W' row)
    (hr : ∀ r, row = some r → ∃ o : Obj, W.heap[r]? = some o ∧ o.isWalk = true) : Bk B rc st pe W' :=
  ⟨(grownBy_keeps hg hr h.rcd rfl).trans h.rcd, (grownBy_keeps hg hr h.dfr rfl).trans h.dfr⟩
theorem Bk.body {B : Nat} {rc : LoopState → Option Code → Loop} {st : LoopState} {pe : Option Code} {W W' : World} (h : Bk B rc st pe W) (hk : KeepsOthers W W') : Bk B rc st pe W' :=
  ⟨hk.same _ _ h.rcd rfl, hk.same _ _ h.dfr rfl⟩
theorem Bk.turn {B : Nat} {rc : LoopState → Option Code → Loop} {st st' : LoopState} {pe pe' : Option Code} {W : World} (h : Bk B rc st pe W) : Bk B rc st' pe' (W.putObj (B + 1) (.loop (rc st' pe'))) :=
  ⟨World.putObj_heap_same h.lt, (World.putObj_heap_other (by omega)).trans h.dfr⟩

variable {F : Fence} {n : Nat} {P : Program}

/-- The law of the caller. -/
theorem wpIn_rangeR {α : Type} {g : Operand} {ps : Array Tmp} {assign body : Code} {Q : Exit → Act → World → Prop} {a : Act} {w : World}
    (hro : F.round = none) (h1 : 1 ≤ n) {gf : Nat} {lb : Array Value} (hg : a.eval g = .func (.func gf) #[] lb) (hFg : F.fn gf) (eg : ∀ args w, (callFunc gf args).run P w = .ok (.enter gf args) w)
    {encs : α → Array Value} {R : List α → α → World → Prop} {Kp : World → World → Prop} {S Sp : List α → Prop} (hseq : SeqR F (n - 1) P gf lb encs R Kp S Sp w)
    (hKt : ∀ {A B C : World}, Kp A B → Kp B C → Kp A C) (hKb : ∀ (W : World) (l : Nat) (o o' : Obj), w.heap.size ≤ l → W.heap[l]? = some o → o.isCells = false → Kp W (W.putObj l o')) (hps : ∀ x, (encs x).size = ps.size)
    (hR : OwnFrom w.heap.size (fun (s : List α × α) W => R s.1 s.2 W))
    (I : List α → World → Prop) (Ix : Code → List α → World → Prop) (hI : OwnFrom w.heap.size I) (hIx : ∀ c, OwnFrom w.heap.size (Ix c)) (h0 : I [] w) (a₁ : α → Act)
    (hassign : ∀ (l : Nat) (x : α) (W : World) (K : Act → World → Prop), K (a₁ x) W →
      assign.wpIn (F.inRound l) (n - 1 - 1) P (Exit.then K (fun _ _ _ => False)) { tmps := (ps.zip (encs x)).foldl (fun t (p, v) => t.setIfInBounds p v) a.tmps, defers := [] } W)
    (hbody : ∀ (l : Nat) (done : List α) (x : α) (W : World), I done W → R done x W → body.wpIn (F.inRound l) (n - 1 - 1) P (ownPostK Kp I Ix (done ++ [x]) W) (a₁ x) W)
    (hdone : ∀ (D : Nat) (xs : List α) (W : World), w.heap.size ≤ D → S xs → I xs W → W.heap[D]? = some (.deferred (some [])) → Q .normal { a with defers := { target := .collected D, args := #[] } :: a.defers } W)
    (hstop : ∀ (D : Nat) (c : Code) (xs : List α) (W : World), w.heap.size ≤ D → Sp xs → Ix c xs W → W.heap[D]? = some (.deferred (some [])) → c.wpIn F n P Q { a with defers := { target := .collected D, args := #[] } :: a.defers } W) :
    (Code.rangeFunc g ps assign body).wpIn F n P Q a w := by
  refine wpIn_rangeFunc fun fn hfn => ?_
  rw [hro]
  generalize hB : w.heap.size = B at *
  let rc : LoopState → Option Code → Loop := fun st pe => { state := st, pending := pe, fn, tmps := a.tmps, params := ps, assign, body, defers := B }
  generalize hV : (w.alloc (.deferred (some []))).alloc (.loop (rc .ready none)) = V
  have hk : Bk B rc .ready none V := by
    refine ⟨?_, ?_⟩
    · have := World.alloc_heap_new (w.alloc (.deferred (some []))) (.loop (rc .ready none))
      rw [World.size_alloc, hB] at this
      rw [← hV]; exact this
    · have := World.alloc_heap_new w (.deferred (some []))
      rw [hB] at this
      rw [← hV]; exact (Below.heap_alloc _ _ _ (by simp; omega)).trans this
  have hBV : Below w.heap.size w V := by
    rw [← hV]; exact ((Below.refl _ w).alloc (Nat.le_refl _) _).alloc (by simp) _
  have hVs : B + 2 ≤ V.heap.size := by have := hk.lt; omega
  have hwalk : ∀ {A : World} {row : Option Nat}, (∀ r, row = some r → V.heap.size ≤ r ∧ ∃ o : Obj, A.heap[r]? = some o ∧ o.isWalk = true) → ∀ r, row = some r → B ≤ r ∧ ∃ o : Obj, A.heap[r]? = some o ∧ o.isCells = false := by
    intro A row hr r e
    obtain ⟨h2, o, ho, hw⟩ := hr r e
    exact ⟨by omega, o, ho, Obj.not_cells_of_walk hw⟩
  refine ⟨B + 1, [{ target := .collected B, args := #[] }], V, { target := .fn (.func gf) lb, args := #[.func (.yield (B + 1)) #[] #[]] }, V, gf, #[.func (.yield (B + 1)) #[] #[]] ++ lb, V, ?_, ?_, ?_, ?_, fun _ => h1, ?_⟩
  · have := run_enterLoop_outer (P := P) (w := w) fn a.tmps ps assign body
    rw [hB] at this
    rw [← hV]; exact this
  · simp only [resolve, hg]; simp [go_sem]
  · intro f' hf'
    simp [Target.leads] at hf'
    subst hf'
    exact hFg
  · simp [invoke, go_sem, eg]
  have hcall := hseq (B + 1) (fun xs W => I xs W ∧ Bk B rc .ready none W) (fun xs W => ∃ c, Ix c xs W ∧ Bk B rc .done (some c) W) V (by rw [← hB] at *; exact hBV)
    (fun s A A' row hs hg' hr => ⟨hI s A A' row hs.1 hg' (hwalk hr), hs.2.walks hg' fun r e => (hr r e).2⟩)
    (fun s A A' row hs hg' hr => by
      obtain ⟨c, h2, h3⟩ := hs
      exact ⟨c, hIx c s A A' row h2 hg' (hwalk hr), h3.walks hg' fun r e => (hr r e).2⟩)
    ?round ⟨by rw [← hV]; exact hI.alloc _ (hI.alloc _ h0), hk⟩
  case round =>
    rintro done x W ⟨hi, hb⟩ hx
    have hy := run_yield (P := P) (args := encs x) hb.rcd (by exact hps x)
    refine ⟨fn, _, assign, body, hy, roundIn_of_wpIn hfn (hassign _ x W _ ⟨_, run_beginRound hb.rcd rfl, ?_⟩)⟩
    have hb2 : Bk B rc .busy none (W.putObj (B + 1) (.loop (rc .busy none))) := hb.turn
    have hq : Kp W (W.putObj (B + 1) (.loop (rc .busy none))) := hKb _ _ _ _ (by omega) hb.rcd rfl
    have hx2 : R done x (W.putObj (B + 1) (.loop (rc .busy none))) := hR.putObj (s := (done, x)) _ hx (by omega) hb.rcd rfl
    refine wpIn_mono (hbody _ done x _ (hI.putObj _ hi (by omega) hb.rcd rfl) hx2) ?_
    have stop : ∀ (c : Code) (W3 : World), KeepsOthers (W.putObj (B + 1) (.loop (rc .busy none))) W3 → Ix c (done ++ [x]) W3 →
        ∃ v W4, (Instr.endRound (B + 1) (some c)).run P W3 = .ok v W4 ∧ ((Ending.returned v = .returned (.bool true) ∧ (I (done ++ [x]) W4 ∧ Bk B rc .ready none W4) ∧ Kp W W4) ∨ (Ending.returned v = .returned (.bool false) ∧ ∃ c, Ix c (done ++ [x]) W4 ∧ Bk B rc .done (some c) W4)) := by
      intro c W3 hk3 hi3
      have hb3 := hb2.body hk3
      exact ⟨_, _, run_endRound (some c) hb3.rcd, .inr ⟨rfl, c, (hIx c).putObj _ hi3 (by omega) hb3.rcd rfl, hb3.turn⟩⟩
    rintro e a3 W3 hp
    cases e with
    | normal =>
      obtain ⟨hk3, hkp, hi3⟩ := hp
      have hb3 := hb2.body hk3
      exact ⟨_, _, run_endRound none hb3.rcd, .inl ⟨rfl, ⟨hI.putObj _ hi3 (by omega) hb3.rcd rfl, hb3.turn⟩, hKt (hKt hq hkp) (hKb _ _ _ _ (by omega) hb3.rcd rfl)⟩⟩
    | ret => exact stop .ret W3 hp.1 hp.2
    | exit id => exact stop (.exit id) W3 hp.1 hp.2
    | goto t => exact stop (.goto t) W3 hp.1 hp.2
    | panic ch => exact hp.elim
    | outgrown => exact hp.elim
  refine hcall.mono ?_
  rintro e W2 ⟨⟨v, rfl⟩, (⟨xs, hS, hi, hb⟩ | ⟨xs, hS, c, hi, hb⟩)⟩
  · exact ⟨none, _, run_endLoop hb.rcd (by simp [rc]), hdone _ xs _ (by omega) hS (hI.putObj _ hi (by omega) hb.rcd rfl) ((World.putObj_heap_other (by omega)).trans hb.dfr)⟩
  · exact ⟨some c, _, run_endLoop hb.rcd (by simp [rc]), hstop _ c xs _ (by omega) hS ((hIx c).putObj _ hi (by omega) hb.rcd rfl) ((World.putObj_heap_other (by omega)).trans hb.dfr)⟩

end Go.Proofs.Ytgfdkolhldbehaa

namespace Go.Proofs.Ytgfdkolhldbehaa
open Go.RowKit
set_option linter.unusedVariables false
set_option linter.unusedSimpArgs false
attribute [local go_sem ↓] Go.wp_at_zero Go.wp_at_succ

/-- The slice at a place. -/
def va (vs : List Value) (i : Nat) : Value := vs.getD i (.slice none 0 0)
theorem va_get {vs : List Value} {i : Nat} (h : i < vs.length) : vs[i]? = some (va vs i) := by simp [va, h]

/-- The lists H lie where the slice's address a leads to. -/
def HSeg (w : World) (a : Option Addr) (H : List (List Cl)) : Prop :=
  ∀ i, i < H.length → ∃ b o, a = some ⟨b, o, none⟩ ∧ b < w.heap.size ∧ ∃ a' c', w.cell? ⟨b, o + i, none⟩ = some (.slice a' (ht H i).length c') ∧ Seg w a' (ht H i) ∧ (a' = none → c' = 0)
theorem HSeg.below {w w' : World} {a : Option Addr} {H : List (List Cl)} (h : HSeg w a H) (hb : Below w.heap.size w w') : HSeg w' a H := by
  intro i hi
  obtain ⟨b, o, rfl, hlt, a', c', h1, h2, h3⟩ := h i hi
  exact ⟨b, o, rfl, Nat.lt_of_lt_of_le hlt hb.size, a', c', (hb.cell (p := ⟨b, _, none⟩) hlt).trans h1, h2.below hb, h3⟩

/-- The slice v owns, among the blocks from base on, the slices vs, and each of them the cells of its list, no two in one block. -/
structure OwnH (w : World) (base : Nat) (v : Value) (vs : List Value) (H : List (List Cl)) : Prop where
  len : vs.length = H.length
  row : w.ownsRow base 23 1 v H.length vs
  each : ∀ i, i < H.length → OwnS w base (va vs i) (ht H i)
  apart : ∀ i j, i < j → j < H.length → ∀ k, (va vs i).ownBlock = some k → (va vs j).ownBlock ≠ some k

theorem OwnH.nil (w : World) (base : Nat) : OwnH w base (.slice none 0 0) [] [] :=
  ⟨rfl, World.ownsRow_nil w base 23 1, fun i hi => absurd hi (Nat.not_lt_zero _), fun i j _ hj => absurd hj (Nat.not_lt_zero _)⟩
theorem OwnH.lt {w : World} {base : Nat} {v : Value} {vs : List Value} {H : List (List Cl)} (h : OwnH w base v vs H) : ∀ k, v.ownBlock = some k → base ≤ k ∧ k < w.heap.size := World.ownsRow.lt h.row
theorem OwnH.mono {w : World} {base base' : Nat} {v : Value} {vs : List Value} {H : List (List Cl)} (h : OwnH w base v vs H) (hb : base' ≤ base) : OwnH w base' v vs H :=
  ⟨h.len, World.ownsRow.mono h.row hb, fun i hi => (h.each i hi).mono hb, h.apart⟩
/-- What is no block of theirs may change. -/
theorem OwnH.kept {w w' : World} {base : Nat} {v : Value} {vs : List Value} {H : List (List Cl)} {row : Option Nat} (h : OwnH w base v vs H) (hg : w.grownBy w' row) (hr : ∀ k, row = some k → k < base) : OwnH w' base v vs H := by
  refine ⟨h.len, World.ownsRow.kept h.row hg ?_, fun i hi => own_keep (h.each i hi) hg fun k hk e => ?_, h.apart⟩
  · cases e : v.ownBlock with
    | none => exact .inl rfl
    | some k => exact .inr fun e2 => by have := hr k e2.symm; have := (h.lt k e).1; omega
  · have := hr k e
    have := ((h.each i hi).lt k hk).1
    omega
theorem OwnH.below {w w' : World} {base : Nat} {v : Value} {vs : List Value} {H : List (List Cl)} (h : OwnH w base v vs H) (hb : Below w.heap.size w w') : OwnH w' base v vs H :=
  h.kept (grown_of_below hb none) (fun k e => by cases e)
/-- A block that is no cells may change. -/
theorem ownS_other {w w' : World} {base : Nat} {v : Value} {l : List Cl} {row : Option Nat} (h : OwnS w base v l) (hg : w.grownBy w' row) (hr : ∀ r, row = some r → ∃ o : Obj, w.heap[r]? = some o ∧ o.isCells = false) : OwnS w' base v l := by
  refine own_keep h hg fun k hk e => ?_
  obtain ⟨o, ho, hc⟩ := hr k e
  rcases h.2 with ⟨rfl, _⟩ | ⟨g, cap, cur, rfl, _, hgb, _⟩
  · simp [Value.ownBlock] at hk
  · simp only [Value.ownBlock, Option.some.injEq] at hk
    subst hk
    rw [hgb] at ho; cases ho; cases hc
theorem OwnH.other {w w' : World} {base : Nat} {v : Value} {vs : List Value} {H : List (List Cl)} {row : Option Nat} (h : OwnH w base v vs H) (hg : w.grownBy w' row) (hr : ∀ r, row = some r → ∃ o : Obj, w.heap[r]? = some o ∧ o.isCells = false) : OwnH w' base v vs H := by
  refine ⟨h.len, World.ownsRow.kept h.row hg ?_, fun i hi => ownS_other (h.each i hi) hg hr, h.apart⟩
  rcases h.row.2 with ⟨rfl, _⟩ | ⟨g, cap, cur, rfl, _, hgb, _⟩
  · exact .inl rfl
  · refine .inr fun e => ?_
    obtain ⟨o, ho, hc⟩ := hr g e.symm
    rw [hgb] at ho; cases ho; cases hc

/-- The block of a row of slices is none of a row of cells. -/
theorem row_ne {w : World} {base base' : Nat} {v u : Value} {vs : List Value} {n : Nat} {l : List Cl} (h : w.ownsRow base 23 1 v n vs) (hu : OwnS w base' u l) : ∀ k, v.ownBlock = some k → u.ownBlock ≠ some k := by
  intro k hk e
  rcases h.2 with ⟨rfl, _⟩ | ⟨g, cap, cur, rfl, _, hgb, _⟩
  · simp [Value.ownBlock] at hk
  · rcases hu.2 with ⟨rfl, _⟩ | ⟨g', cap', cur', rfl, _, hgb', _⟩
    · simp [Value.ownBlock] at e
    · simp only [Value.ownBlock, Option.some.injEq] at hk e
      subst hk; subst e
      rw [hgb] at hgb'
      simp only [Option.some.injEq, Obj.cells.injEq] at hgb'
      exact absurd hgb'.2.1 (by decide)

theorem OwnH.form {w : World} {base : Nat} {v : Value} {vs : List Value} {H : List (List Cl)} (h : OwnH w base v vs H) : ∃ a cap, v = .slice a H.length cap ∧ HSeg w a H ∧ (a = none → cap = 0) := by
  rcases h.row.2 with ⟨rfl, hn⟩ | ⟨g, cap, cur, rfl, hb, hg, _⟩
  · exact ⟨none, 0, by rw [hn], fun i hi => by omega, fun _ => rfl⟩
  · refine ⟨some ⟨g, 0, none⟩, cap, rfl, fun i hi => ?_, fun e => by cases e⟩
    obtain ⟨a', c', e, hs⟩ := (h.each i hi).form
    refine ⟨g, 0, rfl, (Array.getElem?_eq_some_iff.1 hg).1, a', c', ?_, hs, ?_⟩
    · have := World.ownsRow.cellAt h.row i (by omega)
      rw [va_get (by rw [h.len]; exact hi), e] at this
      rw [Nat.zero_add]; exact this
    · exact OwnS.cap0 (e ▸ h.each i hi)
theorem OwnH.seg {w : World} {base n ca : Nat} {a : Option Addr} {vs : List Value} {H : List (List Cl)} (h : OwnH w base (.slice a n ca) vs H) : HSeg w a H := by
  obtain ⟨a', c', e, hs, _⟩ := h.form
  simp only [Value.slice.injEq] at e
  rw [e.1]; exact hs

theorem ht_set {H : List (List Cl)} {i : Nat} {m : List Cl} (hi : i < H.length) (j : Nat) : ht (H.set i m) j = if j = i then m else ht H j := by
  by_cases e : j = i
  · subst e; simp [ht, hi]
  · simp only [ht, List.getD_eq_getElem?_getD, List.getElem?_set, e, if_false]
    rw [if_neg (fun h => e h.symm)]
/-- One of the lists is written over. -/
theorem OwnH.turn {w w' : World} {base i : Nat} {v : Value} {vs : List Value} {H : List (List Cl)} {m : List Cl} (h : OwnH w base v vs H) (hi : i < H.length) (hg : w.grownBy w' (va vs i).ownBlock) (hm : OwnS w' base (va vs i) m) : OwnH w' base v vs (H.set i m) := by
  refine ⟨by rw [List.length_set]; exact h.len, ?_, fun j hj => ?_, fun a b hab hb => h.apart a b hab (by rwa [List.length_set] at hb)⟩
  · rw [List.length_set]
    refine World.ownsRow.kept h.row hg ?_
    cases e : v.ownBlock with
    | none => exact .inl rfl
    | some k => exact .inr fun e2 => row_ne h.row (h.each i hi) k e e2.symm
  · rw [List.length_set] at hj
    rw [ht_set hi]
    split
    · rename_i e; subst e; exact hm
    · rename_i e
      refine own_keep (h.each j hj) hg fun k hk e2 => ?_
      rcases Nat.lt_or_gt_of_ne e with e3 | e3
      · exact h.apart j i e3 hi k hk e2
      · exact h.apart i j e3 hj k e2 hk

theorem info_Cells : (Try.prog.info? 23).map (fun i => (i.zero, i.size, i.bytes)) = some (some (.slice none 0 0), 1, 24) := by kernel_rfl

theorem ht_snoc {H : List (List Cl)} {m : List Cl} (i : Nat) (hi : i < H.length + 1) : ht (H ++ [m]) i = if i = H.length then m else ht H i := by
  by_cases e : i = H.length
  · subst e; simp [ht]
  · simp only [e, if_false]
    have : i < H.length := by omega
    simp [ht, List.getElem?_append_left this]
theorem va_snoc {vs : List Value} {u : Value} (i : Nat) (hi : i < vs.length + 1) : va (vs ++ [u]) i = if i = vs.length then u else va vs i := by
  by_cases e : i = vs.length
  · subst e; simp [va]
  · simp only [e, if_false]
    have : i < vs.length := by omega
    simp [va, List.getElem?_append_left this]
/-- One list behind the others. -/
theorem OwnH.snoc {w : World} {base : Nat} {v v' u : Value} {vs : List Value} {H : List (List Cl)} {m : List Cl} (h : OwnH w base v vs H) (hr : w.ownsRow base 23 1 v' (H.length + 1) (vs ++ [u])) (hu : OwnS w base u m)
    (ha : ∀ i, i < H.length → ∀ k, (va vs i).ownBlock = some k → u.ownBlock ≠ some k) : OwnH w base v' (vs ++ [u]) (H ++ [m]) := by
  refine ⟨by simp [h.len], by rw [List.length_append]; exact hr, fun i hi => ?_, fun i j hij hj => ?_⟩
  · rw [List.length_append] at hi
    simp only [List.length_cons, List.length_nil] at hi
    rw [ht_snoc i hi, va_snoc i (by rw [h.len]; exact hi), h.len]
    split
    · exact hu
    · exact h.each i (by omega)
  · rw [List.length_append] at hj
    simp only [List.length_cons, List.length_nil] at hj
    rw [va_snoc i (by rw [h.len]; omega), va_snoc j (by rw [h.len]; exact hj), h.len]
    rw [if_neg (by omega : ¬ i = H.length)]
    split
    · exact ha i (by omega)
    · exact h.apart i j hij (by omega)
theorem OwnH.with_row {w : World} {base : Nat} {v v' : Value} {vs : List Value} {H : List (List Cl)} (h : OwnH w base v vs H) (hr : w.ownsRow base 23 1 v' H.length vs) : OwnH w base v' vs H := ⟨h.len, hr, h.each, h.apart⟩

/-- What two lists of lists own is kept when the slice's row is grown. -/
theorem own_rowkept {w w' : World} {base base' : Nat} {v u : Value} {vs : List Value} {n : Nat} {l : List Cl} (h : w.ownsRow base 23 1 v n vs) (hg : w.grownBy w' v.ownBlock) (hu : OwnS w base' u l) : OwnS w' base' u l :=
  own_keep hu hg fun k hk e => row_ne h hu k e hk

/-- One slice put behind slices that are owned. -/
theorem wpList_appH {w : World} {ops : Array Oper} {rest : List Oper} {o : Oper} {a : Act} {Q : Exit → Act → World → Prop} (hgd : o.guard = none) (s x : Operand)
    (ho : o.op = .call { callee := .builtin .append, args := #[s, x], argTypes := #[39, 39] })
    (base : Nat) (v : Value) (vs : List Value) (H : List (List Cl)) (u : Value) (m : List Cl) (ad : Addr) (hs : a.eval s = v) (hown : OwnH w base v vs H) (hx : a.eval x = .slice (some ad) 1 1) (hcell : w.cell? ad = some u) (hspot : ad.spot = none) (hu : OwnS w base u m)
    (hap : ∀ i, i < H.length → ∀ k, (va vs i).ownBlock = some k → u.ownBlock ≠ some k) (hlen : H.length ≤ 100000) (hbase : base ≤ w.heap.size)
    (h : ∀ v' w', OwnH w' base v' (vs ++ [u]) (H ++ [m]) → w.grownBy w' v.ownBlock → wpList Try.prog ops Q rest (a.put o.dst v') w') : wpList Try.prog ops Q (o :: rest) a w := by
  obtain ⟨i, hi, hz, hsz, hb⟩ := info_parts info_Cells
  refine wpList_append_own w hgd s x 39 ho base 23 i _ 1 24 Try.underlying39 hi hz hsz hb rfl (by omega) v H.length vs hs hown.row ad 1 1 [u] hx rfl ?_ ?_
    (by unfold maxLen; omega) (by omega) hbase ?_
  · intro j y hy
    have hj : j = 0 := by
      have := (List.getElem?_eq_some_iff.1 hy).1
      simpa using this
    subst hj
    obtain ⟨b, o, sp⟩ := ad
    simp only at hspot
    subst hspot
    have hadd : (⟨b, o, none⟩ : Addr).add 0 = ⟨b, o + 0, none⟩ := by unfold Addr.add; split <;> simp_all
    rw [hadd]
    simp at hy
    rw [← hy]
    exact hcell
  · intro y hy
    simp only [List.mem_singleton] at hy
    subst hy
    obtain ⟨a', c', e, _⟩ := hu.form
    rw [e]; rfl
  · intro v' w' h1 h2 _
    refine h v' w' ?_ h2
    have hk : OwnH w' base v' vs H ∨ True := .inr trivial
    have e : ∀ i, i < H.length → OwnS w' base (va vs i) (ht H i) := fun i hi => own_rowkept hown.row h2 (hown.each i hi)
    have hu' := own_rowkept hown.row h2 hu
    refine ⟨by simp [hown.len], by rw [List.length_append]; exact h1, fun i hi => ?_, fun i j hij hj => ?_⟩
    · rw [List.length_append] at hi
      simp only [List.length_cons, List.length_nil] at hi
      rw [ht_snoc i hi, va_snoc i (by rw [hown.len]; exact hi), hown.len]
      split
      · exact hu'
      · exact e i (by omega)
    · rw [List.length_append] at hj
      simp only [List.length_cons, List.length_nil] at hj
      rw [va_snoc i (by rw [hown.len]; omega), va_snoc j (by rw [hown.len]; exact hj), hown.len]
      rw [if_neg (by omega : ¬ i = H.length)]
      split
      · exact hap i (by omega)
      · exact hown.apart i j hij (by omega)

/-! ### Compared -/
theorem ht_take {H M : List (List Cl)} {k : Nat} (h1 : k < H.length) (h2 : k < M.length) (hh : H.take k = M.take k) (h : ht H k = ht M k) : H.take (k + 1) = M.take (k + 1) := by
  rw [List.take_succ_eq_append_getElem h1, List.take_succ_eq_append_getElem h2, hh]
  simp [ht, h1, h2] at h
  rw [h]

theorem c_eqCellS' (a b : Option Addr) (l m : List Cl) (ca cb : Nat) (v : Bool) (h : decide (l = m) = v) (w : World) (ha : Seg w a l) (hb : Seg w b m) (hl : l.length ≤ 1048576) (hm : m.length ≤ 1048576) :
    Calls Try.prog 38 #[.slice a l.length ca, .slice b m.length cb] w fun e w' => e = .returned (.bool v) ∧ Below w.heap.size w w' := by
  rw [← h]; exact c_eqCellS a b l m ca cb w ha hb hl hm

set_option maxHeartbeats 1000000 in
theorem c_eqCellSS (a b : Option Addr) (H M : List (List Cl)) (ca cb : Nat) (w : World) (ha : HSeg w a H) (hb : HSeg w b M) (hl : H.length ≤ 1048576) (hm : M.length ≤ 1048576) (h1 : ∀ i, i < H.length → (ht H i).length ≤ 1048576) (h2 : ∀ i, i < M.length → (ht M i).length ≤ 1048576) :
    Calls Try.prog 45 #[.slice a H.length ca, .slice b M.length cb] w fun e w' => e = .returned (.bool (decide (H = M))) ∧ Below w.heap.size w w' := by
  by_cases hlm : H.length = M.length
  · have hlm' : ((H.length : Int) != (M.length : Int)) = false := by simp [hlm]
    have HLM : Hid (H.length = M.length) := hlm
    have hle : H.length ≤ M.length := by omega
    have HL1 := hid h1
    have HL2 := hid h2
    clear hlm h1 h2
    go_enter Try.func45, Try.ntmps45
    go_wp2
    go_loopw [5] (fun i wr => ∃ k : Nat, k ≤ H.length ∧ i = .int .i64 k ∧ Hid (H.take k = M.take k) ∧ Below w.heap.size w wr) (fun i _ => H.length - (intOf i).toNat)
    case atStart => exact ⟨0, Nat.zero_le _, rfl, (rfl : _ = _), Below.refl _ _⟩
    case round =>
      obtain ⟨k, hk, rfl, hh, hbel⟩ := hrel
      by_cases hlt : k < H.length
      · obtain ⟨b1, o1, rfl, hb1, a1, c1, p1, s1, _⟩ := ha k hlt
        obtain ⟨b2, o2, rfl, hb2, a2, c2, q1, s2, _⟩ := hb k (by omega)
        have hd := hbel.trans (((Below.refl wr.heap.size wr).drew).mono hbel.size)
        have g1 := (hbel.cell (p := ⟨b1, o1 + k, none⟩) hb1).trans p1
        have g2 := (hbel.cell (p := ⟨b2, o2 + k, none⟩) hb2).trans q1
        have S1 := hid (s1.below hd)
        have S2 := hid (s2.below hd)
        have HB := hid hd
        have HBL := hid hbel
        have hw1 : b1 < wr.heap.size := Nat.lt_of_lt_of_le hb1 hbel.size
        have hw2 : b2 < wr.heap.size := Nat.lt_of_lt_of_le hb2 hbel.size
        have L1 := hid (HL1.out k hlt)
        have L2 := hid (HL2.out k (by omega))
        have HT := hid (fun h : ht H k = ht M k => ht_take hlt (by omega) hh.out h)
        have HF := hid (show ¬ ht H k = ht M k → decide (H = M) = false from fun h => by simp; intro e; exact h (by rw [e]))
        clear p1 q1 s1 s2 hbel ha hb hd
        have k0 : (0 : Int) ≤ (k : Int) := by omega
        have k1 : (k : Int) < (H.length : Int) := by omega
        have k2 : (k : Int) < (M.length : Int) := by omega
        generalize ht H k = x at *
        generalize ht M k = y at *
        cases hxy : decide (x = y)
        · have HF' := hid (HF.out (by simpa using hxy))
          go_wp2
          go_region_held3 (fun w' => w'.cell? ⟨b1, o1 + k, none⟩ = some (.slice a1 x.length c1) ∧ w'.cell? ⟨b2, o2 + k, none⟩ = some (.slice a2 y.length c2)) (go_keep)
            (first | (go_at_call 38; refine (c_eqCellS' a1 a2 x y c1 c2 false hxy _ S1.out S2.out L1.out L2.out).mono ?_; rintro e w' ⟨rfl, hbq⟩; have HBQ := hid (HBL.out.trans ((ofDrew hbq).mono HBL.out.size)); have hcq := (bcell (ofDrew hbq)).1; clear hbq))
          go_wp2
          go_ret
          exact ⟨ret_bool HF'.out.symm, HBQ.out⟩
        · have HT' := hid (HT.out (by simpa using hxy))
          go_wp2
          go_region_held3 (fun w' => w'.cell? ⟨b1, o1 + k, none⟩ = some (.slice a1 x.length c1) ∧ w'.cell? ⟨b2, o2 + k, none⟩ = some (.slice a2 y.length c2)) (go_keep)
            (first | (go_at_call 38; refine (c_eqCellS' a1 a2 x y c1 c2 true hxy _ S1.out S2.out L1.out L2.out).mono ?_; rintro e w' ⟨rfl, hbq⟩; have HBQ := hid (HBL.out.trans ((ofDrew hbq).mono HBL.out.size)); have hcq := (bcell (ofDrew hbq)).1; clear hbq))
          go_wp2
          go_roundw
          case rel => exact ⟨k + 1, by omega, by go_num, HT'.out, HBQ.out⟩
          case measure => simp [intOf]; omega
      · go_wp2
        go_ret
        have e1 : H.take k = H := List.take_of_length_le (by omega)
        have e2 : M.take k = M := List.take_of_length_le (by have := HLM.out; omega)
        have e3 := hh.out
        rw [e1, e2] at e3
        exact ⟨ret_bool (by simp [e3]), hbel⟩
  · have hlm' : ((H.length : Int) != (M.length : Int)) = true := by simp; omega
    go_enter Try.func45, Try.ntmps45
    go_wp2
    go_ret
    exact ⟨ret_bool (by simp; intro e; exact hlm (by rw [e])), Below.refl _ _⟩

end Go.Proofs.Ytgfdkolhldbehaa

namespace Go.Proofs.Ytgfdkolhldbehaa
open Go.RowKit
set_option linter.unusedVariables false
set_option linter.unusedSimpArgs false

/-- A picture of cells, as the values that it consists of. -/
def picL (l : List Cl) : List Value := .int .i64 (l.length : Int) :: (flat l ++ List.replicate (240 - l.length * 2) (.int .i64 0))
def pic (l : List Cl) : Array Value := (picL l).toArray
theorem picL_length {l : List Cl} (hl : l.length ≤ 120) : (picL l).length = 241 := by simp [picL, flat_length]; omega
theorem pic_size {l : List Cl} (hl : l.length ≤ 120) : (pic l).size = 241 := by simp [pic, picL_length hl]
theorem picL_one (l : List Cl) : ∀ u ∈ picL l, u.oneCell' = true := by
  intro u hu
  simp only [picL, List.mem_cons, List.mem_append, List.mem_replicate] at hu
  rcases hu with rfl | h | ⟨_, rfl⟩
  · rfl
  · exact flat_one l u h
  · rfl
theorem zero_pic : Try.zeroCells73.toList = List.replicate 241 (.int .i64 0) := by kernel_rfl

/-- The cell at a place of a picture; noughts behind the last. -/
def pad (l : List Cl) (i : Nat) : Cl := at_ l i
theorem picL_even (l : List Cl) {i : Nat} (hi : i < 120) (hl : l.length ≤ 120) : (picL l)[1 + i * 2]? = some (.int .i64 (at_ l i).1) := by
  rw [picL, show 1 + i * 2 = i * 2 + 1 by omega, List.getElem?_cons_succ]
  by_cases h : i < l.length
  · rw [List.getElem?_append_left (by rw [flat_length]; omega), flat_even h]
  · rw [List.getElem?_append_right (by rw [flat_length]; omega), flat_length, List.getElem?_replicate, if_pos (by omega)]
    simp [at_, h]
theorem picL_odd (l : List Cl) {i : Nat} (hi : i < 120) (hl : l.length ≤ 120) : (picL l)[1 + (i * 2 + 1)]? = some (.int .i64 (at_ l i).2) := by
  rw [picL, show 1 + (i * 2 + 1) = i * 2 + 1 + 1 by omega, List.getElem?_cons_succ]
  by_cases h : i < l.length
  · rw [List.getElem?_append_left (by rw [flat_length]; omega), flat_odd h]
  · rw [List.getElem?_append_right (by rw [flat_length]; omega), flat_length, List.getElem?_replicate, if_pos (by omega)]
    simp [at_, h]

theorem two_of {α β : Type} {l : List α} {f : α → β} {x y : β} (h : l.map f = [x, y]) : ∃ a b, l = [a, b] ∧ f a = x ∧ f b = y := by
  cases l with
  | nil => simp at h
  | cons a r =>
    cases r with
    | nil => simp at h
    | cons b r2 =>
      cases r2 with
      | nil => simp at h; exact ⟨a, b, rfl, h.1, h.2⟩
      | cons c r3 => simp at h

theorem eq_cell (d : Nat) (a b c e : Int) (w : World) : (Op.equalIn (d + 2) 36 (.agg #[.int .i64 a, .int .i64 b]) (.agg #[.int .i64 c, .int .i64 e])).run Try.prog w = .ok (decide (a = c) && decide (b = e)) w := by
  rw [run_equalIn_struct w (d + 1) 36 _ _ (by kernel_rfl) (by kernel_rfl)]
  have hf : (Try.prog.fieldsOf 36).toList.map (fun f => (f.name, f.type, f.offset)) = [("X", 3, 0), ("Y", 3, 1)] := by kernel_rfl
  obtain ⟨f, g, e1, q1, q2⟩ := two_of hf
  rw [e1]
  simp only [Prod.mk.injEq] at q1 q2
  obtain ⟨n1, t1, o1⟩ := q1
  obtain ⟨n2, t2, o2⟩ := q2
  have pt : ∀ (xs : Array Value) (o : Nat) (v : Value), xs[o]? = some v → (part 3 xs o).run Try.prog w = .ok v w := fun xs o v h => run_part_plain w (by kernel_rfl) h
  have eqi : ∀ x y : Int, (Op.equalIn (d + 1) 3 (.int .i64 x) (.int .i64 y)).run Try.prog w = .ok (x == y) w := fun x y => run_equalIn_int w d 3 .i64 .i64 x y (by kernel_rfl)
  simp only [Op.eqFields, n1, n2, t1, t2, o1, o2, ne_eq, show ¬ ("X" = "_") by decide, show ¬ ("Y" = "_") by decide, not_false_eq_true, if_true, Sem.run_bind,
    pt #[.int .i64 a, .int .i64 b] 0 (.int .i64 a) rfl, pt #[.int .i64 c, .int .i64 e] 0 (.int .i64 c) rfl, pt #[.int .i64 a, .int .i64 b] 1 (.int .i64 b) rfl, pt #[.int .i64 c, .int .i64 e] 1 (.int .i64 e) rfl, eqi, Result.andThen_ok]
  by_cases h1 : a = c
  · subst h1
    by_cases h2 : b = e
    · subst h2
      simp [pt #[.int .i64 a, .int .i64 b] 1 (.int .i64 b) rfl, eqi]
    · simp [pt #[.int .i64 a, .int .i64 b] 1 (.int .i64 b) rfl, pt #[.int .i64 a, .int .i64 e] 1 (.int .i64 e) rfl, eqi, h2]
  · simp [h1]

theorem part_cell (xs : Array Value) (o : Nat) (a b : Int) (h1 : xs[o]? = some (.int .i64 a)) (h2 : xs[o + 1]? = some (.int .i64 b)) (w : World) :
    (part 36 xs o).run Try.prog w = .ok (.agg #[.int .i64 a, .int .i64 b]) w := by
  have hx : xs.extract o (o + 2) = #[.int .i64 a, .int .i64 b] := by
    apply Array.ext_getElem?
    intro i
    obtain ⟨hlt, _⟩ := Array.getElem?_eq_some_iff.1 h2
    rw [Array.getElem?_extract]
    rcases (show i = 0 ∨ i = 1 ∨ 2 ≤ i by omega) with rfl | rfl | h
    · rw [if_pos (by omega)]; exact h1
    · rw [if_pos (by omega)]; exact h2
    · rw [if_neg (by omega)]; rw [Array.getElem?_eq_none (by simp; omega)]
  obtain ⟨i, hi, hz, hs, hb⟩ := info_parts info_Cell
  have hagg : (isAgg 36).run Try.prog w = .ok true w := by kernel_rfl
  simp only [part, Sem.run_bind, hagg, Result.andThen_ok, if_true, run_sizeOf w hi]
  rw [show Try.prog.cellsOf 36 = 2 by kernel_rfl, hx]; rfl

theorem eq_items (d : Nat) (X Y : Array Value) (f g : Nat → Cl) (w : World) : ∀ is : List Nat,
    (∀ i ∈ is, X[i * 2]? = some (.int .i64 (f i).1) ∧ X[i * 2 + 1]? = some (.int .i64 (f i).2)) → (∀ i ∈ is, Y[i * 2]? = some (.int .i64 (g i).1) ∧ Y[i * 2 + 1]? = some (.int .i64 (g i).2)) →
    (Op.eqItems (d + 2) 36 2 X Y is).run Try.prog w = .ok (is.all fun i => decide (f i = g i)) w
  | [], _, _ => rfl
  | i :: is, hX, hY => by
    have ih := eq_items d X Y f g w is (fun j hj => hX j (by simp [hj])) (fun j hj => hY j (by simp [hj]))
    obtain ⟨x1, x2⟩ := hX i (by simp)
    obtain ⟨y1, y2⟩ := hY i (by simp)
    simp only [Op.eqItems, Sem.run_bind, part_cell X _ _ _ x1 x2, part_cell Y _ _ _ y1 y2, eq_cell, Result.andThen_ok, List.all_cons]
    by_cases e : f i = g i
    · simp [e, ih]
    · have e' : (decide ((f i).1 = (g i).1) && decide ((f i).2 = (g i).2)) = false := by
        by_cases h1 : (f i).1 = (g i).1
        · by_cases h2 : (f i).2 = (g i).2
          · exact absurd (Prod.ext h1 h2) e
          · simp [h2]
        · simp [h1]
      simp [e', e]

theorem pic_same {l m : List Cl} (hl : l.length ≤ 120) (hm : m.length ≤ 120) : (decide (l.length = m.length) && (List.range 120).all fun i => decide (at_ l i = at_ m i)) = decide (l = m) := by
  by_cases e : l = m
  · subst e; simp
  · simp only [e, decide_false, Bool.and_eq_false_iff, decide_eq_false_iff_not, List.all_eq_false]
    by_cases h : l.length = m.length
    · refine .inr ?_
      refine Classical.byContradiction fun hn => e ?_
      apply List.ext_getElem h
      intro i h1 h2
      refine Classical.byContradiction fun h3 => hn ⟨i, List.mem_range.2 (by omega), ?_⟩
      simp [at_, h1, h2, h3]
    · exact .inl h

theorem run_iteq (q : Bool) (w : World) : (if (!q) = true then (pure false : Sem Bool) else pure true).run Try.prog w = .ok q w := by cases q <;> rfl
theorem eq_pic (d : Nat) (l m : List Cl) (hl : l.length ≤ 120) (hm : m.length ≤ 120) (w : World) : (Op.equalIn (d + 4) 73 (.agg (pic l)) (.agg (pic m))).run Try.prog w = .ok (decide (l = m)) w := by
  rw [run_equalIn_struct w (d + 3) 73 _ _ (by kernel_rfl) (by kernel_rfl)]
  have hf : (Try.prog.fieldsOf 73).toList.map (fun f => (f.name, f.type, f.offset)) = [("many", 3, 0), ("cells", 71, 1)] := by kernel_rfl
  obtain ⟨f, g, e1, q1, q2⟩ := two_of hf
  rw [e1]
  simp only [Prod.mk.injEq] at q1 q2
  obtain ⟨n1, t1, o1⟩ := q1
  obtain ⟨n2, t2, o2⟩ := q2
  have pt : ∀ (k : List Cl), (part 3 (pic k) 0).run Try.prog w = .ok (.int .i64 (k.length : Int)) w := fun k => run_part_plain w (by kernel_rfl) (by simp [pic, picL])
  have eqi : ∀ x y : Int, (Op.equalIn (d + 3) 3 (.int .i64 x) (.int .i64 y)).run Try.prog w = .ok (x == y) w := fun x y => run_equalIn_int w (d + 2) 3 .i64 .i64 x y (by kernel_rfl)
  have hia : (Try.prog.info? 71).map (·.size) = some 240 := by kernel_rfl
  obtain ⟨ia, hia1, hia2⟩ : ∃ i, Try.prog.info? 71 = some i ∧ i.size = 240 := by
    cases h : Try.prog.info? 71 with
    | none => rw [h] at hia; cases hia
    | some i => rw [h] at hia; exact ⟨i, rfl, by simpa using hia⟩
  have hagg : (isAgg 71).run Try.prog w = .ok true w := by kernel_rfl
  have pa : ∀ (k : List Cl), (part 71 (pic k) 1).run Try.prog w = .ok (.agg ((pic k).extract 1 241)) w := fun k => by
    simp only [part, Sem.run_bind, hagg, Result.andThen_ok, if_true, run_sizeOf w hia1]; rw [show Try.prog.cellsOf 71 = 240 by kernel_rfl, show (1 + 240 : Nat) = 241 from rfl, Sem.run_pure]
  obtain ⟨ic, hic, _, hics, _⟩ := info_parts info_Cell
  have hco : Try.prog.cellsOf 36 = 2 := by kernel_rfl
  have ge : ∀ (k : List Cl), k.length ≤ 120 → ∀ i ∈ List.range 120, ((pic k).extract 1 241)[i * 2]? = some (.int .i64 (at_ k i).1) ∧ ((pic k).extract 1 241)[i * 2 + 1]? = some (.int .i64 (at_ k i).2) := by
    intro k hk i hi
    have hi := List.mem_range.1 hi
    have hs := pic_size hk
    refine ⟨?_, ?_⟩
    · rw [Array.getElem?_extract, if_pos (by rw [hs]; omega)]
      simpa [pic] using picL_even k hi hk
    · rw [Array.getElem?_extract, if_pos (by rw [hs]; omega)]
      simpa [pic] using picL_odd k hi hk
  have ea : (Op.equalIn (d + 3) 71 (.agg ((pic l).extract 1 241)) (.agg ((pic m).extract 1 241))).run Try.prog w = .ok ((List.range 120).all fun i => decide (at_ l i = at_ m i)) w := by
    rw [run_equalIn_array w (d + 2) (n := 120) (e := 36) _ _ (by kernel_rfl) hic, hco]
    exact eq_items d _ _ _ _ w _ (ge l hl) (ge m hm)
  have hp := pic_same hl hm
  simp only [Op.eqFields, n1, n2, t1, t2, o1, o2, ne_eq, show ¬ ("many" = "_") by decide, show ¬ ("cells" = "_") by decide, not_false_eq_true, if_true, Sem.run_bind, pt, eqi, pa, ea, Result.andThen_ok]
  rw [← hp]
  by_cases h1 : l.length = m.length
  · have hb : ((l.length : Int) == (m.length : Int)) = true := by simp [h1]
    rw [decide_eq_true h1, Bool.true_and]
    rw [if_neg (by rw [hb]; decide)]
    rw [Sem.run_bind, pa l, Result.andThen_ok, Sem.run_bind, pa m, Result.andThen_ok, Sem.run_bind, ea, Result.andThen_ok]
    exact run_iteq _ w
  · have hb : ((l.length : Int) == (m.length : Int)) = false := by simp; omega
    rw [decide_eq_false h1, Bool.false_and]
    simp only [hb, Bool.not_false, if_true, Sem.run_pure]
theorem eql_pic (l m : List Cl) (hl : l.length ≤ 120) (hm : m.length ≤ 120) (w : World) : (binOp .eql 73 (.agg (pic l)) (.agg (pic m))).run Try.prog w = .ok (.bool (decide (l = m))) w := by
  rw [run_eql_struct, show (10000 : Nat) = 9996 + 4 from rfl, eq_pic 9996 l m hl hm]; rfl

/-- Cells are copied into a row of numbers. -/
theorem run_copyC (w : World) (ty : TypeId) (g ca : Nat) (a : Option Addr) (l : List Cl) (cur : Array Value) (t : TypeId) (hg : w.heap[g]? = some (.cells cur t (0, 0))) (hs : cur.size = 241) (ha : Seg w a l) (hl : l.length ≤ 120) :
    (Builtin.copy_ #[23, 23] ty #[.slice (some ⟨g, 1, none⟩) 120 120, .slice a l.length ca]).run Try.prog w =
      .ok (goInt l.length) (w.setRow g (cur.toList.take 1 ++ flat l ++ cur.toList.drop (1 + l.length * 2)).toArray) := by
  obtain ⟨i, hi, hz, hsz, hb⟩ := info_parts info_Cell
  have hmin : Nat.min l.length 120 = l.length := Nat.min_eq_left hl
  cases a with
  | none =>
    have e0 : l = [] := by
      cases l with
      | nil => rfl
      | cons c r => obtain ⟨b, o, e, _⟩ := ha 0 (by simp); cases e
    subst e0
    have hself : w.setRow g (cur.toList.take 1 ++ flat [] ++ cur.toList.drop (1 + ([] : List Cl).length * 2)).toArray = w := by
      simp only [flat, List.flatMap_nil, List.append_nil, List.length_nil, Nat.zero_mul, Nat.add_zero, List.take_append_drop, Array.toArray_toList]
      exact setRow_self w g cur t (0, 0) hg
    rw [hself]
    simp [Builtin.copy_, run_underlying Try.underlying23, Builtin.lenOf, Builtin.firstCells, sizeOf, typeInfo, hi, storeCells]
    try rfl
  | some ad =>
    have hld := run_loadCells_list (P := Try.prog) w ad (flat l) (seg_news ha)
    rw [flat_length] at hld
    have hst := run_storeCells_at Try.prog g 1 t (flat l) 0 cur w hg (by rw [flat_length, hs]; omega) (flat_one l)
    rw [flat_length, Nat.add_zero] at hst
    simp only [Builtin.copy_, Sem.run_bind]
    simp [run_underlying Try.underlying23, Builtin.lenOf, Builtin.firstCells, sizeOf, typeInfo, hi, hsz, hmin, hld, hst]

end Go.Proofs.Ytgfdkolhldbehaa

namespace Go.Proofs.Ytgfdkolhldbehaa
open Go.RowKit
set_option linter.unusedVariables false
set_option linter.unusedSimpArgs false

theorem zpic_size : Try.zeroCells73.size = 241 := by
  have := congrArg List.length zero_pic
  rw [List.length_replicate, Array.length_toList] at this
  exact this
theorem info_pic : (Try.prog.info? 73).map (·.size) = some 241 := by kernel_rfl
/-- A picture of which the number alone is laid. -/
noncomputable def pic1 (l : List Cl) : Array Value := Try.zeroCells73.setIfInBounds 0 (.int .i64 (l.length : Int))
theorem pic1_list (l : List Cl) : (pic1 l).toList = .int .i64 (l.length : Int) :: List.replicate 240 (.int .i64 0) := by
  rw [pic1, Array.toList_setIfInBounds, zero_pic]
  rw [List.replicate_succ (n := 240)]; rfl
theorem pic1_size (l : List Cl) : (pic1 l).size = 241 := by rw [pic1, Array.size_setIfInBounds, zpic_size]
theorem pic1_one (l : List Cl) : (pic1 l).all (·.oneCell') = true := by
  rw [← Array.all_toList, pic1_list, List.all_eq_true]
  intro u hu
  rw [List.mem_cons, List.mem_replicate] at hu
  rcases hu with rfl | ⟨_, rfl⟩ <;> rfl
theorem pic_one (l : List Cl) : (pic l).all (·.oneCell') = true := by
  rw [← Array.all_toList, List.all_eq_true]
  intro u hu
  exact picL_one l u (by simpa [pic] using hu)
theorem pic_done {l : List Cl} (hl : l.length ≤ 120) : ((pic1 l).toList.take 1 ++ flat l ++ (pic1 l).toList.drop (1 + l.length * 2)).toArray = pic l := by
  rw [pic1_list, pic, picL]
  congr 1
  rw [show 1 + l.length * 2 = l.length * 2 + 1 by omega, List.take_succ_cons, List.take_zero, List.drop_succ_cons, List.drop_replicate]
  rfl

/-- A row that was made is written whole. -/
theorem store_new (w : World) (o : Obj) (l : List Cl) (Z : World) (hZ : Z = w.alloc o) :
    (storeCells ⟨Z.heap.size, 0, none⟩ (Try.zeroCells73.toList.set 0 (.int .i64 (l.length : Int))) 0).run Try.prog (Z.alloc (.cells Try.zeroCells73 73)) =
      .ok () (Z.alloc (.cells (pic1 l) 73)) := by
  have := run_storeCells_new (P := Try.prog) Z 73 Try.zeroCells73 (pic1 l) (by rw [pic1_size]; exact info_pic) (by rw [pic1_size, zpic_size]) (pic1_one l)
  rw [show (pic1 l).toList = Try.zeroCells73.toList.set 0 (.int .i64 (l.length : Int)) by rw [pic1, Array.toList_setIfInBounds]] at this
  exact this

/-- A whole picture is laid into a row of its size. -/
theorem store_pic (w : World) (g : Nat) (c : Array Value) (l : List Cl) (hl : l.length ≤ 120) (hg : w.heap[g]? = some (.cells c 73 (0, 0))) (hc : c.size = 241) :
    (storeCells ⟨g, 0, none⟩ (pic l).toList 0).run Try.prog w = .ok () (w.setRow g (pic l)) := by
  have := run_storeCells_at Try.prog g 0 73 (pic l).toList 0 c w hg (by simp; rw [pic_size hl, hc]; exact Nat.le_refl _) (fun v hv => picL_one l v (by simpa [pic] using hv))
  rw [this]
  congr 2
  have e : (pic l).toList.length = 241 := by rw [Array.length_toList, pic_size hl]
  rw [e, Nat.zero_add, Nat.zero_add, List.take_zero, List.nil_append, List.drop_of_length_le (by rw [Array.length_toList, hc]; exact Nat.le_refl _), List.append_nil, Array.toArray_toList]

set_option maxHeartbeats 2000000 in
set_option maxRecDepth 100000 in
theorem c_pictureOf (a : Option Addr) (l : List Cl) (ca : Nat) (w : World) (ha : Seg w a l) (hl : l.length ≤ 120) :
    Calls Try.prog 112 #[.slice a l.length ca] w fun e w' => e = .returned (.agg (pic l)) ∧ Below w.heap.size w w' := by
  have hst := store_new w (.cells Try.zeroCells73 73) l _ rfl
  have h2 : Below w.heap.size w ((w.alloc (.cells Try.zeroCells73 73)).alloc (.cells (pic1 l) 73)) := ((Below.refl _ w).alloc (Nat.le_refl _) _).alloc (by simp) _
  have hcp := fun ty => run_copyC _ ty (w.alloc (.cells Try.zeroCells73 73)).heap.size ca a l (pic1 l) 73 (heap_alloc_last (w.alloc (.cells Try.zeroCells73 73)) (.cells (pic1 l) 73)) (pic1_size l) (ha.below h2) hl
  simp only [pic_done hl, World.setRow_alloc_new] at hcp
  have hld := run_loadCellsFrom_new (P := Try.prog) (w.alloc (.cells Try.zeroCells73 73)) 73 (pic l) 241 (pic_size hl)
  have hblk : ((w.alloc (.cells Try.zeroCells73 73)).alloc (.cells (pic l) 73)).heap[w.heap.size]? = some (.cells Try.zeroCells73 73 (0, 0)) :=
    (Below.heap_alloc _ _ _ (by simp)).trans (heap_alloc_last w _)
  have hsp := store_pic _ w.heap.size _ l hl hblk zpic_size
  have HW := hid hblk
  clear hblk
  have HB : Hid (Below w.heap.size w (((w.alloc (.cells Try.zeroCells73 73)).alloc (.cells (pic l) 73)).setRow w.heap.size (pic l))) :=
    hid (below_setRow (((Below.refl _ w).alloc (Nat.le_refl _) _).alloc (by simp) _) (Nat.le_refl _) _)
  have HR : Hid ((((w.alloc (.cells Try.zeroCells73 73)).alloc (.cells (pic l) 73)).setRow w.heap.size (pic l)).heap[w.heap.size]? = some (.cells (pic l) 73 (0, 0))) :=
    hid (setRow_heap _ _ _ _ _ _ HW.out)
  have HN := hid (heap_alloc_last (w.alloc (.cells Try.zeroCells73 73)) (.cells (pic l) 73))
  have hps := pic_size hl
  clear h2 ha
  simp only [World.size_alloc] at hst hcp hld HN
  generalize pic l = pl at *
  go_enter Try.func112, Try.ntmps112
  go_wp2_with fail
  refine wp_load_row _ _ rfl _ rfl _ _ _ _ HN.out Try.underlying73 rfl (by rw [hps]; exact info_pic) ?_
  go_wp2_with fail
  refine bodyPost_ret (v := .agg pl) ?_ rfl ⟨rfl, HB.out⟩
  exact results_cell_row rfl _ _ w.heap.size 73 pl (0, 0) _ rfl HR.out Try.underlying73 rfl (by rw [hps]; exact info_pic)

end Go.Proofs.Ytgfdkolhldbehaa

namespace Go.Proofs.Ytgfdkolhldbehaa
open Go.RowKit
set_option linter.unusedVariables false
set_option linter.unusedSimpArgs false

/-- Is it still? -/
noncomputable def stB (l : List Cl) : Bool := stepOk l && decide (stepL l = l)
theorem stepOk_good {l : List Cl} (h : stepOk l = true) : good l = true := by
  cases hg : good l
  · simp [stepOk, hg] at h
  · rfl
theorem stepL_le7 (l : List Cl) : (stepL l).length ≤ 120 := by
  unfold stepL
  split
  · unfold tellV
    split
    · rename_i h; exact good_le h
    · simp
  · simp

def homeOk (l : List Cl) : Bool := good l && good (home l)
def homeL (l : List Cl) : List Cl := if homeOk l then home l else []
def homeC (l : List Cl) : Cl := if homeOk l then boxLo l else (0, 0)
end Go.Proofs.Ytgfdkolhldbehaa
