/- A forest in memory that may be written: its cells one by one; marking it, and finding the marks. -/
import Derived.Test.YtgfdkolhldbehaaQuadZ
import Derived.Test.YtgfdkolhldbehaaQuadG
import Derived.Test.YtgfdkolhldbehaaOwn
namespace Go.Proofs.Ytgfdkolhldbehaa
open Go.RowKit
set_option linter.unusedVariables false
set_option linter.unusedSimpArgs false
attribute [local go_sem ↓] Go.wp_at_zero Go.wp_at_succ

/-- A cell that holds v and may be written. -/
def WC (w : World) (b o : Nat) (v : Value) : Prop := w.cell? ⟨b, o, none⟩ = some v ∧ w.frozen? ⟨b, o, none⟩ = false ∧ b < w.heap.size
theorem WC.of_block {w w' : World} {b o : Nat} {v : Value} (h : WC w b o v) (hb : w'.heap[b]? = w.heap[b]?) (hs : w.heap.size ≤ w'.heap.size) : WC w' b o v :=
  ⟨(World.cell?_of_block (a := ⟨b, o, none⟩) hb).trans h.1, (World.frozen?_of_block (a := ⟨b, o, none⟩) hb).trans h.2.1, Nat.lt_of_lt_of_le h.2.2 hs⟩
theorem WC.set {w : World} {b o : Nat} {v : Value} (h : WC w b o v) (u : Value) : WC (w.setCell ⟨b, o, none⟩ u) b o u :=
  ⟨World.cell?_setCell_same w _ _ h.1, by rw [World.frozen?_setCell]; exact h.2.1, by simpa using h.2.2⟩
theorem WC.other {w : World} {b o : Nat} {v : Value} (h : WC w b o v) {b' o' : Nat} (hne : b ≠ b' ∨ o ≠ o') (u : Value) : WC (w.setCell ⟨b', o', none⟩ u) b o v := by
  refine ⟨?_, by rw [World.frozen?_setCell]; exact h.2.1, by simpa using h.2.2⟩
  rw [World.cell?_setCell_other w _ _ _ (by intro e; have h1 := congrArg Addr.off e; have h2 := congrArg Addr.block e; dsimp only at h1 h2; omega)]
  exact h.1

/-- From w to w' only blocks from lo on and ahead of hi have changed, and new ones have come. -/
structure Grew (w w' : World) (lo hi : Nat) : Prop where
  os : w'.os = w.os
  tape : w'.tape = w.tape
  output : w'.output = w.output
  size : w.heap.size ≤ w'.heap.size
  block : ∀ k, k < w.heap.size → k < lo ∨ hi ≤ k → w'.heap[k]? = w.heap[k]?
theorem Grew.refl (w : World) (lo hi : Nat) : Grew w w lo hi := ⟨rfl, rfl, rfl, Nat.le_refl _, fun _ _ _ => rfl⟩
theorem Grew.trans {a b c : World} {lo hi : Nat} (h : Grew a b lo hi) (k : Grew b c lo hi) : Grew a c lo hi :=
  ⟨k.os.trans h.os, k.tape.trans h.tape, k.output.trans h.output, Nat.le_trans h.size k.size, fun i hi hn => (k.block i (Nat.lt_of_lt_of_le hi h.size) hn).trans (h.block i hi hn)⟩
theorem Grew.of_below {w w' : World} (h : Below w.heap.size w w') (lo hi : Nat) : Grew w w' lo hi := ⟨h.os, h.tape, h.output, h.size, fun k hk _ => h.block k hk⟩
theorem Grew.of_grown {w w' : World} {g : Nat} (h : w.grownBy w' (some g)) {lo hi : Nat} (h1 : lo ≤ g) (h2 : g < hi) : Grew w w' lo hi :=
  ⟨h.os, h.tape, h.output, h.size, fun k hk hn => h.block k hk (by simp only [ne_eq, Option.some.injEq]; omega)⟩
theorem Grew.set {w w' : World} {lo hi : Nat} (h : Grew w w' lo hi) {b o : Nat} (h1 : lo ≤ b) (h2 : b < hi) (u : Value) : Grew w (w'.setCell ⟨b, o, none⟩ u) lo hi :=
  ⟨h.os, h.tape, h.output, by simpa using h.size, fun k hk hn => (Below.heap_setCell w' ⟨b, o, none⟩ u k (by dsimp only; omega)).trans (h.block k hk hn)⟩
theorem Grew.wide {w w' : World} {lo hi lo' hi' : Nat} (h : Grew w w' lo hi) (h1 : lo' ≤ lo) (h2 : hi ≤ hi') : Grew w w' lo' hi' :=
  ⟨h.os, h.tape, h.output, h.size, fun k hk hn => h.block k hk (by omega)⟩
/-- What lay below lo is as it was. -/
theorem Grew.below {W w w' : World} {lo hi : Nat} (h : Grew w w' lo hi) (hB : Below W.heap.size W w) (hl : W.heap.size ≤ lo) : Below W.heap.size W w' :=
  ⟨h.os.trans hB.os, h.tape.trans hB.tape, h.output.trans hB.output, Nat.le_trans hB.size h.size, fun k hk => (h.block k (Nat.lt_of_lt_of_le hk hB.size) (.inl (Nat.lt_of_lt_of_le hk hl))).trans (hB.block k hk)⟩

/-- N quads in block g, the kids of quad i in block ks i (where it has any): all of these blocks from lo on and ahead of hi, no two the same. -/
structure FMem (w : World) (lo hi N g : Nat) (ks ns : Nat → Nat) (lv : Nat → Int) (kd : Nat → Nat → Int) : Prop where
  low : lo ≤ g ∧ g < hi ∧ hi ≤ w.heap.size
  lev : ∀ i, i < N → WC w g (i * 2) (.int .i64 (lv i))
  sl : ∀ i, i < N → ∃ ak ck, w.cell? ⟨g, i * 2 + 1, none⟩ = some (.slice ak (ns i) ck) ∧ ns i ≤ ck ∧ (0 < ns i → ak = some ⟨ks i, 0, none⟩)
  kid : ∀ i, i < N → ∀ j, j < ns i → WC w (ks i) j (.int .i64 (kd i j))
  klow : ∀ i, i < N → 0 < ns i → lo ≤ ks i ∧ ks i < hi ∧ ks i ≠ g
  dis : ∀ i j, i < N → j < N → i ≠ j → 0 < ns i → 0 < ns j → ks i ≠ ks j
theorem FMem.congr {w : World} {lo hi N g : Nat} {ks ns : Nat → Nat} {lv lv' : Nat → Int} {kd kd' : Nat → Nat → Int} (h : FMem w lo hi N g ks ns lv kd) (h1 : ∀ i, i < N → lv i = lv' i) (h2 : ∀ i, i < N → ∀ j, j < ns i → kd i j = kd' i j) : FMem w lo hi N g ks ns lv' kd' :=
  ⟨h.low, fun i hi => by rw [← h1 i hi]; exact h.lev i hi, h.sl, fun i hi j hj => by rw [← h2 i hi j hj]; exact h.kid i hi j hj, h.klow, h.dis⟩
theorem FMem.kept {w w' : World} {lo hi N g lo' hi' : Nat} {ks ns : Nat → Nat} {lv : Nat → Int} {kd : Nat → Nat → Int} (h : FMem w lo hi N g ks ns lv kd) (hg : Grew w w' lo' hi') (hd : hi ≤ lo' ∨ hi' ≤ lo) : FMem w' lo hi N g ks ns lv kd := by
  have hb : ∀ k, lo ≤ k → k < hi → w'.heap[k]? = w.heap[k]? := fun k h1 h2 => hg.block k (Nat.lt_of_lt_of_le h2 h.low.2.2) (by omega)
  refine ⟨⟨h.low.1, h.low.2.1, Nat.le_trans h.low.2.2 hg.size⟩, fun i hi => (h.lev i hi).of_block (hb _ h.low.1 h.low.2.1) hg.size, fun i hi => ?_, fun i hi j hj => ?_, h.klow, h.dis⟩
  · obtain ⟨ak, ck, h1, h2⟩ := h.sl i hi
    exact ⟨ak, ck, (World.cell?_of_block (a := ⟨g, i * 2 + 1, none⟩) (hb _ h.low.1 h.low.2.1)).trans h1, h2⟩
  · have hk := h.klow i hi (by omega)
    exact (h.kid i hi j hj).of_block (hb _ hk.1 hk.2.1) hg.size
theorem FMem.below {w w' : World} {lo hi N g : Nat} {ks ns : Nat → Nat} {lv : Nat → Int} {kd : Nat → Nat → Int} (h : FMem w lo hi N g ks ns lv kd) (hb : Below w.heap.size w w') : FMem w' lo hi N g ks ns lv kd :=
  h.kept (Grew.of_below hb 0 0) (by omega)
theorem FMem.wide {w : World} {lo hi lo' hi' N g : Nat} {ks ns : Nat → Nat} {lv : Nat → Int} {kd : Nat → Nat → Int} (h : FMem w lo hi N g ks ns lv kd) (h1 : lo' ≤ lo) (h2 : hi ≤ hi') (h3 : hi' ≤ w.heap.size) : FMem w lo' hi' N g ks ns lv kd :=
  ⟨by have := h.low; omega, h.lev, h.sl, h.kid, fun i hi hn => by have := h.klow i hi hn; omega, h.dis⟩
/-- A level is written. -/
theorem FMem.setLev {w : World} {lo hi N g : Nat} {ks ns : Nat → Nat} {lv : Nat → Int} {kd : Nat → Nat → Int} (h : FMem w lo hi N g ks ns lv kd) {i : Nat} (hi' : i < N) (v : Int) :
    FMem (w.setCell ⟨g, i * 2, none⟩ (.int .i64 v)) lo hi N g ks ns (fun j => if j = i then v else lv j) kd := by
  refine ⟨by simpa using h.low, fun j hj => ?_, fun j hj => ?_, fun j hj c hc => ?_, h.klow, h.dis⟩
  · by_cases e : j = i
    · subst e; simp only [if_true]; exact (h.lev j hj).set _
    · simp only [if_neg e]; exact (h.lev j hj).other (.inr (by omega)) _
  · obtain ⟨ak, ck, h1, h2⟩ := h.sl j hj
    exact ⟨ak, ck, by rw [World.cell?_setCell_other w _ _ _ (by intro e; have h1 := congrArg Addr.off e; have h2 := congrArg Addr.block e; dsimp only at h1 h2; omega)]; exact h1, h2⟩
  · have := h.klow j hj (by omega)
    exact (h.kid j hj c hc).other (.inl this.2.2) _
/-- The kids of one quad are written. -/
theorem FMem.setKids {w w' : World} {lo hi N g : Nat} {ks ns : Nat → Nat} {lv : Nat → Int} {kd : Nat → Nat → Int} (h : FMem w lo hi N g ks ns lv kd) {i : Nat} (hi' : i < N) {f : Nat → Int} (hg : 0 < ns i → Grew w w' (ks i) (ks i + 1)) (h0 : ns i = 0 → w' = w) (hk : ∀ j, j < ns i → WC w' (ks i) j (.int .i64 (f j))) :
    FMem w' lo hi N g ks ns lv (fun j c => if j = i then f c else kd j c) := by
  rcases Nat.eq_zero_or_pos (ns i) with e0 | e0
  · have := h0 e0
    subst this
    refine h.congr (fun _ _ => rfl) fun j hj c hc => ?_
    rw [if_neg (by intro e; subst e; omega)]
  · have hG := hg e0
    have hb : ∀ k, k < w.heap.size → k ≠ ks i → w'.heap[k]? = w.heap[k]? := fun k h1 h2 => hG.block k h1 (by omega)
    have hgs : g < w.heap.size := by have := h.low; omega
    have hgi := (h.klow i hi' e0).2.2
    refine ⟨⟨h.low.1, h.low.2.1, Nat.le_trans h.low.2.2 hG.size⟩, fun j hj => (h.lev j hj).of_block (hb g hgs (Ne.symm hgi)) hG.size, fun j hj => ?_, fun j hj c hc => ?_, h.klow, h.dis⟩
    · obtain ⟨ak, ck, h1, h2⟩ := h.sl j hj
      exact ⟨ak, ck, (World.cell?_of_block (a := ⟨g, j * 2 + 1, none⟩) (hb g hgs (Ne.symm hgi))).trans h1, h2⟩
    · by_cases e : j = i
      · subst e; rw [if_pos rfl]; exact hk c hc
      · rw [if_neg e]
        have := h.klow j hj (by omega)
        exact (h.kid j hj c hc).of_block (hb _ (by have := h.low; omega) (h.dis j i hj hi' e (by omega) e0)) hG.size

def nsF (F : List Qd) (i : Nat) : Nat := (qa F i).2.length
def lvF (F : List Qd) (i : Nat) : Int := (qa F i).1
def kdF (F : List Qd) (i j : Nat) : Int := ia (qa F i).2 j
theorem FMem.seg {w : World} {lo hi g : Nat} {ks : Nat → Nat} {F : List Qd} (h : FMem w lo hi F.length g ks (nsF F) (lvF F) (kdF F)) : QSeg w (some ⟨g, 0, none⟩) F := by
  intro i hi
  obtain ⟨ak, ck, h1, h2, h3⟩ := h.sl i hi
  refine ⟨g, 0, ak, ck, rfl, by have := h.low; omega, by have := (h.lev i hi).1; rw [Nat.zero_add]; exact this, by rw [Nat.zero_add]; exact h1, fun j hj => ?_, h2⟩
  have hk := h.kid i hi j hj
  exact ⟨ks i, 0, h3 (by unfold nsF; omega), hk.2.2, by rw [Nat.zero_add]; exact hk.1⟩
/-- The slice v is a forest F of its own memory, all of it in blocks from lo on and ahead of hi. -/
def FOwn (w : World) (lo hi : Nat) (v : Value) (F : List Qd) : Prop :=
  (v = .slice none 0 0 ∧ F = []) ∨ ∃ g cap ks, v = .slice (some ⟨g, 0, none⟩) F.length cap ∧ F.length ≤ cap ∧ cap ≤ 9223372036854775807 ∧ FMem w lo hi F.length g ks (nsF F) (lvF F) (kdF F)
theorem FOwn.form {w : World} {lo hi : Nat} {v : Value} {F : List Qd} (h : FOwn w lo hi v F) : ∃ a cap, v = .slice a F.length cap ∧ F.length ≤ cap ∧ cap ≤ 9223372036854775807 ∧ QSeg w a F := by
  rcases h with ⟨rfl, rfl⟩ | ⟨g, cap, ks, rfl, h1, h2, h3⟩
  · exact ⟨none, 0, rfl, by simp, by omega, fun i hi => by simp at hi⟩
  · exact ⟨_, cap, rfl, h1, h2, h3.seg⟩
theorem FOwn.kept {w w' : World} {lo hi lo' hi' : Nat} {v : Value} {F : List Qd} (h : FOwn w lo hi v F) (hg : Grew w w' lo' hi') (hd : hi ≤ lo' ∨ hi' ≤ lo) : FOwn w' lo hi v F := by
  rcases h with h | ⟨g, cap, ks, h0, h1, h2, h3⟩
  · exact .inl h
  · exact .inr ⟨g, cap, ks, h0, h1, h2, h3.kept hg hd⟩
theorem FOwn.below {w w' : World} {lo hi : Nat} {v : Value} {F : List Qd} (h : FOwn w lo hi v F) (hb : Below w.heap.size w w') : FOwn w' lo hi v F := h.kept (Grew.of_below hb 0 0) (by omega)
theorem FOwn.wide {w : World} {lo hi lo' hi' : Nat} {v : Value} {F : List Qd} (h : FOwn w lo hi v F) (h1 : lo' ≤ lo) (h2 : hi ≤ hi') (h3 : hi' ≤ w.heap.size) : FOwn w lo' hi' v F := by
  rcases h with h | ⟨g, cap, ks, k0, k1, k2, k3⟩
  · exact .inl h
  · exact .inr ⟨g, cap, ks, k0, k1, k2, k3.wide h1 h2 h3⟩
set_option maxHeartbeats 400000 in
theorem c_markInts0 (a : Option Addr) (ca : Nat) (k : Int) (w : World) : Calls Try.prog 51 #[.slice a 0 ca, .int .i64 k] w fun e w' => e = .returned (.int .i64 k) ∧ w' = w := by
  go_enter Try.func51, Try.ntmps51
  go_wp2
  go_loopw [1, 5] (fun s i wr => s = .int .i64 k ∧ i = .int .i64 0 ∧ wr = w) (fun _ _ _ => 0)
  case atStart => exact ⟨rfl, rfl, rfl⟩
  case round =>
    obtain ⟨rfl, rfl, rfl⟩ := hrel
    go_wp2
    go_ret
    exact ⟨rfl, rfl⟩
set_option maxHeartbeats 400000 in
theorem c_markInts (b n ca : Nat) (f : Nat → Int) (k : Int) (w : World) (h : ∀ j, j < n → WC w b j (.int .i64 (f j))) (hn : n ≤ 16777216) (k0 : 0 ≤ k) (k1 : k ≤ 16777216) :
    Calls Try.prog 51 #[.slice (some ⟨b, 0, none⟩) n ca, .int .i64 k] w fun e w' => e = .returned (.int .i64 (k + (n : Int))) ∧ (∀ j, j < n → WC w' b j (.int .i64 (k + (j : Int)))) ∧ Grew w w' b (b + 1) := by
  have H := hid h
  clear h
  go_enter Try.func51, Try.ntmps51
  go_wp2
  go_loopw [1, 5] (fun s i wr => ∃ j : Nat, j ≤ n ∧ s = .int .i64 (k + (j : Int)) ∧ i = .int .i64 j ∧ Hid (∀ c, c < n → WC wr b c (.int .i64 (if c < j then k + (c : Int) else f c))) ∧ Hid (Grew w wr b (b + 1))) (fun _ i _ => n - (intOf i).toNat)
  case atStart => exact ⟨0, by omega, by simp, rfl, (fun c hc => by simpa using H.out c hc), Grew.refl _ _ _⟩
  case round =>
    clear H
    obtain ⟨j, hj, rfl, rfl, HW, HG⟩ := hrel
    by_cases hlt : j < n
    · have j0 : (0 : Int) ≤ (j : Int) := by omega
      have j1 : (j : Int) < (n : Int) := by omega
      have c0 := (HW.out j hlt).1
      have f0 := (HW.out j hlt).2.1
      have HW2 : Hid (∀ c, c < n → WC (wr.setCell ⟨b, j, none⟩ (.int .i64 (k + (j : Int)))) b c (.int .i64 (if c < j + 1 then k + (c : Int) else f c))) := by
        intro c hc
        by_cases e : c = j
        · subst e; rw [if_pos (by omega)]; exact (HW.out c hc).set _
        · have e2 : (c < j + 1) = (c < j) := by apply propext; omega
          simp only [e2]
          exact (HW.out c hc).other (.inr e) _
      have HG2 := hid (HG.out.set (b := b) (o := j) (Nat.le_refl _) (by omega) (.int .i64 (k + (j : Int))))
      go_wp2
      go_roundw
      case rel => exact ⟨j + 1, by omega, by go_num, by go_num, HW2.out, HG2.out⟩
      case measure => simp [intOf]; omega
    · go_wp2
      go_ret
      obtain rfl : j = n := by omega
      exact ⟨rfl, fun c hc => by have := HW.out c hc; rw [if_pos hc] at this; exact this, HG.out⟩

/-- The mark of quad i. -/
def posF (ns : Nat → Nat) : Nat → Nat
  | 0 => 1
  | i + 1 => posF ns i + 1 + ns i
theorem posF_mono (ns : Nat → Nat) {i j : Nat} (h : i ≤ j) : posF ns i ≤ posF ns j := by
  induction j with
  | zero => have : i = 0 := by omega
            subst this; exact Nat.le_refl _
  | succ j ih =>
    by_cases e : i = j + 1
    · rw [e]; exact Nat.le_refl _
    · have := ih (by omega)
      simp only [posF]; omega
theorem posF_le (ns : Nat → Nat) (i : Nat) : i ≤ posF ns i := by
  induction i with
  | zero => simp
  | succ i ih => simp only [posF]; omega
/-- A forest of marks. -/
def markF (F : List Qd) : List Qd := (List.range F.length).map fun i => ((posF (nsF F) i : Int), (List.range (nsF F i)).map fun j : Nat => (posF (nsF F) i : Int) + 1 + (j : Int))
theorem markF_length (F : List Qd) : (markF F).length = F.length := by simp [markF]
theorem markF_at (F : List Qd) {i : Nat} (h : i < F.length) : qa (markF F) i = ((posF (nsF F) i : Int), (List.range (nsF F i)).map fun j : Nat => (posF (nsF F) i : Int) + 1 + (j : Int)) := by
  simp [qa, markF, h]
theorem markF_ns (F : List Qd) {i : Nat} (h : i < F.length) : nsF (markF F) i = nsF F i := by
  unfold nsF; rw [markF_at F h]; simp [nsF]
theorem FMem.mono_ns {w : World} {lo hi N g : Nat} {ks ns ns' : Nat → Nat} {lv : Nat → Int} {kd : Nat → Nat → Int} (h : FMem w lo hi N g ks ns lv kd) (he : ∀ i, i < N → ns i = ns' i) : FMem w lo hi N g ks ns' lv kd :=
  ⟨h.low, h.lev, fun i hi => by rw [← he i hi]; exact h.sl i hi, fun i hi j hj => h.kid i hi j (by rw [he i hi]; exact hj), fun i hi hn => h.klow i hi (by rw [he i hi]; exact hn), fun i j hi hj hne h1 h2 => h.dis i j hi hj hne (by rw [he i hi]; exact h1) (by rw [he j hj]; exact h2)⟩
theorem FMem.marked {w : World} {lo hi g : Nat} {ks : Nat → Nat} {F : List Qd} (h : FMem w lo hi F.length g ks (nsF F) (fun i => (posF (nsF F) i : Int)) (fun i j => (posF (nsF F) i : Int) + 1 + (j : Int))) : FMem w lo hi (markF F).length g ks (nsF (markF F)) (lvF (markF F)) (kdF (markF F)) := by
  rw [markF_length]
  refine (h.congr (fun i hi => ?_) (fun i hi j hj => ?_)).mono_ns fun i hi => (markF_ns F hi).symm
  · unfold lvF; rw [markF_at F hi]
  · unfold kdF; rw [markF_at F hi]; simp [ia, hj]

end Go.Proofs.Ytgfdkolhldbehaa
