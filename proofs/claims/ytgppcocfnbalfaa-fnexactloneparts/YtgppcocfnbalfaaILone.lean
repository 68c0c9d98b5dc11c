/- LoneParts of the program. -/
import Derived.Test.YtgppcocfnbalfaaIFst
import Derived.Test.YtgppcocfnbalfaaHist
namespace Go.Proofs.Ytgppcocfnbalfaa
open Go.RowKit
set_option linter.unusedVariables false
set_option linter.unusedSimpArgs false
attribute [local go_sem ↓] Go.wp_at_zero Go.wp_at_succ

theorem ris_pair {l : List Cl} (h : risTo l l.length = true) : l.Pairwise (fun a b => ltC a b = true) := by
  rw [List.pairwise_iff_getElem]
  intro i j hi hj hij
  have := ris_lt h j hij hj
  simpa only [at_, List.getD_eq_getElem?_getD, List.getElem?_eq_getElem hi, List.getElem?_eq_getElem hj, Option.getD_some] using this
theorem pair_ris {l : List Cl} (h : l.Pairwise (fun a b => ltC a b = true)) : risTo l l.length = true := by
  refine ris_of fun i hi => ?_
  rw [List.pairwise_iff_getElem] at h
  have := h i (i + 1) (by omega) hi (by omega)
  simpa [at_, hi, show i < l.length by omega] using this
/-- The part, sorted, is those of l that are in it. -/
theorem part_sorted {l : List Cl} {c : Cl} {r l' : List Cl} (hg : good l = true) (hs : ∀ x ∈ c :: r, x ∈ l) (hn : (c :: r).Nodup) (hp : l'.Perm (grown 0 [c] r).1) (hso : Sorted l') :
    l' = l.filter (fun x => decide (x ∈ (grown 0 [c] r).1)) := by
  obtain ⟨-, h2, h3⟩ := grown_rest (p := [c]) (r := r) hn
  have hnp := (List.nodup_append.1 h2).1
  refine ris_unique (nodup_sorted_ris hso (hp.symm.nodup hnp)) (pair_ris ((ris_pair (good_ris hg)).filter _)) fun x => ?_
  rw [hp.mem_iff, List.mem_filter]
  simp only [decide_eq_true_eq]
  exact ⟨fun h => ⟨hs x ((h3 x).1 (List.mem_append_left _ h)), h⟩, fun h => h.2⟩
theorem left_sub {c : Cl} {r : List Cl} (hn : (c :: r).Nodup) : (∀ x ∈ (grown 0 [c] r).2, x ∈ c :: r) ∧ (grown 0 [c] r).2.Nodup := by
  obtain ⟨-, h2, h3⟩ := grown_rest (p := [c]) (r := r) hn
  exact ⟨fun x h => (h3 x).1 (List.mem_append_right _ h), (List.nodup_append.1 h2).2.1⟩
theorem good_mem1 {l : List Cl} (h : good l = true) {c : Cl} (hc : c ∈ l) : inR c = true := by
  obtain ⟨i, hi, e⟩ := List.getElem_of_mem hc
  have := good_in h i hi
  simpa [at_, hi, e] using this
theorem ty_ne {W : World} {base : Nat} {pv : Value} {vs : List Value} {H : List (List Cl)} {a : Option Addr} (h : OwnH W base pv vs H) (ht : Ty W a) : ∀ A, a = some A → pv.ownBlock ≠ some A.block := by
  intro A e e2
  obtain ⟨cur, f, h1⟩ := ht A e
  rcases h.row.2 with ⟨rfl, _⟩ | ⟨g, cap, cur', rfl, _, hg, _⟩
  · simp [Value.ownBlock] at e2
  · simp only [Value.ownBlock, Option.some.injEq] at e2
    rw [e2, h1] at hg
    simp only [Option.some.injEq, Obj.cells.injEq] at hg
    exact absurd hg.2.1 (by decide)
def slLen : Value → Nat
  | .slice _ n _ => n
  | _ => 0
/-- Parts that are found, and what is left. -/
structure LP (w W : World) (l : List Cl) (pv : Value) (vs : List Value) (H : List (List Cl)) (a2 : Option Addr) (s : List Cl) : Prop where
  own : OwnH W w.heap.size pv vs H
  seg : Seg W a2 s
  ty : Ty W a2
  all : H ++ partsOf l s = partsOf l l
  sub : ∀ x ∈ s, x ∈ l
  nd : s.Nodup
  len : H.length + s.length ≤ l.length
  bel : Below w.heap.size w W

set_option maxHeartbeats 4000000 in
set_option maxRecDepth 100000 in
theorem c_iLoneParts (a : Option Addr) (l : List Cl) (ca : Nat) (w : World) (ha : Seg w a l) (hty : Ty w a) (hca : l.length ≤ ca) (hl : l.length ≤ 1048576) :
    Calls Try.prog 34 #[.slice a l.length ca] w fun e w' => ∃ v vs, e = .returned (.tuple #[v, .bool (good l)]) ∧ OwnH w' w.heap.size v vs (lpL l) ∧ Below w.heap.size w w' := by
  cases hg : good l
  · have HC := hid (c_iGood' a l ca false hg _ ha hl)
    have HV := hid (show lpL l = [] by simp [lpL, hg])
    go_enter Try.func34, Try.ntmps34
    go_wp2_with fail
    refine HC.out.mono ?_
    rintro e w1 ⟨rfl, b1⟩
    go_wp2
    go_ret2
    first | exact ⟨_, [], rfl, by rw [HV.out]; exact OwnH.nil _ _, b1⟩ | exact ⟨_, rfl, ⟨[], by rw [HV.out]; exact OwnH.nil _ _⟩, b1⟩
  · have HC := hid (c_iGood' a l ca true hg _ ha hl)
    have HV := hid (show lpL l = partsOf l l by simp [lpL, hg])
    go_enter Try.func34, Try.ntmps34
    go_wp2_with fail
    refine HC.out.mono ?_
    rintro e w1 ⟨rfl, b1⟩
    have hl2 := good_le hg
    have P0 := hid (show LP w w1 l (.slice none 0 0) [] [] a l from ⟨OwnH.nil _ _, ha.below b1, hty.below b1, rfl, fun x h => h, ris_nodup (good_ris hg), by simp, b1⟩)
    have HGD := hid hg
    clear ha hty b1 HC hg
    go_wp2_with fail
    go_loopw [4, 5] (fun pv rv wr => ∃ (vs : List Value) (H : List (List Cl)) (s : List Cl) (a2 : Option Addr) (c2 : Nat), rv = .slice a2 s.length c2 ∧ s.length ≤ c2 ∧ Hid (LP w wr l pv vs H a2 s)) (fun _ rv _ => slLen rv)
    case atStart => exact ⟨[], [], l, a, ca, rfl, hca, P0.out⟩
    case round =>
      obtain ⟨vs, H, s, a2, c2, rfl, hc2, hL⟩ := hrel
      cases s with
      | nil =>
        have HA := hid hL.out.all
        have HO := hid hL.out.own
        have HB := hid hL.out.bel
        go_wp2_with fail
        go_ret2
        rw [HV.out, ← HA.out, parts_nil, List.append_nil]
        first | exact ⟨_, vs, rfl, HO.out, HB.out⟩ | exact ⟨_, rfl, ⟨vs, HO.out⟩, HB.out⟩
      | cons c r =>
        obtain ⟨b, o, e, hb, -, -⟩ := hL.out.seg 0 (by simp)
        subst e
        have h9 : (0 : Int) < (r.length : Int) + 1 := by omega
        have hcl : (c :: r).length ≤ 120 := by have := hL.out.len; omega
        have FPC := hid (c_firstPart ⟨b, o, none⟩ c r c2 wr hL.out.seg hb hL.out.ty hc2 hcl (fun x hx => by
          have := good_mem1 HGD.out (hL.out.sub x hx)
          exact this))
        go_wp2_with fail
        refine FPC.out.mono ?_
        rintro e w2 ⟨v1, v2, l', rfl, ho, hp, hso, ⟨a3, c3, rfl, hs3, ht3, hc3⟩, b2⟩
        rw [part_sorted HGD.out hL.out.sub hL.out.nd hp hso] at ho
        obtain ⟨ap, cp, rfl, -⟩ := ho.form
        obtain ⟨L', hL'⟩ : ∃ L', L' = l.filter (fun x => decide (x ∈ (grown 0 [c] r).1)) := ⟨_, rfl⟩
        rw [← hL'] at ho
        rw [← hL']
        have kz := (Below.refl w2.heap.size w2).alloc (Nat.le_refl _) (.cells #[.slice ap L'.length cp] 23)
        have HC7 := hid (cell_one' w2 (.slice ap L'.length cp) 23)
        have HO7 := hid (ho.below kz)
        have HH7 := hid ((hL.out.own.below b2).below kz)
        have S7 := hid (hs3.below kz)
        have T7 := hid (ht3.below kz)
        have B7 := hid (hL.out.bel.trans ((b2.trans (kz.mono b2.size)).mono hL.out.bel.size))
        have hbs := hL.out.bel.size
        have hgl := grown_left c r
        have hln := hL.out.len
        simp only [List.length_cons] at hln
        have HA := hid hL.out.all
        rw [parts_cons, ← hL'] at HA
        obtain ⟨hsu, hsn⟩ := left_sub hL.out.nd
        have HSU := hid (fun x hx => hL.out.sub x (hsu x hx))
        have HSN := hid hsn
        have hc3' := hc3
        have hHl : H.length ≤ 100000 := by omega
        have HL0 := hid (fun i (hi : i < H.length) => (hL.out.own.each i hi).lt)
        clear kz ho hs3 ht3 b2 FPC hsu hsn hc3 hL hso hp hL'
        generalize (grown 0 [c] r).2 = s3 at *
        go_wp2_with (first | (at_builtin; refine wpList_appH rfl _ _ rfl w.heap.size _ vs H (.slice ap L'.length cp) L' ⟨w2.heap.size, 0, none⟩ rfl HH7.out rfl HC7.out rfl (HO7.out.mono hbs) (fun i hi k hk e => by have h1 := (HL0.out i hi k hk).2; have h2 := (HO7.out.lt k e).1; omega) hHl B7.out.size ?_; intro v8 w8 hO8 hG8))
        go_roundw
        case rel =>
          refine ⟨vs ++ [.slice ap L'.length cp], H ++ [L'], s3, a3, c3, rfl, hc3', ⟨hO8, seg_far S7.out hG8 (ty_ne HH7.out T7.out), T7.out.far hG8 (ty_ne HH7.out T7.out), by rw [← HA.out]; simp, HSU.out, HSN.out, by rw [List.length_append]; simp; omega, below_row B7.out hG8 (fun z e => (HH7.out.lt z e).1)⟩⟩
        case measure => simp [slLen]; omega
end Go.Proofs.Ytgppcocfnbalfaa
