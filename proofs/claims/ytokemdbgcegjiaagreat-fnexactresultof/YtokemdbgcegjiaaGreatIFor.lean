/- Texts of this seat, one behind the other: IFor. -/
import Derived.Test.YtokemdbgcegjiaaGreatB01
import Derived.Test.YtokemdbgcegjiaaGreatB03
import Derived.Test.YtokemdbgcegjiaaGreatFMem
import Derived.Test.YtokemdbgcegjiaaGreatB04
namespace Go.Proofs.YtokemdbgcegjiaaGreat
open Go.RowKit Go.Maps
set_option linter.unusedVariables false
set_option linter.unusedSimpArgs false
attribute [local go_sem ↓] Go.wp_at_zero Go.wp_at_succ

set_option maxHeartbeats 1000000 in
set_option maxRecDepth 100000 in
theorem c_clone (b o : Nat) (l : List Int) (w : World) (h : ISeg w (some ⟨b, o, none⟩) l) (hl : l.length = 4) :
    Calls Tryz.prog 145 #[.slice (some ⟨b, o, none⟩) 4 4] w fun e w' => ∃ v, e = .returned v ∧ OwnI w' w.heap.size v l ∧ Below w.heap.size w w' := by
  have HB6 := hid ((Below.refl w.heap.size w).alloc (Nat.le_refl _) (.cells #[] 3))
  have HO6 := hid (slice_empty_int w)
  have HS6 := hid (h.below HB6.out)
  have HL := hid hl
  have hcmp : ∀ w : World, (binOp BinOp.eql 46 (.slice (some ⟨b, o, none⟩) 4 4) (.slice none 0 0)).run Tryz.prog w = .ok (.bool false) w := fun w => by kernel_rfl
  clear h hl
  go_enter Tryz.func145, Tryz.ntmps145
  go_wp2_with (at_builtin; refine wpList_appI rfl (.tmp 5) (.tmp 6) rfl w.heap.size _ [] l (some ⟨b, o, none⟩) 4 4 rfl HO6.out rfl HL.out HS6.out (by intro h; cases h) (by rw [HL.out]; simp) HB6.out.size ?_; intro v6 w6 hO6 hG6 _)
  go_ret
  exact ⟨_, rfl, by simpa using hO6, below_grownI HB6.out HO6.out hG6⟩

/-- What stands in a row of quads of which the first k are laid: the first two have no kids. -/
def bt (G : List Qd) (ks cs : Nat → Nat) (k j : Nat) : Value :=
  if j % 2 = 0 then .int .i64 (if j / 2 < k then (qa G (j / 2)).1 else 0) else (if 2 ≤ j / 2 ∧ j / 2 < k then .slice (some ⟨ks (j / 2), 0, none⟩) 4 (cs (j / 2)) else .slice none 0 0)
theorem bt_even (G : List Qd) (ks cs : Nat → Nat) (k i : Nat) : bt G ks cs k (i * 2) = .int .i64 (if i < k then (qa G i).1 else 0) := by simp [bt]
theorem bt_odd (G : List Qd) (ks cs : Nat → Nat) (k i : Nat) : bt G ks cs k (i * 2 + 1) = (if 2 ≤ i ∧ i < k then .slice (some ⟨ks i, 0, none⟩) 4 (cs i) else .slice none 0 0) := by
  have e1 : (i * 2 + 1) % 2 = 1 := by omega
  have e2 : (i * 2 + 1) / 2 = i := by omega
  simp [bt, e1, e2]
structure FBuild (w : World) (g : Nat) (ks cs : Nat → Nat) (G : List Qd) (k : Nat) : Prop where
  row : w.rowIs g 92 (G.length * 2) (bt G ks cs k)
  kid : ∀ i, 2 ≤ i → i < k → (∀ j, j < 4 → WC w (ks i) j (.int .i64 (ia (qa G i).2 j))) ∧ g < ks i ∧ 4 ≤ cs i ∧ ∀ j, 2 ≤ j → j < i → ks j < ks i
theorem fb_made (w : World) (G : List Qd) (ks cs : Nat → Nat) : FBuild (w.alloc (.cells (madeCells #[.int .i64 0, .slice none 0 0] (G.length * 2)) 92)) w.heap.size ks cs G 0 := by
  refine ⟨⟨_, heap_alloc_new _ _, size_madeCells _ _, fun i hi => ?_⟩, fun i _ h => by omega⟩
  have h2 : i % 2 = 0 ∨ i % 2 = 1 := by omega
  rcases h2 with h2 | h2 <;> simp [madeCells, hi, h2, bt]
theorem FBuild.below {w w' : World} {g : Nat} {ks cs : Nat → Nat} {G : List Qd} {k : Nat} (h : FBuild w g ks cs G k) (hb : Below w.heap.size w w') : FBuild w' g ks cs G k :=
  ⟨h.row.of_block (hb.block _ h.row.lt), fun i h2 hi => ⟨fun j hj => ((h.kid i h2 hi).1 j hj).of_block (hb.block _ ((h.kid i h2 hi).1 j hj).2.2) hb.size, (h.kid i h2 hi).2⟩⟩
/-- A level is laid. -/
theorem FBuild.lev {w : World} {g : Nat} {ks cs : Nat → Nat} {G : List Qd} {k : Nat} (h : FBuild w g ks cs G k) :
    (w.setCell ⟨g, k * 2, none⟩ (.int .i64 (qa G k).1)).rowIs g 92 (G.length * 2) (fun j => if j = k * 2 then .int .i64 (qa G k).1 else bt G ks cs k j) := h.row.set (k * 2) _
theorem bt_low {G : List Qd} {ks cs : Nat → Nat} {k : Nat} (hk : k < 2) (j : Nat) : (if j = k * 2 then .int .i64 (qa G k).1 else bt G ks cs k j) = bt G ks cs (k + 1) j := by
  rcases (show j = j / 2 * 2 ∨ j = j / 2 * 2 + 1 by omega) with e | e
  · rw [e, bt_even, bt_even]
    generalize j / 2 = i
    by_cases h1 : i = k
    · subst h1; rw [if_pos rfl, if_pos (by omega)]
    · rw [if_neg (by omega)]
      have : (i < k + 1) = (i < k) := by apply propext; omega
      simp [this]
  · rw [e, bt_odd, bt_odd]
    generalize j / 2 = i
    rw [if_neg (by omega)]
    by_cases h1 : 2 ≤ i ∧ i < k
    · omega
    · rw [if_neg h1, if_neg (by omega)]
theorem bt_high {G : List Qd} {ks cs : Nat → Nat} {k b c : Nat} (hk : 2 ≤ k) (j : Nat) : (if j = k * 2 + 1 then .slice (some ⟨b, 0, none⟩) 4 c else if j = k * 2 then .int .i64 (qa G k).1 else bt G ks cs k j) = bt G (fun i => if i = k then b else ks i) (fun i => if i = k then c else cs i) (k + 1) j := by
  rcases (show j = j / 2 * 2 ∨ j = j / 2 * 2 + 1 by omega) with e | e
  · rw [e, bt_even, bt_even]
    generalize j / 2 = i
    rw [if_neg (by omega)]
    by_cases h1 : i = k
    · subst h1; rw [if_pos rfl, if_pos (by omega)]
    · rw [if_neg (by omega)]
      have : (i < k + 1) = (i < k) := by apply propext; omega
      simp [this]
  · rw [e, bt_odd, bt_odd]
    generalize j / 2 = i
    by_cases h1 : i = k
    · subst h1
      rw [if_pos rfl, if_pos (by omega), if_pos rfl, if_pos rfl]
    · rw [if_neg (by omega), if_neg (by omega)]
      by_cases h2 : 2 ≤ i ∧ i < k
      · rw [if_pos h2, if_pos (by omega), if_neg h1, if_neg h1]
      · rw [if_neg h2, if_neg (by omega)]
theorem FBuild.stepLow {w : World} {g : Nat} {ks cs : Nat → Nat} {G : List Qd} {k : Nat} (h : FBuild w g ks cs G k) (hk : k < 2) : FBuild (w.setCell ⟨g, k * 2, none⟩ (.int .i64 (qa G k).1)) g ks cs G (k + 1) :=
  ⟨h.lev.congr fun j _ => bt_low hk j, fun i h2 hi => by omega⟩
theorem FBuild.stepHigh {w w5 : World} {g : Nat} {ks cs : Nat → Nat} {G : List Qd} {k b c : Nat} (h : FBuild w g ks cs G k) (hk : 2 ≤ k) (hb : Below w.heap.size (w.setCell ⟨g, k * 2, none⟩ (.int .i64 (qa G k).1)) w5) (hK : ∀ j, j < 4 → WC w5 b j (.int .i64 (ia (qa G k).2 j))) (hn : w.heap.size ≤ b) (hc : 4 ≤ c) :
    FBuild (w5.setCell ⟨g, k * 2 + 1, none⟩ (.slice (some ⟨b, 0, none⟩) 4 c)) g (fun i => if i = k then b else ks i) (fun i => if i = k then c else cs i) G (k + 1) := by
  have hs : w.heap.size = (w.setCell ⟨g, k * 2, none⟩ (.int .i64 (qa G k).1)).heap.size := by simp
  have hgl := h.row.lt
  have r := h.lev.of_block (hb.block _ hgl)
  refine ⟨(r.set (k * 2 + 1) _).congr fun j _ => bt_high hk j, fun i h2 hi => ?_⟩
  by_cases e : i = k
  · subst e
    rw [if_pos rfl, if_pos rfl]
    refine ⟨fun j hj => (hK j hj).other (.inl (by omega)) _, by omega, hc, fun j hj1 hj2 => ?_⟩
    rw [if_neg (by omega)]
    have := ((h.kid j hj1 hj2).1 0 (by omega)).2.2
    omega
  · have hi' : i < k := by omega
    obtain ⟨k1, k2, k3, k4⟩ := h.kid i h2 hi'
    rw [if_neg e, if_neg e]
    refine ⟨fun j hj => ?_, k2, k3, fun j hj1 hj2 => by rw [if_neg (by omega)]; exact k4 j hj1 hj2⟩
    have h1 := (k1 j hj).other (b' := g) (o' := k * 2) (.inl (by omega)) (.int .i64 (qa G k).1)
    have h2 := h1.of_block (hb.block _ (k1 j hj).2.2) hb.size
    exact h2.other (.inl (by omega)) _
theorem FBuild.mem {w : World} {g : Nat} {ks cs : Nat → Nat} {G : List Qd} (h : FBuild w g ks cs G G.length) (hG : Grows G) : FMem w g w.heap.size G.length g ks (nsF G) (lvF G) (kdF G) := by
  have low : ∀ i, i < G.length → nsF G i = if 2 ≤ i then 4 else 0 := by
    intro i hi
    unfold nsF
    by_cases h2 : 2 ≤ i
    · rw [if_pos h2]; exact hG.len i h2 hi
    · rw [if_neg h2, hG.low i (by omega)]; rfl
  refine ⟨⟨Nat.le_refl _, h.row.lt, Nat.le_refl _⟩, fun i hi => ?_, fun i hi => ?_, fun i hi j hj => ?_, fun i hi hn => ?_, fun i j hi hj hne h1 h2 => ?_⟩
  · have c0 := h.row.cell (i := i * 2) (by omega)
    rw [bt_even, if_pos hi] at c0
    exact ⟨c0, h.row.frozen _, h.row.lt⟩
  · have c1 := h.row.cell (i := i * 2 + 1) (by omega)
    rw [bt_odd] at c1
    rw [low i hi]
    by_cases h2 : 2 ≤ i
    · rw [if_pos ⟨h2, hi⟩] at c1
      rw [if_pos h2]
      exact ⟨_, _, c1, (h.kid i h2 hi).2.2.1, fun _ => rfl⟩
    · rw [if_neg (by omega)] at c1
      rw [if_neg h2]
      exact ⟨_, _, c1, Nat.le_refl _, fun h => by omega⟩
  · rw [low i hi] at hj
    split at hj
    · rename_i h2; exact (h.kid i h2 hi).1 j hj
    · omega
  · rw [low i hi] at hn
    split at hn
    · rename_i h2
      have := h.kid i h2 hi
      have h0 := (this.1 0 (by omega)).2.2
      omega
    · omega
  · rw [low i hi] at h1
    rw [low j hj] at h2
    split at h1
    · split at h2
      · rename_i a b
        rcases Nat.lt_or_gt_of_ne hne with h'' | h'
        · have := (h.kid j b hj).2.2.2 i a h''; omega
        · have := (h.kid i a hi).2.2.2 j b h'; omega
      · omega
    · omega

theorem node_kids {w : World} {B : Nat} {x : Int} {l : List Int} (hl : l.length = 4) (h : w.heap[B]? = some (.cells #[.int .i64 x, .int .i64 (ia l 0), .int .i64 (ia l 1), .int .i64 (ia l 2), .int .i64 (ia l 3)] 98)) : ISeg w (some ⟨B, 1, none⟩) l := by
  intro j hj
  refine ⟨B, 1, rfl, (Array.getElem?_eq_some_iff.1 h).1, ?_⟩
  unfold World.cell?
  rw [h]
  rcases (show j = 0 ∨ j = 1 ∨ j = 2 ∨ j = 3 by omega) with rfl | rfl | rfl | rfl <;> rfl
theorem OwnI.wc {w : World} {base : Nat} {v : Value} {l : List Int} (h : OwnI w base v l) (hl : l.length = 4) : ∃ b c, v = .slice (some ⟨b, 0, none⟩) 4 c ∧ base ≤ b ∧ 4 ≤ c ∧ ∀ j, j < 4 → WC w b j (.int .i64 (ia l j)) := by
  have h0 := h
  rcases h.2 with ⟨rfl, hn⟩ | ⟨g, cap, cur, rfl, hb, hg, hcap, hm, hs, ht⟩
  · omega
  · have hlt := (Array.getElem?_eq_some_iff.1 hg).1
    refine ⟨g, cap, by rw [hl], hb, by omega, fun j hj => ⟨?_, World.ownsRow.frozenAt h0 j, hlt⟩⟩
    have := World.ownsRow.cellAt h0 j (by omega)
    rw [iv_at (by omega)] at this
    exact this

set_option maxHeartbeats 2000000 in
set_option maxRecDepth 100000 in
theorem c_forest (w : World) {base p g cap mb : Nat} {G : List Qd} (h : Grv w base p g cap mb G) (hG : Grows G) (hlen : G.length ≤ 100000) :
    Calls Tryz.prog 131 #[.pointer (some ⟨p, 0, none⟩)] w fun e w' => e = .returned (.agg #[.slice (some ⟨w.heap.size + 1, 0, none⟩) G.length G.length]) ∧ FOwn w' w.heap.size w'.heap.size (.slice (some ⟨w.heap.size + 1, 0, none⟩) G.length G.length) G ∧ Below w.heap.size w w' := by
  have hmk := make_Quads G.length (by omega)
  have c0 := h.c0
  have hpl := h.box.lt
  have B1 := hid ((Below.refl w.heap.size w).alloc (Nat.le_refl _) (.cells #[.slice none 0 0] 25))
  have B2 := hid (B1.out.alloc (by simp) (.cells (madeCells #[.int .i64 0, .slice none 0 0] (G.length * 2)) 92))
  have F2 := fb_made (w.alloc (.cells #[.slice none 0 0] 25)) G (fun _ => 0) (fun _ => 0)
  rw [show (w.alloc (.cells #[.slice none 0 0] 25)).heap.size = w.heap.size + 1 by simp] at F2
  have FF2 := hid F2
  have HG := hid h
  clear h F2
  go_enter Tryz.func131, Tryz.ntmps131
  go_wp2_with fail
  go_loopw [17] (fun i wr => ∃ (k : Nat) (ks cs : Nat → Nat), k ≤ G.length ∧ i = .int .i64 k ∧ Hid (FBuild wr (w.heap.size + 1) ks cs G k) ∧ Hid (wr.rowIs w.heap.size 25 1 (fun _ => .slice none 0 0)) ∧ Hid (Below w.heap.size w wr)) (fun i _ => G.length - (intOf i).toNat)
  case atStart => exact ⟨0, _, _, by omega, rfl, FF2.out, ((one_row (heap_alloc_new _ _) : World.rowIs _ _ _ _ _).alloc _ : World.rowIs _ _ _ _ _), B2.out⟩
  case round =>
    clear FF2 B1 B2 hmk c0
    obtain ⟨k, ks, cs, hk, rfl, HF, HX, HB⟩ := hrel
    have HGw := hid (HG.out.below HB.out)
    by_cases hlt : k < G.length
    · have k0 : (0 : Int) ≤ (k : Int) := by omega
      have k1 : (k : Int) < (G.length : Int) := by omega
      have n0 := HGw.out.lev hlt
      have n1 := HGw.out.kidAt hlt (j := 0) (by omega)
      have n2 := HGw.out.kidAt hlt (j := 1) (by omega)
      have n3 := HGw.out.kidAt hlt (j := 2) (by omega)
      have n4 := HGw.out.kidAt hlt (j := 3) (by omega)
      rw [Nat.add_zero] at n1
      have hb4 := (Below.refl wr.heap.size wr).alloc (Nat.le_refl _) (.cells #[.int .i64 (qa G k).1, .int .i64 (ia (qa G k).2 0), .int .i64 (ia (qa G k).2 1), .int .i64 (ia (qa G k).2 2), .int .i64 (ia (qa G k).2 3)] 98)
      have HF4 := hid (HF.out.below hb4)
      have HX4 := hid (HX.out.alloc (.cells #[.int .i64 (qa G k).1, .int .i64 (ia (qa G k).2 0), .int .i64 (ia (qa G k).2 1), .int .i64 (ia (qa G k).2 2), .int .i64 (ia (qa G k).2 3)] 98))
      have HB4 := hid (HB.out.trans (hb4.mono HB.out.size))
      have HN4 := hid (heap_alloc_new wr (.cells #[.int .i64 (qa G k).1, .int .i64 (ia (qa G k).2 0), .int .i64 (ia (qa G k).2 1), .int .i64 (ia (qa G k).2 2), .int .i64 (ia (qa G k).2 3)] 98))
      have HZ4 := hid (show wr.heap.size < (wr.alloc (.cells #[.int .i64 (qa G k).1, .int .i64 (ia (qa G k).2 0), .int .i64 (ia (qa G k).2 1), .int .i64 (ia (qa G k).2 2), .int .i64 (ia (qa G k).2 3)] 98)).heap.size by simp)
      have hrl := HF.out.row.lt
      have r0 := HF.out.row.cell (i := k * 2) (by omega)
      have f0 := HF.out.row.frozen (k * 2)
      clear hb4
      by_cases h2 : k < 2
      · have hk2 : ¬ (2 : Int) ≤ (k : Int) := by omega
        have HF5 := hid ((HF.out.stepLow h2).below ((Below.refl _ _).alloc (Nat.le_refl _) (.cells #[.int .i64 (qa G k).1, .int .i64 (ia (qa G k).2 0), .int .i64 (ia (qa G k).2 1), .int .i64 (ia (qa G k).2 2), .int .i64 (ia (qa G k).2 3)] 98)))
        have HX5 := hid ((HX.out.setOther (a := ⟨w.heap.size + 1, k * 2, none⟩) (by dsimp only; omega) (.int .i64 (qa G k).1)).alloc (.cells #[.int .i64 (qa G k).1, .int .i64 (ia (qa G k).2 0), .int .i64 (ia (qa G k).2 1), .int .i64 (ia (qa G k).2 2), .int .i64 (ia (qa G k).2 3)] 98))
        have hBz := HB.out.setCell (p := ⟨w.heap.size + 1, k * 2, none⟩) (by dsimp only; omega) (.int .i64 (qa G k).1)
        have HB5 := hid (hBz.alloc hBz.size (.cells #[.int .i64 (qa G k).1, .int .i64 (ia (qa G k).2 0), .int .i64 (ia (qa G k).2 1), .int .i64 (ia (qa G k).2 2), .int .i64 (ia (qa G k).2 3)] 98))
        clear hBz HF HX HB HGw
        go_wp2_with fail
        go_roundw
        case rel => exact ⟨k + 1, ks, cs, by omega, by go_num, HF5.out, HX5.out, HB5.out⟩
        case measure => simp [intOf]; omega
      · have hk2 : (2 : Int) ≤ (k : Int) := by omega
        have hBz := HB.out.setCell (p := ⟨w.heap.size + 1, k * 2, none⟩) (by dsimp only; omega) (.int .i64 (qa G k).1)
        have hs0 : (wr.setCell ⟨w.heap.size + 1, k * 2, none⟩ (.int .i64 (qa G k).1)).heap.size = wr.heap.size := by simp
        have hbN := (Below.refl wr.heap.size (wr.setCell ⟨w.heap.size + 1, k * 2, none⟩ (.int .i64 (qa G k).1))).alloc (by rw [hs0]; exact Nat.le_refl _) (.cells #[.int .i64 (qa G k).1, .int .i64 (ia (qa G k).2 0), .int .i64 (ia (qa G k).2 1), .int .i64 (ia (qa G k).2 2), .int .i64 (ia (qa G k).2 3)] 98)
        have HBN := hid hbN
        have hnew := heap_alloc_new (wr.setCell ⟨w.heap.size + 1, k * 2, none⟩ (.int .i64 (qa G k).1)) (.cells #[.int .i64 (qa G k).1, .int .i64 (ia (qa G k).2 0), .int .i64 (ia (qa G k).2 1), .int .i64 (ia (qa G k).2 2), .int .i64 (ia (qa G k).2 3)] 98)
        rw [hs0] at hnew
        have HSG := hid (node_kids (hG.len k (by omega) hlt) hnew)
        have HCL := hid (c_clone wr.heap.size 1 (qa G k).2 _ HSG.out (hG.len k (by omega) hlt))
        have HBZ := hid hBz
        have HXZ := hid (HX.out.setOther (a := ⟨w.heap.size + 1, k * 2, none⟩) (by dsimp only; omega) (.int .i64 (qa G k).1))
        have HRL := hid (HF.out.lev)
        have HS0 := hid hs0
        clear hBz hbN hnew hs0
        go_wp2_with fail
        refine HCL.out.mono ?_
        rintro e w5 ⟨v5, rfl, hO5, hb5⟩
        have hK5 := OwnI.wc hO5 (hG.len k (by omega) hlt)
        obtain ⟨b5, c5, rfl, hlow5, hc5, hW5⟩ := hK5
        have hb6 : Below wr.heap.size (wr.setCell ⟨w.heap.size + 1, k * 2, none⟩ (.int .i64 (qa G k).1)) w5 := HBN.out.trans (hb5.mono (by simp))
        have hlw : wr.heap.size ≤ b5 := Nat.le_trans (by simp) hlow5
        have HFH := hid (HF.out.stepHigh (by omega) hb6 hW5 hlw hc5)
        have r5 := HRL.out.of_block (hb6.block _ hrl)
        have q0 := r5.cell (i := k * 2 + 1) (by omega)
        have q1 := r5.frozen (k * 2 + 1)
        have X5 := HXZ.out.of_block (hb6.block _ HX.out.lt)
        have HX6 := hid (X5.setOther (a := ⟨w.heap.size + 1, k * 2 + 1, none⟩) (by dsimp only; omega) (.slice (some ⟨b5, 0, none⟩) 4 c5))
        have HB6 := hid ((HBZ.out.trans (hb6.mono HB.out.size)).setCell (p := ⟨w.heap.size + 1, k * 2 + 1, none⟩) (by dsimp only; omega) (.slice (some ⟨b5, 0, none⟩) 4 c5))
        have k2 : (k : Int) < (G.length : Int) := by omega
        rw [if_neg (by omega)] at q0
        clear HCL hO5 hb5 hW5 hb6 X5 r5 HRL HXZ HBZ HBN HF HX HB HGw n0 n1 n2 n3 n4 r0 f0
        go_wp2_with fail
        go_roundw
        case rel => exact ⟨k + 1, _, _, by omega, by go_num, HFH.out, HX6.out, HB6.out⟩
        case measure => simp [intOf]; omega
    · obtain rfl : k = G.length := by omega
      have x0 := HX.out.cell (i := 0) (by omega)
      have f0 := HX.out.frozen 0
      have E0 := hid ((HX.out.set 0 (.slice (some ⟨w.heap.size + 1, 0, none⟩) G.length G.length)).cell (i := 0) (by omega))
      simp only [if_true] at E0
      have hs : (wr.setCell ⟨w.heap.size, 0, none⟩ (.slice (some ⟨w.heap.size + 1, 0, none⟩) G.length G.length)).heap.size = wr.heap.size := by simp
      have HM := hid (HF.out.mem hG)
      have HBS := hid (HB.out.setCell (p := ⟨w.heap.size, 0, none⟩) (Nat.le_refl _) (.slice (some ⟨w.heap.size + 1, 0, none⟩) G.length G.length))
      have HGW : Hid (Grew wr (wr.setCell ⟨w.heap.size, 0, none⟩ (.slice (some ⟨w.heap.size + 1, 0, none⟩) G.length G.length)) w.heap.size (w.heap.size + 1)) := (Grew.refl wr _ _).set (Nat.le_refl _) (by omega) _
      have HMM := hid ((HM.out.kept HGW.out (by omega)).wide (lo' := w.heap.size) (hi' := wr.heap.size) (by omega) (Nat.le_refl _) (by rw [hs]; exact Nat.le_refl _))
      have HSS := hid hs
      clear HF HX HB HGw HM hs
      go_wp2_with fail
      refine bodyPost_ret (v := .agg #[.slice (some ⟨w.heap.size + 1, 0, none⟩) G.length G.length]) (by simp [results, Tryz.results131, go_sem, E0.out]) rfl ⟨rfl, .inr ⟨w.heap.size + 1, G.length, ks, rfl, Nat.le_refl _, by omega, ?_⟩, HBS.out⟩
      rw [HSS.out]; exact HMM.out

end Go.Proofs.YtokemdbgcegjiaaGreat
