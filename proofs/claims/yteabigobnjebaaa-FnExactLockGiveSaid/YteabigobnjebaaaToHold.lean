/-
  Contracts of toHold, toHoldS (new rows, each list in a row of its own), eqHold, eqHoldS.
-/
import Derived.Test.YteabigobnjebaaaHold
namespace Go.Proofs.Yteabigobnjebaaa
open Go.RowKit

/-- What toSpanS leaves, with the place of the new row. -/
def ToSp2 (w : World) (L : List Rng) (e : Ending) (w' : World) : Prop :=
  ∃ nb, e = .returned (.slice (some ⟨nb, 0, none⟩) L.length L.length) ∧ w.heap.size ≤ nb ∧ nb < w'.heap.size ∧ Row2 w' nb L.length (fun i => L.getD i (0, 0)) ∧ Below w.heap.size w w'

set_option maxHeartbeats 1000000 in
theorem toSpanS2_any (v : Value) (L : List Rng) (w : World) (h : Spn w v L) (hL : L.length ≤ 1048576) :
    Calls Try.prog 94 #[v] w (ToSp2 w L) := by
  obtain ⟨a, cap, rfl, hl, hm, hc⟩ := h
  obtain ⟨i0, hi, hz0, hz1, hz2⟩ := info_parts infoSpan
  have hmk := fun w => run_make_rowN (P := Try.prog) 76 43 i0 (.agg #[.int .i64 0, .int .i64 0]) Try.underlying76 hi hz0 .i64 .i64 L.length L.length (Nat.le_refl _) (by rw [hz2]; omega) (by omega) w
  rw [hz1] at hmk
  clear hi hz0 hz1 hz2 hm
  have h0 : Row2 (w.alloc (.cells (madeCells #[.int .i64 0, .int .i64 0] (L.length * 2)) 43)) w.heap.size L.length (fun i => if i < 0 then L.getD i (0, 0) else (0, 0)) := (Row2.made w _ _).congr fun i _ => by simp
  have HH := Lib.hid h0
  have HC := Lib.hid hc
  clear h0 hc
  go_enter Try.func94, Try.ntmps94
  go_wp2
  go_loopg [4] L.length (fun g s4 wr => ∃ k : Nat, g = L.length - k ∧ k ≤ L.length ∧ s4 = .int .i64 k ∧ Row2 wr w.heap.size L.length (fun i => if i < k then L.getD i (0, 0) else (0, 0)) ∧ w.heap.size < wr.heap.size ∧ Below w.heap.size w wr)
  case atStart => exact ⟨0, rfl, Nat.zero_le _, rfl, HH.out, by simp, (Below.refl _ _).alloc (Nat.le_refl _) _⟩
  case round =>
    obtain ⟨k, rfl, hk, rfl, hr, hsz, hb⟩ := hrel
    by_cases hlt : k < L.length
    · obtain ⟨b, off, rfl, hcc⟩ := HC.out (fun e => by subst e; simp at hlt)
      have c1 := cell_keep hb (hcc k hlt).1
      have c2 := cell_keep hb (hcc k hlt).2
      have HN : Hid (Row2 wr w.heap.size L.length (fun i => if i < k then L.getD i (0, 0) else (0, 0))) := hr
      have HS : Hid (∀ i, (if i = k then L.getD k (0, 0) else if i < k then L.getD i (0, 0) else (0, 0)) = if i < k + 1 then L.getD i (0, 0) else (0, 0)) := fun i => by
        by_cases e : i = k
        · subst e; rw [if_pos rfl, if_pos (by omega)]
        · rw [if_neg e]
          by_cases e2 : i < k
          · rw [if_pos e2, if_pos (by omega)]
          · rw [if_neg e2, if_neg (by omega)]
      clear hr hcc
      generalize hs : L.getD k (0, 0) = s at *
      obtain ⟨lo, hi⟩ := s
      simp only at c1 c2
      have HE := Lib.hid hs
      clear hs
      go_wp2_with fail
      refine (toSpan_any lo hi _).mono ?_; rintro e w1 ⟨rfl, hb1⟩
      have hr1 := HN.out.keep hb1
      obtain ⟨x1, x2, x3, x4⟩ := hr1 k hlt
      have hb2 := hb.trans (hb1.mono hb.size)
      have HR := Lib.hid hr1
      have hs1 := hb1.size
      clear hr1
      go_wp2
      go_roundg (L.length - (k + 1))
      case measure => omega
      case rel => exact ⟨k + 1, rfl, by omega, by go_num, (HR.out.set hlt).congr fun i _ => HS.out i, by simp; omega, (hb2.setCell (Nat.le_refl _) _).setCell (Nat.le_refl _) _⟩
    · go_wp2
      go_ret
      exact ⟨w.heap.size, rfl, Nat.le_refl _, hsz, hr.congr fun i hi => by rw [if_pos (by omega)], hb⟩

set_option maxHeartbeats 1000000 in
theorem toHold_any (r s : Value) (L M : List Rng) (w : World) (hr : Spn w r L) (hs : Spn w s M) (h0 : L.length ≤ 1048576) (h1 : M.length ≤ 1048576) :
    Calls Try.prog 54 #[.agg #[r, s]] w (ToHd1 w L M) := by
  obtain ⟨a, cap, rfl⟩ := hr.form
  obtain ⟨b, cap2, rfl⟩ := hs.form
  obtain ⟨W0, hW0⟩ : ∃ W0, ((w.alloc (.cells #[.slice a L.length cap, .slice b M.length cap2] 74)).alloc (.cells #[.slice none 0 0, .slice none 0 0] 78)).alloc (.cells #[.slice none 0 0, .slice none 0 0] 78) = W0 := ⟨_, rfl⟩
  have hal : Below w.heap.size w W0 := by rw [← hW0]; exact (((Below.refl _ _).alloc (Nat.le_refl _) _).alloc (by simp) _).alloc (by simp; omega) _
  have hsz : W0.heap.size = w.heap.size + 3 := by rw [← hW0]; simp
  have B0 : BoxV W0 w.heap.size (.slice a L.length cap) (.slice b M.length cap2) := by
    rw [← hW0]
    exact ((new_boxV w _ _ _).keep ((Below.refl _ _).alloc (Nat.le_refl _) _)).keep ((Below.refl _ _).alloc (Nat.le_refl _) _)
  have B1 : BoxV W0 (w.heap.size + 1) (.slice none 0 0) (.slice none 0 0) := by
    rw [← hW0]
    have := (new_boxV (w.alloc (.cells #[.slice a L.length cap, .slice b M.length cap2] 74)) (.slice none 0 0) (.slice none 0 0) 78).keep ((Below.refl _ _).alloc (Nat.le_refl _) (.cells #[.slice none 0 0, .slice none 0 0] 78))
    simpa using this
  have B2 : BoxV W0 (w.heap.size + 1 + 1) (.slice none 0 0) (.slice none 0 0) := by
    rw [← hW0]
    have := new_boxV ((w.alloc (.cells #[.slice a L.length cap, .slice b M.length cap2] 74)).alloc (.cells #[.slice none 0 0, .slice none 0 0] 78)) (.slice none 0 0) (.slice none 0 0) 78
    simpa using this
  have K1 := Lib.hid (toSpanS2_any _ L W0 (hr.keep hal) h0)
  have HS := Lib.hid hs
  have HB1 := Lib.hid B1
  have HB2 := Lib.hid B2
  have HB0 := Lib.hid B0
  have Hal := Lib.hid hal
  have Hsz := Lib.hid hsz
  clear hr hs B1 B2 hal hsz
  obtain ⟨x1, x2, -, -⟩ := B0
  go_enter Try.func54, Try.ntmps54
  go_wp2_with fail
  have HW0 := Lib.hid hW0
  clear hW0
  go_wp2_with fail
  refine K1.out.mono ?_; rintro e w1 ⟨n1, rfl, hn1, hn2, hr1, hb1⟩
  have A0 := HB0.out.keep hb1
  have A1 := HB1.out.keep hb1
  have A2 := HB2.out.keep hb1
  have hsz := Hsz.out
  have hne : ¬ w.heap.size + 1 + 1 = n1 := by omega
  have hbs : Below w.heap.size w (w1.setCell ⟨w.heap.size + 1 + 1, 0, none⟩ (.slice (some ⟨n1, 0, none⟩) L.length L.length)) := (Hal.out.trans (hb1.mono Hal.out.size)).setCell (by show w.heap.size ≤ w.heap.size + 1 + 1; omega) _
  have K2 := Lib.hid (toSpanS2_any _ M (w1.setCell ⟨w.heap.size + 1 + 1, 0, none⟩ (.slice (some ⟨n1, 0, none⟩) L.length L.length)) (HS.out.keep hbs) h1)
  have A0' := Lib.hid (A0.far (g := w.heap.size + 1 + 1) (o := 0) (u := .slice (some ⟨n1, 0, none⟩) L.length L.length) (by omega))
  have A1' := Lib.hid (A1.far (g := w.heap.size + 1 + 1) (o := 0) (u := .slice (some ⟨n1, 0, none⟩) L.length L.length) (by omega))
  have A2' := Lib.hid (A2.set0 (u := .slice (some ⟨n1, 0, none⟩) L.length L.length))
  have R1 := Lib.hid (hr1.far (g := w.heap.size + 1 + 1) (o := 0) (u := .slice (some ⟨n1, 0, none⟩) L.length L.length) hne)
  have HBS := Lib.hid hbs
  obtain ⟨-, y2, -, -⟩ := A0
  obtain ⟨z1, z2, z3, z4⟩ := A2
  clear x1 x2 hr1 hbs A1
  go_wp2_with fail
  refine K2.out.mono ?_; rintro e w2 ⟨n2, rfl, hm1, hm2, hr2, hb2⟩
  have C1 := A1'.out.keep hb2
  have C2 := A2'.out.keep hb2
  have R1' := Lib.hid (R1.out.keep hb2)
  have R2' := Lib.hid hr2
  have hbe := Lib.hid (HBS.out.trans (hb2.mono HBS.out.size))
  have hm1' : w1.heap.size ≤ n2 := by simpa using hm1
  clear z1 z2 z3 z4 y2 hr2 hm1
  obtain ⟨z1, z2, z3, z4⟩ := C2
  obtain ⟨q1, q2, q3, q4⟩ := C1
  go_wp2
  refine bodyPost_ret (v := .agg #[.slice (some ⟨n1, 0, none⟩) L.length L.length, .slice (some ⟨n2, 0, none⟩) M.length M.length]) (by simp [results, Try.results54, go_sem, q1, q2]) rfl ⟨n1, n2, rfl, by omega, by omega, by simp; omega, ?_, ?_, ?_⟩
  · exact ((R1'.out.far (by omega)).far (by omega)).far (by omega)
  · exact ((R2'.out.far (by omega)).far (by omega)).far (by omega)
  · exact ((hbe.out.setCell (by show w.heap.size ≤ w.heap.size + 1 + 1; omega) _).setCell (by show w.heap.size ≤ w.heap.size + 1; omega) _).setCell (by show w.heap.size ≤ w.heap.size + 1; omega) _

/-- A row of pairs of values that may be written. -/
def RowV2 (w : World) (b n : Nat) (f g : Nat → Value) : Prop :=
  ∀ i, i < n → w.cell? ⟨b, i * 2, none⟩ = some (f i) ∧ w.cell? ⟨b, i * 2 + 1, none⟩ = some (g i) ∧ w.frozen? ⟨b, i * 2, none⟩ = false ∧ w.frozen? ⟨b, i * 2 + 1, none⟩ = false
theorem RowV2.keep {W w1 : World} {b n : Nat} {f g : Nat → Value} (h : RowV2 W b n f g) (hb : Below W.heap.size W w1) : RowV2 w1 b n f g := fun i hi => by
  obtain ⟨h0, h1, h2, h3⟩ := h i hi
  have hlt := World.block_lt_of_cell? W _ h0
  exact ⟨cell_keep hb h0, cell_keep hb h1, (hb.frozen (p := ⟨b, i * 2, none⟩) hlt).trans h2, (hb.frozen (p := ⟨b, i * 2 + 1, none⟩) hlt).trans h3⟩
theorem RowV2.congr {w : World} {b n : Nat} {f g f' g' : Nat → Value} (h : RowV2 w b n f g) (e : ∀ i, i < n → f i = f' i ∧ g i = g' i) : RowV2 w b n f' g' := fun i hi => by
  rw [← (e i hi).1, ← (e i hi).2]; exact h i hi
theorem RowV2.set {w : World} {b n k : Nat} {f g : Nat → Value} {x y : Value} (h : RowV2 w b n f g) (hk : k < n) :
    RowV2 ((w.setCell ⟨b, k * 2, none⟩ x).setCell ⟨b, k * 2 + 1, none⟩ y) b n (fun i => if i = k then x else f i) (fun i => if i = k then y else g i) := fun i hi' => by
  obtain ⟨a0, a1, a2, a3⟩ := h k hk
  obtain ⟨b0, b1, b2, b3⟩ := h i hi'
  by_cases e : i = k
  · subst e
    simp only [if_true]
    exact ⟨by go_simp, by go_simp, by go_simp, by go_simp⟩
  · simp only [if_neg e]
    have n1 : ¬ k * 2 = i * 2 := by omega
    have n2 : ¬ k * 2 + 1 = i * 2 := by omega
    have n3 : ¬ k * 2 = i * 2 + 1 := by omega
    have n4 : ¬ k * 2 + 1 = i * 2 + 1 := by omega
    refine ⟨?_, ?_, ?_, ?_⟩
    · rw [World.cell?_setCell_other _ _ _ _ (fun e => n2 (by injection e)), World.cell?_setCell_other _ _ _ _ (fun e => n1 (by injection e))]; exact b0
    · rw [World.cell?_setCell_other _ _ _ _ (fun e => n4 (by injection e)), World.cell?_setCell_other _ _ _ _ (fun e => n3 (by injection e))]; exact b1
    · go_simp
    · go_simp
theorem RowV2.made (w : World) (n : Nat) (x : Value) (T : TypeId) : RowV2 (w.alloc (.cells (madeCells #[x, x] (n * 2)) T)) w.heap.size n (fun _ => x) (fun _ => x) := fun i hi => by
  have hg : ∀ j, j < n * 2 → (madeCells #[x, x] (n * 2))[j]? = some x := fun j hj => by
    simp only [madeCells, Array.getElem?_map, Array.getElem?_range, hj]
    have : j % 2 = 0 ∨ j % 2 = 1 := by omega
    rcases this with h | h <;> simp [h]
  refine ⟨?_, ?_, by go_simp, by go_simp⟩
  · rw [World.cell?_alloc_new]; exact hg _ (by omega)
  · rw [World.cell?_alloc_new]; exact hg _ (by omega)

/-- The rows of a table's first k holds: each list in a row of its own. -/
def HRows (w : World) (base k : Nat) (T : List HoldT) (R S : Nat → Nat) : Prop :=
  ∀ i, i < k → base < R i ∧ R i < S i ∧ S i < w.heap.size ∧ Row2 w (R i) (T.getD i hd0).1.length (fun j => (T.getD i hd0).1.getD j (0, 0)) ∧ Row2 w (S i) (T.getD i hd0).2.length (fun j => (T.getD i hd0).2.getD j (0, 0)) ∧ ∀ j, j < i → S j < R i
theorem HRows.keep {W w1 : World} {base k : Nat} {T : List HoldT} {R S : Nat → Nat} (h : HRows W base k T R S) (hb : Below W.heap.size W w1) : HRows w1 base k T R S := fun i hi => by
  obtain ⟨h1, h2, h3, h4, h5, h6⟩ := h i hi
  exact ⟨h1, h2, Nat.lt_of_lt_of_le h3 hb.size, h4.keep hb, h5.keep hb, h6⟩
theorem HRows.far {w : World} {base k o : Nat} {T : List HoldT} {R S : Nat → Nat} {u : Value} (h : HRows w base k T R S) : HRows (w.setCell ⟨base, o, none⟩ u) base k T R S := fun i hi => by
  obtain ⟨h1, h2, h3, h4, h5, h6⟩ := h i hi
  exact ⟨h1, h2, by simpa using h3, h4.far (by omega), h5.far (by omega), h6⟩

abbrev slR (T : List HoldT) (R : Nat → Nat) (i : Nat) : Value := .slice (some ⟨R i, 0, none⟩) (T.getD i hd0).1.length (T.getD i hd0).1.length
abbrev slS (T : List HoldT) (S : Nat → Nat) (i : Nat) : Value := .slice (some ⟨S i, 0, none⟩) (T.getD i hd0).2.length (T.getD i hd0).2.length

/-- A new table, each list in a row of its own. -/
def NewT (w0 w : World) (nb : Nat) (T : List HoldT) (R S : Nat → Nat) : Prop :=
  w0.heap.size ≤ nb ∧ RowV2 w nb T.length (slR T R) (slS T S) ∧ HRows w nb T.length T R S ∧ Below w0.heap.size w0 w
/-- What toHoldS leaves. -/
def ToHd (w : World) (T : List HoldT) (e : Ending) (w' : World) : Prop :=
  ∃ nb R S, e = .returned (.slice (some ⟨nb, 0, none⟩) T.length T.length) ∧ NewT w w' nb T R S

theorem NewT.hds {w0 w : World} {nb : Nat} {T : List HoldT} {R S : Nat → Nat} (h : NewT w0 w nb T R S) (hT : T.length ≤ 1048576) (hL : ∀ i, i < T.length → (T.getD i hd0).1.length ≤ 1048576 ∧ (T.getD i hd0).2.length ≤ 1048576) :
    Hds w (.slice (some ⟨nb, 0, none⟩) T.length T.length) T := by
  obtain ⟨_, h1, h2, _⟩ := h
  refine ⟨_, _, rfl, Nat.le_refl _, by unfold maxLen; omega, fun _ => ⟨nb, 0, rfl, fun i hi => ?_⟩⟩
  obtain ⟨a0, a1, -, -⟩ := h1 i hi
  obtain ⟨-, -, -, r, s, -⟩ := h2 i hi
  have := hL i hi
  simp only [Nat.zero_add]
  exact ⟨_, _, a0, a1, r.spn (by unfold maxLen; omega), s.spn (by unfold maxLen; omega)⟩

theorem infoHold : (Try.prog.info? 78).map (fun i => (i.zero, i.size, i.bytes)) = some (some (.agg #[.slice none 0 0, .slice none 0 0]), 2, 48) := by kernel_rfl

set_option maxHeartbeats 1000000 in
theorem toHoldS_any (v : Value) (T : List HoldT) (w : World) (h : Hds w v T) (hT : T.length ≤ 1048576) (hL : ∀ i, i < T.length → (T.getD i hd0).1.length ≤ 1048576 ∧ (T.getD i hd0).2.length ≤ 1048576) :
    Calls Try.prog 20 #[v] w (ToHd w T) := by
  obtain ⟨a, cap, rfl, hl, hm, hc⟩ := h
  obtain ⟨i0, hi, hz0, hz1, hz2⟩ := info_parts infoHold
  have hmk := fun w => run_make_rowN (P := Try.prog) 36 78 i0 (.agg #[.slice none 0 0, .slice none 0 0]) Try.underlying36 hi hz0 .i64 .i64 T.length T.length (Nat.le_refl _) (by rw [hz2]; omega) (by omega) w
  rw [hz1] at hmk
  clear hi hz0 hz1 hz2 hm
  have h0 : RowV2 (w.alloc (.cells (madeCells #[.slice none 0 0, .slice none 0 0] (T.length * 2)) 78)) w.heap.size T.length (fun i => if i < 0 then slR T (fun _ => 0) i else .slice none 0 0) (fun i => if i < 0 then slS T (fun _ => 0) i else .slice none 0 0) :=
    (RowV2.made w _ _ _).congr fun i _ => ⟨by simp, by simp⟩
  have HH := Lib.hid h0
  have HC := Lib.hid hc
  have HL := Lib.hid hL
  clear h0 hc hL
  go_enter Try.func20, Try.ntmps20
  go_wp2
  go_loopg [4] T.length (fun g s4 wr => ∃ (k : Nat) (R S : Nat → Nat), g = T.length - k ∧ k ≤ T.length ∧ s4 = .int .i64 k ∧
    Hid (RowV2 wr w.heap.size T.length (fun i => if i < k then slR T R i else .slice none 0 0) (fun i => if i < k then slS T S i else .slice none 0 0)) ∧ Hid (HRows wr w.heap.size k T R S) ∧ Below w.heap.size w wr)
  case atStart => exact ⟨0, fun _ => 0, fun _ => 0, rfl, Nat.zero_le _, rfl, HH, Lib.hid (fun i hi => absurd hi (by omega)), (Below.refl _ _).alloc (Nat.le_refl _) _⟩
  case round =>
    obtain ⟨k, R, S, rfl, hk, rfl, HV, HRr, hb⟩ := hrel
    by_cases hlt : k < T.length
    · obtain ⟨b, off, rfl, hcc⟩ := HC.out (fun e => by subst e; simp at hlt)
      obtain ⟨r, s, c1, c2, p1, p2⟩ := hcc k hlt
      replace c1 := cell_keep hb c1
      replace c2 := cell_keep hb c2
      have hlk := HL.out k hlt
      have KK := Lib.hid (toHold_any r s _ _ wr (p1.keep hb) (p2.keep hb) hlk.1 hlk.2)
      have hnb := World.block_lt_of_cell? wr _ (HV.out k hlt).1
      obtain ⟨q, hq⟩ : ∃ q, T.getD k hd0 = q := ⟨_, rfl⟩
      rw [hq] at KK
      have HE := Lib.hid hq
      clear p1 p2 hcc hlk hq
      go_wp2_with fail
      refine KK.out.mono ?_; rintro e w1 ⟨n1, n2, rfl, hn1, hn12, hn2, hr1, hr2, hb1⟩
      have hv1 := HV.out.keep hb1
      obtain ⟨x1, x2, x3, x4⟩ := hv1 k hlt
      have hb2 := hb.trans (hb1.mono hb.size)
      have hsz1 := hb1.size
      have HV1 := Lib.hid hv1
      have HR1 := Lib.hid (HRr.out.keep hb1)
      have Hr1 := Lib.hid hr1
      have Hr2 := Lib.hid hr2
      have HO : Hid (∀ i, i < k → S i < wr.heap.size) := fun i hi => (HRr.out i hi).2.2.1
      clear hv1 hr1 hr2 HRr HV
      have hrel2 : Hid (RowV2 ((w1.setCell ⟨w.heap.size, k * 2, none⟩ (.slice (some ⟨n1, 0, none⟩) q.1.length q.1.length)).setCell ⟨w.heap.size, k * 2 + 1, none⟩ (.slice (some ⟨n2, 0, none⟩) q.2.length q.2.length)) w.heap.size T.length
          (fun i => if i < k + 1 then slR T (fun i => if i = k then n1 else R i) i else .slice none 0 0) (fun i => if i < k + 1 then slS T (fun i => if i = k then n2 else S i) i else .slice none 0 0)) :=
        (HV1.out.set hlt).congr fun i _ => by
          by_cases e : i = k
          · subst e
            rw [← HE.out, if_pos rfl, if_pos rfl, if_pos (by omega), if_pos (by omega)]
            exact ⟨by simp [slR], by simp [slS]⟩
          · rw [if_neg e, if_neg e]
            by_cases e2 : i < k
            · rw [if_pos e2, if_pos e2, if_pos (by omega), if_pos (by omega)]; simp [e]
            · rw [if_neg e2, if_neg e2, if_neg (by omega), if_neg (by omega)]; exact ⟨rfl, rfl⟩
      have hrel3 : Hid (HRows ((w1.setCell ⟨w.heap.size, k * 2, none⟩ (.slice (some ⟨n1, 0, none⟩) q.1.length q.1.length)).setCell ⟨w.heap.size, k * 2 + 1, none⟩ (.slice (some ⟨n2, 0, none⟩) q.2.length q.2.length)) w.heap.size (k + 1) T (fun i => if i = k then n1 else R i) (fun i => if i = k then n2 else S i)) := fun i hi => by
        by_cases e : i = k
        · subst e
          refine ⟨by simp; omega, by simp; omega, by simp; omega, ?_, ?_, fun j hj => ?_⟩
          · simp only [if_true]; rw [HE.out]; exact (Hr1.out.far (by omega)).far (by omega)
          · simp only [if_true]; rw [HE.out]; exact (Hr2.out.far (by omega)).far (by omega)
          · simp only [if_true, if_neg (show ¬ j = i by omega)]
            have := HO.out j hj; omega
        · obtain ⟨g1, g2, g3, g4, g5, g6⟩ := (HR1.out.far (o := k * 2) (u := .slice (some ⟨n1, 0, none⟩) q.1.length q.1.length)).far (o := k * 2 + 1) (u := .slice (some ⟨n2, 0, none⟩) q.2.length q.2.length) i (by omega)
          simp only [if_neg e]
          exact ⟨g1, g2, g3, g4, g5, fun j hj => by rw [if_neg (by omega)]; exact g6 j hj⟩
      clear HR1 Hr1 Hr2 HV1 HO
      go_wp2
      go_roundg (T.length - (k + 1))
      case measure => omega
      case rel => exact ⟨k + 1, _, _, rfl, by omega, by go_num, hrel2, hrel3, (hb2.setCell (Nat.le_refl _) _).setCell (Nat.le_refl _) _⟩
    · obtain rfl : k = T.length := by omega
      go_wp2
      go_ret
      exact ⟨w.heap.size, R, S, rfl, Nat.le_refl _, HV.out.congr fun i hi => by rw [if_pos hi, if_pos hi]; exact ⟨rfl, rfl⟩, HRr.out, hb⟩

/-- Two tables are one. -/
def eqH (a b : HoldT) : Bool := eqB a.1 b.1 && eqB a.2 b.2
def eqT (A B : List HoldT) : Bool := decide (A = B)
theorem eqT_step (A B : List HoldT) (k : Nat) (ha : k < A.length) (hb : k < B.length) : eqT (A.drop k) (B.drop k) = (eqH (A.getD k hd0) (B.getD k hd0) && eqT (A.drop (k + 1)) (B.drop (k + 1))) := by
  rw [drop_consH A k ha, drop_consH B k hb]
  unfold eqT eqH eqB
  rw [Bool.eq_iff_iff]
  simp [List.cons.injEq, Prod.ext_iff]

set_option maxHeartbeats 1000000 in
theorem eqHold_any (r s r' s' : Value) (L M L' M' : List Rng) (w : World) (h1 : Spn w r L) (h2 : Spn w s M) (h3 : Spn w r' L') (h4 : Spn w s' M') :
    Calls Try.prog 56 #[.agg #[r, s], .agg #[r', s']] w fun e w' => e = .returned (.bool (eqH (L, M) (L', M'))) ∧ Below w.heap.size w w' := by
  have f1 := h1.form
  have f2 := h2.form
  have f3 := h3.form
  have f4 := h4.form
  obtain ⟨a1, c1, rfl⟩ := f1
  obtain ⟨a2, c2, rfl⟩ := f2
  obtain ⟨a3, c3, rfl⟩ := f3
  obtain ⟨a4, c4, rfl⟩ := f4
  obtain ⟨W0, hW0⟩ : ∃ W0, (w.alloc (.cells #[.slice a1 L.length c1, .slice a2 M.length c2] 78)).alloc (.cells #[.slice a3 L'.length c3, .slice a4 M'.length c4] 78) = W0 := ⟨_, rfl⟩
  have hal : Below w.heap.size w W0 := by rw [← hW0]; exact ((Below.refl _ _).alloc (Nat.le_refl _) _).alloc (by simp) _
  have B0 : BoxV W0 w.heap.size (.slice a1 L.length c1) (.slice a2 M.length c2) := by
    rw [← hW0]
    exact (new_boxV w _ _ _).keep ((Below.refl _ _).alloc (Nat.le_refl _) _)
  have B1 : BoxV W0 (w.heap.size + 1) (.slice a3 L'.length c3) (.slice a4 M'.length c4) := by
    rw [← hW0]
    have := new_boxV (w.alloc (.cells #[.slice a1 L.length c1, .slice a2 M.length c2] 78)) (.slice a3 L'.length c3) (.slice a4 M'.length c4) 78
    simpa using this
  have K1 := Lib.hid (eqSpanS_any _ _ L L' W0 (h1.keep hal) (h3.keep hal))
  have H2 := Lib.hid h2
  have H4 := Lib.hid h4
  have HB0 := Lib.hid B0
  have HB1 := Lib.hid B1
  have Hal := Lib.hid hal
  have E : Hid (eqH (L, M) (L', M') = (eqB L L' && eqB M M')) := rfl
  obtain ⟨x1, x2, -, -⟩ := B0
  obtain ⟨y1, y2, -, -⟩ := B1
  clear h1 h2 h3 h4 hal
  generalize hq : eqB L L' = q at *
  cases q
  · go_enter Try.func56, Try.ntmps56
    go_wp2_with fail
    refine K1.out.mono ?_; rintro e w1 ⟨rfl, hb1⟩
    go_wp2
    go_ret
    exact ⟨ret_bool (by rw [E.out]; rfl), Hal.out.trans (hb1.mono Hal.out.size)⟩
  · go_enter Try.func56, Try.ntmps56
    go_wp2_with fail
    refine K1.out.mono ?_; rintro e w1 ⟨rfl, hb1⟩
    have hb := Hal.out.trans (hb1.mono Hal.out.size)
    have K2 := Lib.hid (eqSpanS_any _ _ M M' w1 (H2.out.keep hb) (H4.out.keep hb))
    obtain ⟨-, u2, -, -⟩ := HB0.out.keep hb1
    obtain ⟨-, v2, -, -⟩ := HB1.out.keep hb1
    clear x1 x2 y1 y2
    generalize hq2 : eqB M M' = q2 at *
    cases q2
    · go_wp2_with fail
      refine K2.out.mono ?_; rintro e w2 ⟨rfl, hb2⟩
      go_wp2
      go_ret
      exact ⟨ret_bool (by rw [E.out]; rfl), hb.trans (hb2.mono hb.size)⟩
    · go_wp2_with fail
      refine K2.out.mono ?_; rintro e w2 ⟨rfl, hb2⟩
      go_wp2
      go_ret
      exact ⟨ret_bool (by rw [E.out]; rfl), hb.trans (hb2.mono hb.size)⟩

set_option maxHeartbeats 1000000 in
theorem eqHoldS_any (v u : Value) (A B : List HoldT) (w : World) (h : Hds w v A) (h' : Hds w u B) :
    Calls Try.prog 22 #[v, u] w fun e w' => e = .returned (.bool (eqT A B)) ∧ Below w.heap.size w w' := by
  obtain ⟨a, cap, rfl, hl, hm, hc⟩ := h
  obtain ⟨a', cap', rfl, hl', hm', hc'⟩ := h'
  unfold maxLen at hm hm'
  by_cases hlen : A.length = B.length
  · have HL := Lib.hid hlen
    have HC := Lib.hid hc
    have HC' := Lib.hid hc'
    have HE : Hid (eqT A B = eqT (A.drop 0) (B.drop 0)) := rfl
    have hd : ((A.length : Int) != (B.length : Int)) = false := by simp [hlen]
    clear hc hc' hlen
    go_enter Try.func22, Try.ntmps22
    go_wp2
    go_loopg [5] A.length (fun g s5 wr => ∃ k : Nat, g = A.length - k ∧ k ≤ A.length ∧ s5 = .int .i64 k ∧ Hid (eqT A B = eqT (A.drop k) (B.drop k)) ∧ Below w.heap.size w wr)
    case atStart => exact ⟨0, rfl, Nat.zero_le _, rfl, HE, Below.refl _ _⟩
    case round =>
      obtain ⟨k, rfl, hk, rfl, HK, hb⟩ := hrel
      by_cases hlt : k < A.length
      · have hlt' : k < B.length := by have := HL.out; omega
        obtain ⟨b, off, rfl, hcc⟩ := HC.out (fun e => by subst e; simp at hlt)
        obtain ⟨b', off', rfl, hcc'⟩ := HC'.out (fun e => by subst e; simp at hlt')
        obtain ⟨r, s, e1, e2, p1, p2⟩ := hcc k hlt
        obtain ⟨r', s', e3, e4, p3, p4⟩ := hcc' k hlt'
        have HT := eqT_step A B k hlt hlt'
        rw [← HK.out] at HT
        have HT' := Lib.hid HT
        clear HT hcc hcc'
        have P1 := Lib.hid (p1.keep hb)
        have P2 := Lib.hid (p2.keep hb)
        have P3 := Lib.hid (p3.keep hb)
        have P4 := Lib.hid (p4.keep hb)
        have KK : Hid (∀ x : BelowOf wr, Calls Try.prog 56 #[.agg #[r, s], .agg #[r', s']] x.w fun e w' => e = .returned (.bool (eqH (A.getD k hd0) (B.getD k hd0))) ∧ Below x.w.heap.size x.w w') := fun x =>
          eqHold_any r s r' s' _ _ _ _ _ (P1.out.keep x.below) (P2.out.keep x.below) (P3.out.keep x.below) (P4.out.keep x.below)
        have j1 : (0 : Int) ≤ (k : Int) := Int.natCast_nonneg _
        have j2 : (k : Int) < (A.length : Int) := by omega
        have j3 : (k : Int) < (B.length : Int) := by omega
        have d1 : ∀ x : BelowOf wr, x.w.cell? ⟨b, off + k * 2, none⟩ = some r := fun x => x.cell (cell_keep hb e1)
        have d2 : ∀ x : BelowOf wr, x.w.cell? ⟨b, off + k * 2 + 1, none⟩ = some s := fun x => x.cell (cell_keep hb e2)
        have d3 : ∀ x : BelowOf wr, x.w.cell? ⟨b', off' + k * 2, none⟩ = some r' := fun x => x.cell (cell_keep hb e3)
        have d4 : ∀ x : BelowOf wr, x.w.cell? ⟨b', off' + k * 2 + 1, none⟩ = some s' := fun x => x.cell (cell_keep hb e4)
        clear p1 p2 p3 p4 P1 P2 P3 P4 e1 e2 e3 e4
        generalize eqH (A.getD k hd0) (B.getD k hd0) = q at *
        cases q
        · have HF : Hid (eqT A B = false) := by show _ = _; rw [HT'.out]; rfl
          go_wp2_with fail
          refine wp_region_calm (by kernel_rfl) (by kernel_rfl) ?_
          repeat (go_big_quiet_step ((go_at_call 56; exact Calls.calm (KK.out _))))
          refine wpQuiet_nil ?_
          rintro _ ⟨x, rfl⟩
          have hb2 := hb.trans (x.below.mono hb.size)
          go_wp2
          go_ret
          exact ⟨ret_bool HF.out.symm, hb2⟩
        · have HF : Hid (eqT A B = eqT (A.drop (k + 1)) (B.drop (k + 1))) := by show _ = _; rw [HT'.out]; rfl
          go_wp2_with fail
          refine wp_region_calm (by kernel_rfl) (by kernel_rfl) ?_
          repeat (go_big_quiet_step ((go_at_call 56; exact Calls.calm (KK.out _))))
          refine wpQuiet_nil ?_
          rintro _ ⟨x, rfl⟩
          have hb2 := hb.trans (x.below.mono hb.size)
          go_wp2
          go_roundg (A.length - (k + 1))
          case measure => omega
          case rel => exact ⟨k + 1, rfl, by omega, by go_num, HF, hb2⟩
      · have HF : Hid (eqT A B = true) := by
          show _ = _
          rw [HK.out, List.drop_of_length_le (by omega), List.drop_of_length_le (by have := HL.out; omega)]; rfl
        go_wp2
        go_ret
        exact ⟨ret_bool HF.out.symm, hb⟩
  · have HF : Hid (eqT A B = false) := by show _ = _; unfold eqT; simp; intro e; exact hlen (by rw [e])
    have hd : ((A.length : Int) != (B.length : Int)) = true := by simp; omega
    go_enter Try.func22, Try.ntmps22
    go_wp2
    go_ret
    exact ⟨ret_bool HF.out.symm, Below.refl _ _⟩

end Go.Proofs.Yteabigobnjebaaa
