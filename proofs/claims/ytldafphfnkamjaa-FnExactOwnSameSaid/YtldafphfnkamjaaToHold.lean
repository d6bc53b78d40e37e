/-
  Tables of holds in memory: what a slice of holds reads as; contracts of szHoldS, toHoldS, eqHoldS.
  Contracts of toHold, toHoldS (new rows, each list in a row of its own), eqHold, eqHoldS.
-/
import Derived.Test.YtldafphfnkamjaaToSpan
import Derived.Test.YtldafphfnkamjaaLockMath
namespace Go.Proofs.Ytldafphfnkamjaa
open Go.RowKit

/-- A slice value that reads as the table T. -/
def Hds (w : World) (v : Value) (T : List HoldT) : Prop :=
  ∃ (a : Option Addr) (cap : Nat), v = .slice a T.length cap ∧ T.length ≤ cap ∧ cap ≤ maxLen ∧
    (T ≠ [] → ∃ b off, a = some ⟨b, off, none⟩ ∧ ∀ i, i < T.length → ∃ r s, w.cell? ⟨b, off + i * 2, none⟩ = some r ∧ w.cell? ⟨b, off + i * 2 + 1, none⟩ = some s ∧ Spn w r (T.getD i hd0).1 ∧ Spn w s (T.getD i hd0).2)

theorem Hds.keep {w w1 : World} {v : Value} {T : List HoldT} (h : Hds w v T) (hb : Below w.heap.size w w1) : Hds w1 v T := by
  obtain ⟨a, cap, hv, hl, hm, hc⟩ := h
  refine ⟨a, cap, hv, hl, hm, fun hn => ?_⟩
  obtain ⟨b, off, ha, hcc⟩ := hc hn
  refine ⟨b, off, ha, fun i hi => ?_⟩
  obtain ⟨r, s, h1, h2, h3, h4⟩ := hcc i hi
  exact ⟨r, s, cell_keep hb h1, cell_keep hb h2, h3.keep hb, h4.keep hb⟩

theorem Spn.form {w : World} {v : Value} {L : List Rng} (h : Spn w v L) : ∃ a cap, v = .slice a L.length cap := by
  obtain ⟨a, cap, hv, _⟩ := h
  exact ⟨a, cap, hv⟩
theorem Spn.len {w : World} {v : Value} {L : List Rng} (h : Spn w v L) : L.length ≤ 9223372036854775807 := by
  obtain ⟨a, cap, hv, hl, hm, _⟩ := h
  unfold maxLen at hm; omega

/-- A box of two values that may be written. -/
def BoxV (w : World) (b : Nat) (x y : Value) : Prop :=
  w.cell? ⟨b, 0, none⟩ = some x ∧ w.cell? ⟨b, 1, none⟩ = some y ∧ w.frozen? ⟨b, 0, none⟩ = false ∧ w.frozen? ⟨b, 1, none⟩ = false
theorem BoxV.keep {W w1 : World} {b : Nat} {x y : Value} (h : BoxV W b x y) (hb : Below W.heap.size W w1) : BoxV w1 b x y := by
  obtain ⟨h0, h1, h2, h3⟩ := h
  have hlt := World.block_lt_of_cell? W _ h0
  exact ⟨cell_keep hb h0, cell_keep hb h1, (hb.frozen (p := ⟨b, 0, none⟩) hlt).trans h2, (hb.frozen (p := ⟨b, 1, none⟩) hlt).trans h3⟩
theorem new_boxV (w' : World) (x y : Value) (T : TypeId) : BoxV (w'.alloc (.cells #[x, y] T)) w'.heap.size x y := ⟨by go_simp, by go_simp, by go_simp, by go_simp⟩
theorem BoxV.far {w : World} {b g o : Nat} {x y u : Value} (h : BoxV w b x y) (hne : g ≠ b) : BoxV (w.setCell ⟨g, o, none⟩ u) b x y := by
  obtain ⟨h0, h1, h2, h3⟩ := h
  exact ⟨by rw [World.cell?_setCell_far _ _ _ _ hne]; exact h0, by rw [World.cell?_setCell_far _ _ _ _ hne]; exact h1, by go_simp, by go_simp⟩
theorem BoxV.set0 {w : World} {b : Nat} {x y u : Value} (h : BoxV w b x y) : BoxV (w.setCell ⟨b, 0, none⟩ u) b u y := by
  obtain ⟨h0, h1, h2, h3⟩ := h
  exact ⟨by go_simp, by go_simp, by go_simp, by go_simp⟩
theorem BoxV.set1 {w : World} {b : Nat} {x y u : Value} (h : BoxV w b x y) : BoxV (w.setCell ⟨b, 1, none⟩ u) b x u := by
  obtain ⟨h0, h1, h2, h3⟩ := h
  exact ⟨by go_simp, by go_simp, by go_simp, by go_simp⟩
theorem Row2.far {w : World} {b g o n : Nat} {f : Nat → Rng} {u : Value} (h : Row2 w b n f) (hne : g ≠ b) : Row2 (w.setCell ⟨g, o, none⟩ u) b n f := fun i hi => by
  obtain ⟨h0, h1, h2, h3⟩ := h i hi
  exact ⟨by rw [World.cell?_setCell_far _ _ _ _ hne]; exact h0, by rw [World.cell?_setCell_far _ _ _ _ hne]; exact h1, by go_simp, by go_simp⟩

/-- What is left of an allowance behind n things, or -1. -/
def szO (n : Nat) (left : Int) : Int := if (n : Int) ≤ left then left - n else -1
def szH (h : HoldT) (left : Int) : Int := if szO h.1.length left < 0 then -1 else szO h.2.length (szO h.1.length left)
def szT : List HoldT → Int → Int
  | [], l => l
  | h :: r, l => if szH h l < 0 then -1 else szT r (szH h l)
def szTab (T : List HoldT) (left : Int) : Int := if (T.length : Int) ≤ left then szT T (left - T.length) else -1

theorem szO_bd (n : Nat) (l : Int) (_ : 0 ≤ l) : szO n l = -1 ∨ (0 ≤ szO n l ∧ szO n l = l - n) := by unfold szO; split <;> omega
theorem szH_bd (h : HoldT) (l : Int) (hl : 0 ≤ l) : szH h l = -1 ∨ (0 ≤ szH h l ∧ szH h l = l - h.1.length - h.2.length) := by
  unfold szH
  have h1 := szO_bd h.1.length l hl
  split
  · simp
  · have h2 := szO_bd h.2.length (szO h.1.length l) (by omega)
    omega
def totT : List HoldT → Nat
  | [] => 0
  | h :: r => h.1.length + h.2.length + totT r
theorem szT_bd : ∀ (T : List HoldT) (l : Int), 0 ≤ l → szT T l = -1 ∨ (0 ≤ szT T l ∧ szT T l = l - totT T)
  | [], l, h => by simp [szT, totT, h]
  | x :: r, l, h => by
    unfold szT totT
    have h1 := szH_bd x l h
    split
    · simp
    · have h2 := szT_bd r (szH x l) (by omega)
      omega
theorem szTab_bd (T : List HoldT) (l : Int) (_ : 0 ≤ l) : szTab T l = -1 ∨ (0 ≤ szTab T l ∧ szTab T l = l - T.length - totT T) := by
  unfold szTab
  split
  · have := szT_bd T (l - T.length) (by omega); omega
  · simp
theorem totT_le : ∀ (T : List HoldT) (i : Nat), i < T.length → (T.getD i hd0).1.length + (T.getD i hd0).2.length ≤ totT T
  | [], _, h => by simp at h
  | x :: r, 0, _ => by unfold totT; simp
  | x :: r, i + 1, h => by
    have := totT_le r i (by simpa using h)
    unfold totT
    simp only [List.getD_cons_succ]; omega

theorem drop_consH (T : List HoldT) (k : Nat) (h : k < T.length) : T.drop k = T.getD k hd0 :: T.drop (k + 1) := by
  rw [List.drop_eq_getElem_cons h, List.getD_eq_getElem?_getD, List.getElem?_eq_getElem h, Option.getD_some]

set_option maxHeartbeats 400000 in
theorem szSpan2_any (v : Value) (L : List Rng) (left : Int) (w : World) (h : Spn w v L) (h0 : 0 ≤ left) (h1 : left ≤ 1048576) :
    Calls Try.prog 9 #[v, .int .i64 left] w fun e w' => e = .returned (.int .i64 (szO L.length left)) ∧ w = w' := by
  obtain ⟨a, cap, rfl, hl, hm, -⟩ := h
  unfold maxLen at hm
  by_cases hL : (L.length : Int) ≤ left
  · have e : szO L.length left = left - L.length := if_pos hL
    rw [e]
    clear e
    go_enter Try.func9, Try.ntmps9
    go_wp2
    go_ret
    exact ⟨rfl, rfl⟩
  · have e : szO L.length left = -1 := if_neg hL
    rw [e]
    clear e
    go_enter Try.func9, Try.ntmps9
    go_wp2
    go_ret
    exact ⟨rfl, rfl⟩



/-- What toHold leaves: two new rows. -/
def ToHd1 (w : World) (L M : List Rng) (e : Ending) (w' : World) : Prop :=
  ∃ n1 n2, e = .returned (.agg #[.slice (some ⟨n1, 0, none⟩) L.length L.length, .slice (some ⟨n2, 0, none⟩) M.length M.length]) ∧ w.heap.size ≤ n1 ∧ n1 < n2 ∧ n2 < w'.heap.size ∧
    Row2 w' n1 L.length (fun i => L.getD i (0, 0)) ∧ Row2 w' n2 M.length (fun i => M.getD i (0, 0)) ∧ Below w.heap.size w w'

end Go.Proofs.Ytldafphfnkamjaa

namespace Go.Proofs.Ytldafphfnkamjaa
open Go.RowKit

/-- What toSpanS leaves, with the place of the new row. -/
def ToSp2 (w : World) (L : List Rng) (e : Ending) (w' : World) : Prop :=
  ∃ nb, e = .returned (.slice (some ⟨nb, 0, none⟩) L.length L.length) ∧ w.heap.size ≤ nb ∧ nb < w'.heap.size ∧ Row2 w' nb L.length (fun i => L.getD i (0, 0)) ∧ Below w.heap.size w w'

set_option maxHeartbeats 1000000 in
theorem toSpanS2_any (v : Value) (L : List Rng) (w : World) (h : Spn w v L) (hL : L.length ≤ 1048576) :
    Calls Try.prog 11 #[v] w (ToSp2 w L) := by
  obtain ⟨a, cap, rfl, hl, hm, hc⟩ := h
  obtain ⟨i0, hi, hz0, hz1, hz2⟩ := info_parts infoSpan
  have hmk := fun w => run_make_rowN (P := Try.prog) 27 36 i0 (.agg #[.int .i64 0, .int .i64 0]) Try.underlying27 hi hz0 .i64 .i64 L.length L.length (Nat.le_refl _) (by rw [hz2]; omega) (by omega) w
  rw [hz1] at hmk
  clear hi hz0 hz1 hz2 hm
  have h0 : Row2 (w.alloc (.cells (madeCells #[.int .i64 0, .int .i64 0] (L.length * 2)) 36)) w.heap.size L.length (fun i => if i < 0 then L.getD i (0, 0) else (0, 0)) := (Row2.made w _ _).congr fun i _ => by simp
  have HH := Lib.hid h0
  have HC := Lib.hid hc
  clear h0 hc
  go_enter Try.func11, Try.ntmps11
  go_wp2
  go_loopg [4] L.length (fun g s4 wr => ∃ k : Nat, g = L.length - k ∧ k ≤ L.length ∧ s4 = .int .i64 k ∧ Row2 wr w.heap.size L.length (fun i => if i < k then L.getD i (0, 0) else (0, 0)) ∧ w.heap.size < wr.heap.size ∧ Below w.heap.size w wr)
  case atStart => exact ⟨0, rfl, Nat.zero_le _, rfl, HH.out, by simp, (Below.refl _ _).alloc (Nat.le_refl _) _⟩
  case round =>
    obtain ⟨k, rfl, hk, rfl, hr, hsz, hb⟩ := hrel
    by_cases hlt : k < L.length
    · obtain ⟨b, off, rfl, hcc⟩ := HC.out (fun e => by subst e; simp at hlt)
      have c1 := cell_keep hb (hcc k hlt).1
      have c2 := cell_keep hb (hcc k hlt).2
      have HN : Hid (Row2 wr w.heap.size L.length (fun i => if i < k then L.getD i (0, 0) else (0, 0))) := hr
      have HS : Hid (∀ i, (if i = k then L.getD k (0, 0) else if i < k then L.getD i (0, 0) else (0, 0)) = if i < k + 1 then L.getD i (0, 0) else (0, 0)) := fun i => by
        by_cases e : i = k
        · subst e; rw [if_pos rfl, if_pos (by omega)]
        · rw [if_neg e]
          by_cases e2 : i < k
          · rw [if_pos e2, if_pos (by omega)]
          · rw [if_neg e2, if_neg (by omega)]
      clear hr hcc
      generalize hs : L.getD k (0, 0) = s at *
      obtain ⟨lo, hi⟩ := s
      simp only at c1 c2
      have HE := Lib.hid hs
      clear hs
      go_wp2_with fail
      refine (toSpan_any lo hi _).mono ?_; rintro e w1 ⟨rfl, hb1⟩
      have hr1 := HN.out.keep hb1
      obtain ⟨x1, x2, x3, x4⟩ := hr1 k hlt
      have hb2 := hb.trans (hb1.mono hb.size)
      have HR := Lib.hid hr1
      have hs1 := hb1.size
      clear hr1
      go_wp2
      go_roundg (L.length - (k + 1))
      case measure => omega
      case rel => exact ⟨k + 1, rfl, by omega, by go_num, (HR.out.set hlt).congr fun i _ => HS.out i, by simp; omega, (hb2.setCell (Nat.le_refl _) _).setCell (Nat.le_refl _) _⟩
    · go_wp2
      go_ret
      exact ⟨w.heap.size, rfl, Nat.le_refl _, hsz, hr.congr fun i hi => by rw [if_pos (by omega)], hb⟩


/-- A row of pairs of values that may be written. -/
def RowV2 (w : World) (b n : Nat) (f g : Nat → Value) : Prop :=
  ∀ i, i < n → w.cell? ⟨b, i * 2, none⟩ = some (f i) ∧ w.cell? ⟨b, i * 2 + 1, none⟩ = some (g i) ∧ w.frozen? ⟨b, i * 2, none⟩ = false ∧ w.frozen? ⟨b, i * 2 + 1, none⟩ = false
theorem RowV2.keep {W w1 : World} {b n : Nat} {f g : Nat → Value} (h : RowV2 W b n f g) (hb : Below W.heap.size W w1) : RowV2 w1 b n f g := fun i hi => by
  obtain ⟨h0, h1, h2, h3⟩ := h i hi
  have hlt := World.block_lt_of_cell? W _ h0
  exact ⟨cell_keep hb h0, cell_keep hb h1, (hb.frozen (p := ⟨b, i * 2, none⟩) hlt).trans h2, (hb.frozen (p := ⟨b, i * 2 + 1, none⟩) hlt).trans h3⟩
theorem RowV2.congr {w : World} {b n : Nat} {f g f' g' : Nat → Value} (h : RowV2 w b n f g) (e : ∀ i, i < n → f i = f' i ∧ g i = g' i) : RowV2 w b n f' g' := fun i hi => by
  rw [← (e i hi).1, ← (e i hi).2]; exact h i hi
theorem RowV2.set {w : World} {b n k : Nat} {f g : Nat → Value} {x y : Value} (h : RowV2 w b n f g) (hk : k < n) :
    RowV2 ((w.setCell ⟨b, k * 2, none⟩ x).setCell ⟨b, k * 2 + 1, none⟩ y) b n (fun i => if i = k then x else f i) (fun i => if i = k then y else g i) := fun i hi' => by
  obtain ⟨a0, a1, a2, a3⟩ := h k hk
  obtain ⟨b0, b1, b2, b3⟩ := h i hi'
  by_cases e : i = k
  · subst e
    simp only [if_true]
    exact ⟨by go_simp, by go_simp, by go_simp, by go_simp⟩
  · simp only [if_neg e]
    have n1 : ¬ k * 2 = i * 2 := by omega
    have n2 : ¬ k * 2 + 1 = i * 2 := by omega
    have n3 : ¬ k * 2 = i * 2 + 1 := by omega
    have n4 : ¬ k * 2 + 1 = i * 2 + 1 := by omega
    refine ⟨?_, ?_, ?_, ?_⟩
    · rw [World.cell?_setCell_other _ _ _ _ (fun e => n2 (by injection e)), World.cell?_setCell_other _ _ _ _ (fun e => n1 (by injection e))]; exact b0
    · rw [World.cell?_setCell_other _ _ _ _ (fun e => n4 (by injection e)), World.cell?_setCell_other _ _ _ _ (fun e => n3 (by injection e))]; exact b1
    · go_simp
    · go_simp
theorem RowV2.made (w : World) (n : Nat) (x : Value) (T : TypeId) : RowV2 (w.alloc (.cells (madeCells #[x, x] (n * 2)) T)) w.heap.size n (fun _ => x) (fun _ => x) := fun i hi => by
  have hg : ∀ j, j < n * 2 → (madeCells #[x, x] (n * 2))[j]? = some x := fun j hj => by
    simp only [madeCells, Array.getElem?_map, Array.getElem?_range, hj]
    have : j % 2 = 0 ∨ j % 2 = 1 := by omega
    rcases this with h | h <;> simp [h]
  refine ⟨?_, ?_, by go_simp, by go_simp⟩
  · rw [World.cell?_alloc_new]; exact hg _ (by omega)
  · rw [World.cell?_alloc_new]; exact hg _ (by omega)

/-- The rows of a table's first k holds: each list in a row of its own. -/
def HRows (w : World) (base k : Nat) (T : List HoldT) (R S : Nat → Nat) : Prop :=
  ∀ i, i < k → base < R i ∧ R i < S i ∧ S i < w.heap.size ∧ Row2 w (R i) (T.getD i hd0).1.length (fun j => (T.getD i hd0).1.getD j (0, 0)) ∧ Row2 w (S i) (T.getD i hd0).2.length (fun j => (T.getD i hd0).2.getD j (0, 0)) ∧ ∀ j, j < i → S j < R i
theorem HRows.keep {W w1 : World} {base k : Nat} {T : List HoldT} {R S : Nat → Nat} (h : HRows W base k T R S) (hb : Below W.heap.size W w1) : HRows w1 base k T R S := fun i hi => by
  obtain ⟨h1, h2, h3, h4, h5, h6⟩ := h i hi
  exact ⟨h1, h2, Nat.lt_of_lt_of_le h3 hb.size, h4.keep hb, h5.keep hb, h6⟩
theorem HRows.far {w : World} {base k o : Nat} {T : List HoldT} {R S : Nat → Nat} {u : Value} (h : HRows w base k T R S) : HRows (w.setCell ⟨base, o, none⟩ u) base k T R S := fun i hi => by
  obtain ⟨h1, h2, h3, h4, h5, h6⟩ := h i hi
  exact ⟨h1, h2, by simpa using h3, h4.far (by omega), h5.far (by omega), h6⟩

abbrev slR (T : List HoldT) (R : Nat → Nat) (i : Nat) : Value := .slice (some ⟨R i, 0, none⟩) (T.getD i hd0).1.length (T.getD i hd0).1.length
abbrev slS (T : List HoldT) (S : Nat → Nat) (i : Nat) : Value := .slice (some ⟨S i, 0, none⟩) (T.getD i hd0).2.length (T.getD i hd0).2.length

/-- A new table, each list in a row of its own. -/
def NewT (w0 w : World) (nb : Nat) (T : List HoldT) (R S : Nat → Nat) : Prop :=
  w0.heap.size ≤ nb ∧ RowV2 w nb T.length (slR T R) (slS T S) ∧ HRows w nb T.length T R S ∧ Below w0.heap.size w0 w
/-- What toHoldS leaves. -/
def ToHd (w : World) (T : List HoldT) (e : Ending) (w' : World) : Prop :=
  ∃ nb R S, e = .returned (.slice (some ⟨nb, 0, none⟩) T.length T.length) ∧ NewT w w' nb T R S

theorem NewT.hds {w0 w : World} {nb : Nat} {T : List HoldT} {R S : Nat → Nat} (h : NewT w0 w nb T R S) (hT : T.length ≤ 1048576) (hL : ∀ i, i < T.length → (T.getD i hd0).1.length ≤ 1048576 ∧ (T.getD i hd0).2.length ≤ 1048576) :
    Hds w (.slice (some ⟨nb, 0, none⟩) T.length T.length) T := by
  obtain ⟨_, h1, h2, _⟩ := h
  refine ⟨_, _, rfl, Nat.le_refl _, by unfold maxLen; omega, fun _ => ⟨nb, 0, rfl, fun i hi => ?_⟩⟩
  obtain ⟨a0, a1, -, -⟩ := h1 i hi
  obtain ⟨-, -, -, r, s, -⟩ := h2 i hi
  have := hL i hi
  simp only [Nat.zero_add]
  exact ⟨_, _, a0, a1, r.spn (by unfold maxLen; omega), s.spn (by unfold maxLen; omega)⟩



/-- Two tables are one. -/
def eqH (a b : HoldT) : Bool := eqB a.1 b.1 && eqB a.2 b.2
def eqT (A B : List HoldT) : Bool := decide (A = B)
theorem eqT_step (A B : List HoldT) (k : Nat) (ha : k < A.length) (hb : k < B.length) : eqT (A.drop k) (B.drop k) = (eqH (A.getD k hd0) (B.getD k hd0) && eqT (A.drop (k + 1)) (B.drop (k + 1))) := by
  rw [drop_consH A k ha, drop_consH B k hb]
  unfold eqT eqH eqB
  rw [Bool.eq_iff_iff]
  simp [List.cons.injEq, Prod.ext_iff]



end Go.Proofs.Ytldafphfnkamjaa
