/-
  Contracts of the draws of a range (l1Span, l1Some).
-/
import Derived.Test.YtjknmocimenagaaDraw
import Derived.Test.YtjknmocimenagaaMeetW
namespace Go.Proofs.Ytjknmocimenagaa
open Go.RowKit

theorem grown_new {a b : World} {row : Option Nat} {g o : Nat} {v : Value} (h : a.grownBy b row) (hg : a.heap.size ≤ g) : a.grownBy (b.setCell ⟨g, o, none⟩ v) row :=
  ⟨h.os, h.tape, h.output, by simpa [World.setCell] using h.size, fun i hi hne => (Below.heap_setCell b _ v i (by intro e; simp only at e; omega)).trans (h.block i hi hne)⟩
theorem grown_alloc {a b : World} {row : Option Nat} (h : a.grownBy b row) (o : Obj) : a.grownBy (b.alloc o) row :=
  grown_trans h (grown_below ((Below.refl _ _).alloc (Nat.le_refl _) _) _)
theorem Rd.lt {w : World} {rb p : Nat} (h : Rd w rb p) : rb < w.heap.size := by
  obtain ⟨z, a, len, cap, h0, -⟩ := h
  exact World.block_lt_of_cell? w _ h0
theorem Rd.set {w : World} {rb p g o : Nat} {u : Value} (h : Rd w rb p) (hg : rb < g) : Rd (w.setCell ⟨g, o, none⟩ u) rb p := by
  obtain ⟨z, a, len, cap, h0, h1, h2, h3, h4⟩ := h
  refine ⟨z, a, len, cap, by rw [World.cell?_setCell_far _ _ _ _ (Nat.ne_of_gt hg)]; exact h0, by rw [World.cell?_setCell_far _ _ _ _ (Nat.ne_of_gt hg)]; exact h1, by go_simp, h3, fun hp => ?_⟩
  obtain ⟨b, off, ha, hne, hc⟩ := h4 hp
  exact ⟨b, off, ha, hne, fun i hi => ⟨by rw [World.cell?_setCell_far _ _ _ _ (by simp only; omega)]; exact (hc i hi).1, (hc i hi).2⟩⟩

/-- What the draw of a range leaves: two numbers of the kind C; the reader's place moved on; nothing else changed. -/
def Ds (C : Int → Int → Prop) (w : World) (rb q : Nat) (e : Ending) (w' : World) : Prop :=
  ∃ lo hi : Int, e = .returned (.agg #[.int .i64 lo, .int .i64 hi]) ∧ C lo hi ∧ Rd w' rb q ∧ w.grownBy w' (some rb)

set_option maxHeartbeats 4000000 in
theorem l1Span_any (rb p : Nat) (w : World) (h : Rd w rb p) (hp : p ≤ 900000000) :
    Calls Try.prog 54 #[.pointer (some ⟨rb, 0, none⟩)] w (Ds (fun lo hi => spanOkB lo hi = true) w rb (p + 2)) := by
  have hlt := h.lt
  have k0 := new_box w 0 0 34
  have hal : Below w.heap.size w (w.alloc (.cells #[.int .i64 0, .int .i64 0] 34)) := (Below.refl _ _).alloc (Nat.le_refl _) _
  have HR := Lib.hid (h.keep hal)
  have HG := Lib.hid (grown_below hal (some rb))
  clear h
  go_enter Try.func54, Try.ntmps54
  go_wp2_with fail
  refine (pick_any rb p 47 _ HR.out (by omega) (by omega) (by omega)).mono ?_; rintro e w1 ⟨lo, rfl, l0, l1, hr1, hg1⟩
  have l2 := l1 (by omega)
  have k1 := k0.grown hg1 (by omega)
  have HR1 := Lib.hid hr1
  have HG1 := Lib.hid (grown_trans HG.out hg1)
  have hs1 : w.heap.size < w1.heap.size := by have := hg1.size; simp at this; omega
  clear l1 hr1 hg1 HR HG k0
  go_wp2_with fail
  have hal1 : Below w1.heap.size w1 (w1.alloc (.cells #[.int .i64 0, .int .i64 1, .int .i64 3, .int .i64 5, .int .i64 9, .int .i64 20, .int .i64 47] 3)) := (Below.refl _ _).alloc (Nat.le_refl _) _
  have k2 := k1.keep hal1
  have HG2 := Lib.hid (grown_trans HG1.out (grown_below hal1 _))
  have HF : Hid (∀ i, i < 7 → (w1.alloc (.cells #[.int .i64 0, .int .i64 1, .int .i64 3, .int .i64 5, .int .i64 9, .int .i64 20, .int .i64 47] 3)).cell? ⟨w1.heap.size, i, none⟩ = some (.int .i64 (([0, 1, 3, 5, 9, 20, 47] : List Int).getD i 0)) ∧ 0 ≤ ([0, 1, 3, 5, 9, 20, 47] : List Int).getD i 0 ∧ ([0, 1, 3, 5, 9, 20, 47] : List Int).getD i 0 ≤ 47) := fun i hi => by
    have hh : i = 0 ∨ i = 1 ∨ i = 2 ∨ i = 3 ∨ i = 4 ∨ i = 5 ∨ i = 6 := by omega
    rcases hh with rfl | rfl | rfl | rfl | rfl | rfl | rfl <;> exact ⟨by go_simp, by decide, by decide⟩
  refine (num_any rb (p + 1) w1.heap.size 7 (fun i => ([0, 1, 3, 5, 9, 20, 47] : List Int).getD i 0) 47 _ (HR1.out.keep hal1) (by omega) (by omega) (by omega) (by omega) HF.out).mono ?_; rintro e w3 ⟨v, rfl, v0, v1, hr3, hg3⟩
  have v2 := v1 (by omega)
  have k3 := k2.grown hg3 (by omega)
  have HR3 := Lib.hid hr3
  have HG3 := Lib.hid (grown_trans HG2.out hg3)
  obtain ⟨x1, x2, x3, x4⟩ := id k3
  clear v1 hr3 hg3 HR1 HG1 HG2 HF k1 k2
  go_wp2_with fail
  refine (min_any 48 (lo + 1 + v) _).mono ?_; rintro e w4 ⟨rfl, rfl⟩
  have m1 : mn 48 (lo + 1 + v) ≤ 48 := by unfold mn; split <;> omega
  have m2 : lo < mn 48 (lo + 1 + v) := by unfold mn; split <;> omega
  generalize mn 48 (lo + 1 + v) = hi at *
  go_wp2
  exact bodyPost_ret (v := .agg #[.int .i64 lo, .int .i64 hi]) (by simp [results, Try.results54, go_sem, *]) rfl ⟨lo, hi, rfl, spanOkB_true ⟨by omega, by omega, by omega⟩, (HR3.out.set hlt).set hlt, grown_new (grown_new HG3.out (Nat.le_refl _)) (Nat.le_refl _)⟩


set_option maxHeartbeats 8000000 in
theorem l1Some_any (rb p : Nat) (w : World) (h : Rd w rb p) (hp : p ≤ 800000000) :
    Calls Try.prog 38 #[.pointer (some ⟨rb, 0, none⟩)] w (Ds (fun _ _ => True) w rb (p + 3)) := by
  have hlt := h.lt
  have k0 := new_box w 0 0 34
  have hal : Below w.heap.size w (w.alloc (.cells #[.int .i64 0, .int .i64 0] 34)) := (Below.refl _ _).alloc (Nat.le_refl _) _
  have HR := Lib.hid (h.keep hal)
  have HG := Lib.hid (grown_below hal (some rb))
  clear h
  go_enter Try.func38, Try.ntmps38
  go_wp2_with fail
  refine (l1Span_any rb p _ HR.out (by omega)).mono ?_; rintro e w1 ⟨lo, hi, rfl, -, hr1, hg1⟩
  have k1 := k0.grown hg1 (by omega)
  have HR1 := Lib.hid hr1
  have HG1 := Lib.hid (grown_trans HG.out hg1)
  have hs1 : w.heap.size < w1.heap.size := by have := hg1.size; simp at this; omega
  clear hr1 hg1 HR HG k0
  go_wp2_with fail
  have kb := new_box w1 lo hi 34
  have hal1 : Below w1.heap.size w1 (w1.alloc (.cells #[.int .i64 lo, .int .i64 hi] 34)) := (Below.refl _ _).alloc (Nat.le_refl _) _
  have k2 := k1.keep hal1
  have HG2 := Lib.hid (grown_trans HG1.out (grown_below hal1 _))
  refine (pick_any rb (p + 2) 48 _ (HR1.out.keep hal1) (by omega) (by omega) (by omega)).mono ?_; rintro e w3 ⟨v, rfl, v0, v1, hr3, hg3⟩
  have k3 := k2.grown hg3 (by omega)
  have b3 := kb.grown hg3 (by omega)
  have HR3 := Lib.hid hr3
  have HG3 := Lib.hid (grown_trans HG2.out hg3)
  have hlt1 : rb < w1.heap.size := by omega
  generalize hw1 : w1.heap.size = g at *
  clear hr3 hg3 HR1 HG1 HG2 k1 k2 kb hal hal1 v1 hw1
  obtain ⟨x1, x2, x3, x4⟩ := k3
  obtain ⟨y1, y2, y3, y4⟩ := b3
  by_cases c0 : v = 0
  · subst c0
    go_wp2
    exact bodyPost_ret (v := .agg #[.int .i64 lo, .int .i64 lo]) (by simp [results, Try.results38, go_sem, *]) rfl ⟨_, _, rfl, trivial, by (repeat (first | exact HR3.out | refine Rd.set ?_ (by omega))), by (repeat (first | exact HG3.out | refine grown_new ?_ (by omega)))⟩
  · by_cases c1 : v = 1
    · subst c1
      go_wp2
      exact bodyPost_ret (v := .agg #[.int .i64 (-1), .int .i64 hi]) (by simp [results, Try.results38, go_sem, *]) rfl ⟨_, _, rfl, trivial, by (repeat (first | exact HR3.out | refine Rd.set ?_ (by omega))), by (repeat (first | exact HG3.out | refine grown_new ?_ (by omega)))⟩
    · by_cases c2 : v = 2
      · subst c2
        go_wp2
        exact bodyPost_ret (v := .agg #[.int .i64 lo, .int .i64 49]) (by simp [results, Try.results38, go_sem, *]) rfl ⟨_, _, rfl, trivial, by (repeat (first | exact HR3.out | refine Rd.set ?_ (by omega))), by (repeat (first | exact HG3.out | refine grown_new ?_ (by omega)))⟩
      · by_cases c3 : v = 3
        · subst c3
          go_wp2
          exact bodyPost_ret (v := .agg #[.int .i64 9223372036854775807, .int .i64 (-9223372036854775808)]) (by simp [results, Try.results38, go_sem, *]) rfl ⟨_, _, rfl, trivial, by (repeat (first | exact HR3.out | refine Rd.set ?_ (by omega))), by (repeat (first | exact HG3.out | refine grown_new ?_ (by omega)))⟩
        · go_wp2
          exact bodyPost_ret (v := .agg #[.int .i64 lo, .int .i64 hi]) (by simp [results, Try.results38, go_sem, *]) rfl ⟨_, _, rfl, trivial, by (repeat (first | exact HR3.out | refine Rd.set ?_ (by omega))), by (repeat (first | exact HG3.out | refine grown_new ?_ (by omega)))⟩

end Go.Proofs.Ytjknmocimenagaa
