/-
  Contracts of the draws of a layout and of a place (l3Lay, l3Lays, l3Place).
-/
import Derived.Test.YtjbkahfbaploaaaDrawNum
import Derived.Test.YtjbkahfbaploaaaDrawSpan
namespace Go.Proofs.Ytjbkahfbaploaaa
open Go.RowKit

theorem byt_keep {w w1 : World} {v : Value} {len : Nat} (h : Byt w v len) (hb : Below w.heap.size w w1) : Byt w1 v len := by
  obtain ⟨z, a, cap, hv, hl, hm, hc⟩ := h
  refine ⟨z, a, cap, hv, hl, hm, fun hp => ?_⟩
  obtain ⟨b, off, ha, hcc⟩ := hc hp
  exact ⟨b, off, ha, fun i hi => ⟨cell_keep hb (hcc i hi).1, (hcc i hi).2⟩⟩

/-- What the draw of a layout leaves: two small numbers; the reader's place moved on by at most k; nothing else changed. -/
def Dl (w : World) (rb p k : Nat) (e : Ending) (w' : World) : Prop :=
  ∃ (size many : Int) (q : Nat), e = .returned (.agg #[.int .i64 size, .int .i64 many]) ∧ -1 ≤ size ∧ size ≤ 9 ∧ -1 ≤ many ∧ many ≤ 4 ∧ Rd w' rb q ∧ q ≤ p + k ∧ w.grownBy w' (some rb)

set_option maxHeartbeats 4000000 in
theorem l3Lay_any (rb p : Nat) (w : World) (h : Rd w rb p) (hp : p ≤ 800000000) :
    Calls Try.prog 43 #[.pointer (some ⟨rb, 0, none⟩)] w (Dl w rb p 2) := by
  have hlt := h.lt
  have k0 := new_box w 0 0 24
  have hal : Below w.heap.size w (w.alloc (.cells #[.int .i64 0, .int .i64 0] 24)) := (Below.refl _ _).alloc (Nat.le_refl _) _
  have HR := Lib.hid (h.keep hal)
  have HG := Lib.hid (grown_below hal (some rb))
  clear h
  go_enter Try.func43, Try.ntmps43
  go_wp2_with fail
  refine (numLA_any rb p [1, 2, 3, 4, 5, 8] 6 (fun v => 1 ≤ v ∧ v ≤ 8) _ (w.heap.size + 1) _ _ rfl rfl (by simp) HR.out (by omega) (by omega) (by omega) (by simp)).mono ?_; rintro e w1 ⟨v, q, rfl, ⟨v0, v1⟩, hr1, hq1, hg1⟩
  have k1 := k0.grown hg1 (by omega)
  have HR1 := Lib.hid hr1
  have HG1 := Lib.hid (grown_trans HG.out hg1)
  clear hr1 hg1 HR HG k0
  go_wp2_with fail
  refine (pick_any rb q 3 _ HR1.out (by omega) (by omega) (by omega)).mono ?_; rintro e w2 ⟨c, rfl, c0, c1, hr2, hg2⟩
  have c2 := c1 (by omega)
  have k2 := k1.grown hg2 (by omega)
  have HR2 := Lib.hid hr2
  have HG2 := Lib.hid (grown_trans HG1.out hg2)
  obtain ⟨x1, x2, x3, x4⟩ := id k2
  clear c1 hr2 hg2 HR1 HG1 k1
  go_wp2
  exact bodyPost_ret (v := .agg #[.int .i64 v, .int .i64 (1 + c)]) (by simp [results, Try.results43, go_sem, *]) rfl ⟨v, 1 + c, _, rfl, by omega, by omega, by omega, by omega, (HR2.out.set hlt).set hlt, by omega, grown_new (grown_new HG2.out (Nat.le_refl _)) (Nat.le_refl _)⟩

set_option maxHeartbeats 8000000 in
theorem l3Lays_any (rb p : Nat) (w : World) (h : Rd w rb p) (hp : p ≤ 800000000) :
    Calls Try.prog 20 #[.pointer (some ⟨rb, 0, none⟩)] w (Dl w rb p 4) := by
  have hlt := h.lt
  have k0 := new_box w 0 0 24
  have hal : Below w.heap.size w (w.alloc (.cells #[.int .i64 0, .int .i64 0] 24)) := (Below.refl _ _).alloc (Nat.le_refl _) _
  have HR := Lib.hid (h.keep hal)
  have HG := Lib.hid (grown_below hal (some rb))
  clear h
  go_enter Try.func20, Try.ntmps20
  go_wp2_with fail
  refine (l3Lay_any rb p _ HR.out (by omega)).mono ?_; rintro e w1 ⟨size, many, q, rfl, s0, s1, m0, m1, hr1, hq1, hg1⟩
  have k1 := k0.grown hg1 (by omega)
  have HR1 := Lib.hid hr1
  have HG1 := Lib.hid (grown_trans HG.out hg1)
  have hs1 : w.heap.size < w1.heap.size := by have := hg1.size; simp at this; omega
  clear hr1 hg1 HR HG k0
  go_wp2_with fail
  have kb := new_box w1 size many 24
  have hal1 : Below w1.heap.size w1 (w1.alloc (.cells #[.int .i64 size, .int .i64 many] 24)) := (Below.refl _ _).alloc (Nat.le_refl _) _
  have k2 := k1.keep hal1
  have HG2 := Lib.hid (grown_trans HG1.out (grown_below hal1 _))
  have HR2 := Lib.hid (HR1.out.keep hal1)
  have hs2 : (w1.alloc (.cells #[.int .i64 size, .int .i64 many] 24)).heap.size = w1.heap.size + 1 := by simp
  have HS2 := Lib.hid hs2
  clear hs2
  refine (pick_any rb q 36 _ HR2.out (by omega) (by omega) (by omega)).mono ?_; rintro e w3 ⟨v, rfl, v0, -, hr3, hg3⟩
  have k3 := k2.grown hg3 (by omega)
  have b3 := kb.grown hg3 (by omega)
  have HR3 := Lib.hid hr3
  have HG3 := Lib.hid (grown_trans HG2.out hg3)
  have hlt1 : rb < w1.heap.size := by omega
  have hs3 : w1.heap.size + 1 ≤ w3.heap.size := by have := hg3.size; rw [HS2.out] at this; omega
  generalize hw1 : w1.heap.size = g at *
  clear hr3 hg3 HR1 HG1 HG2 k1 k2 kb hal hal1 HS2 HR2 hw1
  by_cases c0 : v = 0
  · subst c0
    obtain ⟨y1, y2, y3, y4⟩ := id b3
    go_wp2_with fail
    refine (numLA_any rb (q + 1) [0, -1, 9] 3 (fun v => -1 ≤ v ∧ v ≤ 9) _ w3.heap.size _ _ rfl rfl (by simp) HR3.out (by omega) (by omega) (by omega) (by simp)).mono ?_; rintro e w4 ⟨u, q2, rfl, ⟨u0, u1⟩, hr4, hq4, hg4⟩
    have k4 := k3.grown hg4 (by omega)
    have b4 := b3.grown hg4 (by omega)
    have HR4 := Lib.hid hr4
    have HG4 := Lib.hid (grown_trans HG3.out hg4)
    clear hr4 hg4 HR3 HG3 k3 b3 y1 y2 y3 y4
    obtain ⟨x1, x2, x3, x4⟩ := k4
    obtain ⟨y1, y2, y3, y4⟩ := b4
    go_wp2
    exact bodyPost_ret (v := .agg #[.int .i64 u, .int .i64 many]) (by simp [results, Try.results20, go_sem, *]) rfl ⟨_, _, q2, rfl, by omega, by omega, by omega, by omega, by (repeat (first | exact HR4.out | refine Rd.set ?_ (by omega))), by omega, by (repeat (first | exact HG4.out | refine grown_new ?_ (by omega)))⟩
  · by_cases c1 : v = 1
    · subst c1
      obtain ⟨y1, y2, y3, y4⟩ := id b3
      go_wp2_with fail
      refine (numLA_any rb (q + 1) [0, -1, 4] 3 (fun v => -1 ≤ v ∧ v ≤ 4) _ w3.heap.size _ _ rfl rfl (by simp) HR3.out (by omega) (by omega) (by omega) (by simp)).mono ?_; rintro e w4 ⟨u, q2, rfl, ⟨u0, u1⟩, hr4, hq4, hg4⟩
      have k4 := k3.grown hg4 (by omega)
      have b4 := b3.grown hg4 (by omega)
      have HR4 := Lib.hid hr4
      have HG4 := Lib.hid (grown_trans HG3.out hg4)
      clear hr4 hg4 HR3 HG3 k3 b3 y1 y2 y3 y4
      obtain ⟨x1, x2, x3, x4⟩ := k4
      obtain ⟨y1, y2, y3, y4⟩ := b4
      go_wp2
      exact bodyPost_ret (v := .agg #[.int .i64 size, .int .i64 u]) (by simp [results, Try.results20, go_sem, *]) rfl ⟨_, _, q2, rfl, by omega, by omega, by omega, by omega, by (repeat (first | exact HR4.out | refine Rd.set ?_ (by omega))), by omega, by (repeat (first | exact HG4.out | refine grown_new ?_ (by omega)))⟩
    · obtain ⟨x1, x2, x3, x4⟩ := k3
      obtain ⟨y1, y2, y3, y4⟩ := b3
      by_cases c2 : v = 2
      · subst c2
        go_wp2
        exact bodyPost_ret (v := .agg #[.int .i64 0, .int .i64 0]) (by simp [results, Try.results20, go_sem, *]) rfl ⟨_, _, q + 1, rfl, by omega, by omega, by omega, by omega, by (repeat (first | exact HR3.out | refine Rd.set ?_ (by omega))), by omega, by (repeat (first | exact HG3.out | refine grown_new ?_ (by omega)))⟩
      · go_wp2
        exact bodyPost_ret (v := .agg #[.int .i64 size, .int .i64 many]) (by simp [results, Try.results20, go_sem, *]) rfl ⟨_, _, q + 1, rfl, by omega, by omega, by omega, by omega, by (repeat (first | exact HR3.out | refine Rd.set ?_ (by omega))), by omega, by (repeat (first | exact HG3.out | refine grown_new ?_ (by omega)))⟩


end Go.Proofs.Ytjbkahfbaploaaa
