/-
  Contracts of SpanMeet of both sides: what each returns at any numbers, and that nothing that existed has changed.
  Two requests of two clients at places apart: their order does not matter. Plain mathematics.
-/
import Derived.Test.YtadoihddmbbjoaaDoorKMeetW
import Derived.Test.YtadoihddmbbjoaaDoorKDoMath
import Derived.Test.YtadoihddmbbjoaaDoorKTextLaws
namespace Go.Proofs.YtadoihddmbbjoaaDoor
open Go.RowKit

def smB (a b c d : Int) : Bool := spanOkB a b && spanOkB c d && mtB a b c d
def smLo (a b c d : Int) : Int := if smB a b c d = true then mx a c else 0
def smHi (a b c d : Int) : Int := if smB a b c d = true then mn b d else 0

theorem sm_t {a b c d : Int} (h : smB a b c d = true) : smLo a b c d = mx a c ∧ smHi a b c d = mn b d := by unfold smLo smHi; simp [h]
theorem sm_f {a b c d : Int} (h : smB a b c d = false) : smLo a b c d = 0 ∧ smHi a b c d = 0 := by unfold smLo smHi; simp [h]

set_option maxHeartbeats 400000 in
theorem implMeet_any (a b c d : Int) (w : World) :
    Calls Tryd.prog 52 #[.agg #[.int .i64 a, .int .i64 b], .agg #[.int .i64 c, .int .i64 d]] w fun e w' =>
      e = .returned (.agg #[.int .i64 (mx a c), .int .i64 (mn b d)]) ∧ Below w.heap.size w w' := by
  have go1 : ∀ x y : Int, mx a c = x → mn b d = y → ((a < c ∧ x = c) ∨ (¬ a < c ∧ x = a)) → ((b ≤ d ∧ y = b) ∨ (¬ b ≤ d ∧ y = d)) →
      Calls Tryd.prog 52 #[.agg #[.int .i64 a, .int .i64 b], .agg #[.int .i64 c, .int .i64 d]] w fun e w' =>
        e = .returned (.agg #[.int .i64 x, .int .i64 y]) ∧ Below w.heap.size w w' := by
    intro x y _ _ hx hy
    rcases hx with ⟨h1, rfl⟩ | ⟨h1, rfl⟩ <;> rcases hy with ⟨h2, rfl⟩ | ⟨h2, rfl⟩
    all_goals
      go_enter Tryd.func52, Tryd.ntmps52
      go_wp2
      exact bodyPost_ret (by simp [results, Tryd.results52, go_sem]) rfl ⟨rfl, by (repeat (first | exact Below.refl _ _ | refine Below.setCell ?_ (by simp <;> omega) _ | refine Below.alloc ?_ (by simp <;> omega) _ | refine Below.drew ?_))⟩
  refine go1 _ _ rfl rfl ?_ ?_
  · by_cases h : a < c
    · exact .inl ⟨h, by unfold mx; rw [if_neg (by omega)]⟩
    · by_cases h2 : c < a
      · exact .inr ⟨h, by unfold mx; rw [if_pos h2]⟩
      · exact .inr ⟨h, by unfold mx; rw [if_neg h2]; omega⟩
  · by_cases h : b ≤ d
    · by_cases h2 : b < d
      · exact .inl ⟨h, by unfold mn; rw [if_pos h2]⟩
      · exact .inl ⟨h, by unfold mn; rw [if_neg h2]; omega⟩
    · exact .inr ⟨h, by unfold mn; rw [if_neg (by omega)]⟩


theorem mt_ok {a b c d : Int} (h1 : spanOkB a b = true) (h2 : spanOkB c d = true) : spanOkB (mx a c) (mn b d) = mtB a b c d := by
  rw [spanOkB_iff] at h1 h2
  by_cases h : mx a c < mn b d
  · have e : mtB a b c d = true := by unfold mtB; simpa using h
    rw [e]
    exact spanOkB_true ⟨by unfold mx; split <;> omega, h, by unfold mn; split <;> omega⟩
  · have e : mtB a b c d = false := by unfold mtB; simpa using h
    rw [e]
    exact spanOkB_false (by omega)

set_option maxHeartbeats 400000 in
theorem implSpanMeet_any (a b c d : Int) (w : World) :
    Calls Tryd.prog 21 #[.agg #[.int .i64 a, .int .i64 b], .agg #[.int .i64 c, .int .i64 d]] w fun e w' =>
      e = .returned (.tuple #[.agg #[.int .i64 (smLo a b c d), .int .i64 (smHi a b c d)], .bool (smB a b c d)]) ∧ Below w.heap.size w w' := by
  by_cases h1 : spanOkB a b = true
  · by_cases h2 : spanOkB c d = true
    · by_cases h3 : mtB a b c d = true
      · have e1 : smB a b c d = true := by unfold smB; simp [h1, h2, h3]
        have h4 : spanOkB (mx a c) (mn b d) = true := (mt_ok h1 h2).trans h3
        rw [(sm_t e1).1, (sm_t e1).2, e1]
        clear e1 h3
        go_enter Tryd.func21, Tryd.ntmps21
        go_wp2_with fail
        have k1 : Box2 (((w.alloc (.cells #[.int .i64 a, .int .i64 b] 47)).alloc (.cells #[.int .i64 c, .int .i64 d] 47)).alloc (.cells #[.int .i64 0, .int .i64 0] 47)) w.heap.size a b := ⟨by go_simp, by go_simp, by go_simp, by go_simp⟩
        have k2 : Box2 (((w.alloc (.cells #[.int .i64 a, .int .i64 b] 47)).alloc (.cells #[.int .i64 c, .int .i64 d] 47)).alloc (.cells #[.int .i64 0, .int .i64 0] 47)) (w.heap.size + 1) c d := ⟨by go_simp, by go_simp, by go_simp, by go_simp⟩
        have k3 : Box2 (((w.alloc (.cells #[.int .i64 a, .int .i64 b] 47)).alloc (.cells #[.int .i64 c, .int .i64 d] 47)).alloc (.cells #[.int .i64 0, .int .i64 0] 47)) (w.heap.size + 1 + 1) 0 0 := ⟨by go_simp, by go_simp, by go_simp, by go_simp⟩
        have bel : Below w.heap.size w (((w.alloc (.cells #[.int .i64 a, .int .i64 b] 47)).alloc (.cells #[.int .i64 c, .int .i64 d] 47)).alloc (.cells #[.int .i64 0, .int .i64 0] 47)) := by (repeat (first | exact Below.refl _ _ | refine Below.setCell ?_ (by simp <;> omega) _ | refine Below.alloc ?_ (by simp <;> omega) _ | refine Below.drew ?_))
        refine (implSpanOk_any a b _).mono ?_; rintro e w1 ⟨rfl, hb1⟩
        replace bel := bel.trans (hb1.mono bel.size)
        replace k1 := k1.keep hb1
        replace k2 := k2.keep hb1
        replace k3 := k3.keep hb1
        obtain ⟨p1, p2, p3, p4⟩ := k1; obtain ⟨q1, q2, q3, q4⟩ := k2; obtain ⟨r1, r2, r3, r4⟩ := k3
        go_wp2_with fail
        have k1 : Box2 _ _ _ _ := ⟨p1, p2, p3, p4⟩; have k2 : Box2 _ _ _ _ := ⟨q1, q2, q3, q4⟩; have k3 : Box2 _ _ _ _ := ⟨r1, r2, r3, r4⟩; clear p1 p2 p3 p4 q1 q2 q3 q4 r1 r2 r3 r4
        refine (implSpanOk_any c d _).mono ?_; rintro e w2 ⟨rfl, hb2⟩
        replace bel := bel.trans (hb2.mono bel.size)
        replace k1 := k1.keep hb2
        replace k2 := k2.keep hb2
        replace k3 := k3.keep hb2
        obtain ⟨p1, p2, p3, p4⟩ := k1; obtain ⟨q1, q2, q3, q4⟩ := k2; obtain ⟨r1, r2, r3, r4⟩ := k3
        go_wp2_with fail
        have k1 : Box2 _ _ _ _ := ⟨p1, p2, p3, p4⟩; have k2 : Box2 _ _ _ _ := ⟨q1, q2, q3, q4⟩; have k3 : Box2 _ _ _ _ := ⟨r1, r2, r3, r4⟩; clear p1 p2 p3 p4 q1 q2 q3 q4 r1 r2 r3 r4
        refine (implMeet_any a b c d _).mono ?_; rintro e w3 ⟨rfl, hb3⟩
        replace bel := bel.trans (hb3.mono bel.size)
        replace k1 := k1.keep hb3
        replace k2 := k2.keep hb3
        replace k3 := k3.keep hb3
        obtain ⟨p1, p2, p3, p4⟩ := k1; obtain ⟨q1, q2, q3, q4⟩ := k2; obtain ⟨r1, r2, r3, r4⟩ := k3
        go_wp2_with fail
        have k1 : Box2 _ _ _ _ := ⟨p1, p2, p3, p4⟩; have k2 : Box2 _ _ _ _ := ⟨q1, q2, q3, q4⟩; have k3 : Box2 _ _ _ _ := ⟨r1, r2, r3, r4⟩; clear p1 p2 p3 p4 q1 q2 q3 q4 r1 r2 r3 r4
        have hal : Below w3.heap.size w3 (w3.alloc (.cells #[.int .i64 (mx a c), .int .i64 (mn b d)] 47)) := (Below.refl _ _).alloc (Nat.le_refl _) _
        have k4 : Box2 (w3.alloc (.cells #[.int .i64 (mx a c), .int .i64 (mn b d)] 47)) w3.heap.size (mx a c) (mn b d) := ⟨by go_simp, by go_simp, by go_simp, by go_simp⟩
        replace k1 := k1.keep hal
        replace k2 := k2.keep hal
        replace k3 := k3.keep hal
        replace bel := bel.trans (hal.mono bel.size)
        refine (implSpanOk_any (mx a c) (mn b d) _).mono ?_; rintro e w4 ⟨rfl, hb4⟩
        replace bel := bel.trans (hb4.mono bel.size)
        replace k1 := k1.keep hb4
        replace k2 := k2.keep hb4
        replace k3 := k3.keep hb4
        replace k4 := k4.keep hb4
        obtain ⟨p1, p2, p3, p4⟩ := k1; obtain ⟨q1, q2, q3, q4⟩ := k2; obtain ⟨r1, r2, r3, r4⟩ := k3; obtain ⟨t1, t2, t3, t4⟩ := k4
        go_wp2
        exact bodyPost_ret (by simp [results, Tryd.results21, go_sem, *]) rfl ⟨rfl, by (repeat (first | exact bel | refine Below.setCell ?_ (by simp <;> omega) _ | refine Below.alloc ?_ (by simp <;> omega) _ | refine Below.drew ?_))⟩
      · replace h3 : mtB a b c d = false := by simpa using h3
        have e1 : smB a b c d = false := by unfold smB; simp [h1, h2, h3]
        have h4 : spanOkB (mx a c) (mn b d) = false := (mt_ok h1 h2).trans h3
        rw [(sm_f e1).1, (sm_f e1).2, e1]
        clear e1 h3
        go_enter Tryd.func21, Tryd.ntmps21
        go_wp2_with fail
        have k1 : Box2 (((w.alloc (.cells #[.int .i64 a, .int .i64 b] 47)).alloc (.cells #[.int .i64 c, .int .i64 d] 47)).alloc (.cells #[.int .i64 0, .int .i64 0] 47)) w.heap.size a b := ⟨by go_simp, by go_simp, by go_simp, by go_simp⟩
        have k2 : Box2 (((w.alloc (.cells #[.int .i64 a, .int .i64 b] 47)).alloc (.cells #[.int .i64 c, .int .i64 d] 47)).alloc (.cells #[.int .i64 0, .int .i64 0] 47)) (w.heap.size + 1) c d := ⟨by go_simp, by go_simp, by go_simp, by go_simp⟩
        have k3 : Box2 (((w.alloc (.cells #[.int .i64 a, .int .i64 b] 47)).alloc (.cells #[.int .i64 c, .int .i64 d] 47)).alloc (.cells #[.int .i64 0, .int .i64 0] 47)) (w.heap.size + 1 + 1) 0 0 := ⟨by go_simp, by go_simp, by go_simp, by go_simp⟩
        have bel : Below w.heap.size w (((w.alloc (.cells #[.int .i64 a, .int .i64 b] 47)).alloc (.cells #[.int .i64 c, .int .i64 d] 47)).alloc (.cells #[.int .i64 0, .int .i64 0] 47)) := by (repeat (first | exact Below.refl _ _ | refine Below.setCell ?_ (by simp <;> omega) _ | refine Below.alloc ?_ (by simp <;> omega) _ | refine Below.drew ?_))
        refine (implSpanOk_any a b _).mono ?_; rintro e w1 ⟨rfl, hb1⟩
        replace bel := bel.trans (hb1.mono bel.size)
        replace k1 := k1.keep hb1
        replace k2 := k2.keep hb1
        replace k3 := k3.keep hb1
        obtain ⟨p1, p2, p3, p4⟩ := k1; obtain ⟨q1, q2, q3, q4⟩ := k2; obtain ⟨r1, r2, r3, r4⟩ := k3
        go_wp2_with fail
        have k1 : Box2 _ _ _ _ := ⟨p1, p2, p3, p4⟩; have k2 : Box2 _ _ _ _ := ⟨q1, q2, q3, q4⟩; have k3 : Box2 _ _ _ _ := ⟨r1, r2, r3, r4⟩; clear p1 p2 p3 p4 q1 q2 q3 q4 r1 r2 r3 r4
        refine (implSpanOk_any c d _).mono ?_; rintro e w2 ⟨rfl, hb2⟩
        replace bel := bel.trans (hb2.mono bel.size)
        replace k1 := k1.keep hb2
        replace k2 := k2.keep hb2
        replace k3 := k3.keep hb2
        obtain ⟨p1, p2, p3, p4⟩ := k1; obtain ⟨q1, q2, q3, q4⟩ := k2; obtain ⟨r1, r2, r3, r4⟩ := k3
        go_wp2_with fail
        have k1 : Box2 _ _ _ _ := ⟨p1, p2, p3, p4⟩; have k2 : Box2 _ _ _ _ := ⟨q1, q2, q3, q4⟩; have k3 : Box2 _ _ _ _ := ⟨r1, r2, r3, r4⟩; clear p1 p2 p3 p4 q1 q2 q3 q4 r1 r2 r3 r4
        refine (implMeet_any a b c d _).mono ?_; rintro e w3 ⟨rfl, hb3⟩
        replace bel := bel.trans (hb3.mono bel.size)
        replace k1 := k1.keep hb3
        replace k2 := k2.keep hb3
        replace k3 := k3.keep hb3
        obtain ⟨p1, p2, p3, p4⟩ := k1; obtain ⟨q1, q2, q3, q4⟩ := k2; obtain ⟨r1, r2, r3, r4⟩ := k3
        go_wp2_with fail
        have k1 : Box2 _ _ _ _ := ⟨p1, p2, p3, p4⟩; have k2 : Box2 _ _ _ _ := ⟨q1, q2, q3, q4⟩; have k3 : Box2 _ _ _ _ := ⟨r1, r2, r3, r4⟩; clear p1 p2 p3 p4 q1 q2 q3 q4 r1 r2 r3 r4
        have hal : Below w3.heap.size w3 (w3.alloc (.cells #[.int .i64 (mx a c), .int .i64 (mn b d)] 47)) := (Below.refl _ _).alloc (Nat.le_refl _) _
        have k4 : Box2 (w3.alloc (.cells #[.int .i64 (mx a c), .int .i64 (mn b d)] 47)) w3.heap.size (mx a c) (mn b d) := ⟨by go_simp, by go_simp, by go_simp, by go_simp⟩
        replace k1 := k1.keep hal
        replace k2 := k2.keep hal
        replace k3 := k3.keep hal
        replace bel := bel.trans (hal.mono bel.size)
        refine (implSpanOk_any (mx a c) (mn b d) _).mono ?_; rintro e w4 ⟨rfl, hb4⟩
        replace bel := bel.trans (hb4.mono bel.size)
        replace k1 := k1.keep hb4
        replace k2 := k2.keep hb4
        replace k3 := k3.keep hb4
        replace k4 := k4.keep hb4
        obtain ⟨p1, p2, p3, p4⟩ := k1; obtain ⟨q1, q2, q3, q4⟩ := k2; obtain ⟨r1, r2, r3, r4⟩ := k3; obtain ⟨t1, t2, t3, t4⟩ := k4
        go_wp2
        exact bodyPost_ret (by simp [results, Tryd.results21, go_sem, *]) rfl ⟨rfl, by (repeat (first | exact bel | refine Below.setCell ?_ (by simp <;> omega) _ | refine Below.alloc ?_ (by simp <;> omega) _ | refine Below.drew ?_))⟩
    · have h2' : spanOkB c d = false := by simpa using h2
      have e1 : smB a b c d = false := by unfold smB; simp [h2']
      rw [(sm_f e1).1, (sm_f e1).2, e1]
      clear e1 h2
      go_enter Tryd.func21, Tryd.ntmps21
      go_wp2_with fail
      have k1 : Box2 (((w.alloc (.cells #[.int .i64 a, .int .i64 b] 47)).alloc (.cells #[.int .i64 c, .int .i64 d] 47)).alloc (.cells #[.int .i64 0, .int .i64 0] 47)) w.heap.size a b := ⟨by go_simp, by go_simp, by go_simp, by go_simp⟩
      have k2 : Box2 (((w.alloc (.cells #[.int .i64 a, .int .i64 b] 47)).alloc (.cells #[.int .i64 c, .int .i64 d] 47)).alloc (.cells #[.int .i64 0, .int .i64 0] 47)) (w.heap.size + 1) c d := ⟨by go_simp, by go_simp, by go_simp, by go_simp⟩
      have k3 : Box2 (((w.alloc (.cells #[.int .i64 a, .int .i64 b] 47)).alloc (.cells #[.int .i64 c, .int .i64 d] 47)).alloc (.cells #[.int .i64 0, .int .i64 0] 47)) (w.heap.size + 1 + 1) 0 0 := ⟨by go_simp, by go_simp, by go_simp, by go_simp⟩
      have bel : Below w.heap.size w (((w.alloc (.cells #[.int .i64 a, .int .i64 b] 47)).alloc (.cells #[.int .i64 c, .int .i64 d] 47)).alloc (.cells #[.int .i64 0, .int .i64 0] 47)) := by (repeat (first | exact Below.refl _ _ | refine Below.setCell ?_ (by simp <;> omega) _ | refine Below.alloc ?_ (by simp <;> omega) _ | refine Below.drew ?_))
      refine (implSpanOk_any a b _).mono ?_; rintro e w1 ⟨rfl, hb1⟩
      replace bel := bel.trans (hb1.mono bel.size)
      replace k1 := k1.keep hb1
      replace k2 := k2.keep hb1
      replace k3 := k3.keep hb1
      obtain ⟨p1, p2, p3, p4⟩ := k1; obtain ⟨q1, q2, q3, q4⟩ := k2; obtain ⟨r1, r2, r3, r4⟩ := k3
      go_wp2_with fail
      have k1 : Box2 _ _ _ _ := ⟨p1, p2, p3, p4⟩; have k2 : Box2 _ _ _ _ := ⟨q1, q2, q3, q4⟩; have k3 : Box2 _ _ _ _ := ⟨r1, r2, r3, r4⟩; clear p1 p2 p3 p4 q1 q2 q3 q4 r1 r2 r3 r4
      refine (implSpanOk_any c d _).mono ?_; rintro e w2 ⟨rfl, hb2⟩
      replace bel := bel.trans (hb2.mono bel.size)
      replace k1 := k1.keep hb2
      replace k2 := k2.keep hb2
      replace k3 := k3.keep hb2
      obtain ⟨p1, p2, p3, p4⟩ := k1; obtain ⟨q1, q2, q3, q4⟩ := k2; obtain ⟨r1, r2, r3, r4⟩ := k3
      go_wp2
      exact bodyPost_ret (by simp [results, Tryd.results21, go_sem, *]) rfl ⟨rfl, by (repeat (first | exact bel | refine Below.setCell ?_ (by simp <;> omega) _ | refine Below.alloc ?_ (by simp <;> omega) _ | refine Below.drew ?_))⟩
  · have h1' : spanOkB a b = false := by simpa using h1
    have e1 : smB a b c d = false := by unfold smB; simp [h1']
    rw [(sm_f e1).1, (sm_f e1).2, e1]
    clear e1 h1
    go_enter Tryd.func21, Tryd.ntmps21
    go_wp2_with fail
    have k1 : Box2 (((w.alloc (.cells #[.int .i64 a, .int .i64 b] 47)).alloc (.cells #[.int .i64 c, .int .i64 d] 47)).alloc (.cells #[.int .i64 0, .int .i64 0] 47)) w.heap.size a b := ⟨by go_simp, by go_simp, by go_simp, by go_simp⟩
    have k2 : Box2 (((w.alloc (.cells #[.int .i64 a, .int .i64 b] 47)).alloc (.cells #[.int .i64 c, .int .i64 d] 47)).alloc (.cells #[.int .i64 0, .int .i64 0] 47)) (w.heap.size + 1) c d := ⟨by go_simp, by go_simp, by go_simp, by go_simp⟩
    have k3 : Box2 (((w.alloc (.cells #[.int .i64 a, .int .i64 b] 47)).alloc (.cells #[.int .i64 c, .int .i64 d] 47)).alloc (.cells #[.int .i64 0, .int .i64 0] 47)) (w.heap.size + 1 + 1) 0 0 := ⟨by go_simp, by go_simp, by go_simp, by go_simp⟩
    have bel : Below w.heap.size w (((w.alloc (.cells #[.int .i64 a, .int .i64 b] 47)).alloc (.cells #[.int .i64 c, .int .i64 d] 47)).alloc (.cells #[.int .i64 0, .int .i64 0] 47)) := by (repeat (first | exact Below.refl _ _ | refine Below.setCell ?_ (by simp <;> omega) _ | refine Below.alloc ?_ (by simp <;> omega) _ | refine Below.drew ?_))
    refine (implSpanOk_any a b _).mono ?_; rintro e w1 ⟨rfl, hb1⟩
    replace bel := bel.trans (hb1.mono bel.size)
    replace k1 := k1.keep hb1
    replace k2 := k2.keep hb1
    replace k3 := k3.keep hb1
    obtain ⟨p1, p2, p3, p4⟩ := k1; obtain ⟨q1, q2, q3, q4⟩ := k2; obtain ⟨r1, r2, r3, r4⟩ := k3
    go_wp2
    exact bodyPost_ret (by simp [results, Tryd.results21, go_sem, *]) rfl ⟨rfl, by (repeat (first | exact bel | refine Below.setCell ?_ (by simp <;> omega) _ | refine Below.alloc ?_ (by simp <;> omega) _ | refine Below.drew ?_))⟩

def spEq (a b c d : Int) : Bool := decide (a = c ∧ b = d)


end Go.Proofs.YtadoihddmbbjoaaDoor

namespace Go.Proofs.YtadoihddmbbjoaaDoor

theorem wrL_comm (l : List UInt8) (a b : Nat) (d e : List UInt8) (h : a + d.length ≤ b ∨ b + e.length ≤ a) : wrL (wrL l a d) b e = wrL (wrL l b e) a d := by
  have h1 := wrL_len l a d
  have h2 := wrL_len l b e
  refine ext_getD (by simp only [wrL_len]; omega) fun i hi => ?_
  rw [wrL_len, h2] at hi
  rw [wrL_getD (wrL l a d) b e i (by rw [h1]; omega), wrL_getD (wrL l b e) a d i (by rw [h2]; omega), h1, h2]
  by_cases cb : b ≤ i ∧ i < b + e.length
  · rw [if_pos cb, if_neg (show ¬ (a ≤ i ∧ i < a + d.length) by omega), if_pos (by omega), wrL_getD l b e i (by omega), if_pos cb]
  · rw [if_neg cb]
    by_cases ca : a ≤ i ∧ i < a + d.length
    · rw [if_pos ca, if_pos (by omega), wrL_getD l a d i (by omega), if_pos ca]
    · rw [if_neg ca]
      by_cases c1 : i < max l.length (a + d.length) <;> by_cases c2 : i < max l.length (b + e.length)
      · rw [if_pos c1, if_pos c2, wrL_getD l a d i c1, if_neg ca, wrL_getD l b e i c2, if_neg cb]
      · rw [if_pos c1, if_neg c2, wrL_getD l a d i c1, if_neg ca, if_neg (by omega)]
      · rw [if_neg c1, if_pos c2, wrL_getD l b e i c2, if_neg cb, if_neg (by omega)]
      · rw [if_neg c1, if_neg c2]

theorem doS_is {S : StT} {q : ReqT} (h : doC S q = 0) : doS S q = { S with now := S.now.set q.obj.toNat (wrL (S.now.getD q.obj.toNat []) q.pos.toNat q.data), last := S.last.set q.who.toNat q.num } := if_pos h
theorem doS_not {S : StT} {q : ReqT} (h : doC S q ≠ 0) : doS S q = S := if_neg h
theorem set_comm' {α : Type} (L : List α) (i j : Nat) (x y : α) (h : i ≠ j) : (L.set i x).set j y = (L.set j y).set i x := List.set_comm x y h

/-- The code of another client's request does not depend on what was done. -/
theorem doC_apart {S : StT} {q u : ReqT} (hq : rqB q = true) (hne : u.who ≠ q.who) : doC (doS S q) u = doC S u := by
  unfold doS
  split
  · rename_i hc
    unfold doC
    by_cases hu : rqB u = true
    · obtain ⟨⟨w0, w1⟩, -⟩ := rqB_iff.1 hq
      obtain ⟨⟨v0, v1⟩, -⟩ := rqB_iff.1 hu
      have e : (S.last.set q.who.toNat q.num).getD u.who.toNat 0 = S.last.getD u.who.toNat 0 := by
        rw [getD_set, if_neg (fun c => by omega)]
      simp only [e]
    · rw [if_neg hu, if_neg hu]
  · rfl

/-- The writes of two requests, in either order. -/
theorem doS_apart {S : StT} {q u : ReqT} (hc : doC S q = 0) (hne : u.who ≠ q.who) (hm : u.obj ≠ q.obj ∨ (0 ≤ u.pos → (q.pos.toNat + q.data.length ≤ u.pos.toNat ∨ u.pos.toNat + u.data.length ≤ q.pos.toNat))) :
    doS (doS S q) u = doS (doS S u) q := by
  have hq := (doC_fine hc).1
  by_cases hu : doC S u = 0
  · have hru := (doC_fine hu).1
    have h1 : doC (doS S q) u = 0 := by rw [doC_apart hq hne]; exact hu
    have h2 : doC (doS S u) q = 0 := by rw [doC_apart hru (Ne.symm hne)]; exact hc
    obtain ⟨⟨w0, w1⟩, -, -, ⟨o0, o1⟩, hw⟩ := rqB_iff.1 hq
    obtain ⟨⟨v0, v1⟩, -, -, ⟨p0, p1⟩, hv⟩ := rqB_iff.1 hru
    have hpu := (wokB_iff.1 hv).1
    rw [doS_is h1, doS_is h2, doS_is hc, doS_is hu]
    simp only [StT.mk.injEq, and_true, true_and]
    refine ⟨?_, set_comm' _ _ _ _ _ (by omega)⟩
    by_cases ho : u.obj = q.obj
    · have hd := (hm.resolve_left (fun c => c ho)) hpu
      rw [ho]
      rw [getD_set, getD_set]
      by_cases hl : q.obj.toNat < S.now.length
      · rw [if_pos ⟨rfl, hl⟩, if_pos ⟨rfl, hl⟩, List.set_set, List.set_set, wrL_comm _ _ _ _ _ hd]
      · rw [if_neg (fun c => hl c.2), if_neg (fun c => hl c.2), List.set_eq_of_length_le (by simp; omega), List.set_eq_of_length_le (by omega), List.set_eq_of_length_le (by simp; omega), List.set_eq_of_length_le (by omega)]
    · have hne2 : q.obj.toNat ≠ u.obj.toNat := by omega
      rw [getD_set, getD_set, if_neg (fun c => hne2 c.1), if_neg (fun c => hne2 c.1.symm)]
      exact set_comm' _ _ _ _ _ hne2
  · have h1 : doC (doS S q) u ≠ 0 := by rw [doC_apart hq hne]; exact hu
    rw [doS_not h1, doS_not hu]

/-- What the law's test says of places: the two ranges do not meet. -/
theorem sm_apart {a b : Int} {d e : List UInt8} (ha : 0 ≤ a ∧ a + d.length ≤ 48 ∧ d ≠ []) (hb : 0 ≤ b ∧ b + e.length ≤ 48) (he : e ≠ []) (h : smB a (a + d.length) b (b + e.length) = false) : a.toNat + d.length ≤ b.toNat ∨ b.toNat + e.length ≤ a.toNat := by
  have hd0 : 0 < d.length := List.length_pos_iff.2 ha.2.2
  have he0 : 0 < e.length := List.length_pos_iff.2 he
  have k1 : spanOkB a (a + d.length) = true := spanOkB_iff.2 ⟨by omega, by omega, by omega⟩
  have k2 : spanOkB b (b + e.length) = true := spanOkB_iff.2 ⟨by omega, by omega, by omega⟩
  unfold smB at h
  rw [k1, k2] at h
  have h3 : mtB a (a + d.length) b (b + e.length) = false := by simpa using h
  unfold mtB at h3
  have h4 := of_decide_eq_false h3
  unfold mx mn at h4
  split at h4 <;> split at h4 <;> omega

end Go.Proofs.YtadoihddmbbjoaaDoor
