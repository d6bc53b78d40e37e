/-
  Contracts of SpanMeet of both sides: what each returns at any numbers, and that nothing that existed has changed.
-/
import Derived.Test.YtfifimdaepebeaaMeetW
namespace Go.Proofs.Ytfifimdaepebeaa
open Go.RowKit

def smB (a b c d : Int) : Bool := spanOkB a b && spanOkB c d && mtB a b c d
def smLo (a b c d : Int) : Int := if smB a b c d = true then mx a c else 0
def smHi (a b c d : Int) : Int := if smB a b c d = true then mn b d else 0

theorem sm_t {a b c d : Int} (h : smB a b c d = true) : smLo a b c d = mx a c ∧ smHi a b c d = mn b d := by unfold smLo smHi; simp [h]
theorem sm_f {a b c d : Int} (h : smB a b c d = false) : smLo a b c d = 0 ∧ smHi a b c d = 0 := by unfold smLo smHi; simp [h]

set_option maxHeartbeats 400000 in
theorem implMeet_any (a b c d : Int) (w : World) :
    Calls Try.prog 71 #[.agg #[.int .i64 a, .int .i64 b], .agg #[.int .i64 c, .int .i64 d]] w fun e w' =>
      e = .returned (.agg #[.int .i64 (mx a c), .int .i64 (mn b d)]) ∧ Below w.heap.size w w' := by
  have go1 : ∀ x y : Int, mx a c = x → mn b d = y → ((a < c ∧ x = c) ∨ (¬ a < c ∧ x = a)) → ((b ≤ d ∧ y = b) ∨ (¬ b ≤ d ∧ y = d)) →
      Calls Try.prog 71 #[.agg #[.int .i64 a, .int .i64 b], .agg #[.int .i64 c, .int .i64 d]] w fun e w' =>
        e = .returned (.agg #[.int .i64 x, .int .i64 y]) ∧ Below w.heap.size w w' := by
    intro x y _ _ hx hy
    rcases hx with ⟨h1, rfl⟩ | ⟨h1, rfl⟩ <;> rcases hy with ⟨h2, rfl⟩ | ⟨h2, rfl⟩
    all_goals
      go_enter Try.func71, Try.ntmps71
      go_wp2
      exact bodyPost_ret (by simp [results, Try.results71, go_sem]) rfl ⟨rfl, by (repeat (first | exact Below.refl _ _ | refine Below.setCell ?_ (by simp <;> omega) _ | refine Below.alloc ?_ (by simp <;> omega) _ | refine Below.drew ?_))⟩
  refine go1 _ _ rfl rfl ?_ ?_
  · by_cases h : a < c
    · exact .inl ⟨h, by unfold mx; rw [if_neg (by omega)]⟩
    · by_cases h2 : c < a
      · exact .inr ⟨h, by unfold mx; rw [if_pos h2]⟩
      · exact .inr ⟨h, by unfold mx; rw [if_neg h2]; omega⟩
  · by_cases h : b ≤ d
    · by_cases h2 : b < d
      · exact .inl ⟨h, by unfold mn; rw [if_pos h2]⟩
      · exact .inl ⟨h, by unfold mn; rw [if_neg h2]; omega⟩
    · exact .inr ⟨h, by unfold mn; rw [if_neg (by omega)]⟩


theorem mt_ok {a b c d : Int} (h1 : spanOkB a b = true) (h2 : spanOkB c d = true) : spanOkB (mx a c) (mn b d) = mtB a b c d := by
  rw [spanOkB_iff] at h1 h2
  by_cases h : mx a c < mn b d
  · have e : mtB a b c d = true := by unfold mtB; simpa using h
    rw [e]
    exact spanOkB_true ⟨by unfold mx; split <;> omega, h, by unfold mn; split <;> omega⟩
  · have e : mtB a b c d = false := by unfold mtB; simpa using h
    rw [e]
    exact spanOkB_false (by omega)

set_option maxHeartbeats 400000 in
theorem implSpanMeet_any (a b c d : Int) (w : World) :
    Calls Try.prog 37 #[.agg #[.int .i64 a, .int .i64 b], .agg #[.int .i64 c, .int .i64 d]] w fun e w' =>
      e = .returned (.tuple #[.agg #[.int .i64 (smLo a b c d), .int .i64 (smHi a b c d)], .bool (smB a b c d)]) ∧ Below w.heap.size w w' := by
  by_cases h1 : spanOkB a b = true
  · by_cases h2 : spanOkB c d = true
    · by_cases h3 : mtB a b c d = true
      · have e1 : smB a b c d = true := by unfold smB; simp [h1, h2, h3]
        have h4 : spanOkB (mx a c) (mn b d) = true := (mt_ok h1 h2).trans h3
        rw [(sm_t e1).1, (sm_t e1).2, e1]
        clear e1 h3
        go_enter Try.func37, Try.ntmps37
        go_wp2_with fail
        have k1 : Box2 (((w.alloc (.cells #[.int .i64 a, .int .i64 b] 25)).alloc (.cells #[.int .i64 c, .int .i64 d] 25)).alloc (.cells #[.int .i64 0, .int .i64 0] 25)) w.heap.size a b := ⟨by go_simp, by go_simp, by go_simp, by go_simp⟩
        have k2 : Box2 (((w.alloc (.cells #[.int .i64 a, .int .i64 b] 25)).alloc (.cells #[.int .i64 c, .int .i64 d] 25)).alloc (.cells #[.int .i64 0, .int .i64 0] 25)) (w.heap.size + 1) c d := ⟨by go_simp, by go_simp, by go_simp, by go_simp⟩
        have k3 : Box2 (((w.alloc (.cells #[.int .i64 a, .int .i64 b] 25)).alloc (.cells #[.int .i64 c, .int .i64 d] 25)).alloc (.cells #[.int .i64 0, .int .i64 0] 25)) (w.heap.size + 1 + 1) 0 0 := ⟨by go_simp, by go_simp, by go_simp, by go_simp⟩
        have bel : Below w.heap.size w (((w.alloc (.cells #[.int .i64 a, .int .i64 b] 25)).alloc (.cells #[.int .i64 c, .int .i64 d] 25)).alloc (.cells #[.int .i64 0, .int .i64 0] 25)) := by (repeat (first | exact Below.refl _ _ | refine Below.setCell ?_ (by simp <;> omega) _ | refine Below.alloc ?_ (by simp <;> omega) _ | refine Below.drew ?_))
        refine (implSpanOk_any a b _).mono ?_; rintro e w1 ⟨rfl, hb1⟩
        replace bel := bel.trans (hb1.mono bel.size)
        replace k1 := k1.keep hb1
        replace k2 := k2.keep hb1
        replace k3 := k3.keep hb1
        obtain ⟨p1, p2, p3, p4⟩ := k1; obtain ⟨q1, q2, q3, q4⟩ := k2; obtain ⟨r1, r2, r3, r4⟩ := k3
        go_wp2_with fail
        have k1 : Box2 _ _ _ _ := ⟨p1, p2, p3, p4⟩; have k2 : Box2 _ _ _ _ := ⟨q1, q2, q3, q4⟩; have k3 : Box2 _ _ _ _ := ⟨r1, r2, r3, r4⟩; clear p1 p2 p3 p4 q1 q2 q3 q4 r1 r2 r3 r4
        refine (implSpanOk_any c d _).mono ?_; rintro e w2 ⟨rfl, hb2⟩
        replace bel := bel.trans (hb2.mono bel.size)
        replace k1 := k1.keep hb2
        replace k2 := k2.keep hb2
        replace k3 := k3.keep hb2
        obtain ⟨p1, p2, p3, p4⟩ := k1; obtain ⟨q1, q2, q3, q4⟩ := k2; obtain ⟨r1, r2, r3, r4⟩ := k3
        go_wp2_with fail
        have k1 : Box2 _ _ _ _ := ⟨p1, p2, p3, p4⟩; have k2 : Box2 _ _ _ _ := ⟨q1, q2, q3, q4⟩; have k3 : Box2 _ _ _ _ := ⟨r1, r2, r3, r4⟩; clear p1 p2 p3 p4 q1 q2 q3 q4 r1 r2 r3 r4
        refine (implMeet_any a b c d _).mono ?_; rintro e w3 ⟨rfl, hb3⟩
        replace bel := bel.trans (hb3.mono bel.size)
        replace k1 := k1.keep hb3
        replace k2 := k2.keep hb3
        replace k3 := k3.keep hb3
        obtain ⟨p1, p2, p3, p4⟩ := k1; obtain ⟨q1, q2, q3, q4⟩ := k2; obtain ⟨r1, r2, r3, r4⟩ := k3
        go_wp2_with fail
        have k1 : Box2 _ _ _ _ := ⟨p1, p2, p3, p4⟩; have k2 : Box2 _ _ _ _ := ⟨q1, q2, q3, q4⟩; have k3 : Box2 _ _ _ _ := ⟨r1, r2, r3, r4⟩; clear p1 p2 p3 p4 q1 q2 q3 q4 r1 r2 r3 r4
        have hal : Below w3.heap.size w3 (w3.alloc (.cells #[.int .i64 (mx a c), .int .i64 (mn b d)] 25)) := (Below.refl _ _).alloc (Nat.le_refl _) _
        have k4 : Box2 (w3.alloc (.cells #[.int .i64 (mx a c), .int .i64 (mn b d)] 25)) w3.heap.size (mx a c) (mn b d) := ⟨by go_simp, by go_simp, by go_simp, by go_simp⟩
        replace k1 := k1.keep hal
        replace k2 := k2.keep hal
        replace k3 := k3.keep hal
        replace bel := bel.trans (hal.mono bel.size)
        refine (implSpanOk_any (mx a c) (mn b d) _).mono ?_; rintro e w4 ⟨rfl, hb4⟩
        replace bel := bel.trans (hb4.mono bel.size)
        replace k1 := k1.keep hb4
        replace k2 := k2.keep hb4
        replace k3 := k3.keep hb4
        replace k4 := k4.keep hb4
        obtain ⟨p1, p2, p3, p4⟩ := k1; obtain ⟨q1, q2, q3, q4⟩ := k2; obtain ⟨r1, r2, r3, r4⟩ := k3; obtain ⟨t1, t2, t3, t4⟩ := k4
        go_wp2
        exact bodyPost_ret (by simp [results, Try.results37, go_sem, *]) rfl ⟨rfl, by (repeat (first | exact bel | refine Below.setCell ?_ (by simp <;> omega) _ | refine Below.alloc ?_ (by simp <;> omega) _ | refine Below.drew ?_))⟩
      · replace h3 : mtB a b c d = false := by simpa using h3
        have e1 : smB a b c d = false := by unfold smB; simp [h1, h2, h3]
        have h4 : spanOkB (mx a c) (mn b d) = false := (mt_ok h1 h2).trans h3
        rw [(sm_f e1).1, (sm_f e1).2, e1]
        clear e1 h3
        go_enter Try.func37, Try.ntmps37
        go_wp2_with fail
        have k1 : Box2 (((w.alloc (.cells #[.int .i64 a, .int .i64 b] 25)).alloc (.cells #[.int .i64 c, .int .i64 d] 25)).alloc (.cells #[.int .i64 0, .int .i64 0] 25)) w.heap.size a b := ⟨by go_simp, by go_simp, by go_simp, by go_simp⟩
        have k2 : Box2 (((w.alloc (.cells #[.int .i64 a, .int .i64 b] 25)).alloc (.cells #[.int .i64 c, .int .i64 d] 25)).alloc (.cells #[.int .i64 0, .int .i64 0] 25)) (w.heap.size + 1) c d := ⟨by go_simp, by go_simp, by go_simp, by go_simp⟩
        have k3 : Box2 (((w.alloc (.cells #[.int .i64 a, .int .i64 b] 25)).alloc (.cells #[.int .i64 c, .int .i64 d] 25)).alloc (.cells #[.int .i64 0, .int .i64 0] 25)) (w.heap.size + 1 + 1) 0 0 := ⟨by go_simp, by go_simp, by go_simp, by go_simp⟩
        have bel : Below w.heap.size w (((w.alloc (.cells #[.int .i64 a, .int .i64 b] 25)).alloc (.cells #[.int .i64 c, .int .i64 d] 25)).alloc (.cells #[.int .i64 0, .int .i64 0] 25)) := by (repeat (first | exact Below.refl _ _ | refine Below.setCell ?_ (by simp <;> omega) _ | refine Below.alloc ?_ (by simp <;> omega) _ | refine Below.drew ?_))
        refine (implSpanOk_any a b _).mono ?_; rintro e w1 ⟨rfl, hb1⟩
        replace bel := bel.trans (hb1.mono bel.size)
        replace k1 := k1.keep hb1
        replace k2 := k2.keep hb1
        replace k3 := k3.keep hb1
        obtain ⟨p1, p2, p3, p4⟩ := k1; obtain ⟨q1, q2, q3, q4⟩ := k2; obtain ⟨r1, r2, r3, r4⟩ := k3
        go_wp2_with fail
        have k1 : Box2 _ _ _ _ := ⟨p1, p2, p3, p4⟩; have k2 : Box2 _ _ _ _ := ⟨q1, q2, q3, q4⟩; have k3 : Box2 _ _ _ _ := ⟨r1, r2, r3, r4⟩; clear p1 p2 p3 p4 q1 q2 q3 q4 r1 r2 r3 r4
        refine (implSpanOk_any c d _).mono ?_; rintro e w2 ⟨rfl, hb2⟩
        replace bel := bel.trans (hb2.mono bel.size)
        replace k1 := k1.keep hb2
        replace k2 := k2.keep hb2
        replace k3 := k3.keep hb2
        obtain ⟨p1, p2, p3, p4⟩ := k1; obtain ⟨q1, q2, q3, q4⟩ := k2; obtain ⟨r1, r2, r3, r4⟩ := k3
        go_wp2_with fail
        have k1 : Box2 _ _ _ _ := ⟨p1, p2, p3, p4⟩; have k2 : Box2 _ _ _ _ := ⟨q1, q2, q3, q4⟩; have k3 : Box2 _ _ _ _ := ⟨r1, r2, r3, r4⟩; clear p1 p2 p3 p4 q1 q2 q3 q4 r1 r2 r3 r4
        refine (implMeet_any a b c d _).mono ?_; rintro e w3 ⟨rfl, hb3⟩
        replace bel := bel.trans (hb3.mono bel.size)
        replace k1 := k1.keep hb3
        replace k2 := k2.keep hb3
        replace k3 := k3.keep hb3
        obtain ⟨p1, p2, p3, p4⟩ := k1; obtain ⟨q1, q2, q3, q4⟩ := k2; obtain ⟨r1, r2, r3, r4⟩ := k3
        go_wp2_with fail
        have k1 : Box2 _ _ _ _ := ⟨p1, p2, p3, p4⟩; have k2 : Box2 _ _ _ _ := ⟨q1, q2, q3, q4⟩; have k3 : Box2 _ _ _ _ := ⟨r1, r2, r3, r4⟩; clear p1 p2 p3 p4 q1 q2 q3 q4 r1 r2 r3 r4
        have hal : Below w3.heap.size w3 (w3.alloc (.cells #[.int .i64 (mx a c), .int .i64 (mn b d)] 25)) := (Below.refl _ _).alloc (Nat.le_refl _) _
        have k4 : Box2 (w3.alloc (.cells #[.int .i64 (mx a c), .int .i64 (mn b d)] 25)) w3.heap.size (mx a c) (mn b d) := ⟨by go_simp, by go_simp, by go_simp, by go_simp⟩
        replace k1 := k1.keep hal
        replace k2 := k2.keep hal
        replace k3 := k3.keep hal
        replace bel := bel.trans (hal.mono bel.size)
        refine (implSpanOk_any (mx a c) (mn b d) _).mono ?_; rintro e w4 ⟨rfl, hb4⟩
        replace bel := bel.trans (hb4.mono bel.size)
        replace k1 := k1.keep hb4
        replace k2 := k2.keep hb4
        replace k3 := k3.keep hb4
        replace k4 := k4.keep hb4
        obtain ⟨p1, p2, p3, p4⟩ := k1; obtain ⟨q1, q2, q3, q4⟩ := k2; obtain ⟨r1, r2, r3, r4⟩ := k3; obtain ⟨t1, t2, t3, t4⟩ := k4
        go_wp2
        exact bodyPost_ret (by simp [results, Try.results37, go_sem, *]) rfl ⟨rfl, by (repeat (first | exact bel | refine Below.setCell ?_ (by simp <;> omega) _ | refine Below.alloc ?_ (by simp <;> omega) _ | refine Below.drew ?_))⟩
    · have h2' : spanOkB c d = false := by simpa using h2
      have e1 : smB a b c d = false := by unfold smB; simp [h2']
      rw [(sm_f e1).1, (sm_f e1).2, e1]
      clear e1 h2
      go_enter Try.func37, Try.ntmps37
      go_wp2_with fail
      have k1 : Box2 (((w.alloc (.cells #[.int .i64 a, .int .i64 b] 25)).alloc (.cells #[.int .i64 c, .int .i64 d] 25)).alloc (.cells #[.int .i64 0, .int .i64 0] 25)) w.heap.size a b := ⟨by go_simp, by go_simp, by go_simp, by go_simp⟩
      have k2 : Box2 (((w.alloc (.cells #[.int .i64 a, .int .i64 b] 25)).alloc (.cells #[.int .i64 c, .int .i64 d] 25)).alloc (.cells #[.int .i64 0, .int .i64 0] 25)) (w.heap.size + 1) c d := ⟨by go_simp, by go_simp, by go_simp, by go_simp⟩
      have k3 : Box2 (((w.alloc (.cells #[.int .i64 a, .int .i64 b] 25)).alloc (.cells #[.int .i64 c, .int .i64 d] 25)).alloc (.cells #[.int .i64 0, .int .i64 0] 25)) (w.heap.size + 1 + 1) 0 0 := ⟨by go_simp, by go_simp, by go_simp, by go_simp⟩
      have bel : Below w.heap.size w (((w.alloc (.cells #[.int .i64 a, .int .i64 b] 25)).alloc (.cells #[.int .i64 c, .int .i64 d] 25)).alloc (.cells #[.int .i64 0, .int .i64 0] 25)) := by (repeat (first | exact Below.refl _ _ | refine Below.setCell ?_ (by simp <;> omega) _ | refine Below.alloc ?_ (by simp <;> omega) _ | refine Below.drew ?_))
      refine (implSpanOk_any a b _).mono ?_; rintro e w1 ⟨rfl, hb1⟩
      replace bel := bel.trans (hb1.mono bel.size)
      replace k1 := k1.keep hb1
      replace k2 := k2.keep hb1
      replace k3 := k3.keep hb1
      obtain ⟨p1, p2, p3, p4⟩ := k1; obtain ⟨q1, q2, q3, q4⟩ := k2; obtain ⟨r1, r2, r3, r4⟩ := k3
      go_wp2_with fail
      have k1 : Box2 _ _ _ _ := ⟨p1, p2, p3, p4⟩; have k2 : Box2 _ _ _ _ := ⟨q1, q2, q3, q4⟩; have k3 : Box2 _ _ _ _ := ⟨r1, r2, r3, r4⟩; clear p1 p2 p3 p4 q1 q2 q3 q4 r1 r2 r3 r4
      refine (implSpanOk_any c d _).mono ?_; rintro e w2 ⟨rfl, hb2⟩
      replace bel := bel.trans (hb2.mono bel.size)
      replace k1 := k1.keep hb2
      replace k2 := k2.keep hb2
      replace k3 := k3.keep hb2
      obtain ⟨p1, p2, p3, p4⟩ := k1; obtain ⟨q1, q2, q3, q4⟩ := k2; obtain ⟨r1, r2, r3, r4⟩ := k3
      go_wp2
      exact bodyPost_ret (by simp [results, Try.results37, go_sem, *]) rfl ⟨rfl, by (repeat (first | exact bel | refine Below.setCell ?_ (by simp <;> omega) _ | refine Below.alloc ?_ (by simp <;> omega) _ | refine Below.drew ?_))⟩
  · have h1' : spanOkB a b = false := by simpa using h1
    have e1 : smB a b c d = false := by unfold smB; simp [h1']
    rw [(sm_f e1).1, (sm_f e1).2, e1]
    clear e1 h1
    go_enter Try.func37, Try.ntmps37
    go_wp2_with fail
    have k1 : Box2 (((w.alloc (.cells #[.int .i64 a, .int .i64 b] 25)).alloc (.cells #[.int .i64 c, .int .i64 d] 25)).alloc (.cells #[.int .i64 0, .int .i64 0] 25)) w.heap.size a b := ⟨by go_simp, by go_simp, by go_simp, by go_simp⟩
    have k2 : Box2 (((w.alloc (.cells #[.int .i64 a, .int .i64 b] 25)).alloc (.cells #[.int .i64 c, .int .i64 d] 25)).alloc (.cells #[.int .i64 0, .int .i64 0] 25)) (w.heap.size + 1) c d := ⟨by go_simp, by go_simp, by go_simp, by go_simp⟩
    have k3 : Box2 (((w.alloc (.cells #[.int .i64 a, .int .i64 b] 25)).alloc (.cells #[.int .i64 c, .int .i64 d] 25)).alloc (.cells #[.int .i64 0, .int .i64 0] 25)) (w.heap.size + 1 + 1) 0 0 := ⟨by go_simp, by go_simp, by go_simp, by go_simp⟩
    have bel : Below w.heap.size w (((w.alloc (.cells #[.int .i64 a, .int .i64 b] 25)).alloc (.cells #[.int .i64 c, .int .i64 d] 25)).alloc (.cells #[.int .i64 0, .int .i64 0] 25)) := by (repeat (first | exact Below.refl _ _ | refine Below.setCell ?_ (by simp <;> omega) _ | refine Below.alloc ?_ (by simp <;> omega) _ | refine Below.drew ?_))
    refine (implSpanOk_any a b _).mono ?_; rintro e w1 ⟨rfl, hb1⟩
    replace bel := bel.trans (hb1.mono bel.size)
    replace k1 := k1.keep hb1
    replace k2 := k2.keep hb1
    replace k3 := k3.keep hb1
    obtain ⟨p1, p2, p3, p4⟩ := k1; obtain ⟨q1, q2, q3, q4⟩ := k2; obtain ⟨r1, r2, r3, r4⟩ := k3
    go_wp2
    exact bodyPost_ret (by simp [results, Try.results37, go_sem, *]) rfl ⟨rfl, by (repeat (first | exact bel | refine Below.setCell ?_ (by simp <;> omega) _ | refine Below.alloc ?_ (by simp <;> omega) _ | refine Below.drew ?_))⟩

def spEq (a b c d : Int) : Bool := decide (a = c ∧ b = d)


end Go.Proofs.Ytfifimdaepebeaa
