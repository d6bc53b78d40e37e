/-
  laws.FnSpanMeet returns true at every code: the walk of the law. No condition.
-/
import Derived.Test.YtcnjceobjmbffaaDraw2
import Derived.Test.YtcnjceobjmbffaaMeetS
import Derived.Test.YtcnjceobjmbffaaCalm
import Derived.Laws.StructEq
namespace Go.Proofs.Ytcnjceobjmbffaa.fnSpanMeet
open Go.RowKit

theorem eq_span (a b c d : Int) (W : World) : (Op.equalIn 10000 24 (.agg #[.int .i64 a, .int .i64 b]) (.agg #[.int .i64 c, .int .i64 d])).run Try.prog W = .ok (a == c && b == d) W := by
  have hS : Try.prog.underlying 24 = some (.struct (Try.prog.fieldsOf 24)) := by kernel_rfl
  have hp : Try.prog.stoodInHeld 24 = false := by kernel_rfl
  rw [show (10000 : Nat) = 9999 + 1 by rfl, run_equalIn_agg _ _ _ _ _ hS hp]
  simp only [Program.fieldsOf, Try.underlying24]
  go_simp
  by_cases h1 : a = c <;> by_cases h2 : b = d <;> simp [h1, h2]
theorem neq_span (a b c d : Int) (W : World) : (binOp .neq 24 (.agg #[.int .i64 a, .int .i64 b]) (.agg #[.int .i64 c, .int .i64 d])).run Try.prog W = .ok (.bool (!(a == c && b == d))) W := by
  rw [run_neq_struct, eq_span]; rfl
theorem eql_span (a b c d : Int) (W : World) : (binOp .eql 24 (.agg #[.int .i64 a, .int .i64 b]) (.agg #[.int .i64 c, .int .i64 d])).run Try.prog W = .ok (.bool (a == c && b == d)) W := by
  rw [run_eql_struct, eq_span]; rfl

theorem mx_comm (a c : Int) : mx c a = mx a c := by unfold mx; split <;> split <;> omega
theorem mn_comm (a c : Int) : mn c a = mn a c := by unfold mn; split <;> split <;> omega
theorem sm_symm (a b c d : Int) : smB a b c d = smB c d a b := by
  unfold smB mtB
  rw [mx_comm a c, mn_comm b d, Bool.and_comm (spanOkB c d)]
theorem smv_symm (a b c d : Int) : smLo a b c d = smLo c d a b ∧ smHi a b c d = smHi c d a b := by
  unfold smLo smHi
  rw [sm_symm a b c d, mx_comm a c, mn_comm b d]
  exact ⟨rfl, rfl⟩
/-- The three ways. -/
theorem sm_parts (a b c d : Int) :
    (smB a b c d = false ∧ smLo a b c d = 0 ∧ smHi a b c d = 0 ∧ (spanOkB a b = false ∨ spanOkB c d = false ∨ b ≤ c ∨ d ≤ a)) ∨
    (smB a b c d = true ∧ spanOkB (smLo a b c d) (smHi a b c d) = true ∧ a ≤ smLo a b c d ∧ c ≤ smLo a b c d ∧ smHi a b c d ≤ b ∧ smHi a b c d ≤ d ∧ (smLo a b c d = a ∨ smLo a b c d = c) ∧ (smHi a b c d = b ∨ smHi a b c d = d)) := by
  by_cases h : smB a b c d = true
  · obtain ⟨e1, e2⟩ := sm_t h
    rw [e1, e2]
    have hh := h
    simp only [smB, Bool.and_eq_true] at hh
    refine .inr ⟨h, ?_, ?_⟩
    · rw [mt_ok hh.1.1 hh.1.2]; exact hh.2
    · unfold mx mn; split <;> split <;> omega
  · replace h : smB a b c d = false := by simpa using h
    obtain ⟨e1, e2⟩ := sm_f h
    refine .inl ⟨h, e1, e2, ?_⟩
    by_cases h1 : spanOkB a b = true
    · by_cases h2 : spanOkB c d = true
      · have h3 : mtB a b c d = false := by simpa [smB, h1, h2] using h
        have h3' : ¬ mx a c < mn b d := by simpa [mtB] using h3
        rw [spanOkB_iff] at h1 h2
        refine .inr (.inr ?_)
        revert h3'
        unfold mx mn; split <;> split <;> omega
      · exact .inr (.inl (by simpa using h2))
    · exact .inl (by simpa using h1)

set_option maxRecDepth 100000 in
set_option maxHeartbeats 8000000 in
theorem walk (v : Value) (len : Nat) (w : World) (h : Byt w v len) :
    Calls Try.prog 3 #[v] w fun e w' => e = .returned (.bool true) ∧ Below w.heap.size w w' := by
  have HB := Lib.hid h
  obtain ⟨z, a0, cap, rfl, hl, hm, -⟩ := h
  unfold maxLen at hm
  by_cases hlen : len ≤ 1048576
  · go_enter Try.func3, Try.ntmps3
    go_wp2_with fail
    refine (drawSpanMeet_any _ len _ HB.out).mono ?_; rintro e w1 ⟨a, b, c, d, rfl, hb1⟩
    go_wp2_with fail
    have kA : Box2 ((w1.alloc (.cells #[.int .i64 a, .int .i64 b] 24)).alloc (.cells #[.int .i64 c, .int .i64 d] 24)) w1.heap.size a b := (new_box w1 a b 24).keep ((Below.refl _ _).alloc (Nat.le_refl _) _)
    have kB : Box2 ((w1.alloc (.cells #[.int .i64 a, .int .i64 b] 24)).alloc (.cells #[.int .i64 c, .int .i64 d] 24)) (w1.heap.size + 1) c d := by simpa using new_box (w1.alloc (.cells #[.int .i64 a, .int .i64 b] 24)) c d 24
    have e1 : Below w.heap.size w ((w1.alloc (.cells #[.int .i64 a, .int .i64 b] 24)).alloc (.cells #[.int .i64 c, .int .i64 d] 24)) := (hb1.alloc hb1.size _).alloc (by have := hb1.size; simp; omega) _
    have hm1 : ∀ W, Calls Try.prog 8 #[.agg #[.int .i64 a, .int .i64 b], .agg #[.int .i64 c, .int .i64 d]] W fun e w' => e = .returned (.tuple #[.agg #[.int .i64 (smLo a b c d), .int .i64 (smHi a b c d)], .bool (smB a b c d)]) ∧ Below W.heap.size W w' := implSpanMeet_any a b c d
    have hm2 : ∀ W, Calls Try.prog 9 #[.agg #[.int .i64 a, .int .i64 b], .agg #[.int .i64 c, .int .i64 d]] W fun e w' => e = .returned (.tuple #[.agg #[.int .i64 (smLo a b c d), .int .i64 (smHi a b c d)], .bool (smB a b c d)]) ∧ Below W.heap.size W w' := specSpanMeet_any a b c d
    have hm3 : ∀ W, Calls Try.prog 8 #[.agg #[.int .i64 c, .int .i64 d], .agg #[.int .i64 a, .int .i64 b]] W fun e w' => e = .returned (.tuple #[.agg #[.int .i64 (smLo a b c d), .int .i64 (smHi a b c d)], .bool (smB a b c d)]) ∧ Below W.heap.size W w' := fun W => by
      have := implSpanMeet_any c d a b W
      rw [sm_symm c d a b, (smv_symm c d a b).1, (smv_symm c d a b).2] at this
      exact this
    have HP := Lib.hid (sm_parts a b c d)
    generalize smLo a b c d = lo at *
    generalize smHi a b c d = hi at *
    generalize smB a b c d = ok at *
    have H1 := Lib.hid hm1
    have H2 := Lib.hid hm2
    have H3 := Lib.hid hm3
    clear hm1 hm2 hm3
    generalize ((w1.alloc (.cells #[.int .i64 a, .int .i64 b] 24)).alloc (.cells #[.int .i64 c, .int .i64 d] 24)) = W at *
    generalize w1.heap.size = n at *
    clear hb1
    refine (H1.out _).mono ?_; rintro e w2 ⟨rfl, hb2⟩
    have e2 := e1.trans (hb2.mono e1.size)
    replace kA := kA.keep hb2
    replace kB := kB.keep hb2
    have kX := new_box w2 lo hi 24
    have hal : Below w2.heap.size w2 (w2.alloc (.cells #[.int .i64 lo, .int .i64 hi] 24)) := (Below.refl _ _).alloc (Nat.le_refl _) _
    replace kA := kA.keep hal
    replace kB := kB.keep hal
    have e3 := e2.trans (hal.mono e2.size)
    obtain ⟨x1, x2, -, -⟩ := id kA
    obtain ⟨y1, y2, -, -⟩ := id kB
    clear hb2 hal e2 e1
    go_wp2_with fail
    generalize w2.alloc (.cells #[.int .i64 lo, .int .i64 hi] 24) = W3 at *
    generalize w2.heap.size = g at *
    refine (H2.out _).mono ?_; rintro e w4 ⟨rfl, hb4⟩
    have e4 := e3.trans (hb4.mono e3.size)
    clear x1 x2 y1 y2
    have hal := (Below.refl w4.heap.size w4).alloc (Nat.le_refl _) (.cells #[.int .i64 lo, .int .i64 hi] 24)
    have kY := new_box w4 lo hi 24
    replace kA := (kA.keep hb4).keep hal
    replace kB := (kB.keep hb4).keep hal
    replace kX := (kX.keep hb4).keep hal
    have e5 := e4.trans (hal.mono e4.size)
    obtain ⟨x1, x2, -, -⟩ := id kA
    obtain ⟨y1, y2, -, -⟩ := id kB
    clear hb4 hal e4 e3
    go_wp2_with fail
    generalize w4.alloc (.cells #[.int .i64 lo, .int .i64 hi] 24) = W5 at *
    generalize w4.heap.size = k at *
    refine (H3.out _).mono ?_; rintro e w6 ⟨rfl, hb6⟩
    have e6 := e5.trans (hb6.mono e5.size)
    clear x1 x2 y1 y2
    have hal := (Below.refl w6.heap.size w6).alloc (Nat.le_refl _) (.cells #[.int .i64 lo, .int .i64 hi] 24)
    have kZ := new_box w6 lo hi 24
    replace kA := (kA.keep hb6).keep hal
    replace kB := (kB.keep hb6).keep hal
    replace kX := (kX.keep hb6).keep hal
    replace kY := (kY.keep hb6).keep hal
    have e7 := e6.trans (hal.mono e6.size)
    clear hb6 hal e6 e5
    go_wp2_with fail
    generalize w6.alloc (.cells #[.int .i64 lo, .int .i64 hi] 24) = W7 at *
    generalize w6.heap.size = m at *
    have a1 : ∀ x : BelowOf W7, x.w.cell? ⟨n, 0, none⟩ = some (.int .i64 a) := fun x => x.cell kA.1
    have a2 : ∀ x : BelowOf W7, x.w.cell? ⟨n, 1, none⟩ = some (.int .i64 b) := fun x => x.cell kA.2.1
    have b1 : ∀ x : BelowOf W7, x.w.cell? ⟨g, 0, none⟩ = some (.int .i64 lo) := fun x => x.cell kX.1
    have b2 : ∀ x : BelowOf W7, x.w.cell? ⟨g, 1, none⟩ = some (.int .i64 hi) := fun x => x.cell kX.2.1
    have c1 : ∀ x : BelowOf W7, x.w.cell? ⟨k, 0, none⟩ = some (.int .i64 lo) := fun x => x.cell kY.1
    have c2 : ∀ x : BelowOf W7, x.w.cell? ⟨k, 1, none⟩ = some (.int .i64 hi) := fun x => x.cell kY.2.1
    have d1 : ∀ x : BelowOf W7, x.w.cell? ⟨m, 0, none⟩ = some (.int .i64 lo) := fun x => x.cell kZ.1
    have d2 : ∀ x : BelowOf W7, x.w.cell? ⟨m, 1, none⟩ = some (.int .i64 hi) := fun x => x.cell kZ.2.1
    have hgt : Try.prog.eqGuardType Try.prog.depth 24 = false := by kernel_rfl
    have hneq : ∀ W : World, (binOp .neq 24 (.agg #[.int .i64 lo, .int .i64 hi]) (.agg #[.int .i64 lo, .int .i64 hi])).run Try.prog W = .ok (.bool false) W := fun W => by
      rw [neq_span]; simp
    have ho : (ok != ok) = false := by simp
    have hs : (spanOkB a b != spanOkB a b) = false := by simp
    refine wp_region_calm (by kernel_rfl) (by kernel_rfl) ?_
    repeat (go_big_quiet_step (first | (go_at_call 10; exact Calls.calm (implSpanOk_any a b _)) | (go_at_call 11; exact Calls.calm (specSpanOk_any a b _))))
    refine wpQuiet_nil ?_
    rintro _ ⟨x, rfl⟩
    have e8 := e7.trans (x.below.mono e7.size)
    replace kA := kA.keep x.below
    replace kB := kB.keep x.below
    replace kX := kX.keep x.below
    clear kY kZ a1 a2 b1 b2 c1 c2 d1 d2 H1 H2 H3 hneq e7 ho hs
    generalize x.w = W8 at *
    rcases HP.out with ⟨rfl, rfl, rfl, hcase⟩ | ⟨rfl, hxok, t1, t2, t3, t4, t5, t6⟩
    · have heql : ∀ W : World, (binOp .eql 24 (.agg #[.int .i64 0, .int .i64 0]) (.agg #[.int .i64 0, .int .i64 0])).run Try.prog W = .ok (.bool true) W := fun W => by
        rw [eql_span]; rfl
      clear HP
      by_cases hA : spanOkB a b = true
      · by_cases hB : spanOkB c d = true
        · have hor : b ≤ c ∨ d ≤ a := by
            rcases hcase with h | h | h
            · rw [h] at hA; cases hA
            · rw [h] at hB; cases hB
            · exact h
          obtain ⟨x1, x2, -, -⟩ := id kX
          obtain ⟨y1, y2, -, -⟩ := id kA
          clear hcase
          go_wp2_with fail
          refine (specSpanOk_any a b _).mono ?_; rintro e w9 ⟨rfl, hb9⟩
          have e9 := e8.trans (hb9.mono e8.size)
          clear x1 x2 y1 y2
          obtain ⟨y1, y2, -, -⟩ := kB.keep hb9
          go_wp2_with fail
          refine (specSpanOk_any c d _).mono ?_; rintro e w10 ⟨rfl, hb10⟩
          have e10 := e9.trans (hb10.mono e9.size)
          clear y1 y2
          obtain ⟨y1, y2, -, -⟩ := (kB.keep hb9).keep hb10
          obtain ⟨z1, z2, -, -⟩ := (kA.keep hb9).keep hb10
          by_cases hbc : b ≤ c
          · go_wp2
            go_ret
            exact ⟨rfl, e10⟩
          · have hda : d ≤ a := by omega
            go_wp2
            go_ret
            exact ⟨rfl, e10⟩
        · replace hB : spanOkB c d = false := by simpa using hB
          obtain ⟨x1, x2, -, -⟩ := id kX
          obtain ⟨y1, y2, -, -⟩ := id kA
          clear hcase
          go_wp2_with fail
          refine (specSpanOk_any a b _).mono ?_; rintro e w9 ⟨rfl, hb9⟩
          have e9 := e8.trans (hb9.mono e8.size)
          clear x1 x2 y1 y2
          obtain ⟨y1, y2, -, -⟩ := kB.keep hb9
          go_wp2_with fail
          refine (specSpanOk_any c d _).mono ?_; rintro e w10 ⟨rfl, hb10⟩
          have e10 := e9.trans (hb10.mono e9.size)
          go_wp2
          go_ret
          exact ⟨rfl, e10⟩
      · replace hA : spanOkB a b = false := by simpa using hA
        obtain ⟨x1, x2, -, -⟩ := id kX
        obtain ⟨y1, y2, -, -⟩ := id kA
        clear hcase
        go_wp2_with fail
        refine (specSpanOk_any a b _).mono ?_; rintro e w9 ⟨rfl, hb9⟩
        have e9 := e8.trans (hb9.mono e8.size)
        go_wp2
        go_ret
        exact ⟨rfl, e9⟩
    · clear HP
      obtain ⟨x1, x2, -, -⟩ := id kX
      go_wp2_with fail
      refine (implSpanOk_any lo hi _).mono ?_; rintro e w9 ⟨rfl, hb9⟩
      have e9 := e8.trans (hb9.mono e8.size)
      clear x1 x2
      obtain ⟨x1, x2, -, -⟩ := kX.keep hb9
      obtain ⟨y1, y2, -, -⟩ := kA.keep hb9
      obtain ⟨z1, z2, -, -⟩ := kB.keep hb9
      clear kX kA kB
      by_cases g1 : lo = a <;> by_cases g2 : hi = b
      · subst g1 g2
        go_wp2
        go_ret
        exact ⟨rfl, e9⟩
      · obtain rfl : hi = d := by omega
        subst g1
        go_wp2
        go_ret
        exact ⟨rfl, e9⟩
      · obtain rfl : lo = c := by omega
        subst g2
        go_wp2
        go_ret
        exact ⟨rfl, e9⟩
      · obtain rfl : lo = c := by omega
        obtain rfl : hi = d := by omega
        go_wp2
        go_ret
        exact ⟨rfl, e9⟩
  · go_enter Try.func3, Try.ntmps3
    go_wp2
    go_ret
    exact ⟨rfl, Below.refl _ _⟩

end Go.Proofs.Ytcnjceobjmbffaa.fnSpanMeet
