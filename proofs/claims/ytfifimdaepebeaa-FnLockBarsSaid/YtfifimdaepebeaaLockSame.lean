/-
  Two ranges compared by '!=': the model's own comparison of structs, as equations.
  LockSame of both sides.
-/
import Derived.Test.YtfifimdaepebeaaToSpan
import Derived.Laws.StructEq
import Derived.Test.YtfifimdaepebeaaToHold
namespace Go.Proofs.Ytfifimdaepebeaa
open Go.RowKit

theorem neq_span (lo hi lo' hi' : Int) (w : World) : (binOp .neq 25 (.agg #[.int .i64 lo, .int .i64 hi]) (.agg #[.int .i64 lo', .int .i64 hi'])).run Try.prog w = .ok (.bool (!spEq lo hi lo' hi')) w := by
  have u3 := Try.underlying3
  have a3 : ∀ w, (isAgg 3).run Try.prog w = .ok false w := fun w => by kernel_rfl
  have z3 : ∀ w, (Go.sizeOf 3).run Try.prog w = .ok 1 w := fun w => by kernel_rfl
  have hS : Try.prog.underlying 25 = some (.struct (Try.prog.fieldsOf 25)) := by kernel_rfl
  have hp : Try.prog.stoodInHeld 25 = false := by kernel_rfl
  rw [run_neq_struct, show (10000 : Nat) = 9999 + 1 from rfl, run_equalIn_agg w 9999 25 _ _ hS hp]
  simp only [Program.fieldsOf, Try.underlying25]
  unfold spEq
  by_cases h1 : lo = lo' <;> by_cases h2 : hi = hi' <;> go_simp
theorem guard_span (op : BinOp) (a b : Operand) (x y : Array Value) (w : World) : (eqGuard op 25 a b (.agg x) (.agg y)).run Try.prog w = .ok () w :=
  run_eqGuard_agg w op _ a b x y (by kernel_rfl)

end Go.Proofs.Ytfifimdaepebeaa

namespace Go.Proofs.Ytfifimdaepebeaa
open Go.RowKit

set_option maxHeartbeats 1000000 in
theorem l4Spans_any (v u : Value) (A B : List Rng) (w : World) (h : Spn w v A) (h' : Spn w u B) :
    Calls Try.prog 74 #[v, u] w fun e w' => e = .returned (.bool (eqB A B)) ∧ Below w.heap.size w w' := by
  obtain ⟨a, cap, rfl, hl, hm, hc⟩ := h
  obtain ⟨a', cap', rfl, hl', hm', hc'⟩ := h'
  unfold maxLen at hm hm'
  by_cases hlen : A.length = B.length
  · have HL := Lib.hid hlen
    have HC := Lib.hid hc
    have HC' := Lib.hid hc'
    have HE : Hid (eqB A B = eqB (A.drop 0) (B.drop 0)) := rfl
    have hd : ((A.length : Int) != (B.length : Int)) = false := by simp [hlen]
    clear hc hc' hlen
    go_enter Try.func74, Try.ntmps74
    go_wp2
    go_loopg [5] A.length (fun g s5 wr => ∃ k : Nat, g = A.length - k ∧ k ≤ A.length ∧ s5 = .int .i64 k ∧ Hid (eqB A B = eqB (A.drop k) (B.drop k)) ∧ Below w.heap.size w wr)
    case atStart => exact ⟨0, rfl, Nat.zero_le _, rfl, HE, Below.refl _ _⟩
    case round =>
      obtain ⟨k, rfl, hk, rfl, HK, hb⟩ := hrel
      by_cases hlt : k < A.length
      · have hlt' : k < B.length := by have := HL.out; omega
        obtain ⟨b, off, rfl, hcc⟩ := HC.out (fun e => by subst e; simp at hlt)
        obtain ⟨b', off', rfl, hcc'⟩ := HC'.out (fun e => by subst e; simp at hlt')
        have c1 := cell_keep hb (hcc k hlt).1
        have c2 := cell_keep hb (hcc k hlt).2
        have c3 := cell_keep hb (hcc' k hlt').1
        have c4 := cell_keep hb (hcc' k hlt').2
        have HT := eqB_step A B k hlt hlt'
        rw [← HK.out] at HT
        have HT' := Lib.hid HT
        clear HT hcc hcc'
        generalize A.getD k (0, 0) = s at *
        generalize B.getD k (0, 0) = t at *
        obtain ⟨lo, hi⟩ := s
        obtain ⟨lo', hi'⟩ := t
        simp only at c1 c2 c3 c4
        have j1 : (0 : Int) ≤ (k : Int) := Int.natCast_nonneg _
        have j2 : (k : Int) < (A.length : Int) := by omega
        have j3 : (k : Int) < (B.length : Int) := by omega
        have d1 : ∀ x : BelowOf wr, x.w.cell? ⟨b, off + k * 2, none⟩ = some (.int .i64 lo) := fun x => x.cell c1
        have d2 : ∀ x : BelowOf wr, x.w.cell? ⟨b, off + k * 2 + 1, none⟩ = some (.int .i64 hi) := fun x => x.cell c2
        have d3 : ∀ x : BelowOf wr, x.w.cell? ⟨b', off' + k * 2, none⟩ = some (.int .i64 lo') := fun x => x.cell c3
        have d4 : ∀ x : BelowOf wr, x.w.cell? ⟨b', off' + k * 2 + 1, none⟩ = some (.int .i64 hi') := fun x => x.cell c4
        have hgd : ∀ (op : BinOp) (a b : Operand) (w : World), (eqGuard op 25 a b (.agg #[.int .i64 lo, .int .i64 hi]) (.agg #[.int .i64 lo', .int .i64 hi'])).run Try.prog w = .ok () w := fun op a b w => guard_span op a b _ _ w
        have hne := neq_span lo hi lo' hi'
        clear c1 c2 c3 c4
        generalize spEq lo hi lo' hi' = q at *
        cases q
        · have HF : Hid (eqB A B = false) := by show _ = _; rw [HT'.out]; rfl
          simp only [Bool.not_false] at hne
          go_wp2_with fail
          refine wp_region_calm (by kernel_rfl) (by kernel_rfl) ?_
          repeat (go_big_quiet_step (fail))
          refine wpQuiet_nil ?_
          rintro _ ⟨x, rfl⟩
          have hb2 := hb.trans (x.below.mono hb.size)
          clear hgd hne d1 d2 d3 d4
          go_wp2
          go_ret
          exact ⟨ret_bool HF.out.symm, hb2⟩
        · have HF : Hid (eqB A B = eqB (A.drop (k + 1)) (B.drop (k + 1))) := by show _ = _; rw [HT'.out]; rfl
          simp only [Bool.not_true] at hne
          go_wp2_with fail
          refine wp_region_calm (by kernel_rfl) (by kernel_rfl) ?_
          repeat (go_big_quiet_step (fail))
          refine wpQuiet_nil ?_
          rintro _ ⟨x, rfl⟩
          have hb2 := hb.trans (x.below.mono hb.size)
          clear hgd hne d1 d2 d3 d4
          go_wp2
          go_roundg (A.length - (k + 1))
          case measure => omega
          case rel => exact ⟨k + 1, rfl, by omega, by go_num, HF, hb2⟩
      · have HF : Hid (eqB A B = true) := by
          show _ = _
          rw [HK.out, List.drop_of_length_le (by omega), List.drop_of_length_le (by have := HL.out; omega)]; rfl
        go_wp2
        go_ret
        exact ⟨ret_bool HF.out.symm, hb⟩
  · have HF : Hid (eqB A B = false) := by show _ = _; unfold eqB; simp; intro e; exact hlen (by rw [e])
    have hd : ((A.length : Int) != (B.length : Int)) = true := by simp; omega
    go_enter Try.func74, Try.ntmps74
    go_wp2
    go_ret
    exact ⟨ret_bool HF.out.symm, Below.refl _ _⟩

set_option maxHeartbeats 1000000 in
theorem slEqual_any (v u : Value) (A B : List Rng) (w : World) (h : Spn w v A) (h' : Spn w u B) :
    Calls Try.prog 55 #[v, u] w fun e w' => e = .returned (.bool (eqB A B)) ∧ Below w.heap.size w w' := by
  obtain ⟨a, cap, rfl, hl, hm, hc⟩ := h
  obtain ⟨a', cap', rfl, hl', hm', hc'⟩ := h'
  unfold maxLen at hm hm'
  by_cases hlen : A.length = B.length
  · have HL := Lib.hid hlen
    have HC := Lib.hid hc
    have HC' := Lib.hid hc'
    have HE : Hid (eqB A B = eqB (A.drop 0) (B.drop 0)) := rfl
    have hd : ((A.length : Int) != (B.length : Int)) = false := by simp [hlen]
    clear hc hc' hlen
    go_enter Try.func55, Try.ntmps55
    go_wp2
    go_loopg [13] A.length (fun g s5 wr => ∃ k : Nat, g = A.length - k ∧ k ≤ A.length ∧ s5 = .int .i64 k ∧ Hid (eqB A B = eqB (A.drop k) (B.drop k)) ∧ Below w.heap.size w wr)
    case atStart => exact ⟨0, rfl, Nat.zero_le _, rfl, HE, Below.refl _ _⟩
    case round =>
      obtain ⟨k, rfl, hk, rfl, HK, hb⟩ := hrel
      by_cases hlt : k < A.length
      · have hlt' : k < B.length := by have := HL.out; omega
        obtain ⟨b, off, rfl, hcc⟩ := HC.out (fun e => by subst e; simp at hlt)
        obtain ⟨b', off', rfl, hcc'⟩ := HC'.out (fun e => by subst e; simp at hlt')
        have c1 := cell_keep hb (hcc k hlt).1
        have c2 := cell_keep hb (hcc k hlt).2
        have c3 := cell_keep hb (hcc' k hlt').1
        have c4 := cell_keep hb (hcc' k hlt').2
        have HT := eqB_step A B k hlt hlt'
        rw [← HK.out] at HT
        have HT' := Lib.hid HT
        clear HT hcc hcc'
        generalize A.getD k (0, 0) = s at *
        generalize B.getD k (0, 0) = t at *
        obtain ⟨lo, hi⟩ := s
        obtain ⟨lo', hi'⟩ := t
        simp only at c1 c2 c3 c4
        have j1 : (0 : Int) ≤ (k : Int) := Int.natCast_nonneg _
        have j2 : (k : Int) < (A.length : Int) := by omega
        have j3 : (k : Int) < (B.length : Int) := by omega
        have d1 : ∀ x : BelowOf wr, x.w.cell? ⟨b, off + k * 2, none⟩ = some (.int .i64 lo) := fun x => x.cell c1
        have d2 : ∀ x : BelowOf wr, x.w.cell? ⟨b, off + k * 2 + 1, none⟩ = some (.int .i64 hi) := fun x => x.cell c2
        have d3 : ∀ x : BelowOf wr, x.w.cell? ⟨b', off' + k * 2, none⟩ = some (.int .i64 lo') := fun x => x.cell c3
        have d4 : ∀ x : BelowOf wr, x.w.cell? ⟨b', off' + k * 2 + 1, none⟩ = some (.int .i64 hi') := fun x => x.cell c4
        have hgd : ∀ (op : BinOp) (a b : Operand) (w : World), (eqGuard op 25 a b (.agg #[.int .i64 lo, .int .i64 hi]) (.agg #[.int .i64 lo', .int .i64 hi'])).run Try.prog w = .ok () w := fun op a b w => guard_span op a b _ _ w
        have hne := neq_span lo hi lo' hi'
        clear c1 c2 c3 c4
        generalize spEq lo hi lo' hi' = q at *
        cases q
        · have HF : Hid (eqB A B = false) := by show _ = _; rw [HT'.out]; rfl
          simp only [Bool.not_false] at hne
          go_wp2_with fail
          refine wp_region_calm (by kernel_rfl) (by kernel_rfl) ?_
          repeat (go_big_quiet_step (fail))
          refine wpQuiet_nil ?_
          rintro _ ⟨x, rfl⟩
          have hb2 := hb.trans (x.below.mono hb.size)
          clear hgd hne d1 d2 d3 d4
          go_wp2
          go_ret
          exact ⟨ret_bool HF.out.symm, hb2⟩
        · have HF : Hid (eqB A B = eqB (A.drop (k + 1)) (B.drop (k + 1))) := by show _ = _; rw [HT'.out]; rfl
          simp only [Bool.not_true] at hne
          go_wp2_with fail
          refine wp_region_calm (by kernel_rfl) (by kernel_rfl) ?_
          repeat (go_big_quiet_step (fail))
          refine wpQuiet_nil ?_
          rintro _ ⟨x, rfl⟩
          have hb2 := hb.trans (x.below.mono hb.size)
          clear hgd hne d1 d2 d3 d4
          go_wp2
          go_roundg (A.length - (k + 1))
          case measure => omega
          case rel => exact ⟨k + 1, rfl, by omega, by go_num, HF, hb2⟩
      · have HF : Hid (eqB A B = true) := by
          show _ = _
          rw [HK.out, List.drop_of_length_le (by omega), List.drop_of_length_le (by have := HL.out; omega)]; rfl
        go_wp2
        go_ret
        exact ⟨ret_bool HF.out.symm, hb⟩
  · have HF : Hid (eqB A B = false) := by show _ = _; unfold eqB; simp; intro e; exact hlen (by rw [e])
    have hd : ((A.length : Int) != (B.length : Int)) = true := by simp; omega
    go_enter Try.func55, Try.ntmps55
    go_wp2
    go_ret
    exact ⟨ret_bool HF.out.symm, Below.refl _ _⟩

set_option maxHeartbeats 2000000 in
theorem specLockSame_any (v u : Value) (A B : List HoldT) (w : World) (h : Hds w v A) (h' : Hds w u B) :
    Calls Try.prog 39 #[v, u] w fun e w' => e = .returned (.bool (eqT A B)) ∧ Below w.heap.size w w' := by
  obtain ⟨a, cap, rfl, hl, hm, hc⟩ := h
  obtain ⟨a', cap', rfl, hl', hm', hc'⟩ := h'
  unfold maxLen at hm hm'
  by_cases hlen : A.length = B.length
  · have HL := Lib.hid hlen
    have HC := Lib.hid hc
    have HC' := Lib.hid hc'
    have HE : Hid (eqT A B = eqT (A.drop 0) (B.drop 0)) := rfl
    have hd : ((A.length : Int) != (B.length : Int)) = false := by simp [hlen]
    clear hc hc' hlen
    go_enter Try.func39, Try.ntmps39
    go_wp2
    go_loopg [5] A.length (fun g s5 wr => ∃ k : Nat, g = A.length - k ∧ k ≤ A.length ∧ s5 = .int .i64 k ∧ Hid (eqT A B = eqT (A.drop k) (B.drop k)) ∧ Below w.heap.size w wr)
    case atStart => exact ⟨0, rfl, Nat.zero_le _, rfl, HE, Below.refl _ _⟩
    case round =>
      obtain ⟨k, rfl, hk, rfl, HK, hb⟩ := hrel
      by_cases hlt : k < A.length
      · have hlt' : k < B.length := by have := HL.out; omega
        obtain ⟨b, off, rfl, hcc⟩ := HC.out (fun e => by subst e; simp at hlt)
        obtain ⟨b', off', rfl, hcc'⟩ := HC'.out (fun e => by subst e; simp at hlt')
        obtain ⟨r, s, e1, e2, p1, p2⟩ := hcc k hlt
        obtain ⟨r', s', e3, e4, p3, p4⟩ := hcc' k hlt'
        have HT := eqT_step A B k hlt hlt'
        rw [← HK.out] at HT
        have HT' := Lib.hid HT
        clear HT hcc hcc'
        have P1 := Lib.hid (p1.keep hb)
        have P2 := Lib.hid (p2.keep hb)
        have P3 := Lib.hid (p3.keep hb)
        have P4 := Lib.hid (p4.keep hb)
        have K2 : Hid (∀ x : BelowOf wr, Calls Try.prog 74 #[s, s'] x.w fun e w' => e = .returned (.bool (eqB (A.getD k hd0).2 (B.getD k hd0).2)) ∧ Below x.w.heap.size x.w w') := fun x =>
          l4Spans_any s s' _ _ _ (P2.out.keep x.below) (P4.out.keep x.below)
        have K1 : Hid (∀ x : BelowOf wr, Calls Try.prog 74 #[r, r'] x.w fun e w' => e = .returned (.bool (eqB (A.getD k hd0).1 (B.getD k hd0).1)) ∧ Below x.w.heap.size x.w w') := fun x =>
          l4Spans_any r r' _ _ _ (P1.out.keep x.below) (P3.out.keep x.below)
        have j1 : (0 : Int) ≤ (k : Int) := Int.natCast_nonneg _
        have j2 : (k : Int) < (A.length : Int) := by omega
        have j3 : (k : Int) < (B.length : Int) := by omega
        have d1 : ∀ x : BelowOf wr, x.w.cell? ⟨b, off + k * 2, none⟩ = some r := fun x => x.cell (cell_keep hb e1)
        have d2 : ∀ x : BelowOf wr, x.w.cell? ⟨b, off + k * 2 + 1, none⟩ = some s := fun x => x.cell (cell_keep hb e2)
        have d3 : ∀ x : BelowOf wr, x.w.cell? ⟨b', off' + k * 2, none⟩ = some r' := fun x => x.cell (cell_keep hb e3)
        have d4 : ∀ x : BelowOf wr, x.w.cell? ⟨b', off' + k * 2 + 1, none⟩ = some s' := fun x => x.cell (cell_keep hb e4)
        have HQ : Hid (eqH (A.getD k hd0) (B.getD k hd0) = (eqB (A.getD k hd0).1 (B.getD k hd0).1 && eqB (A.getD k hd0).2 (B.getD k hd0).2)) := rfl
        clear p1 p2 p3 p4 P1 P2 P3 P4 e1 e2 e3 e4
        generalize eqB (A.getD k hd0).1 (B.getD k hd0).1 = q1 at *
        generalize eqB (A.getD k hd0).2 (B.getD k hd0).2 = q2 at *
        cases q1
        · have HF : Hid (eqT A B = false) := by show _ = _; rw [HT'.out, HQ.out]; rfl
          go_wp2_with fail
          refine wp_region_calm (by kernel_rfl) (by kernel_rfl) ?_
          repeat (go_big_quiet_step ((go_at_call 74; exact Calls.calm (K1.out _))))
          refine wpQuiet_nil ?_
          rintro _ ⟨x, rfl⟩
          have hb2 := hb.trans (x.below.mono hb.size)
          go_wp2
          go_ret
          exact ⟨ret_bool HF.out.symm, hb2⟩
        · cases q2
          · have HF : Hid (eqT A B = false) := by show _ = _; rw [HT'.out, HQ.out]; rfl
            go_wp2_with fail
            refine wp_region_calm (by kernel_rfl) (by kernel_rfl) ?_
            repeat (go_big_quiet_step ((go_at_call 74; with_reducible first | exact Calls.calm (K2.out _) | exact Calls.calm (K1.out _))))
            refine wpQuiet_nil ?_
            rintro _ ⟨x, rfl⟩
            have hb2 := hb.trans (x.below.mono hb.size)
            go_wp2
            go_ret
            exact ⟨ret_bool HF.out.symm, hb2⟩
          · have HF : Hid (eqT A B = eqT (A.drop (k + 1)) (B.drop (k + 1))) := by show _ = _; rw [HT'.out, HQ.out]; rfl
            go_wp2_with fail
            refine wp_region_calm (by kernel_rfl) (by kernel_rfl) ?_
            repeat (go_big_quiet_step ((go_at_call 74; with_reducible first | exact Calls.calm (K2.out _) | exact Calls.calm (K1.out _))))
            refine wpQuiet_nil ?_
            rintro _ ⟨x, rfl⟩
            have hb2 := hb.trans (x.below.mono hb.size)
            go_wp2
            go_roundg (A.length - (k + 1))
            case measure => omega
            case rel => exact ⟨k + 1, rfl, by omega, by go_num, HF, hb2⟩
      · have HF : Hid (eqT A B = true) := by
          show _ = _
          rw [HK.out, List.drop_of_length_le (by omega), List.drop_of_length_le (by have := HL.out; omega)]; rfl
        go_wp2
        go_ret
        exact ⟨ret_bool HF.out.symm, hb⟩
  · have HF : Hid (eqT A B = false) := by show _ = _; unfold eqT; simp; intro e; exact hlen (by rw [e])
    have hd : ((A.length : Int) != (B.length : Int)) = true := by simp; omega
    go_enter Try.func39, Try.ntmps39
    go_wp2
    go_ret
    exact ⟨ret_bool HF.out.symm, Below.refl _ _⟩

set_option maxHeartbeats 1000000 in
theorem lockSame1_any (r s r' s' : Value) (L M L' M' : List Rng) (w : World) (h1 : Spn w r L) (h2 : Spn w s M) (h3 : Spn w r' L') (h4 : Spn w s' M') :
    Calls Try.prog 54 #[.agg #[r, s], .agg #[r', s']] w fun e w' => e = .returned (.bool (eqH (L, M) (L', M'))) ∧ Below w.heap.size w w' := by
  have f1 := h1.form
  have f2 := h2.form
  have f3 := h3.form
  have f4 := h4.form
  obtain ⟨a1, c1, rfl⟩ := f1
  obtain ⟨a2, c2, rfl⟩ := f2
  obtain ⟨a3, c3, rfl⟩ := f3
  obtain ⟨a4, c4, rfl⟩ := f4
  obtain ⟨W0, hW0⟩ : ∃ W0, (w.alloc (.cells #[.slice a1 L.length c1, .slice a2 M.length c2] 48)).alloc (.cells #[.slice a3 L'.length c3, .slice a4 M'.length c4] 48) = W0 := ⟨_, rfl⟩
  have hal : Below w.heap.size w W0 := by rw [← hW0]; exact ((Below.refl _ _).alloc (Nat.le_refl _) _).alloc (by simp) _
  have B0 : BoxV W0 w.heap.size (.slice a1 L.length c1) (.slice a2 M.length c2) := by
    rw [← hW0]
    exact (new_boxV w _ _ _).keep ((Below.refl _ _).alloc (Nat.le_refl _) _)
  have B1 : BoxV W0 (w.heap.size + 1) (.slice a3 L'.length c3) (.slice a4 M'.length c4) := by
    rw [← hW0]
    have := new_boxV (w.alloc (.cells #[.slice a1 L.length c1, .slice a2 M.length c2] 48)) (.slice a3 L'.length c3) (.slice a4 M'.length c4) 48
    simpa using this
  have K1 := Lib.hid (slEqual_any _ _ L L' W0 (h1.keep hal) (h3.keep hal))
  have H2 := Lib.hid h2
  have H4 := Lib.hid h4
  have HB0 := Lib.hid B0
  have HB1 := Lib.hid B1
  have Hal := Lib.hid hal
  have E : Hid (eqH (L, M) (L', M') = (eqB L L' && eqB M M')) := rfl
  obtain ⟨x1, x2, -, -⟩ := B0
  obtain ⟨y1, y2, -, -⟩ := B1
  clear h1 h2 h3 h4 hal
  generalize hq : eqB L L' = q at *
  cases q
  · go_enter Try.func54, Try.ntmps54
    go_wp2_with fail
    refine K1.out.mono ?_; rintro e w1 ⟨rfl, hb1⟩
    go_wp2
    go_ret
    exact ⟨ret_bool (by rw [E.out]; rfl), Hal.out.trans (hb1.mono Hal.out.size)⟩
  · go_enter Try.func54, Try.ntmps54
    go_wp2_with fail
    refine K1.out.mono ?_; rintro e w1 ⟨rfl, hb1⟩
    have hb := Hal.out.trans (hb1.mono Hal.out.size)
    have K2 := Lib.hid (slEqual_any _ _ M M' w1 (H2.out.keep hb) (H4.out.keep hb))
    obtain ⟨-, u2, -, -⟩ := HB0.out.keep hb1
    obtain ⟨-, v2, -, -⟩ := HB1.out.keep hb1
    clear x1 x2 y1 y2
    generalize hq2 : eqB M M' = q2 at *
    go_wp2_with fail
    refine K2.out.mono ?_; rintro e w2 ⟨rfl, hb2⟩
    go_wp2
    go_ret
    exact ⟨ret_bool (by rw [E.out]; cases q2 <;> rfl), hb.trans (hb2.mono hb.size)⟩

set_option maxHeartbeats 2000000 in
theorem equalFunc_any (v u : Value) (A B : List HoldT) (w : World) (h : Hds w v A) (h' : Hds w u B) :
    Calls Try.prog 53 #[v, u, .func (.func 54) #[] #[]] w fun e w' => e = .returned (.bool (eqT A B)) ∧ Below w.heap.size w w' := by
  obtain ⟨a, cap, rfl, hl, hm, hc⟩ := h
  obtain ⟨a', cap', rfl, hl', hm', hc'⟩ := h'
  unfold maxLen at hm hm'
  by_cases hlen : A.length = B.length
  · have HL := Lib.hid hlen
    have HC := Lib.hid hc
    have HC' := Lib.hid hc'
    have HE : Hid (eqT A B = eqT (A.drop 0) (B.drop 0)) := rfl
    have hd : ((A.length : Int) != (B.length : Int)) = false := by simp [hlen]
    clear hc hc' hlen
    go_enter Try.func53, Try.ntmps53
    go_wp2
    go_loopg [17] A.length (fun g s5 wr => ∃ k : Nat, g = A.length - k ∧ k ≤ A.length ∧ s5 = .int .i64 k ∧ Hid (eqT A B = eqT (A.drop k) (B.drop k)) ∧ Below w.heap.size w wr)
    case atStart => exact ⟨0, rfl, Nat.zero_le _, rfl, HE, Below.refl _ _⟩
    case round =>
      obtain ⟨k, rfl, hk, rfl, HK, hb⟩ := hrel
      by_cases hlt : k < A.length
      · have hlt' : k < B.length := by have := HL.out; omega
        obtain ⟨b, off, rfl, hcc⟩ := HC.out (fun e => by subst e; simp at hlt)
        obtain ⟨b', off', rfl, hcc'⟩ := HC'.out (fun e => by subst e; simp at hlt')
        obtain ⟨r, s, e1, e2, p1, p2⟩ := hcc k hlt
        obtain ⟨r', s', e3, e4, p3, p4⟩ := hcc' k hlt'
        have f1 := p1.form
        have f2 := p2.form
        have f3 := p3.form
        have f4 := p4.form
        obtain ⟨ar, cr, rfl⟩ := f1
        obtain ⟨aw, cw, rfl⟩ := f2
        obtain ⟨ar', cr', rfl⟩ := f3
        obtain ⟨aw', cw', rfl⟩ := f4
        have HT := eqT_step A B k hlt hlt'
        rw [← HK.out] at HT
        have HT' := Lib.hid HT
        clear HT hcc hcc'
        replace e1 := cell_keep hb e1
        replace e2 := cell_keep hb e2
        replace e3 := cell_keep hb e3
        replace e4 := cell_keep hb e4
        have hbl := World.block_lt_of_cell? wr _ e1
        have hbl' := World.block_lt_of_cell? wr _ e3
        have hb1 : Below wr.heap.size wr (wr.alloc (.cells #[.slice ar (A.getD k hd0).1.length cr, .slice aw (A.getD k hd0).2.length cw] 48)) := (Below.refl _ _).alloc (Nat.le_refl _) _
        have hbb : Below wr.heap.size wr ((wr.alloc (.cells #[.slice ar (A.getD k hd0).1.length cr, .slice aw (A.getD k hd0).2.length cw] 48)).alloc (.cells #[.slice ar' (B.getD k hd0).1.length cr', .slice aw' (B.getD k hd0).2.length cw'] 48)) := hb1.alloc hb1.size _
        have HB := Lib.hid (hb.trans (hbb.mono hb.size))
        have KK := Lib.hid (lockSame1_any _ _ _ _ _ _ _ _ _ ((p1.keep hb).keep hbb) ((p2.keep hb).keep hbb) ((p3.keep hb).keep hbb) ((p4.keep hb).keep hbb))
        clear p1 p2 p3 p4 hbb hb1
        have HQ : Hid (eqH ((A.getD k hd0).1, (A.getD k hd0).2) ((B.getD k hd0).1, (B.getD k hd0).2) = eqH (A.getD k hd0) (B.getD k hd0)) := rfl
        rw [HQ.out] at KK
        generalize eqH (A.getD k hd0) (B.getD k hd0) = q at *
        generalize A.getD k hd0 = ha at *
        generalize B.getD k hd0 = hbb at *
        cases q
        · have HF : Hid (eqT A B = false) := by show _ = _; rw [HT'.out]; rfl
          go_wp2_with fail
          refine KK.out.mono ?_; rintro e w1 ⟨rfl, hb1⟩
          go_wp2
          go_ret
          exact ⟨ret_bool HF.out.symm, HB.out.trans (hb1.mono HB.out.size)⟩
        · have HF : Hid (eqT A B = eqT (A.drop (k + 1)) (B.drop (k + 1))) := by show _ = _; rw [HT'.out]; rfl
          go_wp2_with fail
          refine KK.out.mono ?_; rintro e w1 ⟨rfl, hb1⟩
          go_wp2
          go_roundg (A.length - (k + 1))
          case measure => omega
          case rel => exact ⟨k + 1, rfl, by omega, by go_num, HF, HB.out.trans (hb1.mono HB.out.size)⟩
      · have HF : Hid (eqT A B = true) := by
          show _ = _
          rw [HK.out, List.drop_of_length_le (by omega), List.drop_of_length_le (by have := HL.out; omega)]; rfl
        go_wp2
        go_ret
        exact ⟨ret_bool HF.out.symm, hb⟩
  · have HF : Hid (eqT A B = false) := by show _ = _; unfold eqT; simp; intro e; exact hlen (by rw [e])
    have hd : ((A.length : Int) != (B.length : Int)) = true := by simp; omega
    go_enter Try.func53, Try.ntmps53
    go_wp2
    go_ret
    exact ⟨ret_bool HF.out.symm, Below.refl _ _⟩

theorem implLockSame_any (v u : Value) (A B : List HoldT) (w : World) (h : Hds w v A) (h' : Hds w u B) :
    Calls Try.prog 17 #[v, u] w fun e w' => e = .returned (.bool (eqT A B)) ∧ Below w.heap.size w w' := by
  have K := Lib.hid (equalFunc_any v u A B w h h')
  clear h h'
  go_enter Try.func17, Try.ntmps17
  go_wp2_with fail
  refine K.out.mono ?_; rintro e w1 ⟨rfl, hb1⟩
  go_wp2
  go_ret
  exact ⟨rfl, hb1⟩

end Go.Proofs.Ytfifimdaepebeaa
