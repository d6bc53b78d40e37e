/-
  Two ranges compared by '!=': the model's own comparison of structs, as equations.
  LockSame of both sides.
-/
import Derived.Test.YtldafphfnkamjaaToSpan
import Derived.Laws.StructEq
import Derived.Test.YtldafphfnkamjaaToHold
namespace Go.Proofs.Ytldafphfnkamjaa
open Go.RowKit

theorem neq_span (lo hi lo' hi' : Int) (w : World) : (binOp .neq 36 (.agg #[.int .i64 lo, .int .i64 hi]) (.agg #[.int .i64 lo', .int .i64 hi'])).run Try.prog w = .ok (.bool (!spEq lo hi lo' hi')) w := by
  have u3 := Try.underlying3
  have a3 : ∀ w, (isAgg 3).run Try.prog w = .ok false w := fun w => by kernel_rfl
  have z3 : ∀ w, (Go.sizeOf 3).run Try.prog w = .ok 1 w := fun w => by kernel_rfl
  have hS : Try.prog.underlying 36 = some (.struct (Try.prog.fieldsOf 36)) := by kernel_rfl
  have hp : Try.prog.stoodInHeld 36 = false := by kernel_rfl
  rw [run_neq_struct, show (10000 : Nat) = 9999 + 1 from rfl, run_equalIn_agg w 9999 36 _ _ hS hp]
  simp only [Program.fieldsOf, Try.underlying36]
  unfold spEq
  by_cases h1 : lo = lo' <;> by_cases h2 : hi = hi' <;> go_simp
theorem guard_span (op : BinOp) (a b : Operand) (x y : Array Value) (w : World) : (eqGuard op 36 a b (.agg x) (.agg y)).run Try.prog w = .ok () w :=
  run_eqGuard_agg w op _ a b x y (by kernel_rfl)

end Go.Proofs.Ytldafphfnkamjaa

namespace Go.Proofs.Ytldafphfnkamjaa
open Go.RowKit

set_option maxHeartbeats 1000000 in
theorem l4Spans_any (v u : Value) (A B : List Rng) (w : World) (h : Spn w v A) (h' : Spn w u B) :
    Calls Try.prog 10 #[v, u] w fun e w' => e = .returned (.bool (eqB A B)) ∧ Below w.heap.size w w' := by
  obtain ⟨a, cap, rfl, hl, hm, hc⟩ := h
  obtain ⟨a', cap', rfl, hl', hm', hc'⟩ := h'
  unfold maxLen at hm hm'
  by_cases hlen : A.length = B.length
  · have HL := Lib.hid hlen
    have HC := Lib.hid hc
    have HC' := Lib.hid hc'
    have HE : Hid (eqB A B = eqB (A.drop 0) (B.drop 0)) := rfl
    have hd : ((A.length : Int) != (B.length : Int)) = false := by simp [hlen]
    clear hc hc' hlen
    go_enter Try.func10, Try.ntmps10
    go_wp2
    go_loopg [5] A.length (fun g s5 wr => ∃ k : Nat, g = A.length - k ∧ k ≤ A.length ∧ s5 = .int .i64 k ∧ Hid (eqB A B = eqB (A.drop k) (B.drop k)) ∧ Below w.heap.size w wr)
    case atStart => exact ⟨0, rfl, Nat.zero_le _, rfl, HE, Below.refl _ _⟩
    case round =>
      obtain ⟨k, rfl, hk, rfl, HK, hb⟩ := hrel
      by_cases hlt : k < A.length
      · have hlt' : k < B.length := by have := HL.out; omega
        obtain ⟨b, off, rfl, hcc⟩ := HC.out (fun e => by subst e; simp at hlt)
        obtain ⟨b', off', rfl, hcc'⟩ := HC'.out (fun e => by subst e; simp at hlt')
        have c1 := cell_keep hb (hcc k hlt).1
        have c2 := cell_keep hb (hcc k hlt).2
        have c3 := cell_keep hb (hcc' k hlt').1
        have c4 := cell_keep hb (hcc' k hlt').2
        have HT := eqB_step A B k hlt hlt'
        rw [← HK.out] at HT
        have HT' := Lib.hid HT
        clear HT hcc hcc'
        generalize A.getD k (0, 0) = s at *
        generalize B.getD k (0, 0) = t at *
        obtain ⟨lo, hi⟩ := s
        obtain ⟨lo', hi'⟩ := t
        simp only at c1 c2 c3 c4
        have j1 : (0 : Int) ≤ (k : Int) := Int.natCast_nonneg _
        have j2 : (k : Int) < (A.length : Int) := by omega
        have j3 : (k : Int) < (B.length : Int) := by omega
        have d1 : ∀ x : BelowOf wr, x.w.cell? ⟨b, off + k * 2, none⟩ = some (.int .i64 lo) := fun x => x.cell c1
        have d2 : ∀ x : BelowOf wr, x.w.cell? ⟨b, off + k * 2 + 1, none⟩ = some (.int .i64 hi) := fun x => x.cell c2
        have d3 : ∀ x : BelowOf wr, x.w.cell? ⟨b', off' + k * 2, none⟩ = some (.int .i64 lo') := fun x => x.cell c3
        have d4 : ∀ x : BelowOf wr, x.w.cell? ⟨b', off' + k * 2 + 1, none⟩ = some (.int .i64 hi') := fun x => x.cell c4
        have hgd : ∀ (op : BinOp) (a b : Operand) (w : World), (eqGuard op 36 a b (.agg #[.int .i64 lo, .int .i64 hi]) (.agg #[.int .i64 lo', .int .i64 hi'])).run Try.prog w = .ok () w := fun op a b w => guard_span op a b _ _ w
        have hne := neq_span lo hi lo' hi'
        clear c1 c2 c3 c4
        generalize spEq lo hi lo' hi' = q at *
        cases q
        · have HF : Hid (eqB A B = false) := by show _ = _; rw [HT'.out]; rfl
          simp only [Bool.not_false] at hne
          go_wp2_with fail
          refine wp_region_calm (by kernel_rfl) (by kernel_rfl) ?_
          repeat (go_big_quiet_step (fail))
          refine wpQuiet_nil ?_
          rintro _ ⟨x, rfl⟩
          have hb2 := hb.trans (x.below.mono hb.size)
          clear hgd hne d1 d2 d3 d4
          go_wp2
          go_ret
          exact ⟨ret_bool HF.out.symm, hb2⟩
        · have HF : Hid (eqB A B = eqB (A.drop (k + 1)) (B.drop (k + 1))) := by show _ = _; rw [HT'.out]; rfl
          simp only [Bool.not_true] at hne
          go_wp2_with fail
          refine wp_region_calm (by kernel_rfl) (by kernel_rfl) ?_
          repeat (go_big_quiet_step (fail))
          refine wpQuiet_nil ?_
          rintro _ ⟨x, rfl⟩
          have hb2 := hb.trans (x.below.mono hb.size)
          clear hgd hne d1 d2 d3 d4
          go_wp2
          go_roundg (A.length - (k + 1))
          case measure => omega
          case rel => exact ⟨k + 1, rfl, by omega, by go_num, HF, hb2⟩
      · have HF : Hid (eqB A B = true) := by
          show _ = _
          rw [HK.out, List.drop_of_length_le (by omega), List.drop_of_length_le (by have := HL.out; omega)]; rfl
        go_wp2
        go_ret
        exact ⟨ret_bool HF.out.symm, hb⟩
  · have HF : Hid (eqB A B = false) := by show _ = _; unfold eqB; simp; intro e; exact hlen (by rw [e])
    have hd : ((A.length : Int) != (B.length : Int)) = true := by simp; omega
    go_enter Try.func10, Try.ntmps10
    go_wp2
    go_ret
    exact ⟨ret_bool HF.out.symm, Below.refl _ _⟩

set_option maxHeartbeats 1000000 in
theorem slEqual_any (v u : Value) (A B : List Rng) (w : World) (h : Spn w v A) (h' : Spn w u B) :
    Calls Try.prog 12 #[v, u] w fun e w' => e = .returned (.bool (eqB A B)) ∧ Below w.heap.size w w' := by
  obtain ⟨a, cap, rfl, hl, hm, hc⟩ := h
  obtain ⟨a', cap', rfl, hl', hm', hc'⟩ := h'
  unfold maxLen at hm hm'
  by_cases hlen : A.length = B.length
  · have HL := Lib.hid hlen
    have HC := Lib.hid hc
    have HC' := Lib.hid hc'
    have HE : Hid (eqB A B = eqB (A.drop 0) (B.drop 0)) := rfl
    have hd : ((A.length : Int) != (B.length : Int)) = false := by simp [hlen]
    clear hc hc' hlen
    go_enter Try.func12, Try.ntmps12
    go_wp2
    go_loopg [13] A.length (fun g s5 wr => ∃ k : Nat, g = A.length - k ∧ k ≤ A.length ∧ s5 = .int .i64 k ∧ Hid (eqB A B = eqB (A.drop k) (B.drop k)) ∧ Below w.heap.size w wr)
    case atStart => exact ⟨0, rfl, Nat.zero_le _, rfl, HE, Below.refl _ _⟩
    case round =>
      obtain ⟨k, rfl, hk, rfl, HK, hb⟩ := hrel
      by_cases hlt : k < A.length
      · have hlt' : k < B.length := by have := HL.out; omega
        obtain ⟨b, off, rfl, hcc⟩ := HC.out (fun e => by subst e; simp at hlt)
        obtain ⟨b', off', rfl, hcc'⟩ := HC'.out (fun e => by subst e; simp at hlt')
        have c1 := cell_keep hb (hcc k hlt).1
        have c2 := cell_keep hb (hcc k hlt).2
        have c3 := cell_keep hb (hcc' k hlt').1
        have c4 := cell_keep hb (hcc' k hlt').2
        have HT := eqB_step A B k hlt hlt'
        rw [← HK.out] at HT
        have HT' := Lib.hid HT
        clear HT hcc hcc'
        generalize A.getD k (0, 0) = s at *
        generalize B.getD k (0, 0) = t at *
        obtain ⟨lo, hi⟩ := s
        obtain ⟨lo', hi'⟩ := t
        simp only at c1 c2 c3 c4
        have j1 : (0 : Int) ≤ (k : Int) := Int.natCast_nonneg _
        have j2 : (k : Int) < (A.length : Int) := by omega
        have j3 : (k : Int) < (B.length : Int) := by omega
        have d1 : ∀ x : BelowOf wr, x.w.cell? ⟨b, off + k * 2, none⟩ = some (.int .i64 lo) := fun x => x.cell c1
        have d2 : ∀ x : BelowOf wr, x.w.cell? ⟨b, off + k * 2 + 1, none⟩ = some (.int .i64 hi) := fun x => x.cell c2
        have d3 : ∀ x : BelowOf wr, x.w.cell? ⟨b', off' + k * 2, none⟩ = some (.int .i64 lo') := fun x => x.cell c3
        have d4 : ∀ x : BelowOf wr, x.w.cell? ⟨b', off' + k * 2 + 1, none⟩ = some (.int .i64 hi') := fun x => x.cell c4
        have hgd : ∀ (op : BinOp) (a b : Operand) (w : World), (eqGuard op 36 a b (.agg #[.int .i64 lo, .int .i64 hi]) (.agg #[.int .i64 lo', .int .i64 hi'])).run Try.prog w = .ok () w := fun op a b w => guard_span op a b _ _ w
        have hne := neq_span lo hi lo' hi'
        clear c1 c2 c3 c4
        generalize spEq lo hi lo' hi' = q at *
        cases q
        · have HF : Hid (eqB A B = false) := by show _ = _; rw [HT'.out]; rfl
          simp only [Bool.not_false] at hne
          go_wp2_with fail
          refine wp_region_calm (by kernel_rfl) (by kernel_rfl) ?_
          repeat (go_big_quiet_step (fail))
          refine wpQuiet_nil ?_
          rintro _ ⟨x, rfl⟩
          have hb2 := hb.trans (x.below.mono hb.size)
          clear hgd hne d1 d2 d3 d4
          go_wp2
          go_ret
          exact ⟨ret_bool HF.out.symm, hb2⟩
        · have HF : Hid (eqB A B = eqB (A.drop (k + 1)) (B.drop (k + 1))) := by show _ = _; rw [HT'.out]; rfl
          simp only [Bool.not_true] at hne
          go_wp2_with fail
          refine wp_region_calm (by kernel_rfl) (by kernel_rfl) ?_
          repeat (go_big_quiet_step (fail))
          refine wpQuiet_nil ?_
          rintro _ ⟨x, rfl⟩
          have hb2 := hb.trans (x.below.mono hb.size)
          clear hgd hne d1 d2 d3 d4
          go_wp2
          go_roundg (A.length - (k + 1))
          case measure => omega
          case rel => exact ⟨k + 1, rfl, by omega, by go_num, HF, hb2⟩
      · have HF : Hid (eqB A B = true) := by
          show _ = _
          rw [HK.out, List.drop_of_length_le (by omega), List.drop_of_length_le (by have := HL.out; omega)]; rfl
        go_wp2
        go_ret
        exact ⟨ret_bool HF.out.symm, hb⟩
  · have HF : Hid (eqB A B = false) := by show _ = _; unfold eqB; simp; intro e; exact hlen (by rw [e])
    have hd : ((A.length : Int) != (B.length : Int)) = true := by simp; omega
    go_enter Try.func12, Try.ntmps12
    go_wp2
    go_ret
    exact ⟨ret_bool HF.out.symm, Below.refl _ _⟩





end Go.Proofs.Ytldafphfnkamjaa
