/-
  Contracts of toSpanS, szSpanS, eqSpanS: the conversion makes a new slice of the same ranges; the size; whether two slices read the same.
-/
import Derived.Test.YtldafphfnkamjaaRow2
import Derived.Test.YtldafphfnkamjaaEq
import Derived.Laws.MakeOwn
namespace Go.Proofs.Ytldafphfnkamjaa
open Go.RowKit

/-- What toSpanS leaves: a new row that reads as L; all that existed is as it was. -/
def ToSp (w : World) (L : List Rng) (e : Ending) (w' : World) : Prop :=
  ∃ nb, e = .returned (.slice (some ⟨nb, 0, none⟩) L.length L.length) ∧ w.heap.size ≤ nb ∧ Row2 w' nb L.length (fun i => L.getD i (0, 0)) ∧ Below w.heap.size w w'

set_option maxHeartbeats 1000000 in
theorem toSpanS_any (v : Value) (L : List Rng) (w : World) (h : Spn w v L) (hL : L.length ≤ 1048576) :
    Calls Try.prog 11 #[v] w (ToSp w L) := by
  obtain ⟨a, cap, rfl, hl, hm, hc⟩ := h
  obtain ⟨i0, hi, hz0, hz1, hz2⟩ := info_parts infoSpan
  have hmk := fun w => run_make_rowN (P := Try.prog) 27 36 i0 (.agg #[.int .i64 0, .int .i64 0]) Try.underlying27 hi hz0 .i64 .i64 L.length L.length (Nat.le_refl _) (by rw [hz2]; omega) (by omega) w
  rw [hz1] at hmk
  clear hi hz0 hz1 hz2 hm
  have h0 : Row2 (w.alloc (.cells (madeCells #[.int .i64 0, .int .i64 0] (L.length * 2)) 36)) w.heap.size L.length (fun i => if i < 0 then L.getD i (0, 0) else (0, 0)) := (Row2.made w _ _).congr fun i _ => by simp
  have HH := Lib.hid h0
  have HC := Lib.hid hc
  clear h0 hc
  go_enter Try.func11, Try.ntmps11
  go_wp2
  go_loopg [4] L.length (fun g s4 wr => ∃ k : Nat, g = L.length - k ∧ k ≤ L.length ∧ s4 = .int .i64 k ∧ Row2 wr w.heap.size L.length (fun i => if i < k then L.getD i (0, 0) else (0, 0)) ∧ Below w.heap.size w wr)
  case atStart => exact ⟨0, rfl, Nat.zero_le _, rfl, HH.out, (Below.refl _ _).alloc (Nat.le_refl _) _⟩
  case round =>
    obtain ⟨k, rfl, hk, rfl, hr, hb⟩ := hrel
    by_cases hlt : k < L.length
    · obtain ⟨b, off, rfl, hcc⟩ := HC.out (fun e => by subst e; simp at hlt)
      have c1 := cell_keep hb (hcc k hlt).1
      have c2 := cell_keep hb (hcc k hlt).2
      have HN : Hid (Row2 wr w.heap.size L.length (fun i => if i < k then L.getD i (0, 0) else (0, 0))) := hr
      have HS : Hid (∀ i, (if i = k then L.getD k (0, 0) else if i < k then L.getD i (0, 0) else (0, 0)) = if i < k + 1 then L.getD i (0, 0) else (0, 0)) := fun i => by
        by_cases e : i = k
        · subst e; rw [if_pos rfl, if_pos (by omega)]
        · rw [if_neg e]
          by_cases e2 : i < k
          · rw [if_pos e2, if_pos (by omega)]
          · rw [if_neg e2, if_neg (by omega)]
      clear hr hcc
      generalize hs : L.getD k (0, 0) = s at *
      obtain ⟨lo, hi⟩ := s
      simp only at c1 c2
      have HE := Lib.hid hs
      clear hs
      go_wp2_with fail
      refine (toSpan_any lo hi _).mono ?_; rintro e w1 ⟨rfl, hb1⟩
      have hr1 := HN.out.keep hb1
      obtain ⟨x1, x2, x3, x4⟩ := hr1 k hlt
      have hb2 := hb.trans (hb1.mono hb.size)
      have HR := Lib.hid hr1
      clear hr1
      go_wp2
      go_roundg (L.length - (k + 1))
      case measure => omega
      case rel => exact ⟨k + 1, rfl, by omega, by go_num, (HR.out.set hlt).congr fun i _ => HS.out i, (hb2.setCell (Nat.le_refl _) _).setCell (Nat.le_refl _) _⟩
    · go_wp2
      go_ret
      exact ⟨w.heap.size, rfl, Nat.le_refl _, hr.congr fun i hi => by rw [if_pos (by omega)], hb⟩

/-- The size: what is left of the allowance, or -1. -/
theorem szSpanS_any (v : Value) (L : List Rng) (w : World) (h : Spn w v L) :
    Calls Try.prog 9 #[v, .int .i64 1048576] w fun e w' => e = .returned (.int .i64 (if L.length ≤ 1048576 then 1048576 - (L.length : Int) else -1)) ∧ w = w' := by
  obtain ⟨a, cap, rfl, hl, hm, -⟩ := h
  unfold maxLen at hm
  by_cases hL : L.length ≤ 1048576
  · rw [if_pos hL]
    go_enter Try.func9, Try.ntmps9
    go_wp2
    go_ret
    exact ⟨rfl, rfl⟩
  · rw [if_neg hL]
    go_enter Try.func9, Try.ntmps9
    go_wp2
    go_ret
    exact ⟨rfl, rfl⟩

def eqB (A B : List Rng) : Bool := decide (A = B)

theorem eqB_step (A B : List Rng) (k : Nat) (ha : k < A.length) (hb : k < B.length) :
    eqB (A.drop k) (B.drop k) = (spEq (A.getD k (0, 0)).1 (A.getD k (0, 0)).2 (B.getD k (0, 0)).1 (B.getD k (0, 0)).2 && eqB (A.drop (k + 1)) (B.drop (k + 1))) := by
  rw [drop_cons A k ha, drop_cons B k hb]
  unfold eqB spEq
  rw [Bool.eq_iff_iff]
  simp [List.cons.injEq, Prod.ext_iff]

set_option maxHeartbeats 1000000 in
theorem eqSpanS_any (v u : Value) (A B : List Rng) (w : World) (h : Spn w v A) (h' : Spn w u B) :
    Calls Try.prog 13 #[v, u] w fun e w' => e = .returned (.bool (eqB A B)) ∧ Below w.heap.size w w' := by
  obtain ⟨a, cap, rfl, hl, hm, hc⟩ := h
  obtain ⟨a', cap', rfl, hl', hm', hc'⟩ := h'
  unfold maxLen at hm hm'
  by_cases hlen : A.length = B.length
  · have HL := Lib.hid hlen
    have HC := Lib.hid hc
    have HC' := Lib.hid hc'
    have HE : Hid (eqB A B = eqB (A.drop 0) (B.drop 0)) := rfl
    have hd : ((A.length : Int) != (B.length : Int)) = false := by simp [hlen]
    clear hc hc' hlen
    go_enter Try.func13, Try.ntmps13
    go_wp2
    go_loopg [5] A.length (fun g s5 wr => ∃ k : Nat, g = A.length - k ∧ k ≤ A.length ∧ s5 = .int .i64 k ∧ Hid (eqB A B = eqB (A.drop k) (B.drop k)) ∧ Below w.heap.size w wr)
    case atStart => exact ⟨0, rfl, Nat.zero_le _, rfl, HE, Below.refl _ _⟩
    case round =>
      obtain ⟨k, rfl, hk, rfl, HK, hb⟩ := hrel
      by_cases hlt : k < A.length
      · have hlt' : k < B.length := by have := HL.out; omega
        obtain ⟨b, off, rfl, hcc⟩ := HC.out (fun e => by subst e; simp at hlt)
        obtain ⟨b', off', rfl, hcc'⟩ := HC'.out (fun e => by subst e; simp at hlt')
        have c1 := cell_keep hb (hcc k hlt).1
        have c2 := cell_keep hb (hcc k hlt).2
        have c3 := cell_keep hb (hcc' k hlt').1
        have c4 := cell_keep hb (hcc' k hlt').2
        have HT := eqB_step A B k hlt hlt'
        rw [← HK.out] at HT
        have HT' := Lib.hid HT
        clear HT hcc hcc'
        generalize A.getD k (0, 0) = s at *
        generalize B.getD k (0, 0) = t at *
        obtain ⟨lo, hi⟩ := s
        obtain ⟨lo', hi'⟩ := t
        simp only at c1 c2 c3 c4
        have j1 : (0 : Int) ≤ (k : Int) := Int.natCast_nonneg _
        have j2 : (k : Int) < (A.length : Int) := by omega
        have j3 : (k : Int) < (B.length : Int) := by omega
        have d1 : ∀ x : BelowOf wr, x.w.cell? ⟨b, off + k * 2, none⟩ = some (.int .i64 lo) := fun x => x.cell c1
        have d2 : ∀ x : BelowOf wr, x.w.cell? ⟨b, off + k * 2 + 1, none⟩ = some (.int .i64 hi) := fun x => x.cell c2
        have d3 : ∀ x : BelowOf wr, x.w.cell? ⟨b', off' + k * 2, none⟩ = some (.int .i64 lo') := fun x => x.cell c3
        have d4 : ∀ x : BelowOf wr, x.w.cell? ⟨b', off' + k * 2 + 1, none⟩ = some (.int .i64 hi') := fun x => x.cell c4
        by_cases h1 : spEq lo hi lo' hi' = true
        · simp only [h1, Bool.true_and] at HT'
          go_wp2_with fail
          refine wp_region_calm (by kernel_rfl) (by kernel_rfl) ?_
          repeat (go_big_quiet_step ((go_at_call 15; exact Calls.calm (eqSpan_any lo hi lo' hi' _))))
          refine wpQuiet_nil ?_
          rintro _ ⟨x, rfl⟩
          have hb2 := hb.trans (x.below.mono hb.size)
          go_wp2
          go_roundg (A.length - (k + 1))
          case measure => omega
          case rel => exact ⟨k + 1, rfl, by omega, by go_num, HT', hb2⟩
        · replace h1 : spEq lo hi lo' hi' = false := by simpa using h1
          have HF : eqB A B = false := by rw [HT'.out]; simp [h1]
          have HF' := Lib.hid HF
          clear HF
          go_wp2_with fail
          refine wp_region_calm (by kernel_rfl) (by kernel_rfl) ?_
          repeat (go_big_quiet_step ((go_at_call 15; exact Calls.calm (eqSpan_any lo hi lo' hi' _))))
          refine wpQuiet_nil ?_
          rintro _ ⟨x, rfl⟩
          have hb2 := hb.trans (x.below.mono hb.size)
          go_wp2
          go_ret
          exact ⟨ret_bool HF'.out.symm, hb2⟩
      · have HF : eqB A B = true := by
          rw [HK.out, List.drop_of_length_le (by omega), List.drop_of_length_le (by have := HL.out; omega)]; rfl
        have HF' := Lib.hid HF
        clear HF
        go_wp2
        go_ret
        exact ⟨ret_bool HF'.out.symm, hb⟩
  · have HF : eqB A B = false := by unfold eqB; simp; intro e; exact hlen (by rw [e])
    have HF' := Lib.hid HF
    have hd : ((A.length : Int) != (B.length : Int)) = true := by simp; omega
    clear HF
    go_enter Try.func13, Try.ntmps13
    go_wp2
    go_ret
    exact ⟨ret_bool HF'.out.symm, Below.refl _ _⟩

end Go.Proofs.Ytldafphfnkamjaa
