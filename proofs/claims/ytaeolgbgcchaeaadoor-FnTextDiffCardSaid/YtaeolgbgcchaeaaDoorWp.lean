/-
  Contract of laws.wpSpans: whether two lists of ranges are one.
-/
import Derived.Test.YtaeolgbgcchaeaaDoorSpansOk
import Derived.Test.YtaeolgbgcchaeaaDoorCalm
namespace Go.Proofs.YtaeolgbgcchaeaaDoor
open Go.RowKit

def eqB (A B : List Rng) : Bool := decide (A = B)
theorem eqB_refl (L : List Rng) : eqB L L = true := by unfold eqB; simp

theorem wp_step (A B : List Rng) (k : Nat) (ha : k < A.length) (hb : k < B.length) :
    eqB (A.drop k) (B.drop k) = (decide (A.getD k (0, 0) = B.getD k (0, 0)) && eqB (A.drop (k + 1)) (B.drop (k + 1))) := by
  rw [drop_cons A k ha, drop_cons B k hb]
  unfold eqB
  rw [Bool.eq_iff_iff]
  simp [List.cons.injEq]

set_option maxHeartbeats 1000000 in
theorem wpSpans_any (v u : Value) (A B : List Rng) (w : World) (h : Spn w v A) (h' : Spn w u B) :
    Calls Tryd.prog 7 #[v, u] w fun e w' => e = .returned (.bool (eqB A B)) ∧ Below w.heap.size w w' := by
  obtain ⟨a, cap, rfl, hl, hm, hc⟩ := h
  obtain ⟨a', cap', rfl, hl', hm', hc'⟩ := h'
  unfold maxLen at hm hm'
  by_cases hlen : A.length = B.length
  · have HL := Lib.hid hlen
    have HC := Lib.hid hc
    have HC' := Lib.hid hc'
    have HE : Hid (eqB A B = eqB (A.drop 0) (B.drop 0)) := rfl
    have hd : ((A.length : Int) != (B.length : Int)) = false := by simp [hlen]
    clear hc hc' hlen
    go_enter Tryd.func7, Tryd.ntmps7
    go_wp2
    go_loopg [5] A.length (fun g s5 wr => ∃ k : Nat, g = A.length - k ∧ k ≤ A.length ∧ s5 = .int .i64 k ∧ Hid (eqB A B = eqB (A.drop k) (B.drop k)) ∧ Below w.heap.size w wr)
    case atStart => exact ⟨0, rfl, Nat.zero_le _, rfl, HE, Below.refl _ _⟩
    case round =>
      obtain ⟨k, rfl, hk, rfl, HK, hb⟩ := hrel
      by_cases hlt : k < A.length
      · have hlt' : k < B.length := by have := HL.out; omega
        obtain ⟨b, off, rfl, hcc⟩ := HC.out (fun e => by subst e; simp at hlt)
        obtain ⟨b', off', rfl, hcc'⟩ := HC'.out (fun e => by subst e; simp at hlt')
        have c1 := cell_keep hb (hcc k hlt).1
        have c2 := cell_keep hb (hcc k hlt).2
        have c3 := cell_keep hb (hcc' k hlt').1
        have c4 := cell_keep hb (hcc' k hlt').2
        have HT := wp_step A B k hlt hlt'
        rw [← HK.out] at HT
        have HT' := Lib.hid HT
        clear HT hcc hcc'
        generalize A.getD k (0, 0) = s at *
        generalize B.getD k (0, 0) = t at *
        obtain ⟨lo, hi⟩ := s
        obtain ⟨lo', hi'⟩ := t
        simp only at c1 c2 c3 c4
        have j1 : (0 : Int) ≤ (k : Int) := Int.natCast_nonneg _
        have j2 : (k : Int) < (A.length : Int) := by omega
        have j3 : (k : Int) < (B.length : Int) := by omega
        have d1 : ∀ x : BelowOf wr, x.w.cell? ⟨b, off + k * 2, none⟩ = some (.int .i64 lo) := fun x => x.cell c1
        have d2 : ∀ x : BelowOf wr, x.w.cell? ⟨b, off + k * 2 + 1, none⟩ = some (.int .i64 hi) := fun x => x.cell c2
        have d3 : ∀ x : BelowOf wr, x.w.cell? ⟨b', off' + k * 2, none⟩ = some (.int .i64 lo') := fun x => x.cell c3
        have d4 : ∀ x : BelowOf wr, x.w.cell? ⟨b', off' + k * 2 + 1, none⟩ = some (.int .i64 hi') := fun x => x.cell c4
        by_cases h1 : lo = lo' ∧ hi = hi'
        · obtain ⟨rfl, rfl⟩ := h1
          simp only [decide_true, Bool.true_and] at HT'
          go_wp2_with fail
          refine wp_region_calm (by kernel_rfl) (by kernel_rfl) ?_
          repeat (go_big_quiet_step (fail))
          refine wpQuiet_nil ?_
          rintro _ ⟨x, rfl⟩
          have hb2 := hb.trans (x.below.mono hb.size)
          go_wp2
          go_roundg (A.length - (k + 1))
          case measure => omega
          case rel => exact ⟨k + 1, rfl, by omega, by go_num, HT', hb2⟩
        · have HF : eqB A B = false := by rw [HT'.out]; simp only [Bool.and_eq_false_iff, decide_eq_false_iff_not, Prod.mk.injEq]; exact Or.inl h1
          have HF' := Lib.hid HF
          clear HF
          by_cases h2 : lo = lo'
          · have h3 : ¬ hi = hi' := fun e => h1 ⟨h2, e⟩
            subst h2
            go_wp2_with fail
            refine wp_region_calm (by kernel_rfl) (by kernel_rfl) ?_
            repeat (go_big_quiet_step (fail))
            refine wpQuiet_nil ?_
            rintro _ ⟨x, rfl⟩
            have hb2 := hb.trans (x.below.mono hb.size)
            go_wp2
            go_ret
            exact ⟨ret_bool HF'.out.symm, hb2⟩
          · go_wp2_with fail
            refine wp_region_calm (by kernel_rfl) (by kernel_rfl) ?_
            repeat (go_big_quiet_step (fail))
            refine wpQuiet_nil ?_
            rintro _ ⟨x, rfl⟩
            have hb2 := hb.trans (x.below.mono hb.size)
            go_wp2
            go_ret
            exact ⟨ret_bool HF'.out.symm, hb2⟩
      · have HF : eqB A B = true := by
          rw [HK.out, List.drop_of_length_le (by omega), List.drop_of_length_le (by have := HL.out; omega)]; rfl
        have HF' := Lib.hid HF
        clear HF
        go_wp2
        go_ret
        exact ⟨ret_bool HF'.out.symm, hb⟩
  · have HF : eqB A B = false := by unfold eqB; simp; intro e; exact hlen (by rw [e])
    have HF' := Lib.hid HF
    have hd : ((A.length : Int) != (B.length : Int)) = true := by simp; omega
    clear HF
    go_enter Tryd.func7, Tryd.ntmps7
    go_wp2
    go_ret
    exact ⟨ret_bool HF'.out.symm, Below.refl _ _⟩

end Go.Proofs.YtaeolgbgcchaeaaDoor
