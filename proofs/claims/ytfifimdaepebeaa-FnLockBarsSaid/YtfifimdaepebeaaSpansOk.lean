/-
  Contracts of SpansOk of both sides at any list of ranges that can be read.
-/
import Derived.Test.YtfifimdaepebeaaSpansMath
import Derived.Test.YtfifimdaepebeaaCalm
import Derived.Deep.DeepCutAuto
import Derived.Deep.LoopGhost
import Derived.Lib.Hide
import Derived.IntWalk
namespace Go.Proofs.Ytfifimdaepebeaa
open Go.RowKit

/-- A slice value that reads as the list L of ranges: its length is L's, and where L is not empty its cells are L's numbers. -/
def Spn (w : World) (v : Value) (L : List Rng) : Prop :=
  ∃ a cap, v = .slice a L.length cap ∧ L.length ≤ cap ∧ cap ≤ maxLen ∧
    (L ≠ [] → ∃ b off, a = some ⟨b, off, none⟩ ∧ ∀ i, i < L.length → w.cell? ⟨b, off + i * 2, none⟩ = some (.int .i64 (L.getD i (0, 0)).1) ∧ w.cell? ⟨b, off + i * 2 + 1, none⟩ = some (.int .i64 (L.getD i (0, 0)).2))

theorem Spn.keep {w w1 : World} {v : Value} {L : List Rng} (h : Spn w v L) (hb : Below w.heap.size w w1) : Spn w1 v L := by
  obtain ⟨a, cap, hv, hl, hm, hc⟩ := h
  refine ⟨a, cap, hv, hl, hm, fun hn => ?_⟩
  obtain ⟨b, off, ha, hcc⟩ := hc hn
  exact ⟨b, off, ha, fun i hi => ⟨cell_keep hb (hcc i hi).1, cell_keep hb (hcc i hi).2⟩⟩

set_option maxHeartbeats 1000000 in
theorem implSpansOk_any (v : Value) (L : List Rng) (w : World) (h : Spn w v L) :
    Calls Try.prog 94 #[v] w fun e w' => e = .returned (.bool (spansOkB L)) ∧ Below w.heap.size w w' := by
  obtain ⟨a, cap, rfl, hl, hm, hc⟩ := h
  unfold maxLen at hm
  by_cases h12 : L.length ≤ 12
  · by_cases hne : L = []
    · subst hne
      have h0 : spansOkB [] = true := rfl
      go_enter Try.func94, Try.ntmps94
      go_wp2
      go_loopg [11] 0 (fun g s11 wr => s11 = .int .i64 0 ∧ w = wr)
      case atStart => exact ⟨rfl, rfl⟩
      case round =>
        obtain ⟨rfl, rfl⟩ := hrel
        go_wp2
        go_ret
        exact ⟨ret_bool h0.symm, Below.refl _ _⟩
    · obtain ⟨b, off, rfl, hcc⟩ := hc hne
      have HC := Lib.hid hcc
      have HM : spansOkB L = okFrom (endAt L 0) (L.drop 0) := by unfold spansOkB; simp [h12, endAt]
      have HS := Lib.hid HM
      clear hcc hc hne HM
      go_enter Try.func94, Try.ntmps94
      go_wp2
      go_loopg [3, 11] L.length (fun g s3 s11 wr => ∃ k : Nat, g = L.length - k ∧ k ≤ L.length ∧ s3 = .int .i64 (endAt L k) ∧ s11 = .int .i64 k ∧ Hid (spansOkB L = okFrom (endAt L k) (L.drop k)) ∧ Below w.heap.size w wr)
      case atStart => exact ⟨0, rfl, Nat.zero_le _, rfl, rfl, HS, Below.refl _ _⟩
      case round =>
        obtain ⟨k, rfl, hk, rfl, rfl, HK, hb⟩ := hrel
        by_cases hlt : k < L.length
        · have c1 := cell_keep hb (HC.out k hlt).1
          have c2 := cell_keep hb (HC.out k hlt).2
          have HT := okFrom_step L k hlt
          rw [← HK.out] at HT
          have HT' := Lib.hid HT
          clear HT
          generalize hs : L.getD k (0, 0) = s at *
          obtain ⟨lo, hi⟩ := s
          simp only at c1 c2
          have k1 := new_box wr lo hi 25
          have hal : Below wr.heap.size wr (wr.alloc (.cells #[.int .i64 lo, .int .i64 hi] 25)) := (Below.refl _ _).alloc (Nat.le_refl _) _
          have hen : endAt L (k + 1) = hi := by show (L.getD k (0, 0)).2 = hi; rw [hs]
          have HE := Lib.hid hen
          clear hen
          by_cases h1 : spanOkB lo hi = true
          · by_cases h2 : endAt L k < lo
            · simp only [h1, h2, decide_true, Bool.true_and] at HT'
              go_wp2_with fail
              refine (implSpanOk_any lo hi _).mono ?_; rintro e w1 ⟨rfl, hb1⟩
              obtain ⟨x1, x2, x3, x4⟩ := k1.keep hb1
              have hb2 := hb.trans ((hal.trans (hb1.mono hal.size)).mono hb.size)
              go_wp2
              go_roundg (L.length - (k + 1))
              case measure => omega
              case rel => exact ⟨k + 1, rfl, by omega, by rw [HE.out], by go_num, HT', hb2⟩
            · have HF : spansOkB L = false := by rw [HT'.out]; simp [h2]
              have HF' := Lib.hid HF
              clear HF
              go_wp2_with fail
              refine (implSpanOk_any lo hi _).mono ?_; rintro e w1 ⟨rfl, hb1⟩
              obtain ⟨x1, x2, x3, x4⟩ := k1.keep hb1
              have hb2 := hb.trans ((hal.trans (hb1.mono hal.size)).mono hb.size)
              go_wp2
              go_ret
              exact ⟨ret_bool HF'.out.symm, hb2⟩
          · replace h1 : spanOkB lo hi = false := by simpa using h1
            have HF : spansOkB L = false := by rw [HT'.out]; simp [h1]
            have HF' := Lib.hid HF
            clear HF
            go_wp2_with fail
            refine (implSpanOk_any lo hi _).mono ?_; rintro e w1 ⟨rfl, hb1⟩
            obtain ⟨x1, x2, x3, x4⟩ := k1.keep hb1
            have hb2 := hb.trans ((hal.trans (hb1.mono hal.size)).mono hb.size)
            go_wp2
            go_ret
            exact ⟨ret_bool HF'.out.symm, hb2⟩
        · have HF : spansOkB L = true := by rw [HK.out]; exact okFrom_end L k (by omega)
          have HF' := Lib.hid HF
          clear HF
          go_wp2
          go_ret
          exact ⟨ret_bool HF'.out.symm, hb⟩
  · have HF : spansOkB L = false := by unfold spansOkB; simp [h12]
    have HF' := Lib.hid HF
    clear HF
    go_enter Try.func94, Try.ntmps94
    go_wp2
    go_ret
    exact ⟨ret_bool HF'.out.symm, Below.refl _ _⟩

set_option maxHeartbeats 1000000 in
theorem specSpansOk_any (v : Value) (L : List Rng) (w : World) (h : Spn w v L) :
    Calls Try.prog 57 #[v] w fun e w' => e = .returned (.bool (spansOkB L)) ∧ Below w.heap.size w w' := by
  obtain ⟨a, cap, rfl, hl, hm, hc⟩ := h
  unfold maxLen at hm
  by_cases hne : L = []
  · subst hne
    have h0 : spansOkB [] = true := rfl
    go_enter Try.func57, Try.ntmps57
    go_wp2
    go_loopg [3] 0 (fun g s3 wr => s3 = .int .i64 0 ∧ w = wr)
    case atStart => exact ⟨rfl, rfl⟩
    case round =>
      obtain ⟨rfl, rfl⟩ := hrel
      go_wp2
      go_ret
      exact ⟨ret_bool h0.symm, Below.refl _ _⟩
  · obtain ⟨b, off, rfl, hcc⟩ := hc hne
    have HC := Lib.hid hcc
    have HS : Hid (okFrom (-1) L = okFrom (endAt L 0) (L.drop 0)) := rfl
    clear hcc hc hne
    go_enter Try.func57, Try.ntmps57
    go_wp2
    go_loopg [3] L.length (fun g s3 wr => ∃ k : Nat, g = L.length - k ∧ k ≤ L.length ∧ s3 = .int .i64 k ∧ Hid (okFrom (-1) L = okFrom (endAt L k) (L.drop k)) ∧ Below w.heap.size w wr)
    case atStart => exact ⟨0, rfl, Nat.zero_le _, rfl, HS, Below.refl _ _⟩
    case round =>
      obtain ⟨k, rfl, hk, rfl, HK, hb⟩ := hrel
      by_cases hlt : k < L.length
      · have c1 := cell_keep hb (HC.out k hlt).1
        have c2 := cell_keep hb (HC.out k hlt).2
        have HT := okFrom_step L k hlt
        rw [← HK.out] at HT
        have HT' := Lib.hid HT
        clear HT
        have HP : Hid (1 ≤ k → wr.cell? ⟨b, off + (k - 1) * 2 + 1, none⟩ = some (.int .i64 (endAt L k))) := fun h1 => by
          obtain ⟨j, rfl⟩ : ∃ j, k = j + 1 := ⟨k - 1, by omega⟩
          exact cell_keep hb (HC.out j (by omega)).2
        generalize hs : L.getD k (0, 0) = s at *
        obtain ⟨lo, hi⟩ := s
        simp only at c1 c2
        have j1 : (0 : Int) ≤ (k : Int) := Int.natCast_nonneg _
        have j2 : (k : Int) < (L.length : Int) := by omega
        have d1 : ∀ x : BelowOf wr, x.w.cell? ⟨b, off + k * 2, none⟩ = some (.int .i64 lo) := fun x => x.cell c1
        have d2 : ∀ x : BelowOf wr, x.w.cell? ⟨b, off + k * 2 + 1, none⟩ = some (.int .i64 hi) := fun x => x.cell c2
        by_cases h1 : spanOkB lo hi = true
        · by_cases hk0 : k = 0
          · have hd : decide (0 < k) = false := by simp; omega
            have h2 : endAt L k < lo := by have := (spanOkB_iff.1 h1).1; rw [hk0]; simp [endAt]; omega
            simp only [h1, h2, decide_true, Bool.true_and] at HT'
            clear h2 HP hk0
            go_wp2_with fail
            refine wp_region_calm (by kernel_rfl) (by kernel_rfl) ?_
            repeat (go_big_quiet_step ((go_at_call 27; exact Calls.calm (specSpanOk_any lo hi _))))
            refine wpQuiet_nil ?_
            rintro _ ⟨x, rfl⟩
            have hb2 := hb.trans (x.below.mono hb.size)
            go_wp2
            go_roundg (L.length - (k + 1))
            case measure => omega
            case rel => exact ⟨k + 1, rfl, by omega, by go_num, HT', hb2⟩
          · have p1 := HP.out (by omega)
            have d3 : ∀ x : BelowOf wr, x.w.cell? ⟨b, off + (k - 1) * 2 + 1, none⟩ = some (.int .i64 (endAt L k)) := fun x => x.cell p1
            have hd : decide (0 < k) = true := by simp; omega
            have i1 : IntKind.i64.wrap ((k : Int) - 1) = (k : Int) - 1 := IntWalk.i64_in _ (by omega)
            have i2 : (0 : Int) ≤ (k : Int) - 1 := by omega
            have i3 : (k : Int) - 1 < (L.length : Int) := by omega
            have i4 : ((k : Int) - 1).toNat = k - 1 := by omega
            clear HP
            by_cases h2 : endAt L k < lo
            · simp only [h1, h2, decide_true, Bool.true_and] at HT'
              have hd2 : decide (lo ≤ endAt L k) = false := by simp; omega
              go_wp2_with fail
              refine wp_region_calm (by kernel_rfl) (by kernel_rfl) ?_
              repeat (go_big_quiet_step ((go_at_call 27; exact Calls.calm (specSpanOk_any lo hi _))))
              refine wpQuiet_nil ?_
              rintro _ ⟨x, rfl⟩
              have hb2 := hb.trans (x.below.mono hb.size)
              go_wp2
              go_roundg (L.length - (k + 1))
              case measure => omega
              case rel => exact ⟨k + 1, rfl, by omega, by go_num, HT', hb2⟩
            · have HF : okFrom (-1) L = false := by rw [HT'.out]; simp [h1, h2]
              have HG : spansOkB L = false := by unfold spansOkB; rw [HF]; simp
              have HF' := Lib.hid HG
              clear HF HG
              have hd2 : decide (lo ≤ endAt L k) = true := by simp; omega
              go_wp2_with fail
              refine wp_region_calm (by kernel_rfl) (by kernel_rfl) ?_
              repeat (go_big_quiet_step ((go_at_call 27; exact Calls.calm (specSpanOk_any lo hi _))))
              refine wpQuiet_nil ?_
              rintro _ ⟨x, rfl⟩
              have hb2 := hb.trans (x.below.mono hb.size)
              go_wp2
              go_ret
              exact ⟨ret_bool HF'.out.symm, hb2⟩
        · replace h1 : spanOkB lo hi = false := by simpa using h1
          have HF : okFrom (-1) L = false := by rw [HT'.out]; simp [h1]
          have HG : spansOkB L = false := by unfold spansOkB; rw [HF]; simp
          have HF' := Lib.hid HG
          clear HF HG
          clear HP
          go_wp2_with fail
          refine wp_region_calm (by kernel_rfl) (by kernel_rfl) ?_
          repeat (go_big_quiet_step ((go_at_call 27; exact Calls.calm (specSpanOk_any lo hi _))))
          refine wpQuiet_nil ?_
          rintro _ ⟨x, rfl⟩
          have hb2 := hb.trans (x.below.mono hb.size)
          go_wp2
          go_ret
          exact ⟨ret_bool HF'.out.symm, hb2⟩
      · have HF : okFrom (-1) L = true := by rw [HK.out]; exact okFrom_end L k (by omega)
        by_cases h12 : L.length ≤ 12
        · have HG : spansOkB L = true := by unfold spansOkB; simp [HF, h12]
          have HF' := Lib.hid HG
          clear HF HG
          go_wp2
          go_ret
          exact ⟨ret_bool (by rw [HF'.out]; simp; omega), hb⟩
        · have HG : spansOkB L = false := by unfold spansOkB; simp [h12]
          have HF' := Lib.hid HG
          clear HF HG
          go_wp2
          go_ret
          exact ⟨ret_bool (by rw [HF'.out]; simp; omega), hb⟩

end Go.Proofs.Ytfifimdaepebeaa
