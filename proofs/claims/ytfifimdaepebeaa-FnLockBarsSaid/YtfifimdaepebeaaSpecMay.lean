/-
  LockMay of the model.
-/
import Derived.Test.YtfifimdaepebeaaImplMay
import Derived.Test.YtfifimdaepebeaaClear
import Derived.Test.YtfifimdaepebeaaSpots
namespace Go.Proofs.Ytfifimdaepebeaa
open Go.RowKit

set_option maxHeartbeats 400000 in
theorem l4Who_any (who : Int) (w : World) : Calls Try.prog 46 #[.int .i64 who] w fun e w' => e = .returned (.bool (whoB who)) ∧ Below w.heap.size w w' := by
  by_cases h1 : 0 ≤ who <;> by_cases h2 : who < 3
  all_goals
    go_enter Try.func46, Try.ntmps46
    go_wp2
    go_ret
    exact ⟨ret_bool (by unfold whoB; simp [h1, h2]), Below.refl _ _⟩

theorem mayN_step (h : HoldT) (wr : Bool) (i hi : Int) (hlt : i < hi) : mayN h wr i (hi - i).toNat = ((inB h.2 i || (!wr && inB h.1 i)) && mayN h wr (i + 1) (hi - (i + 1)).toNat) := by
  obtain ⟨n, hn⟩ : ∃ n, (hi - i).toNat = n + 1 := ⟨(hi - i).toNat - 1, by omega⟩
  have hm : (hi - (i + 1)).toNat = n := by omega
  rw [hn, hm]
  rfl
theorem mayN_end (h : HoldT) (wr : Bool) (i hi : Int) (hge : ¬ i < hi) : mayN h wr i (hi - i).toNat = true := by
  have : (hi - i).toNat = 0 := by omega
  rw [this]; rfl

set_option maxHeartbeats 2000000 in
theorem l4May_any (r s : Value) (L M : List Rng) (wr : Bool) (lo hi : Int) (w : World) (hr : Spn w r L) (hs : Spn w s M) (hok : spanOkB lo hi = true) :
    Calls Try.prog 75 #[.agg #[r, s], .bool wr, .agg #[.int .i64 lo, .int .i64 hi]] w fun e w' => e = .returned (.bool (mayN (L, M) wr lo (hi - lo).toNat)) ∧ Below w.heap.size w w' := by
  obtain ⟨h1, h2, h3⟩ := spanOkB_iff.1 hok
  have f1 := hr.form
  have f2 := hs.form
  obtain ⟨a, cap, rfl⟩ := f1
  obtain ⟨b, cap2, rfl⟩ := f2
  obtain ⟨W0, hW0⟩ : ∃ W0, (w.alloc (.cells #[.slice a L.length cap, .slice b M.length cap2] 48)).alloc (.cells #[.int .i64 lo, .int .i64 hi] 25) = W0 := ⟨_, rfl⟩
  have hal : Below w.heap.size w W0 := by rw [← hW0]; exact ((Below.refl _ _).alloc (Nat.le_refl _) _).alloc (by simp) _
  have B0 : BoxV W0 w.heap.size (.slice a L.length cap) (.slice b M.length cap2) := by
    rw [← hW0]
    exact (new_boxV w _ _ _).keep ((Below.refl _ _).alloc (Nat.le_refl _) _)
  have B1 : Box2 W0 (w.heap.size + 1) lo hi := by
    rw [← hW0]
    have := new_box (w.alloc (.cells #[.slice a L.length cap, .slice b M.length cap2] 48)) lo hi 25
    simpa using this
  have K1 := Lib.hid (fun p => l1In_any _ M p W0 (hs.keep hal))
  have K2 := Lib.hid (fun p => l1In_any _ L p W0 (hr.keep hal))
  obtain ⟨x1, x2, -, -⟩ := B0
  obtain ⟨y1, y2, -, -⟩ := B1
  have Hal := Lib.hid hal
  have HST := Lib.hid (mayN_step (L, M) wr)
  have HEN := Lib.hid (mayN_end (L, M) wr)
  obtain ⟨tgt, htg⟩ : ∃ tgt, mayN (L, M) wr lo (hi - lo).toNat = tgt := ⟨_, rfl⟩
  have HE := Lib.hid htg.symm
  rw [htg]
  clear hr hs hal htg hok
  go_enter Try.func75, Try.ntmps75
  go_wp2
  clear hW0
  go_loopg [7] (hi - lo).toNat (fun g s7 wx => ∃ i : Int, g = (hi - i).toNat ∧ lo ≤ i ∧ i ≤ hi ∧ s7 = .int .i64 i ∧ Hid (tgt = mayN (L, M) wr i (hi - i).toNat) ∧ W0 = wx)
  case atStart => exact ⟨lo, rfl, by omega, by omega, rfl, HE, rfl⟩
  case round =>
    obtain ⟨i, rfl, hi1, hi2, rfl, HK, rfl⟩ := hrel
    by_cases hlt : i < hi
    · have HS := Lib.hid (HST.out i hi hlt)
      have KW := Lib.hid (K1.out i)
      have KR := Lib.hid (K2.out i)
      have HS2 : Hid (mayN (L, M) wr i (hi - i).toNat = ((inB M i || (!wr && inB L i)) && mayN (L, M) wr (i + 1) (hi - (i + 1)).toNat)) := HS.out
      clear HS
      generalize inB M i = q1 at *
      generalize inB L i = q2 at *
      cases q1
      · cases wr
        · cases q2
          · have HF : Hid (tgt = false) := by show _ = _; rw [HK.out, HS2.out]; rfl
            go_wp2_with fail
            refine KW.out.mono ?_; rintro e w' ⟨rfl, rfl⟩
            go_wp2_with fail
            refine KR.out.mono ?_; rintro e w' ⟨rfl, rfl⟩
            go_wp2
            go_ret
            exact ⟨ret_bool HF.out.symm, Hal.out⟩
          · have HF : Hid (tgt = mayN (L, M) false (i + 1) (hi - (i + 1)).toNat) := by show _ = _; rw [HK.out, HS2.out]; rfl
            go_wp2_with fail
            refine KW.out.mono ?_; rintro e w' ⟨rfl, rfl⟩
            go_wp2_with fail
            refine KR.out.mono ?_; rintro e w' ⟨rfl, rfl⟩
            go_wp2
            go_roundg (hi - (i + 1)).toNat
            case measure => omega
            case rel => exact ⟨i + 1, rfl, by omega, by omega, rfl, HF, rfl⟩
        · have HF : Hid (tgt = false) := by show _ = _; rw [HK.out, HS2.out]; rfl
          go_wp2_with fail
          refine KW.out.mono ?_; rintro e w' ⟨rfl, rfl⟩
          go_wp2
          go_ret
          exact ⟨ret_bool HF.out.symm, Hal.out⟩
      · have HF : Hid (tgt = mayN (L, M) wr (i + 1) (hi - (i + 1)).toNat) := by show _ = _; rw [HK.out, HS2.out]; rfl
        go_wp2_with fail
        refine KW.out.mono ?_; rintro e w' ⟨rfl, rfl⟩
        go_wp2
        go_roundg (hi - (i + 1)).toNat
        case measure => omega
        case rel => exact ⟨i + 1, rfl, by omega, by omega, rfl, HF, rfl⟩
    · have HF : Hid (tgt = true) := by show _ = _; rw [HK.out]; exact HEN.out i hi (by omega)
      go_wp2
      go_ret
      exact ⟨ret_bool HF.out.symm, Hal.out⟩

set_option maxRecDepth 100000 in
set_option maxHeartbeats 4000000 in
theorem specLockMay_any (v : Value) (T : List HoldT) (who : Int) (wr : Bool) (lo hi : Int) (w : World) (h : Hds w v T) :
    Calls Try.prog 41 #[v, .int .i64 who, .bool wr, .agg #[.int .i64 lo, .int .i64 hi]] w fun e w' => e = .returned (.bool (mayB T who wr lo hi)) ∧ Below w.heap.size w w' := by
  obtain ⟨W0, hW0⟩ : ∃ W0, w.alloc (.cells #[.int .i64 lo, .int .i64 hi] 25) = W0 := ⟨_, rfl⟩
  have hal : Below w.heap.size w W0 := by rw [← hW0]; exact (Below.refl _ _).alloc (Nat.le_refl _) _
  have B0 : Box2 W0 w.heap.size lo hi := by rw [← hW0]; exact new_box w lo hi 25
  have h0 := h.keep hal
  have d1 : ∀ x : BelowOf W0, x.w.cell? ⟨w.heap.size, 0, none⟩ = some (.int .i64 lo) := fun x => x.cell B0.1
  have d2 : ∀ x : BelowOf W0, x.w.cell? ⟨w.heap.size, 1, none⟩ = some (.int .i64 hi) := fun x => x.cell B0.2.1
  have K1 := Lib.hid (fun x : BelowOf W0 => specLockOk_any v T x.w (h0.keep x.below))
  have K2 := Lib.hid (fun x : BelowOf W0 => l4Who_any who x.w)
  have K3 := Lib.hid (fun x : BelowOf W0 => specSpanOk_any lo hi x.w)
  have Hal := Lib.hid hal
  clear B0 hal h
  by_cases hq0 : lockOkB T = true
  · rw [hq0] at K1
    by_cases hq1 : whoB who = true
    · rw [hq1] at K2
      by_cases hq2 : spanOkB lo hi = true
      · rw [hq2] at K3
        obtain ⟨w01, w02⟩ := whoB_iff.1 hq1
        obtain ⟨k, rfl⟩ : ∃ k : Nat, who = (k : Int) := ⟨who.toNat, by omega⟩
        have hk : k < 3 := by omega
        have HE : Hid (mayB T (k : Int) wr lo hi = mayN (T.getD k hd0) wr lo (hi - lo).toNat) := by show _ = _; unfold mayB; rw [hq0, hq1, hq2]; rfl
        have hT3 := ((lockOk_iff T).1 hq0).1
        have hh := h0
        obtain ⟨a, cap, rfl, -, -, -⟩ := hh
        obtain ⟨b, off, r, s, rfl, e1, e2, p1, p2, -, hcp1, hcp2⟩ := h0.at (k := k) (by omega)
        have K4 := Lib.hid (fun x : BelowOf W0 => l4May_any r s (T.getD k hd0).1 (T.getD k hd0).2 wr lo hi x.w (p1.keep x.below) (p2.keep x.below) hq2)
        have d3 : ∀ x : BelowOf W0, x.w.cell? ⟨b, off + k * 2, none⟩ = some r := fun x => x.cell e1
        have d4 : ∀ x : BelowOf W0, x.w.cell? ⟨b, off + k * 2 + 1, none⟩ = some s := fun x => x.cell e2
        have hkT : (k : Int) < (T.length : Int) := by omega
        have HF : Hid (mayB T (k : Int) wr lo hi = mayN ((T.getD k hd0).1, (T.getD k hd0).2) wr lo (hi - lo).toNat) := HE.out
        generalize mayN ((T.getD k hd0).1, (T.getD k hd0).2) wr lo (hi - lo).toNat = q at *
        have hTl := Lib.hid hT3
        clear p1 p2 e1 e2 HE hq0 hq1 hq2 h0 hT3
        go_enter Try.func41, Try.ntmps41
        go_wp2_with fail
        clear hW0
        refine wp_region_calm (by kernel_rfl) (by kernel_rfl) ?_
        repeat (go_big_quiet_step ((first | (go_at_call 19; exact Calls.calm (K1.out _)) | (go_at_call 46; exact Calls.calm (K2.out _)) | (go_at_call 27; exact Calls.calm (K3.out _)) | (go_at_call 75; exact Calls.calm (K4.out _)))))
        refine wpQuiet_nil ?_
        rintro _ ⟨x, rfl⟩
        have hb2 := Hal.out.trans (x.below.mono Hal.out.size)
        clear d1 d2 d3 d4
        go_wp2
        go_ret
        exact ⟨ret_bool HF.out.symm, hb2⟩
      · replace hq2 : spanOkB lo hi = false := by simpa using hq2
        have HF : Hid (mayB T who wr lo hi = false) := by show _ = _; unfold mayB; rw [hq2]; simp
        rw [hq2] at K3
        clear hq0 hq1 hq2 h0
        go_enter Try.func41, Try.ntmps41
        go_wp2_with fail
        refine wp_region_calm (by kernel_rfl) (by kernel_rfl) ?_
        repeat (go_big_quiet_step ((first | (go_at_call 19; exact Calls.calm (K1.out _)) | (go_at_call 46; exact Calls.calm (K2.out _)) | (go_at_call 27; exact Calls.calm (K3.out _)))))
        refine wpQuiet_nil ?_
        rintro _ ⟨x, rfl⟩
        have hb2 := Hal.out.trans (x.below.mono Hal.out.size)
        clear d1 d2
        go_wp2
        go_ret
        exact ⟨ret_bool HF.out.symm, hb2⟩
    · replace hq1 : whoB who = false := by simpa using hq1
      have HF : Hid (mayB T who wr lo hi = false) := by show _ = _; unfold mayB; rw [hq1]; simp
      rw [hq1] at K2
      clear hq0 hq1 h0
      go_enter Try.func41, Try.ntmps41
      go_wp2_with fail
      refine wp_region_calm (by kernel_rfl) (by kernel_rfl) ?_
      repeat (go_big_quiet_step ((first | (go_at_call 19; exact Calls.calm (K1.out _)) | (go_at_call 46; exact Calls.calm (K2.out _)))))
      refine wpQuiet_nil ?_
      rintro _ ⟨x, rfl⟩
      have hb2 := Hal.out.trans (x.below.mono Hal.out.size)
      clear d1 d2
      go_wp2
      go_ret
      exact ⟨ret_bool HF.out.symm, hb2⟩
  · replace hq0 : lockOkB T = false := by simpa using hq0
    have HF : Hid (mayB T who wr lo hi = false) := by show _ = _; unfold mayB; rw [hq0]; rfl
    rw [hq0] at K1
    clear hq0 h0
    go_enter Try.func41, Try.ntmps41
    go_wp2_with fail
    refine wp_region_calm (by kernel_rfl) (by kernel_rfl) ?_
    repeat (go_big_quiet_step ((first | (go_at_call 19; exact Calls.calm (K1.out _)))))
    refine wpQuiet_nil ?_
    rintro _ ⟨x, rfl⟩
    have hb2 := Hal.out.trans (x.below.mono Hal.out.size)
    clear d1 d2
    go_wp2
    go_ret
    exact ⟨ret_bool HF.out.symm, hb2⟩

end Go.Proofs.Ytfifimdaepebeaa
