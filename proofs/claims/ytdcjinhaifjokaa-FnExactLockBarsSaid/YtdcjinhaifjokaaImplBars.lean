/-
  impl.LockBars.
-/
import Derived.Test.YtdcjinhaifjokaaBarsC
namespace Go.Proofs.Ytdcjinhaifjokaa
open Go.RowKit

set_option maxRecDepth 100000 in
set_option maxHeartbeats 4000000 in
theorem implLockBars_any (v : Value) (T : List HoldT) (who : Int) (wr : Bool) (lo hi : Int) (w : World) (h : Hds w v T) :
    Calls Try.prog 21 #[v, .int .i64 who, .bool wr, .agg #[.int .i64 lo, .int .i64 hi]] w (IntC w (barsL T who wr lo hi)) := by
  obtain ⟨W0, hW0⟩ : ∃ W0, w.alloc (.cells #[.int .i64 lo, .int .i64 hi] 32) = W0 := ⟨_, rfl⟩
  have hal : Below w.heap.size w W0 := by rw [← hW0]; exact (Below.refl _ _).alloc (Nat.le_refl _) _
  have B0 : Box2 W0 w.heap.size lo hi := by rw [← hW0]; exact new_box w lo hi 32
  have K := Lib.hid (locksOf_any v T W0 (h.keep hal))
  have HBS := Lib.hid B0
  have Hal := Lib.hid hal
  clear B0 hal h
  by_cases hq0 : lockOkB T = true
  · by_cases hq1 : whoB who = true
    · by_cases hq2 : spanOkB lo hi = true
      · have HQ0 := Lib.hid hq0
        have HQ1 := Lib.hid hq1
        have HQ2 := Lib.hid hq2
        have C1 := Lib.hid (fun W => clientOk_any who W)
        have C2 := Lib.hid (fun W => implSpanOk_any lo hi W)
        rw [hq1] at C1
        rw [hq2] at C2
        clear hq0 hq1 hq2
        go_enter Try.func21, Try.ntmps21
        go_wp2_with fail
        clear hW0
        refine K.out.mono ?_; rintro e w1 hp
        unfold LkPost at hp
        rw [if_pos HQ0.out] at hp
        obtain ⟨vl', gs, cs, Rs, rfl, hown, hN, hb1⟩ := hp
        obtain ⟨gl, cl, rfl, hgl, hcl1, hcl2, hglt, hcc⟩ := own_cell1 hown (by omega)
        have HL := Lib.hid (LkYes.lks hcc hN)
        have HRl : Hid (∀ i, i < 3 → (Rs i).length ≤ 100) := fun i hi => by have := ((hN i hi).2.2.1).len; omega
        have HE := Lib.hid (bars_rows HQ0.out (fun i hi => (hN i hi).2.2.1) HQ1.out (wr := wr) HQ2.out)
        clear hown hN hcc K HQ0
        go_wp2_with fail
        refine (C1.out _).mono ?_; rintro e w' ⟨rfl, rfl⟩
        obtain ⟨s1, s2, -, -⟩ := HBS.out.keep hb1
        go_wp2_with fail
        refine (C2.out _).mono ?_; rintro e w2 ⟨rfl, hb2⟩
        have hb12 := hb1.trans (hb2.mono hb1.size)
        clear s1 s2
        obtain ⟨s1, s2, s3, s4⟩ := HBS.out.keep hb12
        have HL2 := Lib.hid (HL.out.keep hb2)
        clear HL
        go_wp2_with fail
        go_region_held3 (fun w' => w'.cell? ⟨w.heap.size, 0, none⟩ = some (.int .i64 lo) ∧ w'.cell? ⟨w.heap.size, 1, none⟩ = some (.int .i64 hi))
          (refine ⟨?_, ?_⟩ <;> first | (go_keep; done) | (refine cell_keep hb ?_; first | (go_keep; done) | (go_simp; done)))
          (first
            | (go_at_call 55; refine (modeOf_any wr _).mono ?_; rintro e w' ⟨rfl, rfl⟩)
            | (go_at_call 58; refine (bars_any _ who (wantOf wr) lo hi _ ⟨_, _, _, rfl⟩).mono ?_; rintro e w' ⟨rfl, hw'⟩; obtain ⟨f1, f2, f3, f4, hsz, hb⟩ := bars_boxes _ _ _ _ _ _ _ _ _ hw'.symm; have F1 := Lib.hid f1; have F2 := Lib.hid f2; have F3 := Lib.hid f3; have F4 := Lib.hid f4; clear f1 f2 f3 f4 hw'; have hbW := (Below.drew (Below.refl _ _)).trans hb)
            | (go_at_call 57; refine (collectInt_any _ _ _ _ gl cl 3 gs cs Rs who (wantOf wr) lo hi HRl.out (by omega) (by omega) hcl1 hcl2 _ F1.out F2.out F3.out F4.out (HL2.out.keep hbW)).mono ?_; rintro e w' hr; obtain ⟨vr, rfl, ho, hb⟩ := IntC.base (w := w2) hr hbW))
        go_wp2
        go_ret
        have hb3 := Hal.out.trans (hb12.mono Hal.out.size)
        rw [HE.out]
        exact IntC.base ⟨_, rfl, ho, hb⟩ hb3
      · replace hq2 : spanOkB lo hi = false := by simpa using hq2
        have HF : Hid (barsL T who wr lo hi = []) := by show _ = _; unfold barsL; rw [hq2]; simp
        have C1 := Lib.hid (fun W => clientOk_any who W)
        have C2 := Lib.hid (fun W => implSpanOk_any lo hi W)
        rw [hq1] at C1
        rw [hq2] at C2
        have HQ0 := Lib.hid hq0
        clear hq0 hq1 hq2
        go_enter Try.func21, Try.ntmps21
        go_wp2_with fail
        clear hW0
        refine K.out.mono ?_; rintro e w1 hp
        unfold LkPost at hp
        rw [if_pos HQ0.out] at hp
        obtain ⟨vl', gs, cs, Rs, rfl, -, -, hb1⟩ := hp
        clear K HQ0
        go_wp2_with fail
        refine (C1.out _).mono ?_; rintro e w' ⟨rfl, rfl⟩
        obtain ⟨s1, s2, -, -⟩ := HBS.out.keep hb1
        go_wp2_with fail
        refine (C2.out _).mono ?_; rintro e w2 ⟨rfl, hb2⟩
        have hb12 := hb1.trans (hb2.mono hb1.size)
        have hb3 := Hal.out.trans (hb12.mono Hal.out.size)
        clear s1 s2
        go_wp2
        go_ret
        rw [HF.out]
        exact intC_nil _ _ hb3
    · replace hq1 : whoB who = false := by simpa using hq1
      have HF : Hid (barsL T who wr lo hi = []) := by show _ = _; unfold barsL; rw [hq1]; simp
      have C1 := Lib.hid (fun W => clientOk_any who W)
      rw [hq1] at C1
      have HQ0 := Lib.hid hq0
      clear hq0 hq1
      go_enter Try.func21, Try.ntmps21
      go_wp2_with fail
      clear hW0
      refine K.out.mono ?_; rintro e w1 hp
      unfold LkPost at hp
      rw [if_pos HQ0.out] at hp
      obtain ⟨vl', gs, cs, Rs, rfl, -, -, hb1⟩ := hp
      clear K HQ0
      go_wp2_with fail
      refine (C1.out _).mono ?_; rintro e w' ⟨rfl, rfl⟩
      have hb3 := Hal.out.trans (hb1.mono Hal.out.size)
      go_wp2
      go_ret
      rw [HF.out]
      exact intC_nil _ _ hb3
  · have HQ0 : Hid (lockOkB T = false) := by show _ = _; simpa using hq0
    have HF : Hid (barsL T who wr lo hi = []) := by show _ = _; unfold barsL; rw [HQ0.out]; rfl
    clear hq0
    go_enter Try.func21, Try.ntmps21
    go_wp2_with fail
    clear hW0
    refine K.out.mono ?_; rintro e w1 hp
    unfold LkPost at hp
    rw [if_neg (by rw [HQ0.out]; simp)] at hp
    obtain ⟨rfl, hb1⟩ := hp
    clear K HQ0
    have hb3 := Hal.out.trans (hb1.mono Hal.out.size)
    go_wp2
    go_ret
    rw [HF.out]
    exact intC_nil _ _ hb3

end Go.Proofs.Ytdcjinhaifjokaa
