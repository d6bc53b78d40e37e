/-
  spec.LockDrop.
-/
import Derived.Test.YteabigobnjebaaaSpecOff
import Derived.Deep.RegionHeld3
namespace Go.Proofs.Yteabigobnjebaaa
open Go.RowKit

set_option maxRecDepth 100000 in
set_option maxHeartbeats 8000000 in
theorem specDrop_any (v : Value) (T : List HoldT) (who lo hi : Int) (w : World) (h : Hds w v T) :
    Calls Try.prog 35 #[v, .int .i64 who, .agg #[.int .i64 lo, .int .i64 hi]] w (TbB w (chT T who lo hi (fun x => mn x 0)).1 (chT T who lo hi (fun x => mn x 0)).2) := by
  obtain ⟨W0, hW0⟩ : ∃ W0, w.alloc (.cells #[.int .i64 lo, .int .i64 hi] 43) = W0 := ⟨_, rfl⟩
  have hal : Below w.heap.size w W0 := by rw [← hW0]; exact (Below.refl _ _).alloc (Nat.le_refl _) _
  have B0 : Box2 W0 w.heap.size lo hi := by rw [← hW0]; exact new_box w lo hi 43
  have K1 := Lib.hid (specLockOk_any v T W0 (h.keep hal))
  have K2 := Lib.hid (fun W => l4Who_any who W)
  have K3 := Lib.hid (fun W => specSpanOk_any lo hi W)
  have HD := Lib.hid h
  have HBS := Lib.hid B0
  have Hal := Lib.hid hal
  have Z0 : Hid (W0.heap.size = w.heap.size + 1) := by show _ = _; rw [← hW0]; simp
  clear hal B0
  by_cases hq0 : lockOkB T = true
  · have h3 := ((lockOk_iff T).1 hq0).1
    have KP := Lib.hid (fun W hW => l4Copy_any v T W hW (by omega) (fun i hi => lock_len hq0 hi))
    rw [hq0] at K1
    by_cases hq1 : whoB who = true
    · obtain ⟨w01, w02⟩ := whoB_iff.1 hq1
      rw [hq1] at K2
      by_cases hq2 : spanOkB lo hi = true
      · obtain ⟨k, rfl⟩ : ∃ k : Nat, who = (k : Int) := ⟨who.toNat, by omega⟩
        have hk : k < 3 := by omega
        rw [hq2] at K3
        rw [chT_put hq0 hk hq2 (drop_mH (lock_okH hq0 hk) lo hi)]
        obtain ⟨a, cap, rfl, c1, c2, -⟩ := id h
        obtain ⟨b, off, r, s, rfl, e1, e2, p1, p2, -, -, -⟩ := h.at (k := k) (by omega)
        have C1 := Lib.hid (fun W (hb : Below w.heap.size w W) => l1Cut_own r _ lo hi W (p1.keep hb) hq2)
        have C2 := Lib.hid (fun W (hb : Below w.heap.size w W) => l1Cut_own s _ lo hi W (p2.keep hb) hq2)
        have KQ := Lib.hid (fun (r' s' : Value) R S W hW hr hs => l4Put_any (.slice (some ⟨b, off, none⟩) T.length cap) T k r' s' R S W hW hq0 hk hr hs)
        have HK3 : Hid (k < T.length) := by show _ < _; omega
        obtain ⟨ar, cr, rfl⟩ := p1.form
        obtain ⟨as', cs, rfl⟩ := p2.form
        generalize rg (cutF (T.getD k hd0).1 lo hi) 48 = R1 at *
        generalize rg (cutF (T.getD k hd0).2 lo hi) 48 = S1 at *
        have E1 := Lib.hid (And.intro e1 e2)
        clear hq0 hq1 hq2 h KP p1 p2 e1 e2 h3 Z0
        generalize (T.getD k hd0).1.length = n1 at *
        generalize (T.getD k hd0).2.length = n2 at *
        go_enter Try.func35, Try.ntmps35
        go_wp2_with fail
        clear hW0
        refine K1.out.mono ?_; rintro e w1 ⟨rfl, hb1⟩
        clear K1
        go_wp2_with fail
        refine (K2.out _).mono ?_; rintro e w2 ⟨rfl, hb2⟩
        have hb12 := hb1.trans (hb2.mono hb1.size)
        obtain ⟨s1, s2, -, -⟩ := HBS.out.keep hb12
        clear K2
        go_wp2_with fail
        refine (K3.out _).mono ?_; rintro e w3 ⟨rfl, hb3⟩
        have hb13 := hb12.trans (hb3.mono hb12.size)
        have hbw := Hal.out.trans (hb13.mono Hal.out.size)
        clear s1 s2 K3
        obtain ⟨s1, s2, -, -⟩ := HBS.out.keep hb13
        have e1 := cell_keep hbw E1.out.1
        have e2 := cell_keep hbw E1.out.2
        have HBW := Lib.hid hbw
        have hk3 := HK3.out
        clear hb1 hb2 hb3 hb12 hb13 hbw
        go_wp2_with fail
        go_region_held3 (fun w' => w'.cell? ⟨b, off + k * 2, none⟩ = some (.slice ar n1 cr) ∧ w'.cell? ⟨b, off + k * 2 + 1, none⟩ = some (.slice as' n2 cs) ∧ w'.cell? ⟨w.heap.size, 0, none⟩ = some (.int .i64 lo) ∧ w'.cell? ⟨w.heap.size, 1, none⟩ = some (.int .i64 hi))
          (refine ⟨?_, ?_, ?_, ?_⟩ <;> first | (go_keep; done) | (refine cell_keep hb ?_; first | (go_keep; done) | (go_simp; done) | assumption))
          (first
            | (have _t := tok2; go_at_call 69; refine (KQ.out _ _ R1 S1 _ (HD.out.keep HBY.out) HR2.out HS2.out).mono ?_; rintro e w6 ⟨v6, rfl, ho6, hb⟩)
            | (have _t := tok1; go_at_call 70; refine (C2.out _ HBX.out).mono ?_; rintro e w5 ⟨g2, cap2, rfl, hg2, hs2, hb⟩; have HBY := Lib.hid (HBX.out.trans (hb.mono HBX.out.size)); have HS2 := Lib.hid (spn_of (mrow_own hs2.out).1 (mrow_own hs2.out).2); have HR2 := Lib.hid (HR1.out.keep hb); have tok2 : True := trivial; clear hs2)
            | (go_at_call 70; refine (C1.out _ HBW.out.drew).mono ?_; rintro e w4 ⟨g1, cap1, rfl, hg1, hs1, hb⟩; have HBX := Lib.hid (HBW.out.drew.trans (hb.mono HBW.out.drew.size)); have HR1 := Lib.hid (spn_of (mrow_own hs1.out).1 (mrow_own hs1.out).2); have tok1 : True := trivial; clear hs1))
        have H9 := Lib.hid (ho6.out.wide (lo' := w.heap.size) HBY.out.size)
        have HB9 := Lib.hid (HBY.out.trans (hb.mono HBY.out.size))
        clear ho6 s1 s2 e1 e2
        go_wp2
        exact bodyPost_ret (v := .tuple #[v6, .bool (putT T k (R1, S1)).2]) (by simp [results, Try.results35, go_sem]) rfl ⟨v6, rfl, H9, HB9.out⟩
      · have HC1 : Hid (chT T who lo hi (fun x => mn x 0) = (T, false)) := by show _ = _; unfold chT; rw [if_pos hq0, if_neg (by simp [hq1, hq2])]
        replace hq2 : spanOkB lo hi = false := by simpa using hq2
        rw [hq2] at K3
        clear hq0 hq1 hq2 h h3
        go_enter Try.func35, Try.ntmps35
        go_wp2_with fail
        clear hW0
        refine K1.out.mono ?_; rintro e w1 ⟨rfl, hb1⟩
        clear K1
        go_wp2_with fail
        refine (K2.out _).mono ?_; rintro e w2 ⟨rfl, hb2⟩
        have hb12 := hb1.trans (hb2.mono hb1.size)
        obtain ⟨s1, s2, -, -⟩ := HBS.out.keep hb12
        clear K2
        go_wp2_with fail
        refine (K3.out _).mono ?_; rintro e w3 ⟨rfl, hb3⟩
        have hb13 := hb12.trans (hb3.mono hb12.size)
        have hbw := Hal.out.trans (hb13.mono Hal.out.size)
        clear s1 s2 K3 hb1 hb2 hb3 hb12 hb13
        have KQ2 := Lib.hid (KP.out _ (HD.out.keep hbw))
        go_wp2_with fail
        refine KQ2.out.mono ?_; rintro e w9 ⟨v9, rfl, h9, hb9⟩
        have H9 := Lib.hid (h9.out.wide (lo' := w.heap.size) hbw.size)
        have HB9 := Lib.hid (hbw.trans (hb9.mono hbw.size))
        clear h9 hb9 KQ2
        go_wp2
        rw [HC1.out]
        exact bodyPost_ret (v := .tuple #[v9, .bool false]) (by simp [results, Try.results35, go_sem]) rfl ⟨_, rfl, H9, HB9.out⟩
    · have HC1 : Hid (chT T who lo hi (fun x => mn x 0) = (T, false)) := by show _ = _; unfold chT; rw [if_pos hq0, if_neg (by simp [hq1])]
      replace hq1 : whoB who = false := by simpa using hq1
      rw [hq1] at K2
      clear hq0 hq1 h h3 K3
      go_enter Try.func35, Try.ntmps35
      go_wp2_with fail
      clear hW0
      refine K1.out.mono ?_; rintro e w1 ⟨rfl, hb1⟩
      clear K1
      go_wp2_with fail
      refine (K2.out _).mono ?_; rintro e w2 ⟨rfl, hb2⟩
      have hb12 := hb1.trans (hb2.mono hb1.size)
      have hbw := Hal.out.trans (hb12.mono Hal.out.size)
      clear K2 hb1 hb2 hb12
      have KQ2 := Lib.hid (KP.out _ (HD.out.keep hbw))
      go_wp2_with fail
      refine KQ2.out.mono ?_; rintro e w9 ⟨v9, rfl, h9, hb9⟩
      have H9 := Lib.hid (h9.out.wide (lo' := w.heap.size) hbw.size)
      have HB9 := Lib.hid (hbw.trans (hb9.mono hbw.size))
      clear h9 hb9 KQ2
      go_wp2
      rw [HC1.out]
      exact bodyPost_ret (v := .tuple #[v9, .bool false]) (by simp [results, Try.results35, go_sem]) rfl ⟨_, rfl, H9, HB9.out⟩
  · have HC1 : Hid (chT T who lo hi (fun x => mn x 0) = ([], false)) := by show _ = _; unfold chT; rw [if_neg hq0]
    replace hq0 : lockOkB T = false := by simpa using hq0
    rw [hq0] at K1
    clear hq0 h K2 K3
    go_enter Try.func35, Try.ntmps35
    go_wp2_with fail
    clear hW0
    refine K1.out.mono ?_; rintro e w1 ⟨rfl, hb1⟩
    clear K1
    have hbw := Hal.out.trans (hb1.mono Hal.out.size)
    have HB := Lib.hid (hbw.alloc hbw.size (.cells #[] 78))
    go_wp2
    rw [HC1.out]
    exact bodyPost_ret (v := .tuple #[.slice (some ⟨w1.heap.size, 0, none⟩) 0 0, .bool false]) (by simp [results, Try.results35, go_sem]) rfl ⟨_, rfl, Lib.hid (otab_nil _ _ _ _ _ (by unfold maxLen; omega)), HB.out⟩

end Go.Proofs.Yteabigobnjebaaa
