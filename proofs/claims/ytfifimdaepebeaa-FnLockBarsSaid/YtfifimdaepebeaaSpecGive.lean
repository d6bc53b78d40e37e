/-
  spec.LockGive.
-/
import Derived.Test.YtfifimdaepebeaaSpecOff
import Derived.Test.YtfifimdaepebeaaSpecBars
import Derived.Test.YtfifimdaepebeaaSpecWithout
import Derived.Deep.RegionHeld3
namespace Go.Proofs.Ytfifimdaepebeaa
open Go.RowKit

set_option maxRecDepth 100000 in
set_option maxHeartbeats 8000000 in
theorem specGive_any (v : Value) (T : List HoldT) (who : Int) (wr : Bool) (lo hi : Int) (w : World) (h : Hds w v T) :
    Calls Try.prog 16 #[v, .int .i64 who, .bool wr, .agg #[.int .i64 lo, .int .i64 hi]] w (TbB w (chT T who lo hi (fun x => mx x (wantOf wr))).1 (chT T who lo hi (fun x => mx x (wantOf wr))).2) := by
  obtain ⟨W0, hW0⟩ : ∃ W0, w.alloc (.cells #[.int .i64 lo, .int .i64 hi] 25) = W0 := ⟨_, rfl⟩
  have hal : Below w.heap.size w W0 := by rw [← hW0]; exact (Below.refl _ _).alloc (Nat.le_refl _) _
  have B0 : Box2 W0 w.heap.size lo hi := by rw [← hW0]; exact new_box w lo hi 25
  have K1 := Lib.hid (specLockOk_any v T W0 (h.keep hal))
  have K2 := Lib.hid (fun W => l4Who_any who W)
  have K3 := Lib.hid (fun W => specSpanOk_any lo hi W)
  have HD := Lib.hid h
  have HBS := Lib.hid B0
  have Hal := Lib.hid hal
  have Z0 : Hid (W0.heap.size = w.heap.size + 1) := by show _ = _; rw [← hW0]; simp
  clear hal B0
  by_cases hq0 : lockOkB T = true
  · have h3 := ((lockOk_iff T).1 hq0).1
    have KP := Lib.hid (fun W hW => l4Copy_any v T W hW (by omega) (fun i hi => lock_len hq0 hi))
    rw [hq0] at K1
    by_cases hq1 : whoB who = true
    · obtain ⟨w01, w02⟩ := whoB_iff.1 hq1
      rw [hq1] at K2
      by_cases hq2 : spanOkB lo hi = true
      · obtain ⟨k, rfl⟩ : ∃ k : Nat, who = (k : Int) := ⟨who.toNat, by omega⟩
        have hk : k < 3 := by omega
        rw [hq2] at K3
        have KB := Lib.hid (fun W hW => l4Bars_any v T h3 (k : Int) wr lo hi W hW)
        by_cases hbr : brK (k : Int) (fun i => stB (T.getD i hd0) wr lo hi) 3 = []
        · rw [hbr] at KB
          obtain ⟨a, cap, rfl, c1, c2, -⟩ := id h
          obtain ⟨b, off, r, s, rfl, e1, e2, p1, p2, -, -, -⟩ := h.at (k := k) (by omega)
          have hv2 := spansOkB_all (okH_iff.1 (lock_okH hq0 hk)).2.1
          have KQ := Lib.hid (fun (r' s' : Value) R S W hW hr hs => l4Put_any (.slice (some ⟨b, off, none⟩) T.length cap) T k r' s' R S W hW hq0 hk hr hs)
          have HK3 : Hid (k < T.length) := by show _ < _; omega
          have E1 := Lib.hid (And.intro e1 e2)
          clear KP e1 e2
          cases wr
          · rw [chT_put hq0 hk hq2 (giveR_mH (lock_okH hq0 hk) lo hi)]
            have C1 := Lib.hid (fun W (hb : Below w.heap.size w W) => l1Add_own r _ lo hi W (p1.keep hb) hq2)
            have C2 := Lib.hid (fun (x : Value) W (hx : Spn W x (rg (addF (T.getD k hd0).1 lo hi) 48)) (hb : Below w.heap.size w W) => l4Without_any x s (rg (addF (T.getD k hd0).1 lo hi) 48) (T.getD k hd0).2 W hx (p2.keep hb) hv2)
            have HE : Hid (rg (fun i : Nat => inB (rg (addF (T.getD k hd0).1 lo hi) 48) (i : Int) && !inB (T.getD k hd0).2 (i : Int)) 48 = rg (fun i => addF (T.getD k hd0).1 lo hi i && !inB (T.getD k hd0).2 (i : Int)) 48) := rg_congr fun i hi' => by rw [(inB_rgN _ 48 (Nat.le_refl _)).1 i hi']
            rw [HE.out] at C2
            have P2 := Lib.hid p2
            obtain ⟨ar, cr, rfl⟩ := p1.form
            obtain ⟨as', cs, rfl⟩ := p2.form
            generalize rg (fun i => addF (T.getD k hd0).1 lo hi i && !inB (T.getD k hd0).2 (i : Int)) 48 = R1 at *
            generalize rg (addF (T.getD k hd0).1 lo hi) 48 = RA at *
            clear HE
            clear hq0 hq1 hq2 h p1 p2 h3 hbr hv2
            have HP2 : Hid (∃ S, S = (T.getD k hd0).2 ∧ S.length = (T.getD k hd0).2.length) := ⟨_, rfl, rfl⟩
            clear HP2
            generalize hS : (T.getD k hd0).2 = S2 at *
            clear hS
            generalize (T.getD k hd0).1.length = n1 at *
            generalize hn2 : S2.length = n2 at *
            clear hn2
            go_enter Try.func16, Try.ntmps16
            go_wp2_with fail
            clear hW0
            refine K1.out.mono ?_; rintro e w1 ⟨rfl, hb1⟩
            clear K1
            go_wp2_with fail
            refine (K2.out _).mono ?_; rintro e w2 ⟨rfl, hb2⟩
            have hb12 := hb1.trans (hb2.mono hb1.size)
            obtain ⟨x1, x2, -, -⟩ := HBS.out.keep hb12
            clear K2
            go_wp2_with fail
            refine (K3.out _).mono ?_; rintro e w3 ⟨rfl, hb3⟩
            have hb13 := hb12.trans (hb3.mono hb12.size)
            have hbw := Hal.out.trans (hb13.mono Hal.out.size)
            clear x1 x2 K3
            obtain ⟨x1, x2, -, -⟩ := HBS.out.keep hb13
            have KB3 := Lib.hid (KB.out w3 (HD.out.keep hbw))
            clear KB
            go_wp2_with fail
            refine KB3.out.mono ?_; rintro e w4 ⟨vb, rfl, hob, hb4⟩
            obtain ⟨ab, cb, rfl⟩ := rowForm hob.out
            have hb14 := hb13.trans (hb4.mono hb13.size)
            have hbw4 := Hal.out.trans (hb14.mono Hal.out.size)
            clear x1 x2 KB3 hob hb4 hb13 hbw hb3 hb12 hb1 hb2
            obtain ⟨x1, x2, x3, x4⟩ := HBS.out.keep hb14
            have e1 := cell_keep hbw4 E1.out.1
            have e2 := cell_keep hbw4 E1.out.2
            have hk3 := HK3.out
            obtain ⟨W5, hW5⟩ : ∃ W5, w4.alloc (.cells #[.slice ar n1 cr, .slice as' n2 cs] 48) = W5 := ⟨_, rfl⟩
            have BV : BoxV W5 w4.heap.size (.slice ar n1 cr) (.slice as' n2 cs) := by rw [← hW5]; exact new_boxV w4 _ _ _
            have hb5 : Below w4.heap.size w4 W5 := by rw [← hW5]; exact (Below.refl _ _).alloc (Nat.le_refl _) _
            have HBW := Lib.hid (hbw4.trans (hb5.mono hbw4.size))
            have BX := (show Box2 w4 w.heap.size lo hi from ⟨x1, x2, x3, x4⟩).keep hb5
            obtain ⟨v1, v2, v3, v4⟩ := BV
            obtain ⟨y1, y2, -, -⟩ := BX
            clear hb14 hbw4 hb5
            go_wp2_with fail
            go_region_held3 (fun w' => w'.cell? ⟨w4.heap.size, 0, none⟩ = some (.slice ar n1 cr) ∧ w'.cell? ⟨w4.heap.size, 1, none⟩ = some (.slice as' n2 cs) ∧ w'.cell? ⟨w.heap.size, 0, none⟩ = some (.int .i64 lo) ∧ w'.cell? ⟨w.heap.size, 1, none⟩ = some (.int .i64 hi))
              (refine ⟨?_, ?_, ?_, ?_⟩ <;> first | (go_keep; done) | (refine cell_keep hb ?_; first | (go_keep; done) | (go_simp; done) | assumption))
              (first
                | (have _t := tok2; go_at_call 49; refine (KQ.out _ _ R1 S2 _ (HD.out.keep HBY.out) HR2.out (P2.out.keep HBY.out)).mono ?_; rintro e w6 ⟨v6, rfl, ho6, hb⟩)
                | (have _t := tok1; go_at_call 52; refine (C2.out _ _ HR1.out HBX.out).mono ?_; rintro e w5' ⟨a2, cap2, rfl, hs2, hb⟩; have HBY := Lib.hid (HBX.out.trans (hb.mono HBX.out.size)); have HR2 := Lib.hid hs2.out; have tok2 : True := trivial; clear hs2)
                | (go_at_call 51; refine (C1.out _ HBW.out.drew).mono ?_; rintro e w4' ⟨g1, cap1, rfl, hg1, hs1, hb⟩; have HBX := Lib.hid (HBW.out.drew.trans (hb.mono HBW.out.drew.size)); have HR1 := Lib.hid (spn_of (mrow_own hs1.out).1 (mrow_own hs1.out).2); have tok1 : True := trivial; clear hs1))
            have H9 := Lib.hid (ho6.out.wide (lo' := w.heap.size) HBY.out.size)
            have HB9 := Lib.hid (HBY.out.trans (hb.mono HBY.out.size))
            clear ho6 y1 y2 v1 v2 v3 v4
            go_wp2
            exact bodyPost_ret (v := .tuple #[v6, .bool (putT T k (R1, S2)).2]) (by simp [results, Try.results16, go_sem]) rfl ⟨v6, rfl, H9, HB9.out⟩
          · rw [chT_put hq0 hk hq2 (giveW_mH (lock_okH hq0 hk) lo hi)]
            have C1 := Lib.hid (fun W (hb : Below w.heap.size w W) => l1Cut_own r _ lo hi W (p1.keep hb) hq2)
            have C2 := Lib.hid (fun W (hb : Below w.heap.size w W) => l1Add_own s _ lo hi W (p2.keep hb) hq2)
            obtain ⟨ar, cr, rfl⟩ := p1.form
            obtain ⟨as', cs, rfl⟩ := p2.form
            generalize rg (cutF (T.getD k hd0).1 lo hi) 48 = R1 at *
            generalize rg (addF (T.getD k hd0).2 lo hi) 48 = S1 at *
            clear hq0 hq1 hq2 h p1 p2 h3 hbr hv2
            generalize (T.getD k hd0).1.length = n1 at *
            generalize (T.getD k hd0).2.length = n2 at *
            go_enter Try.func16, Try.ntmps16
            go_wp2_with fail
            clear hW0
            refine K1.out.mono ?_; rintro e w1 ⟨rfl, hb1⟩
            clear K1
            go_wp2_with fail
            refine (K2.out _).mono ?_; rintro e w2 ⟨rfl, hb2⟩
            have hb12 := hb1.trans (hb2.mono hb1.size)
            obtain ⟨x1, x2, -, -⟩ := HBS.out.keep hb12
            clear K2
            go_wp2_with fail
            refine (K3.out _).mono ?_; rintro e w3 ⟨rfl, hb3⟩
            have hb13 := hb12.trans (hb3.mono hb12.size)
            have hbw := Hal.out.trans (hb13.mono Hal.out.size)
            clear x1 x2 K3
            obtain ⟨x1, x2, -, -⟩ := HBS.out.keep hb13
            have KB3 := Lib.hid (KB.out w3 (HD.out.keep hbw))
            clear KB
            go_wp2_with fail
            refine KB3.out.mono ?_; rintro e w4 ⟨vb, rfl, hob, hb4⟩
            obtain ⟨ab, cb, rfl⟩ := rowForm hob.out
            have hb14 := hb13.trans (hb4.mono hb13.size)
            have hbw4 := Hal.out.trans (hb14.mono Hal.out.size)
            clear x1 x2 KB3 hob hb4 hb13 hbw hb3 hb12 hb1 hb2
            obtain ⟨x1, x2, x3, x4⟩ := HBS.out.keep hb14
            have e1 := cell_keep hbw4 E1.out.1
            have e2 := cell_keep hbw4 E1.out.2
            have hk3 := HK3.out
            obtain ⟨W5, hW5⟩ : ∃ W5, w4.alloc (.cells #[.slice ar n1 cr, .slice as' n2 cs] 48) = W5 := ⟨_, rfl⟩
            have BV : BoxV W5 w4.heap.size (.slice ar n1 cr) (.slice as' n2 cs) := by rw [← hW5]; exact new_boxV w4 _ _ _
            have hb5 : Below w4.heap.size w4 W5 := by rw [← hW5]; exact (Below.refl _ _).alloc (Nat.le_refl _) _
            have HBW := Lib.hid (hbw4.trans (hb5.mono hbw4.size))
            have BX := (show Box2 w4 w.heap.size lo hi from ⟨x1, x2, x3, x4⟩).keep hb5
            obtain ⟨v1, v2, v3, v4⟩ := BV
            obtain ⟨y1, y2, -, -⟩ := BX
            clear hb14 hbw4 hb5
            go_wp2_with fail
            go_region_held3 (fun w' => w'.cell? ⟨w4.heap.size, 0, none⟩ = some (.slice ar n1 cr) ∧ w'.cell? ⟨w4.heap.size, 1, none⟩ = some (.slice as' n2 cs) ∧ w'.cell? ⟨w.heap.size, 0, none⟩ = some (.int .i64 lo) ∧ w'.cell? ⟨w.heap.size, 1, none⟩ = some (.int .i64 hi))
              (refine ⟨?_, ?_, ?_, ?_⟩ <;> first | (go_keep; done) | (refine cell_keep hb ?_; first | (go_keep; done) | (go_simp; done) | assumption))
              (first
                | (have _t := tok2; go_at_call 49; refine (KQ.out _ _ R1 S1 _ (HD.out.keep HBY.out) HR2.out HS2.out).mono ?_; rintro e w6 ⟨v6, rfl, ho6, hb⟩)
                | (have _t := tok1; go_at_call 51; refine (C2.out _ HBX.out).mono ?_; rintro e w5' ⟨g2, cap2, rfl, hg2, hs2, hb⟩; have HBY := Lib.hid (HBX.out.trans (hb.mono HBX.out.size)); have HS2 := Lib.hid (spn_of (mrow_own hs2.out).1 (mrow_own hs2.out).2); have HR2 := Lib.hid (HR1.out.keep hb); have tok2 : True := trivial; clear hs2)
                | (go_at_call 50; refine (C1.out _ HBW.out.drew).mono ?_; rintro e w4' ⟨g1, cap1, rfl, hg1, hs1, hb⟩; have HBX := Lib.hid (HBW.out.drew.trans (hb.mono HBW.out.drew.size)); have HR1 := Lib.hid (spn_of (mrow_own hs1.out).1 (mrow_own hs1.out).2); have tok1 : True := trivial; clear hs1))
            have H9 := Lib.hid (ho6.out.wide (lo' := w.heap.size) HBY.out.size)
            have HB9 := Lib.hid (HBY.out.trans (hb.mono HBY.out.size))
            clear ho6 y1 y2 v1 v2 v3 v4
            go_wp2
            exact bodyPost_ret (v := .tuple #[v6, .bool (putT T k (R1, S1)).2]) (by simp [results, Try.results16, go_sem]) rfl ⟨v6, rfl, H9, HB9.out⟩
        · have HC1 : Hid (chT T (k : Int) lo hi (fun x => mx x (wantOf wr)) = (T, false)) := chT_conf hq0 hk hq2 hbr
          have hyl : 0 < (brK (k : Int) (fun i => stB (T.getD i hd0) wr lo hi) 3).length := by
            rcases e : brK (k : Int) (fun i => stB (T.getD i hd0) wr lo hi) 3 with _ | ⟨x, y⟩
            · exact absurd e hbr
            · simp
          generalize brK (k : Int) (fun i => stB (T.getD i hd0) wr lo hi) 3 = Y at *
          clear hq0 hq1 hq2 h h3 hbr
          go_enter Try.func16, Try.ntmps16
          go_wp2_with fail
          clear hW0
          refine K1.out.mono ?_; rintro e w1 ⟨rfl, hb1⟩
          clear K1
          go_wp2_with fail
          refine (K2.out _).mono ?_; rintro e w2 ⟨rfl, hb2⟩
          have hb12 := hb1.trans (hb2.mono hb1.size)
          obtain ⟨x1, x2, -, -⟩ := HBS.out.keep hb12
          clear K2
          go_wp2_with fail
          refine (K3.out _).mono ?_; rintro e w3 ⟨rfl, hb3⟩
          have hb13 := hb12.trans (hb3.mono hb12.size)
          have hbw3 := Hal.out.trans (hb13.mono Hal.out.size)
          clear x1 x2 K3
          obtain ⟨x1, x2, -, -⟩ := HBS.out.keep hb13
          have KB3 := Lib.hid (KB.out w3 (HD.out.keep hbw3))
          clear KB
          go_wp2_with fail
          refine KB3.out.mono ?_; rintro e w4 ⟨vb, rfl, hob, hb4⟩
          obtain ⟨ab, cb, rfl⟩ := rowForm hob.out
          have hb14 := hb13.trans (hb4.mono hb13.size)
          have hbw := Hal.out.trans (hb14.mono Hal.out.size)
          clear x1 x2 KB3 hob hb4 hb13 hbw3 hb3 hb12 hb1 hb2 hb14
          have KQ2 := Lib.hid (KP.out _ (HD.out.keep hbw))
          go_wp2_with fail
          refine KQ2.out.mono ?_; rintro e w9 ⟨v9, rfl, h9, hb9⟩
          have H9 := Lib.hid (h9.out.wide (lo' := w.heap.size) hbw.size)
          have HB9 := Lib.hid (hbw.trans (hb9.mono hbw.size))
          clear h9 hb9 KQ2
          go_wp2
          rw [HC1.out]
          exact bodyPost_ret (v := .tuple #[v9, .bool false]) (by simp [results, Try.results16, go_sem]) rfl ⟨_, rfl, H9, HB9.out⟩
      · have HC1 : Hid (chT T who lo hi (fun x => mx x (wantOf wr)) = (T, false)) := by show _ = _; unfold chT; rw [if_pos hq0, if_neg (by simp [hq1, hq2])]
        replace hq2 : spanOkB lo hi = false := by simpa using hq2
        rw [hq2] at K3
        clear hq0 hq1 hq2 h h3
        go_enter Try.func16, Try.ntmps16
        go_wp2_with fail
        clear hW0
        refine K1.out.mono ?_; rintro e w1 ⟨rfl, hb1⟩
        clear K1
        go_wp2_with fail
        refine (K2.out _).mono ?_; rintro e w2 ⟨rfl, hb2⟩
        have hb12 := hb1.trans (hb2.mono hb1.size)
        obtain ⟨s1, s2, -, -⟩ := HBS.out.keep hb12
        clear K2
        go_wp2_with fail
        refine (K3.out _).mono ?_; rintro e w3 ⟨rfl, hb3⟩
        have hb13 := hb12.trans (hb3.mono hb12.size)
        have hbw := Hal.out.trans (hb13.mono Hal.out.size)
        clear s1 s2 K3 hb1 hb2 hb3 hb12 hb13
        have KQ2 := Lib.hid (KP.out _ (HD.out.keep hbw))
        go_wp2_with fail
        refine KQ2.out.mono ?_; rintro e w9 ⟨v9, rfl, h9, hb9⟩
        have H9 := Lib.hid (h9.out.wide (lo' := w.heap.size) hbw.size)
        have HB9 := Lib.hid (hbw.trans (hb9.mono hbw.size))
        clear h9 hb9 KQ2
        go_wp2
        rw [HC1.out]
        exact bodyPost_ret (v := .tuple #[v9, .bool false]) (by simp [results, Try.results16, go_sem]) rfl ⟨_, rfl, H9, HB9.out⟩
    · have HC1 : Hid (chT T who lo hi (fun x => mx x (wantOf wr)) = (T, false)) := by show _ = _; unfold chT; rw [if_pos hq0, if_neg (by simp [hq1])]
      replace hq1 : whoB who = false := by simpa using hq1
      rw [hq1] at K2
      clear hq0 hq1 h h3 K3
      go_enter Try.func16, Try.ntmps16
      go_wp2_with fail
      clear hW0
      refine K1.out.mono ?_; rintro e w1 ⟨rfl, hb1⟩
      clear K1
      go_wp2_with fail
      refine (K2.out _).mono ?_; rintro e w2 ⟨rfl, hb2⟩
      have hb12 := hb1.trans (hb2.mono hb1.size)
      have hbw := Hal.out.trans (hb12.mono Hal.out.size)
      clear K2 hb1 hb2 hb12
      have KQ2 := Lib.hid (KP.out _ (HD.out.keep hbw))
      go_wp2_with fail
      refine KQ2.out.mono ?_; rintro e w9 ⟨v9, rfl, h9, hb9⟩
      have H9 := Lib.hid (h9.out.wide (lo' := w.heap.size) hbw.size)
      have HB9 := Lib.hid (hbw.trans (hb9.mono hbw.size))
      clear h9 hb9 KQ2
      go_wp2
      rw [HC1.out]
      exact bodyPost_ret (v := .tuple #[v9, .bool false]) (by simp [results, Try.results16, go_sem]) rfl ⟨_, rfl, H9, HB9.out⟩
  · have HC1 : Hid (chT T who lo hi (fun x => mx x (wantOf wr)) = ([], false)) := by show _ = _; unfold chT; rw [if_neg hq0]
    replace hq0 : lockOkB T = false := by simpa using hq0
    rw [hq0] at K1
    clear hq0 h K2 K3
    go_enter Try.func16, Try.ntmps16
    go_wp2_with fail
    clear hW0
    refine K1.out.mono ?_; rintro e w1 ⟨rfl, hb1⟩
    clear K1
    have hbw := Hal.out.trans (hb1.mono Hal.out.size)
    have HB := Lib.hid (hbw.alloc hbw.size (.cells #[] 48))
    go_wp2
    rw [HC1.out]
    exact bodyPost_ret (v := .tuple #[.slice (some ⟨w1.heap.size, 0, none⟩) 0 0, .bool false]) (by simp [results, Try.results16, go_sem]) rfl ⟨_, rfl, Lib.hid (otab_nil _ _ _ _ _ (by unfold maxLen; omega)), HB.out⟩

end Go.Proofs.Ytfifimdaepebeaa
