/-
  laws.FnLayText returns true at every code: the walk of the law. No condition.
-/
import Derived.Test.YtdlofeemeeabjaaDrawLayOf
import Derived.Test.YtdlofeemeeabjaaImplLof
import Derived.Test.YtdlofeemeeabjaaStrEq
import Derived.Test.YtdlofeemeeabjaaLofLaws
import Derived.Test.YtdlofeemeeabjaaLtLaws
import Derived.Test.YtdlofeemeeabjaaImplLt
import Derived.Deep.QuietTactic
import Derived.BigQuiet
namespace Go.Proofs.Ytdlofeemeeabjaa.fnLayText
open Go.RowKit

theorem vls_form {w : World} {v : Value} {n : Nat} {f : Nat → Value} (h : Vls w v n f) : ∃ a cap, v = .slice a n cap := by
  obtain ⟨a, cap, hv, -⟩ := h; exact ⟨a, cap, hv⟩
theorem objs_form (size many : Int) (l : List UInt8) (hl : l.length ≤ 9000000) : ∃ (m : Nat) (S : Nat → List UInt8), (loL size many l).length = m ∧ (∀ i, i < m → (loL size many l).getD i [] = S i) ∧ m ≤ 3 ∧ (∀ i, (S i).length ≤ 48) ∧
    (layOkB size many = true ∧ tokB l = true → (m : Int) = many ∧ S = obS size many l) ∧ (¬ (layOkB size many = true ∧ tokB l = true) → m = 0) := by
  by_cases h : layOkB size many = true ∧ tokB l = true
  · obtain ⟨hy, ht⟩ := h
    obtain ⟨c1, c2, c3, c4⟩ := layOkB_iff.1 hy
    refine ⟨many.toNat, obS size many l, loL_len hy ht, fun i hi => loL_get hy ht hi, by omega, fun i => ?_, fun _ => ⟨by omega, rfl⟩, fun h => absurd ⟨hy, ht⟩ h⟩
    have := loF_len (size := size) (many := many) (l := l) (o := i) l.length
    have := tokB_len ht
    unfold obS; omega
  · have : loL size many l = [] := if_neg h
    exact ⟨0, fun _ => [], by rw [this]; rfl, fun i hi => absurd hi (by omega), by omega, fun i => by simp, fun k => absurd k h, fun _ => rfl⟩

set_option maxRecDepth 100000 in
set_option maxHeartbeats 8000000 in
theorem walk (v : Value) (len : Nat) (w : World) (h : Byt w v len) :
    Calls Try.prog 3 #[v] w fun e w' => e = .returned (.bool true) ∧ Below w.heap.size w w' := by
  have HB := Lib.hid h
  have hlen : len ≤ 9223372036854775807 := by obtain ⟨z, a, cap, -, h1, h2, -⟩ := h; unfold maxLen at h2; omega
  obtain ⟨z, a, cap, rfl, -, -, -⟩ := h
  obtain ⟨i0, hi, hz0, hz1, hz2⟩ := info_parts infoInt
  have HI0 : Hid (Try.prog.info? 3 = some i0 ∧ i0.zero = some (.int .i64 0) ∧ i0.size = 1 ∧ i0.bytes = 8) := ⟨hi, hz0, hz1, hz2⟩
  clear hi hz0 hz1 hz2
  by_cases hL : len ≤ 1048576
  · go_enter Try.func3, Try.ntmps3
    go_wp2_with fail
    refine (drawLayOf_any _ len _ HB.out).mono ?_; rintro e w1 ⟨size, many, l, rfl, hl, hb1⟩
    have kl := new_box w1 size many 24
    have hal1 : Below w1.heap.size w1 (w1.alloc (.cells #[.int .i64 size, .int .i64 many] 24)) := (Below.refl _ _).alloc (Nat.le_refl _) _
    have e1 := hb1.trans (hal1.mono hb1.size)
    obtain ⟨m, S, hLm, hLS, hm3, hS48, hval, hinv⟩ := objs_form size many l (by omega)
    obtain ⟨L, hLl⟩ : ∃ L, loL size many l = L := ⟨_, rfl⟩
    have H1 : Hid (∀ X, Calls Try.prog 8 #[.agg #[.int .i64 size, .int .i64 many], .string (mkB l)] X (RgS X L)) := fun X => by rw [← hLl]; exact implLayOf_any size many l (by omega) X
    have H2 : Hid (∀ X, Calls Try.prog 9 #[.agg #[.int .i64 size, .int .i64 many], .string (mkB l)] X (RgS X L)) := fun X => by rw [← hLl]; exact specLayOf_any size many l (by omega) X
    have H3 := Lib.hid (fun W => specLayOk_any size many W)
    have htk := fun W => specTextOk_any (mkB l) (by rw [mkB_size]; omega) W
    rw [mkB_toList] at htk
    have H4 := Lib.hid htk
    rw [hLl] at hLm hLS
    have HV : Hid (∀ (W : World) (B : Nat) (v : Value), W.ownsRow B 9 1 v L.length (strs L) → Vls W v m (sF S)) := fun W B v ho => by
      have := own_strs rfl ho
      rw [hLm] at this
      exact this.congr fun i hi => by rw [hLS i hi]
    have HVAL := Lib.hid hval
    have HINV := Lib.hid hinv
    have HS48 := Lib.hid hS48
    have zl : (mkB l).size = l.length := mkB_size l
    clear htk hLl hLm hLS hval hinv hS48
    obtain ⟨x1, x2, -, -⟩ := id kl
    go_wp2_with fail
    refine (H1.out _).mono ?_; rintro e w2 ⟨v1, rfl, ho2, hb2⟩
    have e2 := e1.trans (hb2.mono e1.size)
    have P2 := Lib.hid (HV.out _ _ _ ho2.out)
    have kl2 := kl.keep hb2
    clear x1 x2 ho2 hb2 kl hal1 hb1 e1 H1
    obtain ⟨x1, x2, -, -⟩ := id kl2
    go_wp2_with fail
    refine (H2.out _).mono ?_; rintro e w3 ⟨v2, rfl, ho3, hb3⟩
    have e3 := e2.trans (hb3.mono e2.size)
    have P3 := Lib.hid (P2.out.keep hb3)
    have Q3 := Lib.hid (HV.out _ _ _ ho3.out)
    have kl3 := kl2.keep hb3
    have K3 := Lib.hid kl3
    have E3 := Lib.hid e3
    obtain ⟨a1, c1, rfl⟩ := vls_form P3.out
    obtain ⟨a2, c2, rfl⟩ := vls_form Q3.out
    clear x1 x2 ho3 hb3 kl2 P2 e2 H2 HV e3 kl3
    have hN0 : Hid ((w3.alloc (.cells #[] 3)).ownsRow w3.heap.size 3 1 (.slice (some ⟨w3.heap.size, 0, none⟩) 0 0) 0 (lenV S 0)) := new_row1 w3 3 (Nat.le_refl _)
    have hb0 : Below w3.heap.size w3 (w3.alloc (.cells #[] 3)) := (Below.refl _ _).alloc (Nat.le_refl _) _
    have hs0 : sumN S 0 = 0 := rfl
    go_wp2_with fail
    go_loopg [7, 8, 9] m (fun q s7 s8 s9 wr => ∃ k g cp x : Nat, q = m - k ∧ k ≤ m ∧ s9 = .int .i64 k ∧ s8 = .int .i64 (x : Int) ∧ Hid (x = sumN S k) ∧ x ≤ k * 48 ∧ s7 = .slice (some ⟨g, 0, none⟩) k cp ∧ Hid (wr.ownsRow w3.heap.size 3 1 (.slice (some ⟨g, 0, none⟩) k cp) k (lenV S k)) ∧ Below w3.heap.size w3 wr)
    case atStart => exact ⟨0, _, _, 0, rfl, Nat.zero_le _, rfl, rfl, hs0.symm, by omega, rfl, hN0, hb0⟩
    case round =>
      obtain ⟨k, g, cp, x, rfl, hk, rfl, rfl, HX, hx48, rfl, HO, hb⟩ := hrel
      clear hN0 hb0 hs0
      by_cases hlt : k < m
      · obtain ⟨aP, capP, eP, hP1, hP2, hPc⟩ := P3.out
        obtain ⟨b1, o1, rfl, hc1⟩ := hPc (by omega)
        obtain ⟨aQ, capQ, eQ, hQ1, hQ2, hQc⟩ := Q3.out
        obtain ⟨b2, o2, rfl, hc2⟩ := hQc (by omega)
        injection eP with eP1 eP2 eP3
        injection eQ with eQ1 eQ2 eQ3
        subst eP1 eQ1 eP3 eQ3
        have y1 : wr.cell? ⟨b1, o1 + k, none⟩ = some (.string (mkB (S k))) := cell_keep hb (hc1 k hlt)
        have hc1k : w3.cell? ⟨b1, o1 + k, none⟩ = some (.string (mkB (S k))) := hc1 k hlt
        have HC1 := Lib.hid hc1k
        clear hc1k
        have y2 : wr.cell? ⟨b2, o2 + k, none⟩ = some (.string (mkB (S k))) := cell_keep hb (hc2 k hlt)
        have q1 : ((mkB (S k)).toList == (mkB (S k)).toList) = true := by simp
        have j0 : (0 : Int) ≤ (k : Int) := by omega
        have j1 : (k : Int) < (m : Int) := by omega
        have zz : (mkB (S k)).size = (S k).length := mkB_size _
        have hl48 := HS48.out k
        have HLS := Lib.hid (lenV_succ S k)
        have HSM : Hid (x + (S k).length = sumN S (k + 1)) := by show _ = sumN S k + _; rw [HX.out]
        clear hc1 hc2 hPc hQc hP1 hP2 hQ1 hQ2 eP2 eQ2 HX
        generalize S k = D at *
        go_wp2_with fail
        go_quiet (fail)
        rename_i nq
        have hbq : Below wr.heap.size wr (wr.drewN nq) := ⟨rfl, rfl, rfl, Nat.le_refl _, fun _ _ => rfl⟩
        obtain ⟨wq, hwq⟩ : ∃ X, wr.drewN nq = X := ⟨_, rfl⟩
        rw [hwq] at hbq ⊢
        clear hwq
        have HOq := Lib.hid (own_below1 HO.out hbq)
        have hbw := hb.trans (hbq.mono hb.size)
        have y1q := cell_keep hbq y1
        have hws := hbw.size
        clear HO hb hbq y1 y2 q1
        go_wp2_with (at_builtin; go_must (refine wpList_append_own _ rfl _ _ 29 rfl w3.heap.size 3 i0 (.int .i64 0) 1 8 Try.underlying29 HI0.out.1 HI0.out.2.1 HI0.out.2.2.1 HI0.out.2.2.2 rfl (by decide) _ _ _ rfl (HOq.out.alloc _) ⟨wq.heap.size, 0, none⟩ 1 1 [.int .i64 (D.length : Int)] rfl rfl ?c1 ?c2 ?c3 ?c4 ?c5 ?_))
        case c1 => exact one_new _ _ _
        case c2 => simp [Value.oneCell']
        case c3 => unfold maxLen; omega
        case c4 => omega
        case c5 => simp; omega
        intro v' w9 hown' hgrow _
        obtain ⟨g', cap', rfl⟩ := own_succ1 hown'
        have HO1 : Hid (w9.ownsRow w3.heap.size 3 1 (.slice (some ⟨g', 0, none⟩) (k + 1) cap') (k + 1) (lenV S (k + 1))) := by show World.ownsRow _ _ _ _ _ _ _; rw [HLS.out]; exact hown'
        have hb9 := (hbw.alloc hbw.size (.cells #[.int .i64 (D.length : Int)] 3)).grown hgrow (by have := hbw.size; simp; omega) (fun q e => (HOq.out.lt q e).1)
        have y1r : w9.cell? ⟨b1, o1 + k, none⟩ = some (.string (mkB D)) := cell_keep hb9 HC1.out
        clear hown' hgrow HOq y1q
        go_wp2
        go_roundg (m - (k + 1))
        case measure => omega
        case rel => exact ⟨k + 1, g', cap', x + D.length, rfl, by omega, by go_num, by go_num, HSM, by omega, rfl, HO1, hb9⟩
      · obtain rfl : k = m := by omega
        have hv := lenV_vls HO.out
        have HV := Lib.hid hv
        have P9 := Lib.hid (P3.out.keep hb)
        have k9 := K3.out.keep hb
        have K9 := Lib.hid k9
        have e9 := E3.out.trans (hb.mono E3.out.size)
        have HE9 := Lib.hid e9
        clear hv HO P3 Q3 K3 E3 hb e9 HI0
        obtain ⟨x1, x2, -, -⟩ := id k9
        by_cases hy : layOkB size many = true
        · rw [hy] at H3
          go_wp2_with fail
          refine (H3.out _).mono ?_; rintro e w4 ⟨rfl, hb4⟩
          have P4 := Lib.hid (P9.out.keep hb4)
          have V4 := Lib.hid (HV.out.keep hb4)
          have K4 := Lib.hid (K9.out.keep hb4)
          have E4 := Lib.hid (HE9.out.trans (hb4.mono HE9.out.size))
          clear x1 x2 k9 P9 HV K9 HE9 hb4 H3
          by_cases ht : tokB l = true
          · rw [ht] at H4
            obtain ⟨hmm, hSo⟩ := HVAL.out ⟨hy, ht⟩
            subst hSo
            have hl48 := tokB_len ht
            have hN := ltN_obs hmm hy hl48 (l := l)
            have hok := ltB_ok (ltK_obs ht k) (show 0 ≤ ltN size many (obS size many l) k by omega)
            have hS := ltS_yes hok
            rw [hN, Int.toNat_natCast, lt_back hy] at hS
            have HI := Lib.hid (fun W u hu => implLayText_any size many u k (obS size many l) W hu (fun i _ => by have := HS48.out i; omega) (by omega))
            rw [hS, hok] at HI
            have HLL := Lib.hid (fun W u hu => implLayLong_any size many u k (lens (obS size many l)) W hu)
            have hLn : llF size many k (lens (obS size many l)) = (l.length : Int) := hN
            rw [hLn] at HLL
            have hxl : x = l.length := by rw [HX.out]; exact sumN_obs hmm hy
            have HZ := Lib.hid hmm
            have q1 : ((mkB l).toList == (mkB l).toList) = true := by simp
            subst hxl
            clear hN hok hS hLn hmm HX HVAL HINV hy ht
            obtain ⟨x1, x2, -, -⟩ := id K4.out
            go_wp2_with fail
            refine (H4.out _).mono ?_; rintro e w5 ⟨rfl, rfl⟩
            go_wp2_with fail
            refine (HI.out _ _ P4.out).mono ?_; rintro e w6 ⟨rfl, hb6⟩
            have V6 := Lib.hid (V4.out.keep hb6)
            have K6 := Lib.hid (K4.out.keep hb6)
            have E6 := Lib.hid (E4.out.trans (hb6.mono E4.out.size))
            clear x1 x2 P4 V4 K4 E4 hb6
            obtain ⟨x1, x2, -, -⟩ := id K6.out
            go_wp2_with fail
            refine (HLL.out _ _ V6.out).mono ?_; rintro e w7 ⟨rfl, hb7⟩
            have e7 := E6.out.trans (hb7.mono E6.out.size)
            go_wp2
            go_ret
            exact ⟨rfl, e7⟩
          · replace ht : tokB l = false := by simpa using ht
            have hm0 : k = 0 := HINV.out (fun c => by rw [ht] at c; exact absurd c.2 (by simp))
            rw [ht] at H4
            subst hm0
            go_wp2_with fail
            refine (H4.out _).mono ?_; rintro e w5 ⟨rfl, rfl⟩
            go_wp2
            go_ret
            exact ⟨rfl, E4.out⟩
        · replace hy : layOkB size many = false := by simpa using hy
          have hm0 : k = 0 := HINV.out (fun c => by rw [hy] at c; exact absurd c.1 (by simp))
          rw [hy] at H3
          subst hm0
          go_wp2_with fail
          refine (H3.out _).mono ?_; rintro e w4 ⟨rfl, hb4⟩
          have e4 := HE9.out.trans (hb4.mono HE9.out.size)
          go_wp2
          go_ret
          exact ⟨rfl, e4⟩
  · go_enter Try.func3, Try.ntmps3
    go_wp2
    go_ret
    exact ⟨rfl, Below.refl _ _⟩

end Go.Proofs.Ytdlofeemeeabjaa.fnLayText
