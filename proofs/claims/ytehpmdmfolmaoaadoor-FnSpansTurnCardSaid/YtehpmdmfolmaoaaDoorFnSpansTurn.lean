/-
  laws.FnSpansTurn returns true at every two codes: the walk of the law. Condition: the table behind math/bits.TrailingZeros64.
-/
import Derived.Test.YtehpmdmfolmaoaaDoorDrawBoth
import Derived.Test.YtehpmdmfolmaoaaDoorWp
import Derived.Test.YtehpmdmfolmaoaaDoorRgoSpn
import Derived.Test.YtehpmdmfolmaoaaDoorTurnMath
namespace Go.Proofs.YtehpmdmfolmaoaaDoor.fnSpansTurn
open Go.RowKit

set_option maxRecDepth 100000 in
set_option maxHeartbeats 4000000 in
theorem walk (v0 : Value) (len : Nat) (v1 : Value) (len2 : Nat) (w : World) (h : Byt w v0 len) (h' : Byt w v1 len2) (hT : TabAt w) (hg0 : 0 < w.heap.size) :
    Calls Tryd.prog 7 #[v0, v1] w fun e w' => e = .returned (.bool true) ∧ Below w.heap.size w w' := by
  have HB := Lib.hid h
  have HB' := Lib.hid h'
  have HT := Lib.hid hT
  have hlen : len ≤ 9223372036854775807 := by obtain ⟨z, a, cap, -, h1, h2, -⟩ := h; unfold maxLen at h2; omega
  have hlen2 : len2 ≤ 9223372036854775807 := by obtain ⟨z, a, cap, -, h1, h2, -⟩ := h'; unfold maxLen at h2; omega
  obtain ⟨z, a, cap, rfl, -, -, -⟩ := h
  obtain ⟨z', a', cap', rfl, -, -, -⟩ := h'
  clear hT
  by_cases hL : len ≤ 1048576
  · by_cases hL2 : len2 ≤ 1048576
    · go_enter Tryd.func7, Tryd.ntmps7
      go_wp2_with fail
      refine (drawSpansAdd_any _ len _ HB.out).mono ?_; rintro e w1 ⟨g, cap1, L, lo, hi, rfl, hs1, hL13, -, hb1⟩
      have hal : Below w1.heap.size w1 (w1.alloc (.cells #[.int .i64 lo, .int .i64 hi] 25)) := (Below.refl _ _).alloc (Nat.le_refl _) _
      have ks := new_box w1 lo hi 25
      have HS1 := Lib.hid (hs1.keep hal)
      have HT1 := Lib.hid ((HT.out.keep hb1).keep hal)
      have HB1 := Lib.hid (byt_keep (byt_keep HB'.out hb1) hal)
      have E1 := hb1.trans (hal.mono hb1.size)
      generalize hBs : w1.heap.size = Bs at *
      clear hs1 hb1 hal HT HB
      go_wp2_with fail
      refine (drawSpansCut_any _ len2 _ HB1.out).mono ?_; rintro e w2 ⟨g2, cap2, L2, lo2, hi2, rfl, -, -, -, hb2⟩
      have hal2 : Below w2.heap.size w2 (w2.alloc (.cells #[.int .i64 lo2, .int .i64 hi2] 25)) := (Below.refl _ _).alloc (Nat.le_refl _) _
      have kt2 := new_box w2 lo2 hi2 25
      have ks2 := (ks.keep hb2).keep hal2
      have HS2 := Lib.hid ((HS1.out.keep hb2).keep hal2)
      have HT2 := Lib.hid ((HT1.out.keep hb2).keep hal2)
      have E2 := E1.trans (hb2.mono E1.size)
      have E2' := E2.trans (hal2.mono E2.size)
      generalize hBt : w2.heap.size = Bt at *
      clear hb2 hal2 HB1 HB' ks HS1 HT1
      obtain ⟨x1, x2, -, -⟩ := id ks2
      obtain ⟨x3, x4, -, -⟩ := id kt2
      have hlen12 := setL_len12 (addF L lo hi) L lo hi
      generalize hA : setL (addF L lo hi) L lo hi = A at *
      have HA := Lib.hid hA
      have heA := Lib.hid (eqB_refl A)
      generalize hoL : spansOkB L = o at *
      have HoL := Lib.hid hoL
      generalize hps : spanOkB lo hi = ps at *
      have HPS := Lib.hid hps
      generalize hpt : spanOkB lo2 hi2 = pt at *
      have HPT := Lib.hid hpt
      clear hoL hps hpt
      go_wp2_with fail
      refine (implSpansAdd_any _ L lo hi _ HS2.out HT2.out (Nat.lt_of_lt_of_le hg0 E2'.size)).mono ?_; rintro e w3 hr; obtain ⟨x, rfl, hx, hb3⟩ := hr.spn
      rw [HA.out] at hx
      have E2x := E2'
      have HX3 := Lib.hid hx
      obtain ⟨xa, xc, rfl, xc1, xc2⟩ := hx.form
      clear hx hr
      have HS3 := Lib.hid (HS2.out.keep hb3)
      have HT3 := Lib.hid (HT2.out.keep hb3)
      have ks3 := ks2.keep hb3
      have kt3 := kt2.keep hb3
      have E3 := E2'.trans (hb3.mono E2'.size)
      clear x1 x2 x3 x4 HS2 HT2 ks2 kt2 hb3 E2x
      obtain ⟨x1, x2, -, -⟩ := id ks3
      obtain ⟨x3, x4, -, -⟩ := id kt3
      go_wp2_with fail
      refine (specSpansAdd_any _ L lo hi _ HS3.out).mono ?_; rintro e w4 hr; obtain ⟨u, rfl, hu, hb4⟩ := hr.spn
      rw [HA.out] at hu
      clear hr
      have HS4 := Lib.hid (HS3.out.keep hb4)
      have HX4 := Lib.hid (HX3.out.keep hb4)
      have HT4 := Lib.hid (HT3.out.keep hb4)
      have ks4 := ks3.keep hb4
      have kt4 := kt3.keep hb4
      have E4 := E3.trans (hb4.mono E3.size)
      clear x1 x2 x3 x4
      clear hb4 HS3 HX3 HT3
      obtain ⟨x1, x2, -, -⟩ := id ks4
      obtain ⟨x3, x4, -, -⟩ := id kt4
      clear ks3 kt3
      go_wp2_with fail
      refine (wpSpans_any _ _ A A _ HX4.out hu).mono ?_; rintro e w5 ⟨rfl, hb5⟩
      rw [heA.out]
      clear hu
      have HS5 := Lib.hid (HS4.out.keep hb5)
      have HX5 := Lib.hid (HX4.out.keep hb5)
      have HT5 := Lib.hid (HT4.out.keep hb5)
      have ks5 := ks4.keep hb5
      have kt5 := kt4.keep hb5
      have E5 := E4.trans (hb5.mono E4.size)
      clear x1 x2 x3 x4
      clear hb5 HS4 HX4 HT4
      obtain ⟨x1, x2, -, -⟩ := id ks5
      obtain ⟨x3, x4, -, -⟩ := id kt5
      clear ks4 kt4
      go_wp2_with fail
      refine (specSpansOk_any _ L _ HS5.out).mono ?_; rintro e w6 ⟨rfl, hb6⟩
      rw [HoL.out]
      have HS6 := Lib.hid (HS5.out.keep hb6)
      have HX6 := Lib.hid (HX5.out.keep hb6)
      have HT6 := Lib.hid (HT5.out.keep hb6)
      have ks6 := ks5.keep hb6
      have kt6 := kt5.keep hb6
      have E6 := E5.trans (hb6.mono E5.size)
      clear x1 x2 x3 x4
      clear hb6 HS5 HX5 HT5
      obtain ⟨x1, x2, -, -⟩ := id ks6
      obtain ⟨x3, x4, -, -⟩ := id kt6
      clear ks5 kt5
      cases o
      · skip
        go_wp2_with fail
        refine (specSpansAdd_any _ L lo hi _ HS6.out).mono ?_; rintro e wa hr; obtain ⟨u, rfl, hu, hba⟩ := hr.spn
        rw [HA.out] at hu
        have Ea := E6.trans (hba.mono E6.size)
        have HXa := Lib.hid (HX6.out.keep hba)
        clear hr
        go_wp2_with fail
        refine (wpSpans_any _ _ A A _ HXa.out hu).mono ?_; rintro e wb ⟨rfl, hbb⟩
        rw [heA.out]
        go_wp2
        go_ret
        exact ⟨rfl, Ea.trans (hbb.mono Ea.size)⟩
      · by_cases h9 : (9 : Int) < (L.length : Int)
        · skip
          go_wp2_with fail
          refine (specSpansAdd_any _ L lo hi _ HS6.out).mono ?_; rintro e wa hr; obtain ⟨u, rfl, hu, hba⟩ := hr.spn
          rw [HA.out] at hu
          have Ea := E6.trans (hba.mono E6.size)
          have HXa := Lib.hid (HX6.out.keep hba)
          clear hr
          go_wp2_with fail
          refine (wpSpans_any _ _ A A _ HXa.out hu).mono ?_; rintro e wb ⟨rfl, hbb⟩
          rw [heA.out]
          go_wp2
          go_ret
          exact ⟨rfl, Ea.trans (hbb.mono Ea.size)⟩
        · skip
          go_wp2_with fail
          refine (specSpanOk_any lo hi _).mono ?_; rintro e w7 ⟨rfl, hb7⟩
          rw [HPS.out]
          have HS7 := Lib.hid (HS6.out.keep hb7)
          have HX7 := Lib.hid (HX6.out.keep hb7)
          have HT7 := Lib.hid (HT6.out.keep hb7)
          have ks7 := ks6.keep hb7
          have kt7 := kt6.keep hb7
          have E7 := E6.trans (hb7.mono E6.size)
          clear x1 x2 x3 x4
          clear hb7 HS6 HX6 HT6
          obtain ⟨x1, x2, -, -⟩ := id ks7
          obtain ⟨x3, x4, -, -⟩ := id kt7
          clear ks6 kt6
          cases ps
          · skip
            go_wp2_with fail
            refine (specSpansAdd_any _ L lo hi _ HS7.out).mono ?_; rintro e wa hr; obtain ⟨u, rfl, hu, hba⟩ := hr.spn
            rw [HA.out] at hu
            have Ea := E7.trans (hba.mono E7.size)
            have HXa := Lib.hid (HX7.out.keep hba)
            clear hr
            go_wp2_with fail
            refine (wpSpans_any _ _ A A _ HXa.out hu).mono ?_; rintro e wb ⟨rfl, hbb⟩
            rw [heA.out]
            go_wp2
            go_ret
            exact ⟨rfl, Ea.trans (hbb.mono Ea.size)⟩
          · skip
            go_wp2_with fail
            refine (specSpanOk_any lo2 hi2 _).mono ?_; rintro e w8 ⟨rfl, hb8⟩
            rw [HPT.out]
            have HS8 := Lib.hid (HS7.out.keep hb8)
            have HX8 := Lib.hid (HX7.out.keep hb8)
            have HT8 := Lib.hid (HT7.out.keep hb8)
            have ks8 := ks7.keep hb8
            have kt8 := kt7.keep hb8
            have E8 := E7.trans (hb8.mono E7.size)
            clear x1 x2 x3 x4
            clear hb8 HS7 HX7 HT7
            obtain ⟨x1, x2, -, -⟩ := id ks8
            obtain ⟨x3, x4, -, -⟩ := id kt8
            clear ks7 kt7
            cases pt
            · skip
              go_wp2_with fail
              refine (specSpansAdd_any _ L lo hi _ HS8.out).mono ?_; rintro e wa hr; obtain ⟨u, rfl, hu, hba⟩ := hr.spn
              rw [HA.out] at hu
              have Ea := E8.trans (hba.mono E8.size)
              have HXa := Lib.hid (HX8.out.keep hba)
              clear hr
              go_wp2_with fail
              refine (wpSpans_any _ _ A A _ HXa.out hu).mono ?_; rintro e wb ⟨rfl, hbb⟩
              rw [heA.out]
              go_wp2
              go_ret
              exact ⟨rfl, Ea.trans (hbb.mono Ea.size)⟩
            · skip
              have qa := add_turn HoL.out HPS.out HPT.out (by omega)
              have qc := cut_turn HoL.out HPS.out HPT.out (by omega)
              unfold ad at qa
              unfold cu at qc
              rw [HA.out] at qa
              have QA := Lib.hid qa
              have QC := Lib.hid qc
              clear qa qc
              go_wp2_with fail
              go_region_held3 (fun w' => w'.cell? ⟨Bs, 0, none⟩ = some (.int .i64 lo) ∧ w'.cell? ⟨Bs, 1, none⟩ = some (.int .i64 hi) ∧ w'.cell? ⟨Bt, 0, none⟩ = some (.int .i64 lo2) ∧ w'.cell? ⟨Bt, 1, none⟩ = some (.int .i64 hi2))
                (refine ⟨?_, ?_, ?_, ?_⟩ <;> first | (go_keep; done) | (refine cell_keep hb ?_; first | (go_keep; done) | (go_simp; done)))
                (first
                  | (go_at_call 12; refine (implSpansAdd_any _ _ lo hi _ HP9.out HTx.out (Nat.lt_of_lt_of_le (Nat.lt_of_lt_of_le hg0 E8.size) hbW.size)).mono ?_; rintro e w9 hr; obtain ⟨yw9, rfl, hx, hb⟩ := hr.spn; have HY9 := Lib.hid hx; obtain ⟨yaw9, ycw9, rfl, -, -⟩ := hx.form; have hbW2 := hbW.trans (hb.mono hbW.size); clear hx hr)
                  | (go_at_call 12; refine (implSpansAdd_any _ L lo2 hi2 _ (HS8.out.keep (Below.refl _ _).drew) (HT8.out.keep (Below.refl _ _).drew) (Nat.lt_of_lt_of_le hg0 E8.size)).mono ?_; rintro e wx9 hr; obtain ⟨ywx9, rfl, hx, hb⟩ := hr.spn; have HP9 := Lib.hid hx; obtain ⟨yawx9, ycwx9, rfl, -, -⟩ := hx.form; have HTx := Lib.hid ((HT8.out.keep (Below.refl _ _).drew).keep hb); have hbW := (Below.drew (Below.refl _ _)).trans hb; clear hx hr))
              have hb9 : Below w8.heap.size w8 w9 := hbW2
              clear hbW hbW2 HTx HP9
              have HS9 := Lib.hid (HS8.out.keep hb9)
              have HX9 := Lib.hid (HX8.out.keep hb9)
              have HT9 := Lib.hid (HT8.out.keep hb9)
              have ks9 := ks8.keep hb9
              have kt9 := kt8.keep hb9
              have E9 := E8.trans (hb9.mono E8.size)
              clear x1 x2 x3 x4
              clear hb9 HS8 HX8 HT8
              obtain ⟨x1, x2, -, -⟩ := id ks9
              obtain ⟨x3, x4, -, -⟩ := id kt9
              clear ks8 kt8
              go_wp2_with fail
              go_region_held3 (fun w' => w'.cell? ⟨Bs, 0, none⟩ = some (.int .i64 lo) ∧ w'.cell? ⟨Bs, 1, none⟩ = some (.int .i64 hi) ∧ w'.cell? ⟨Bt, 0, none⟩ = some (.int .i64 lo2) ∧ w'.cell? ⟨Bt, 1, none⟩ = some (.int .i64 hi2))
                (refine ⟨?_, ?_, ?_, ?_⟩ <;> first | (go_keep; done) | (refine cell_keep hb ?_; first | (go_keep; done) | (go_simp; done)))
                (first
                  | (go_at_call 21; refine (implSpansCut_any _ _ lo hi _ HP10.out HTx.out (Nat.lt_of_lt_of_le (Nat.lt_of_lt_of_le hg0 E9.size) hbW.size)).mono ?_; rintro e w10 hr; obtain ⟨yw10, rfl, hx, hb⟩ := hr.spn; have HZ10 := Lib.hid hx; obtain ⟨yaw10, ycw10, rfl, -, -⟩ := hx.form; have hbW2 := hbW.trans (hb.mono hbW.size); clear hx hr)
                  | (go_at_call 21; refine (implSpansCut_any _ L lo2 hi2 _ (HS9.out.keep (Below.refl _ _).drew) (HT9.out.keep (Below.refl _ _).drew) (Nat.lt_of_lt_of_le hg0 E9.size)).mono ?_; rintro e wx10 hr; obtain ⟨ywx10, rfl, hx, hb⟩ := hr.spn; have HP10 := Lib.hid hx; obtain ⟨yawx10, ycwx10, rfl, -, -⟩ := hx.form; have HTx := Lib.hid ((HT9.out.keep (Below.refl _ _).drew).keep hb); have hbW := (Below.drew (Below.refl _ _)).trans hb; clear hx hr))
              have hb10 : Below w9.heap.size w9 w10 := hbW2
              clear hbW hbW2 HTx HP10
              have HY10 := Lib.hid (HY9.out.keep hb10)
              have HS10 := Lib.hid (HS9.out.keep hb10)
              have HX10 := Lib.hid (HX9.out.keep hb10)
              have HT10 := Lib.hid (HT9.out.keep hb10)
              have ks10 := ks9.keep hb10
              have kt10 := kt9.keep hb10
              have E10 := E9.trans (hb10.mono E9.size)
              clear x1 x2 x3 x4
              clear hb10 HS9 HX9 HT9
              obtain ⟨x1, x2, -, -⟩ := id ks10
              obtain ⟨x3, x4, -, -⟩ := id kt10
              clear ks9 kt9
              go_wp2_with fail
              go_region_held3 (fun w' => w'.cell? ⟨Bs, 0, none⟩ = some (.int .i64 lo) ∧ w'.cell? ⟨Bs, 1, none⟩ = some (.int .i64 hi) ∧ w'.cell? ⟨Bt, 0, none⟩ = some (.int .i64 lo2) ∧ w'.cell? ⟨Bt, 1, none⟩ = some (.int .i64 hi2))
                (refine ⟨?_, ?_, ?_, ?_⟩ <;> first | (go_keep; done) | (refine cell_keep hb ?_; first | (go_keep; done) | (go_simp; done)))
                (first
                  | (go_at_call 13; refine (wpSpans_any _ _ _ _ _ HW.out HZy.out).mono ?_; rintro e wz ⟨rfl, hb⟩; rw [eqB_refl]; have hbZ := hbY.trans (hb.mono hbY.size))
                  | (go_at_call 21; refine (implSpansCut_any _ _ lo2 hi2 _ HV.out HTw.out (Nat.lt_of_lt_of_le (Nat.lt_of_lt_of_le hg0 E10.size) hbX.size)).mono ?_; rintro e wy hr; obtain ⟨ywy, rfl, hx, hb⟩ := hr.spn; rw [QC.out] at hx; have HW := Lib.hid hx; obtain ⟨yawy, ycwy, rfl, -, -⟩ := hx.form; have HZy := Lib.hid (HZw.out.keep hb); have hbY := hbX.trans (hb.mono hbX.size); clear hx hr)
                  | (go_at_call 21; refine (implSpansCut_any _ L lo hi _ HSv.out HTv.out (Nat.lt_of_lt_of_le (Nat.lt_of_lt_of_le hg0 E10.size) hbV.size)).mono ?_; rintro e ww hr; obtain ⟨yww, rfl, hx, hb⟩ := hr.spn; have HV := Lib.hid hx; obtain ⟨yaww, ycww, rfl, -, -⟩ := hx.form; have HTw := Lib.hid (HTv.out.keep hb); have HZw := Lib.hid (HZv.out.keep hb); have hbX := hbV.trans (hb.mono hbV.size); clear hx hr)
                  | (go_at_call 13; refine (wpSpans_any _ _ _ _ _ HU.out HYu.out).mono ?_; rintro e wv ⟨rfl, hb⟩; rw [eqB_refl]; have HSv := Lib.hid (HSu.out.keep hb); have HTv := Lib.hid (HTu.out.keep hb); have HZv := Lib.hid (HZu.out.keep hb); have hbV := hbU.trans (hb.mono hbU.size))
                  | (go_at_call 12; refine (implSpansAdd_any _ A lo2 hi2 _ (HX10.out.keep (Below.refl _ _).drew) (HT10.out.keep (Below.refl _ _).drew) (Nat.lt_of_lt_of_le hg0 E10.size)).mono ?_; rintro e wu hr; obtain ⟨ywu, rfl, hx, hb⟩ := hr.spn; rw [QA.out] at hx; have HU := Lib.hid hx; obtain ⟨yawu, ycwu, rfl, -, -⟩ := hx.form; have HSu := Lib.hid ((HS10.out.keep (Below.refl _ _).drew).keep hb); have HTu := Lib.hid ((HT10.out.keep (Below.refl _ _).drew).keep hb); have HYu := Lib.hid ((HY10.out.keep (Below.refl _ _).drew).keep hb); have HZu := Lib.hid ((HZ10.out.keep (Below.refl _ _).drew).keep hb); have hbU := (Below.drew (Below.refl _ _)).trans hb; clear hx hr))
              clear x1 x2 x3 x4
              go_wp2
              go_ret
              exact ⟨rfl, E10.trans (hbZ.mono E10.size)⟩
    · go_enter Tryd.func7, Tryd.ntmps7
      go_wp2
      go_ret
      exact ⟨rfl, Below.refl _ _⟩
  · go_enter Tryd.func7, Tryd.ntmps7
    go_wp2
    go_ret
    exact ⟨rfl, Below.refl _ _⟩

end Go.Proofs.YtehpmdmfolmaoaaDoor.fnSpansTurn
