/-
  laws.FnExactStoreNew returns true: the walk of the law. No condition.
-/
import Derived.Test.YtamhndnfaaifcaaStoOk
import Derived.Test.YtamhndnfaaifcaaStoBox
import Derived.Test.YtamhndnfaaifcaaStoNew
namespace Go.Proofs.Ytamhndnfaaifcaa.exStoreNew
open Go.RowKit

/-- Where a mark ends. -/
def mkEnd (N : N5) : Int := ((1 : Nat) : Int) + N.a + N.b + N.c + N.d + N.e
theorem mkEnd_pos (N : N5) : ¬ mkEnd N < 0 := by unfold mkEnd; omega
theorem mark1 (v0 v1 v2 v3 v4 : Value) (lo hi : Nat) (N : N5) (F : F5) (w : World) (h : M5 w lo hi v0 v1 v2 v3 v4 N F) (hhi : hi ≤ w.heap.size) (hn : N.le) :
    Calls Try.prog 13 #[.agg #[v0, v1, v2, v3, v4], .int .i64 1] w fun e w' => e = .returned (.int .i64 (mkEnd N)) ∧ Hid (M5 w' lo hi v0 v1 v2 v3 v4 N (mk5 1 N)) ∧ Btn lo hi w w' := markStore_any _ _ _ _ _ lo hi 1 N F w h hhi hn (by omega) (by omega)
theorem held1 (v0 v1 v2 v3 v4 : Value) (lo hi : Nat) (N : N5) (w : World) (h : M5 w lo hi v0 v1 v2 v3 v4 N (mk5 1 N)) (hn : N.le) :
    Calls Try.prog 14 #[.agg #[v0, v1, v2, v3, v4], .int .i64 1] w fun e w' => e = .returned (.int .i64 (mkEnd N)) ∧ Below w.heap.size w w' := heldStore_any _ _ _ _ _ lo hi 1 N w h hn (by omega) (by omega)

set_option maxRecDepth 100000 in
set_option maxHeartbeats 8000000 in
theorem walk (w : World) : Calls Try.prog 3 #[] w fun e w' => e = .returned (.bool true) ∧ Below w.heap.size w w' := by
  have E_0 := Lib.hid (Below.refl w.heap.size w)
  obtain ⟨R, hR⟩ : ∃ R : StT, R = ⟨[[], [], []], [[], [], []], [0, 0, 0], [0, 0, 0], [0, 0, 0]⟩ := ⟨_, rfl⟩
  have HRL : Hid R.n5.le := by rw [hR]; exact ⟨by decide, by decide, by decide, by decide, by decide⟩
  have KS := Lib.hid (fun w => specNew_any w)
  have KI := Lib.hid (fun w => implNew_any w)
  rw [← hR] at KS KI
  clear hR
  go_enter Try.func3, Try.ntmps3
  go_wp2_with fail
  refine (KS.out _).mono ?_; rintro e w1 ⟨o0, o1, o2, o3, o4, rfl, M, hb⟩
  have E_2 := Lib.hid (E_0.out.trans (hb.mono E_0.out.size))
  have S_2 := Lib.hid hb.size
  clear E_0 hb
  have mw_3 := M
  clear M
  obtain ⟨po0, co0, rfl⟩ := mw_3.out.a.vls.form
  obtain ⟨po1, co1, rfl⟩ := mw_3.out.b.vls.form
  obtain ⟨po2, co2, rfl⟩ := mw_3.out.c.vls.form
  obtain ⟨po3, co3, rfl⟩ := mw_3.out.d.vls.form
  obtain ⟨po4, co4, rfl⟩ := mw_3.out.e.vls.form
  obtain ⟨W4, hW4⟩ : ∃ X, w1.alloc (.cells #[.slice po0 R.n5.a co0, .slice po1 R.n5.b co1, .slice po2 R.n5.c co2, .slice po3 R.n5.d co3, .slice po4 R.n5.e co4] 25) = X := ⟨_, rfl⟩
  have hb : Below w1.heap.size w1 W4 := by rw [← hW4]; exact (Below.refl _ _).alloc (Nat.le_refl _) _
  have hB : Box5 W4 w1.heap.size (.slice po0 R.n5.a co0) (.slice po1 R.n5.b co1) (.slice po2 R.n5.c co2) (.slice po3 R.n5.d co3) (.slice po4 R.n5.e co4) := by rw [← hW4]; exact new_box5 _ _ _ _ _ _ _
  have hl : w1.heap.size < W4.heap.size := by rw [← hW4]; simp
  have mw_5 := Lib.hid (mw_3.out.keep hb)
  have E_6 := Lib.hid (E_2.out.trans (hb.mono E_2.out.size))
  have S_6 := Lib.hid hb.size
  clear mw_3 E_2 hb
  have bw_7 := Lib.hid hB
  have S_7b := Lib.hid hl
  clear hB hl
  go_wp2_with fail
  clear hW4
  refine (KI.out _).mono ?_; rintro e w8 ⟨g0, g1, g2, g3, g4, rfl, M, hb⟩
  have mw_9 := Lib.hid (mw_5.out.keep hb)
  have bw_10 := Lib.hid (bw_7.out.keep hb)
  have E_11 := Lib.hid (E_6.out.trans (hb.mono E_6.out.size))
  have S_11 := Lib.hid hb.size
  clear mw_5 bw_7 E_6 hb
  have mg_12 := M
  clear M
  obtain ⟨pg0, cg0, rfl⟩ := mg_12.out.a.vls.form
  obtain ⟨pg1, cg1, rfl⟩ := mg_12.out.b.vls.form
  obtain ⟨pg2, cg2, rfl⟩ := mg_12.out.c.vls.form
  obtain ⟨pg3, cg3, rfl⟩ := mg_12.out.d.vls.form
  obtain ⟨pg4, cg4, rfl⟩ := mg_12.out.e.vls.form
  obtain ⟨W13, hW13⟩ : ∃ X, w8.alloc (.cells #[.slice pg0 R.n5.a cg0, .slice pg1 R.n5.b cg1, .slice pg2 R.n5.c cg2, .slice pg3 R.n5.d cg3, .slice pg4 R.n5.e cg4] 25) = X := ⟨_, rfl⟩
  have hb : Below w8.heap.size w8 W13 := by rw [← hW13]; exact (Below.refl _ _).alloc (Nat.le_refl _) _
  have hB : Box5 W13 w8.heap.size (.slice pg0 R.n5.a cg0) (.slice pg1 R.n5.b cg1) (.slice pg2 R.n5.c cg2) (.slice pg3 R.n5.d cg3) (.slice pg4 R.n5.e cg4) := by rw [← hW13]; exact new_box5 _ _ _ _ _ _ _
  have hl : w8.heap.size < W13.heap.size := by rw [← hW13]; simp
  have mw_14 := Lib.hid (mw_9.out.keep hb)
  have bw_15 := Lib.hid (bw_10.out.keep hb)
  have mg_16 := Lib.hid (mg_12.out.keep hb)
  have E_17 := Lib.hid (E_11.out.trans (hb.mono E_11.out.size))
  have S_17 := Lib.hid hb.size
  clear mw_9 bw_10 mg_12 E_11 hb
  have bg_18 := Lib.hid hB
  have S_18b := Lib.hid hl
  clear hB hl
  obtain ⟨x00, x01, x02, x03, x04⟩ := bg_18.out
  obtain ⟨x10, x11, x12, x13, x14⟩ := bw_15.out
  go_wp2_with fail
  clear hW13
  refine (eqStore_same _ _ _ _ _ _ _ _ _ _ R _ mg_16.out.sto mw_14.out.sto).mono ?_; rintro e w19 ⟨rfl, hb⟩
  have mw_20 := Lib.hid (mw_14.out.keep hb)
  have bw_21 := Lib.hid (bw_15.out.keep hb)
  have mg_22 := Lib.hid (mg_16.out.keep hb)
  have bg_23 := Lib.hid (bg_18.out.keep hb)
  have E_24 := Lib.hid (E_17.out.trans (hb.mono E_17.out.size))
  have S_24 := Lib.hid hb.size
  clear x00 x01 x02 x03 x04 x10 x11 x12 x13 x14
  clear mw_14 bw_15 mg_16 bg_18 E_17 hb
  obtain ⟨x00, x01, x02, x03, x04⟩ := bg_23.out
  go_wp2_with fail
  have q0 := S_2.out
  have q1 := S_6.out
  have q2 := S_7b.out
  have q3 := S_11.out
  have q4 := S_17.out
  have q5 := S_18b.out
  have q6 := S_24.out
  have hhi := mark1 _ _ _ _ _ _ _ R.n5 _ _ mg_22.out (by omega) HRL.out
  clear q0 q1 q2 q3 q4 q5 q6
  refine hhi.mono ?_; rintro e w25 ⟨rfl, MM, ht⟩
  clear hhi
  have q0 := S_2.out
  have q1 := S_6.out
  have q2 := S_7b.out
  have q3 := S_11.out
  have q4 := S_17.out
  have q5 := S_18b.out
  have q6 := S_24.out
  have mw_26 := Lib.hid (mw_20.out.btn ht (by omega))
  have bw_27 := Lib.hid (bw_21.out.btn ht (by omega))
  have bg_28 := Lib.hid (bg_23.out.btn ht (by omega))
  have E_29 := Lib.hid (E_24.out.trans (ht.below (by omega) E_24.out.size))
  have S_29 := Lib.hid ht.size
  clear x00 x01 x02 x03 x04
  clear mw_20 bw_21 bg_23 E_24 q0 q1 q2 q3 q4 q5 q6 ht
  have mg_30 := MM
  clear MM mg_22
  have k2 : decide (mkEnd R.n5 < 0) = false := by simpa using mkEnd_pos R.n5
  obtain ⟨x00, x01, x02, x03, x04⟩ := bg_28.out
  go_wp2_with fail
  refine (held1 _ _ _ _ _ _ _ R.n5 _ mg_30.out HRL.out).mono ?_; rintro e w31 ⟨rfl, hb⟩
  have mw_32 := Lib.hid (mw_26.out.keep hb)
  have bw_33 := Lib.hid (bw_27.out.keep hb)
  have bg_34 := Lib.hid (bg_28.out.keep hb)
  have mg_35 := Lib.hid (mg_30.out.keep hb)
  have E_36 := Lib.hid (E_29.out.trans (hb.mono E_29.out.size))
  have S_36 := Lib.hid hb.size
  clear x00 x01 x02 x03 x04
  clear mw_26 bw_27 bg_28 mg_30 E_29 hb
  go_wp2_with fail
  refine (KI.out _).mono ?_; rintro e w37 ⟨h0, h1, h2, h3, h4, rfl, M, hb⟩
  have mw_38 := Lib.hid (mw_32.out.keep hb)
  have bw_39 := Lib.hid (bw_33.out.keep hb)
  have bg_40 := Lib.hid (bg_34.out.keep hb)
  have mg_41 := Lib.hid (mg_35.out.keep hb)
  have E_42 := Lib.hid (E_36.out.trans (hb.mono E_36.out.size))
  have S_42 := Lib.hid hb.size
  clear mw_32 bw_33 bg_34 mg_35 E_36 hb
  have mh_43 := M
  clear M
  obtain ⟨ph0, ch0, rfl⟩ := mh_43.out.a.vls.form
  obtain ⟨ph1, ch1, rfl⟩ := mh_43.out.b.vls.form
  obtain ⟨ph2, ch2, rfl⟩ := mh_43.out.c.vls.form
  obtain ⟨ph3, ch3, rfl⟩ := mh_43.out.d.vls.form
  obtain ⟨ph4, ch4, rfl⟩ := mh_43.out.e.vls.form
  obtain ⟨W44, hW44⟩ : ∃ X, w37.alloc (.cells #[.slice ph0 R.n5.a ch0, .slice ph1 R.n5.b ch1, .slice ph2 R.n5.c ch2, .slice ph3 R.n5.d ch3, .slice ph4 R.n5.e ch4] 25) = X := ⟨_, rfl⟩
  have hb : Below w37.heap.size w37 W44 := by rw [← hW44]; exact (Below.refl _ _).alloc (Nat.le_refl _) _
  have hB : Box5 W44 w37.heap.size (.slice ph0 R.n5.a ch0) (.slice ph1 R.n5.b ch1) (.slice ph2 R.n5.c ch2) (.slice ph3 R.n5.d ch3) (.slice ph4 R.n5.e ch4) := by rw [← hW44]; exact new_box5 _ _ _ _ _ _ _
  have hl : w37.heap.size < W44.heap.size := by rw [← hW44]; simp
  have mw_45 := Lib.hid (mw_38.out.keep hb)
  have bw_46 := Lib.hid (bw_39.out.keep hb)
  have bg_47 := Lib.hid (bg_40.out.keep hb)
  have mg_48 := Lib.hid (mg_41.out.keep hb)
  have mh_49 := Lib.hid (mh_43.out.keep hb)
  have E_50 := Lib.hid (E_42.out.trans (hb.mono E_42.out.size))
  have S_50 := Lib.hid hb.size
  clear mw_38 bw_39 bg_40 mg_41 mh_43 E_42 hb
  have bh_51 := Lib.hid hB
  have S_51b := Lib.hid hl
  clear hB hl
  obtain ⟨x00, x01, x02, x03, x04⟩ := bh_51.out
  obtain ⟨x10, x11, x12, x13, x14⟩ := bw_46.out
  go_wp2_with fail
  clear hW44
  refine (eqStore_same _ _ _ _ _ _ _ _ _ _ R _ mh_49.out.sto mw_45.out.sto).mono ?_; rintro e w52 ⟨rfl, hb⟩
  have mw_53 := Lib.hid (mw_45.out.keep hb)
  have bw_54 := Lib.hid (bw_46.out.keep hb)
  have bg_55 := Lib.hid (bg_47.out.keep hb)
  have mg_56 := Lib.hid (mg_48.out.keep hb)
  have mh_57 := Lib.hid (mh_49.out.keep hb)
  have bh_58 := Lib.hid (bh_51.out.keep hb)
  have E_59 := Lib.hid (E_50.out.trans (hb.mono E_50.out.size))
  have S_59 := Lib.hid hb.size
  clear x00 x01 x02 x03 x04 x10 x11 x12 x13 x14
  clear mw_45 bw_46 bg_47 mg_48 mh_49 bh_51 E_50 hb
  obtain ⟨x00, x01, x02, x03, x04⟩ := bg_55.out
  go_wp2_with fail
  refine (held1 _ _ _ _ _ _ _ R.n5 _ mg_56.out HRL.out).mono ?_; rintro e w60 ⟨rfl, hb⟩
  have mw_61 := Lib.hid (mw_53.out.keep hb)
  have bw_62 := Lib.hid (bw_54.out.keep hb)
  have bg_63 := Lib.hid (bg_55.out.keep hb)
  have mg_64 := Lib.hid (mg_56.out.keep hb)
  have mh_65 := Lib.hid (mh_57.out.keep hb)
  have bh_66 := Lib.hid (bh_58.out.keep hb)
  have E_67 := Lib.hid (E_59.out.trans (hb.mono E_59.out.size))
  have S_67 := Lib.hid hb.size
  clear x00 x01 x02 x03 x04
  clear mw_53 bw_54 bg_55 mg_56 mh_57 bh_58 E_59 hb
  go_wp2
  go_ret
  exact ⟨rfl, E_67.out⟩

end Go.Proofs.Ytamhndnfaaifcaa.exStoreNew
