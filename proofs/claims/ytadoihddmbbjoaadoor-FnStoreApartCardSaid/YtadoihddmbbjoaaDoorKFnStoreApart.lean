/-
  laws.FnStoreApart returns true at every code: the walk of the law. The four sentinels are laid.
-/
import Derived.Test.YtadoihddmbbjoaaDoorKStoDrawD
import Derived.Test.YtadoihddmbbjoaaDoorKStoIDoA
import Derived.Test.YtadoihddmbbjoaaDoorKStoSame
import Derived.Test.YtadoihddmbbjoaaDoorKDoApart
namespace Go.Proofs.YtadoihddmbbjoaaDoor.fnStoreApart
open Go.RowKit

theorem specR (v0 v1 v2 v3 v4 : Value) (S T : StT) (q : ReqT) (k : Int) (hT : doT S q = T) (hk : doK S q = k) (w : World) (h : Sto w v0 v1 v2 v3 v4 S) (hz : szT S) (hn : S.n5.le) (hd : q.data.length ≤ 49) :
    Calls Tryd.prog 8 #[.agg #[v0, v1, v2, v3, v4], .agg (rqA q)] w (ToSK w T k) := by
  subst hT; subst hk; exact specDo_any _ _ _ _ _ S q w h hz hn (by omega)
theorem implR (a0 a1 a2 a3 : Addr) (v0 v1 v2 v3 v4 : Value) (S T : StT) (q : ReqT) (k : Int) (hT : doT S q = T) (hk : doK S q = k) (w : World) (hS : Snt w a0 a1 a2 a3) (h : Sto w v0 v1 v2 v3 v4 S) (hz : szT S) (hd : q.data.length ≤ 49) :
    Calls Tryd.prog 11 #[.agg #[v0, v1, v2, v3, v4], .agg (rqA q)] w (ToSK w T k) := by
  subst hT; subst hk; exact implStoreDo_any a0 a1 a2 a3 _ _ _ _ _ S q w hS h hz (by omega)
theorem sameT (v0 v1 v2 v3 v4 u0 u1 u2 u3 u4 : Value) (S : StT) (w : World) (h : Sto w v0 v1 v2 v3 v4 S) (h' : Sto w u0 u1 u2 u3 u4 S) :
    Calls Tryd.prog 16 #[.agg #[v0, v1, v2, v3, v4], .agg #[u0, u1, u2, u3, u4]] w fun e w' => e = .returned (.bool true) ∧ Below w.heap.size w w' := by
  have := implSame_any _ _ _ _ _ _ _ _ _ _ S S w h h'
  rwa [sameB_self] at this
theorem meetR (a b c d m1 m2 : Int) (r : Bool) (h1 : smLo a b c d = m1) (h2 : smHi a b c d = m2) (h3 : smB a b c d = r) (w : World) :
    Calls Tryd.prog 21 #[.agg #[.int .i64 a, .int .i64 b], .agg #[.int .i64 c, .int .i64 d]] w fun e w' => e = .returned (.tuple #[.agg #[.int .i64 m1, .int .i64 m2], .bool r]) ∧ Below w.heap.size w w' := by
  subst h1; subst h2; subst h3; exact implSpanMeet_any a b c d w
theorem ok_of {S : StT} {q : ReqT} (h : doK S q = 0) : stOkB S = true ∧ doC S q = 0 ∧ doT S q = doS S q := by
  by_cases hs : stOkB S = true
  · refine ⟨hs, ?_, ?_⟩
    · unfold doK at h; rwa [if_pos hs] at h
    · unfold doT; rw [if_pos hs]
  · unfold doK at h; rw [if_neg hs] at h; cases h
/-- What the law asks, as equations of stores. -/
theorem apart {S : StT} {q u : ReqT} (h : doK S q = 0) (hne : u.who ≠ q.who) (hm : u.obj ≠ q.obj ∨ (0 ≤ u.pos → (q.pos.toNat + q.data.length ≤ u.pos.toNat ∨ u.pos.toNat + u.data.length ≤ q.pos.toNat))) :
    doK (doT S q) u = doK S u ∧ doK (doT S u) q = 0 ∧ doT (doT S u) q = doT (doT S q) u ∧ stOkB (doT S q) = true ∧ stOkB (doT S u) = true := by
  obtain ⟨hs, hc, ht⟩ := ok_of h
  have hq := (doC_fine hc).1
  have htu : doT S u = doS S u := by unfold doT; rw [if_pos hs]
  have o1 : stOkB (doS S q) = true := stOkB_doS hs
  have o2 : stOkB (doS S u) = true := stOkB_doS hs
  rw [ht, htu]
  refine ⟨?_, ?_, ?_, o1, o2⟩
  · unfold doK; rw [if_pos o1, if_pos hs]; exact doC_apart hq hne
  · unfold doK; rw [if_pos o2]
    by_cases hu : rqB u = true
    · rw [doC_apart hu (Ne.symm hne)]; exact hc
    · have hu0 : doC S u ≠ 0 := fun c => hu (doC_fine c).1
      rw [doS_not hu0]; exact hc
  · unfold doT; rw [if_pos o1, if_pos o2]; exact (doS_apart hc hne hm).symm

theorem apart2 {S : StT} {q u : ReqT} (h : doK S q = 0) (hne : u.who ≠ q.who) (hm : doC S u = 0 → (u.obj ≠ q.obj ∨ (0 ≤ u.pos → (q.pos.toNat + q.data.length ≤ u.pos.toNat ∨ u.pos.toNat + u.data.length ≤ q.pos.toNat)))) :
    doK (doT S q) u = doK S u ∧ doK (doT S u) q = 0 ∧ doT (doT S u) q = doT (doT S q) u ∧ stOkB (doT S q) = true ∧ stOkB (doT S u) = true := by
  by_cases hu : doC S u = 0
  · exact apart h hne (hm hu)
  · obtain ⟨hs, hc, ht⟩ := ok_of h
    have hq := (doC_fine hc).1
    have htu : doT S u = S := by unfold doT; rw [if_pos hs]; exact doS_not hu
    have o1 : stOkB (doS S q) = true := stOkB_doS hs
    have hxu : doC (doS S q) u ≠ 0 := by rw [doC_apart hq hne]; exact hu
    rw [htu, ht]
    refine ⟨?_, h, ?_, o1, hs⟩
    · unfold doK; rw [if_pos o1, if_pos hs]; exact doC_apart hq hne
    · unfold doT; rw [if_pos o1, doS_not hxu]

set_option maxRecDepth 100000 in
set_option maxHeartbeats 16000000 in
theorem walk (b0 b1 b2 b3 : Addr) (v : Value) (len : Nat) (u : Value) (len2 : Nat) (w : World) (hS : Snt w b0 b1 b2 b3) (h : Byt w v len) (h' : Byt w u len2) :
    Calls Tryd.prog 5 #[v, u] w fun e w' => e = .returned (.bool true) ∧ Below w.heap.size w w' := by
  have HB := Lib.hid h
  have HB2 := Lib.hid h'
  have HS := Lib.hid hS
  have hlen : len ≤ 9223372036854775807 := by obtain ⟨z, a, cap, -, h1, h2, -⟩ := h; unfold maxLen at h2; omega
  have hlen2 : len2 ≤ 9223372036854775807 := by obtain ⟨z, a, cap, -, h1, h2, -⟩ := h'; unfold maxLen at h2; omega
  obtain ⟨z, a, cap, rfl, -, -, -⟩ := h
  obtain ⟨z2, a2, cap2, rfl, -, -, -⟩ := h'
  clear hS
  by_cases hL : len ≤ 1048576
  rotate_left
  · go_enter Tryd.func5, Tryd.ntmps5
    go_wp2
    go_ret
    exact ⟨rfl, Below.refl _ _⟩
  by_cases hL2 : len2 ≤ 1048576
  rotate_left
  · go_enter Tryd.func5, Tryd.ntmps5
    go_wp2
    go_ret
    exact ⟨rfl, Below.refl _ _⟩
  go_enter Tryd.func5, Tryd.ntmps5
  go_wp2_with fail
  refine (drawStoreDo_any _ len _ HB.out).mono ?_; rintro e w1 ⟨S, q, y0, y1, y2, y3, y4, rfl, hz, hn, hdq, HSt, hb⟩
  have hq := HSt.out w1 (Btn.refl _ _ _)
  obtain ⟨pa0, ca0, rfl⟩ := hq.now.form
  obtain ⟨pa1, ca1, rfl⟩ := hq.sure.form
  obtain ⟨pa2, ca2, rfl⟩ := hq.last.form
  obtain ⟨pa3, ca3, rfl⟩ := hq.slast.form
  obtain ⟨pa4, ca4, rfl⟩ := hq.floors.form
  have s_0 := Lib.hid hq
  have HZ := Lib.hid hz
  have HN := Lib.hid hn
  have HDQ := Lib.hid hdq
  have E_0 := Lib.hid hb
  have S_0 := Lib.hid hb.size
  clear hq hz hn hdq HSt hb HB
  obtain ⟨W1, hW1⟩ : ∃ X, (w1.alloc (.cells #[.slice pa0 S.now.length ca0, .slice pa1 S.sure.length ca1, .slice pa2 S.last.length ca2, .slice pa3 S.slast.length ca3, .slice pa4 S.floors.length ca4] 30)).alloc (.cells #[.int .i64 q.who, .int .i64 q.ep, .int .i64 q.num, .int .i64 q.obj, .int .i64 q.pos, .string (mkB q.data)] 34) = X := ⟨_, rfl⟩
  have hb : Below w1.heap.size w1 W1 := by rw [← hW1]; exact ((Below.refl _ _).alloc (Nat.le_refl _) _).alloc (by simp) _
  have hB1 : Box5 W1 w1.heap.size (.slice pa0 S.now.length ca0) (.slice pa1 S.sure.length ca1) (.slice pa2 S.last.length ca2) (.slice pa3 S.slast.length ca3) (.slice pa4 S.floors.length ca4) := by rw [← hW1]; exact (new_box5 w1 _ _ _ _ _ _).keep ((Below.refl _ _).alloc (Nat.le_refl _) _)
  have hB2 : Box6 W1 (w1.heap.size + 1) q := by
    rw [← hW1]
    have := new_box6 (w1.alloc (.cells #[.slice pa0 S.now.length ca0, .slice pa1 S.sure.length ca1, .slice pa2 S.last.length ca2, .slice pa3 S.slast.length ca3, .slice pa4 S.floors.length ca4] 30)) q 34
    simpa using this
  have hl : w1.heap.size + 1 < W1.heap.size := by rw [← hW1]; simp
  have s_2 := Lib.hid (s_0.out.keep hb)
  have E_3 := Lib.hid (E_0.out.trans (hb.mono E_0.out.size))
  have S_3 := Lib.hid hb.size
  clear s_0 E_0 hb
  have bs_4 := Lib.hid hB1
  have bq_4 := Lib.hid hB2
  have S_4b := Lib.hid hl
  clear hB1 hB2 hl
  go_wp2_with fail
  clear hW1
  refine (drawStoreDo_any _ len2 _ (HB2.out.keep E_3.out)).mono ?_; rintro e w5 ⟨S2, u, g0, g1, g2, g3, g4, rfl, -, -, hdu, HS2, hb⟩
  have hq := HS2.out w5 (Btn.refl _ _ _)
  obtain ⟨pb0, cb0, rfl⟩ := hq.now.form
  obtain ⟨pb1, cb1, rfl⟩ := hq.sure.form
  obtain ⟨pb2, cb2, rfl⟩ := hq.last.form
  obtain ⟨pb3, cb3, rfl⟩ := hq.slast.form
  obtain ⟨pb4, cb4, rfl⟩ := hq.floors.form
  have HDU := Lib.hid hdu
  clear hq HS2 hdu HB2
  have s_6 := Lib.hid (s_2.out.keep hb)
  have bs_7 := Lib.hid (bs_4.out.keep hb)
  have bq_8 := Lib.hid (bq_4.out.keep hb)
  have E_9 := Lib.hid (E_3.out.trans (hb.mono E_3.out.size))
  have S_9 := Lib.hid hb.size
  clear s_2 bs_4 bq_4 E_3 hb
  obtain ⟨W10, hW10⟩ : ∃ X, (w5.alloc (.cells #[.slice pb0 S2.now.length cb0, .slice pb1 S2.sure.length cb1, .slice pb2 S2.last.length cb2, .slice pb3 S2.slast.length cb3, .slice pb4 S2.floors.length cb4] 30)).alloc (.cells #[.int .i64 u.who, .int .i64 u.ep, .int .i64 u.num, .int .i64 u.obj, .int .i64 u.pos, .string (mkB u.data)] 34) = X := ⟨_, rfl⟩
  have hb : Below w5.heap.size w5 W10 := by rw [← hW10]; exact ((Below.refl _ _).alloc (Nat.le_refl _) _).alloc (by simp) _
  have hB1 : Box5 W10 w5.heap.size (.slice pb0 S2.now.length cb0) (.slice pb1 S2.sure.length cb1) (.slice pb2 S2.last.length cb2) (.slice pb3 S2.slast.length cb3) (.slice pb4 S2.floors.length cb4) := by rw [← hW10]; exact (new_box5 w5 _ _ _ _ _ _).keep ((Below.refl _ _).alloc (Nat.le_refl _) _)
  have hB2 : Box6 W10 (w5.heap.size + 1) u := by
    rw [← hW10]
    have := new_box6 (w5.alloc (.cells #[.slice pb0 S2.now.length cb0, .slice pb1 S2.sure.length cb1, .slice pb2 S2.last.length cb2, .slice pb3 S2.slast.length cb3, .slice pb4 S2.floors.length cb4] 30)) u 34
    simpa using this
  have hl : w5.heap.size + 1 < W10.heap.size := by rw [← hW10]; simp
  have s_11 := Lib.hid (s_6.out.keep hb)
  have bs_12 := Lib.hid (bs_7.out.keep hb)
  have bq_13 := Lib.hid (bq_8.out.keep hb)
  have E_14 := Lib.hid (E_9.out.trans (hb.mono E_9.out.size))
  have S_14 := Lib.hid hb.size
  clear s_6 bs_7 bq_8 E_9 hb
  have bt_15 := Lib.hid hB1
  have bu_15 := Lib.hid hB2
  have S_15b := Lib.hid hl
  clear hB1 hB2 hl
  clear bt_15
  obtain ⟨T, hT0⟩ : ∃ T, doT S q = T := ⟨_, rfl⟩
  obtain ⟨K, hK0⟩ : ∃ K, doK S q = K := ⟨_, rfl⟩
  have HT := Lib.hid hT0
  have HK := Lib.hid hK0
  clear hT0 hK0
  obtain ⟨x00, x01, x02, x03, x04⟩ := bs_12.out
  obtain ⟨x10, x11, x12, x13, x14, x15⟩ := bq_13.out
  go_wp2_with fail
  clear hW10
  refine (implR b0 b1 b2 b3 _ _ _ _ _ S T q K HT.out HK.out _ (HS.out.keep E_14.out) s_11.out HZ.out HDQ.out).mono ?_; rintro e w16 ⟨g0, g1, g2, g3, g4, rfl, M, hb⟩
  have s_17 := Lib.hid (s_11.out.keep hb)
  have bs_18 := Lib.hid (bs_12.out.keep hb)
  have bq_19 := Lib.hid (bq_13.out.keep hb)
  have bu_20 := Lib.hid (bu_15.out.keep hb)
  have E_21 := Lib.hid (E_14.out.trans (hb.mono E_14.out.size))
  have S_21 := Lib.hid hb.size
  clear x00 x01 x02 x03 x04 x10 x11 x12 x13 x14 x15
  clear s_11 bs_12 bq_13 bu_15 E_14 hb
  have mx_22 := M
  clear M
  obtain ⟨pg0, cg0, rfl⟩ := mx_22.out.a.vls.form
  obtain ⟨pg1, cg1, rfl⟩ := mx_22.out.b.vls.form
  obtain ⟨pg2, cg2, rfl⟩ := mx_22.out.c.vls.form
  obtain ⟨pg3, cg3, rfl⟩ := mx_22.out.d.vls.form
  obtain ⟨pg4, cg4, rfl⟩ := mx_22.out.e.vls.form
  obtain ⟨W23, hW23⟩ : ∃ X, w16.alloc (.cells #[.slice pg0 T.n5.a cg0, .slice pg1 T.n5.b cg1, .slice pg2 T.n5.c cg2, .slice pg3 T.n5.d cg3, .slice pg4 T.n5.e cg4] 30) = X := ⟨_, rfl⟩
  have hb : Below w16.heap.size w16 W23 := by rw [← hW23]; exact (Below.refl _ _).alloc (Nat.le_refl _) _
  have hB : Box5 W23 w16.heap.size (.slice pg0 T.n5.a cg0) (.slice pg1 T.n5.b cg1) (.slice pg2 T.n5.c cg2) (.slice pg3 T.n5.d cg3) (.slice pg4 T.n5.e cg4) := by rw [← hW23]; exact new_box5 _ _ _ _ _ _ _
  have hl : w16.heap.size < W23.heap.size := by rw [← hW23]; simp
  have s_24 := Lib.hid (s_17.out.keep hb)
  have bs_25 := Lib.hid (bs_18.out.keep hb)
  have bq_26 := Lib.hid (bq_19.out.keep hb)
  have bu_27 := Lib.hid (bu_20.out.keep hb)
  have mx_28 := Lib.hid (mx_22.out.keep hb)
  have E_29 := Lib.hid (E_21.out.trans (hb.mono E_21.out.size))
  have S_29 := Lib.hid hb.size
  clear s_17 bs_18 bq_19 bu_20 mx_22 E_21 hb
  have bx_30 := Lib.hid hB
  have S_30b := Lib.hid hl
  clear hB hl
  obtain ⟨x00, x01, x02, x03, x04⟩ := bs_25.out
  obtain ⟨x10, x11, x12, x13, x14, x15⟩ := bq_26.out
  go_wp2_with fail
  clear hW23
  refine (specR _ _ _ _ _ S T q K HT.out HK.out _ s_24.out HZ.out HN.out HDQ.out).mono ?_; rintro e w31 ⟨k0, k1, k2, k3, k4, rfl, M, hb⟩
  have s_32 := Lib.hid (s_24.out.keep hb)
  have bs_33 := Lib.hid (bs_25.out.keep hb)
  have bq_34 := Lib.hid (bq_26.out.keep hb)
  have bu_35 := Lib.hid (bu_27.out.keep hb)
  have mx_36 := Lib.hid (mx_28.out.keep hb)
  have bx_37 := Lib.hid (bx_30.out.keep hb)
  have E_38 := Lib.hid (E_29.out.trans (hb.mono E_29.out.size))
  have S_38 := Lib.hid hb.size
  clear x00 x01 x02 x03 x04 x10 x11 x12 x13 x14 x15
  clear s_24 bs_25 bq_26 bu_27 mx_28 bx_30 E_29 hb
  have my_39 := M
  clear M
  obtain ⟨pk0, ck0, rfl⟩ := my_39.out.a.vls.form
  obtain ⟨pk1, ck1, rfl⟩ := my_39.out.b.vls.form
  obtain ⟨pk2, ck2, rfl⟩ := my_39.out.c.vls.form
  obtain ⟨pk3, ck3, rfl⟩ := my_39.out.d.vls.form
  obtain ⟨pk4, ck4, rfl⟩ := my_39.out.e.vls.form
  obtain ⟨W40, hW40⟩ : ∃ X, w31.alloc (.cells #[.slice pk0 T.n5.a ck0, .slice pk1 T.n5.b ck1, .slice pk2 T.n5.c ck2, .slice pk3 T.n5.d ck3, .slice pk4 T.n5.e ck4] 30) = X := ⟨_, rfl⟩
  have hb : Below w31.heap.size w31 W40 := by rw [← hW40]; exact (Below.refl _ _).alloc (Nat.le_refl _) _
  have hB : Box5 W40 w31.heap.size (.slice pk0 T.n5.a ck0) (.slice pk1 T.n5.b ck1) (.slice pk2 T.n5.c ck2) (.slice pk3 T.n5.d ck3) (.slice pk4 T.n5.e ck4) := by rw [← hW40]; exact new_box5 _ _ _ _ _ _ _
  have hl : w31.heap.size < W40.heap.size := by rw [← hW40]; simp
  have s_41 := Lib.hid (s_32.out.keep hb)
  have bs_42 := Lib.hid (bs_33.out.keep hb)
  have bq_43 := Lib.hid (bq_34.out.keep hb)
  have bu_44 := Lib.hid (bu_35.out.keep hb)
  have mx_45 := Lib.hid (mx_36.out.keep hb)
  have bx_46 := Lib.hid (bx_37.out.keep hb)
  have my_47 := Lib.hid (my_39.out.keep hb)
  have E_48 := Lib.hid (E_38.out.trans (hb.mono E_38.out.size))
  have S_48 := Lib.hid hb.size
  clear s_32 bs_33 bq_34 bu_35 mx_36 bx_37 my_39 E_38 hb
  have by_49 := Lib.hid hB
  have S_49b := Lib.hid hl
  clear hB hl
  clear my_47
  have hkk : (K != K) = false := by simp
  have hkk2 : (K == K) = true := by simp
  obtain ⟨x00, x01, x02, x03, x04, x05⟩ := bq_43.out
  obtain ⟨x10, x11, x12, x13, x14, x15⟩ := bu_44.out
  by_cases hk0 : K = 0
  rotate_left
  · have kd : (K != 0) = true := by simpa using hk0
    clear hk0
    go_wp2
    go_ret
    exact ⟨rfl, E_48.out⟩
  subst hk0
  clear hkk hkk2
  by_cases hwho : u.who = q.who
  · have kd : (u.who == q.who) = true := by simpa using hwho
    clear hwho
    go_wp2
    go_ret
    exact ⟨rfl, E_48.out⟩
  have kd : (u.who == q.who) = false := by simpa using hwho
  have HWH := Lib.hid hwho
  clear hwho
  obtain ⟨hok, hcq, -⟩ := ok_of HK.out
  have hwq := (rqB_iff.1 (doC_fine hcq).1).2.2.2.2
  obtain ⟨i0, i1, i2, i3⟩ := wokB_iff.1 hwq
  have HQ0 := Lib.hid i0
  have HQ1 := Lib.hid i1
  have HQ3 := Lib.hid i3
  clear hok hcq hwq i1 i2
  have q4 : (mkB q.data).size = q.data.length := mkB_size q.data
  have u4 : (mkB u.data).size = u.data.length := mkB_size u.data
  have hdl := HDU.out
  obtain ⟨H, hH⟩ : ∃ m, IntKind.i64.wrap (u.pos + (u.data.length : Int)) = m := ⟨_, rfl⟩
  obtain ⟨m1, hm1⟩ : ∃ m, smLo q.pos (q.pos + (q.data.length : Int)) u.pos H = m := ⟨_, rfl⟩
  obtain ⟨m2, hm2⟩ : ∃ m, smHi q.pos (q.pos + (q.data.length : Int)) u.pos H = m := ⟨_, rfl⟩
  obtain ⟨mb, hmb⟩ : ∃ m, smB q.pos (q.pos + (q.data.length : Int)) u.pos H = m := ⟨_, rfl⟩
  have HM1 := Lib.hid hm1
  have HM2 := Lib.hid hm2
  have HMB := Lib.hid hmb
  have HH := Lib.hid hH
  clear hm1 hm2 hmb
  go_wp2_with fail
  clear hW40 kd
  refine (meetR _ _ _ _ m1 m2 mb HM1.out HM2.out HMB.out _).mono ?_; rintro e w50 ⟨rfl, hb⟩
  clear hH i0 i3 q4 u4 HM1 HM2
  have s_51 := Lib.hid (s_41.out.keep hb)
  have bs_52 := Lib.hid (bs_42.out.keep hb)
  have bq_53 := Lib.hid (bq_43.out.keep hb)
  have bu_54 := Lib.hid (bu_44.out.keep hb)
  have mx_55 := Lib.hid (mx_45.out.keep hb)
  have bx_56 := Lib.hid (bx_46.out.keep hb)
  have by_57 := Lib.hid (by_49.out.keep hb)
  have E_58 := Lib.hid (E_48.out.trans (hb.mono E_48.out.size))
  have S_58 := Lib.hid hb.size
  clear x00 x01 x02 x03 x04 x05 x10 x11 x12 x13 x14 x15
  clear s_41 bs_42 bq_43 bu_44 mx_45 bx_46 by_49 E_48 hb
  obtain ⟨W59, hW59⟩ : ∃ X, w50.alloc (.cells #[.int .i64 m1, .int .i64 m2] 47) = X := ⟨_, rfl⟩
  have hb : Below w50.heap.size w50 W59 := by rw [← hW59]; exact (Below.refl _ _).alloc (Nat.le_refl _) _
  have s_60 := Lib.hid (s_51.out.keep hb)
  have bs_61 := Lib.hid (bs_52.out.keep hb)
  have bq_62 := Lib.hid (bq_53.out.keep hb)
  have bu_63 := Lib.hid (bu_54.out.keep hb)
  have mx_64 := Lib.hid (mx_55.out.keep hb)
  have bx_65 := Lib.hid (bx_56.out.keep hb)
  have by_66 := Lib.hid (by_57.out.keep hb)
  have E_67 := Lib.hid (E_58.out.trans (hb.mono E_58.out.size))
  have S_67 := Lib.hid hb.size
  clear s_51 bs_52 bq_53 bu_54 mx_55 bx_56 by_57 E_58 hb
  obtain ⟨x00, x01, x02, x03, x04, x05⟩ := bq_62.out
  obtain ⟨x10, x11, x12, x13, x14, x15⟩ := bu_63.out
  by_cases hu0 : u.pos < 0
  · have k1 : decide (u.pos < 0) = true := by simpa using hu0
    clear hu0
    cases mb
    · go_wp2
      go_ret
      exact ⟨rfl, E_67.out⟩
    · by_cases ho : u.obj = q.obj
      · have k2 : (u.obj == q.obj) = true := by simpa using ho
        clear ho
        go_wp2
        go_ret
        exact ⟨rfl, E_67.out⟩
      · have k2 : (u.obj == q.obj) = false := by simpa using ho
        clear ho
        go_wp2
        go_ret
        exact ⟨rfl, E_67.out⟩
  have k1 : decide (u.pos < 0) = false := by simpa using hu0
  by_cases hu1 : 48 < u.pos
  · have k3 : decide (48 < u.pos) = true := by simpa using hu1
    clear hu0 hu1
    cases mb
    · go_wp2
      go_ret
      exact ⟨rfl, E_67.out⟩
    · by_cases ho : u.obj = q.obj
      · have k2 : (u.obj == q.obj) = true := by simpa using ho
        clear ho
        go_wp2
        go_ret
        exact ⟨rfl, E_67.out⟩
      · have k2 : (u.obj == q.obj) = false := by simpa using ho
        clear ho
        go_wp2
        go_ret
        exact ⟨rfl, E_67.out⟩
  have k3 : decide (48 < u.pos) = false := by simpa using hu1
  have hup : 0 ≤ u.pos ∧ u.pos ≤ 48 := ⟨by omega, by omega⟩
  clear hu0 hu1
  by_cases ho : mb = true ∧ u.obj = q.obj
  · obtain ⟨rfl, ho⟩ := ho
    have k2 : (u.obj == q.obj) = true := by simpa using ho
    clear ho hup
    go_wp2
    go_ret
    exact ⟨rfl, E_67.out⟩
  have hap : stOkB S = true ∧ (doC S u = 0 → (u.obj ≠ q.obj ∨ (0 ≤ u.pos → (q.pos.toNat + q.data.length ≤ u.pos.toNat ∨ u.pos.toNat + u.data.length ≤ q.pos.toNat)))) := by
    refine ⟨(ok_of HK.out).1, fun hcu => ?_⟩
    by_cases h1 : u.obj = q.obj
    · right; intro _
      have hmf : mb = false := by cases mb with | false => rfl | true => exact absurd ⟨rfl, h1⟩ ho
      obtain ⟨j0, j1, j2, j3⟩ := wokB_iff.1 (rqB_iff.1 (doC_fine hcu).1).2.2.2.2
      have hH := HH.out
      rw [IntWalk.i64_in _ (by omega)] at hH
      have hmb := HMB.out
      rw [hmf, ← hH] at hmb
      exact sm_apart ⟨HQ0.out, HQ3.out, HQ1.out⟩ ⟨j0, j3⟩ j1 hmb
    · left; exact h1
  have HAP := Lib.hid hap
  clear hap
  obtain ⟨f1, f2, f3, f4, f5⟩ := apart2 HK.out HWH.out HAP.out.2
  obtain ⟨A, hA⟩ : ∃ X, doT T u = X := ⟨_, rfl⟩
  obtain ⟨B, hB⟩ : ∃ X, doT S u = X := ⟨_, rfl⟩
  obtain ⟨D, hD⟩ : ∃ X, doK S u = X := ⟨_, rfl⟩
  rw [HT.out] at f1 f3 f4
  rw [hA] at f3
  rw [hB] at f2 f3 f5
  rw [hD] at f1
  have G1 := Lib.hid f1
  have G2 := Lib.hid f2
  have G3 := Lib.hid f3
  have G4 := Lib.hid f4
  have G5 := Lib.hid f5
  have GA := Lib.hid hA
  have GB := Lib.hid hB
  have GD := Lib.hid hD
  clear f1 f2 f3 f4 f5 hA hB hD hup HAP
  have hdd : (D == D) = true := by simp
  cases mb
  · clear ho
    clear x00 x01 x02 x03 x04 x05 x10 x11 x12 x13 x14 x15
    obtain ⟨x00, x01, x02, x03, x04⟩ := bx_65.out
    obtain ⟨x10, x11, x12, x13, x14, x15⟩ := bu_63.out
    obtain ⟨r0, r1, r2, r3, r4, r5⟩ := bq_62.out
    go_wp2_with fail
    clear hW59 k1 k3
    clear r0 r1 r2 r3 r4 r5
    refine (implR b0 b1 b2 b3 _ _ _ _ _ T A u D GA.out G1.out _ (HS.out.keep E_67.out) mx_64.out.sto (szT_of G4.out) HDU.out).mono ?_; rintro e w68 ⟨h0, h1, h2, h3, h4, rfl, M, hb⟩
    have s_69 := Lib.hid (s_60.out.keep hb)
    have bs_70 := Lib.hid (bs_61.out.keep hb)
    have bq_71 := Lib.hid (bq_62.out.keep hb)
    have bu_72 := Lib.hid (bu_63.out.keep hb)
    have mx_73 := Lib.hid (mx_64.out.keep hb)
    have bx_74 := Lib.hid (bx_65.out.keep hb)
    have by_75 := Lib.hid (by_66.out.keep hb)
    have E_76 := Lib.hid (E_67.out.trans (hb.mono E_67.out.size))
    have S_76 := Lib.hid hb.size
    clear x00 x01 x02 x03 x04 x10 x11 x12 x13 x14 x15
    clear s_60 bs_61 bq_62 bu_63 mx_64 bx_65 by_66 E_67 hb
    have ma_77 := M
    clear M
    obtain ⟨ph0, ch0, rfl⟩ := ma_77.out.a.vls.form
    obtain ⟨ph1, ch1, rfl⟩ := ma_77.out.b.vls.form
    obtain ⟨ph2, ch2, rfl⟩ := ma_77.out.c.vls.form
    obtain ⟨ph3, ch3, rfl⟩ := ma_77.out.d.vls.form
    obtain ⟨ph4, ch4, rfl⟩ := ma_77.out.e.vls.form
    obtain ⟨W78, hW78⟩ : ∃ X, w68.alloc (.cells #[.slice ph0 A.n5.a ch0, .slice ph1 A.n5.b ch1, .slice ph2 A.n5.c ch2, .slice ph3 A.n5.d ch3, .slice ph4 A.n5.e ch4] 30) = X := ⟨_, rfl⟩
    have hb : Below w68.heap.size w68 W78 := by rw [← hW78]; exact (Below.refl _ _).alloc (Nat.le_refl _) _
    have hB : Box5 W78 w68.heap.size (.slice ph0 A.n5.a ch0) (.slice ph1 A.n5.b ch1) (.slice ph2 A.n5.c ch2) (.slice ph3 A.n5.d ch3) (.slice ph4 A.n5.e ch4) := by rw [← hW78]; exact new_box5 _ _ _ _ _ _ _
    have hl : w68.heap.size < W78.heap.size := by rw [← hW78]; simp
    have s_79 := Lib.hid (s_69.out.keep hb)
    have bs_80 := Lib.hid (bs_70.out.keep hb)
    have bq_81 := Lib.hid (bq_71.out.keep hb)
    have bu_82 := Lib.hid (bu_72.out.keep hb)
    have mx_83 := Lib.hid (mx_73.out.keep hb)
    have bx_84 := Lib.hid (bx_74.out.keep hb)
    have by_85 := Lib.hid (by_75.out.keep hb)
    have ma_86 := Lib.hid (ma_77.out.keep hb)
    have E_87 := Lib.hid (E_76.out.trans (hb.mono E_76.out.size))
    have S_87 := Lib.hid hb.size
    clear s_69 bs_70 bq_71 bu_72 mx_73 bx_74 by_75 ma_77 E_76 hb
    have ba_88 := Lib.hid hB
    have S_88b := Lib.hid hl
    clear hB hl
    obtain ⟨x00, x01, x02, x03, x04⟩ := bs_80.out
    obtain ⟨x10, x11, x12, x13, x14, x15⟩ := bu_82.out
    go_wp2_with fail
    clear hW78
    refine (implR b0 b1 b2 b3 _ _ _ _ _ S B u D GB.out GD.out _ (HS.out.keep E_87.out) s_79.out HZ.out HDU.out).mono ?_; rintro e w89 ⟨i0, i1, i2, i3, i4, rfl, M, hb⟩
    have s_90 := Lib.hid (s_79.out.keep hb)
    have bs_91 := Lib.hid (bs_80.out.keep hb)
    have bq_92 := Lib.hid (bq_81.out.keep hb)
    have bu_93 := Lib.hid (bu_82.out.keep hb)
    have mx_94 := Lib.hid (mx_83.out.keep hb)
    have bx_95 := Lib.hid (bx_84.out.keep hb)
    have by_96 := Lib.hid (by_85.out.keep hb)
    have ma_97 := Lib.hid (ma_86.out.keep hb)
    have ba_98 := Lib.hid (ba_88.out.keep hb)
    have E_99 := Lib.hid (E_87.out.trans (hb.mono E_87.out.size))
    have S_99 := Lib.hid hb.size
    clear x00 x01 x02 x03 x04 x10 x11 x12 x13 x14 x15
    clear s_79 bs_80 bq_81 bu_82 mx_83 bx_84 by_85 ma_86 ba_88 E_87 hb
    have mB_100 := M
    clear M
    obtain ⟨pi0, ci0, rfl⟩ := mB_100.out.a.vls.form
    obtain ⟨pi1, ci1, rfl⟩ := mB_100.out.b.vls.form
    obtain ⟨pi2, ci2, rfl⟩ := mB_100.out.c.vls.form
    obtain ⟨pi3, ci3, rfl⟩ := mB_100.out.d.vls.form
    obtain ⟨pi4, ci4, rfl⟩ := mB_100.out.e.vls.form
    obtain ⟨W101, hW101⟩ : ∃ X, w89.alloc (.cells #[.slice pi0 B.n5.a ci0, .slice pi1 B.n5.b ci1, .slice pi2 B.n5.c ci2, .slice pi3 B.n5.d ci3, .slice pi4 B.n5.e ci4] 30) = X := ⟨_, rfl⟩
    have hb : Below w89.heap.size w89 W101 := by rw [← hW101]; exact (Below.refl _ _).alloc (Nat.le_refl _) _
    have hB : Box5 W101 w89.heap.size (.slice pi0 B.n5.a ci0) (.slice pi1 B.n5.b ci1) (.slice pi2 B.n5.c ci2) (.slice pi3 B.n5.d ci3) (.slice pi4 B.n5.e ci4) := by rw [← hW101]; exact new_box5 _ _ _ _ _ _ _
    have hl : w89.heap.size < W101.heap.size := by rw [← hW101]; simp
    have s_102 := Lib.hid (s_90.out.keep hb)
    have bs_103 := Lib.hid (bs_91.out.keep hb)
    have bq_104 := Lib.hid (bq_92.out.keep hb)
    have bu_105 := Lib.hid (bu_93.out.keep hb)
    have mx_106 := Lib.hid (mx_94.out.keep hb)
    have bx_107 := Lib.hid (bx_95.out.keep hb)
    have by_108 := Lib.hid (by_96.out.keep hb)
    have ma_109 := Lib.hid (ma_97.out.keep hb)
    have ba_110 := Lib.hid (ba_98.out.keep hb)
    have mB_111 := Lib.hid (mB_100.out.keep hb)
    have E_112 := Lib.hid (E_99.out.trans (hb.mono E_99.out.size))
    have S_112 := Lib.hid hb.size
    clear s_90 bs_91 bq_92 bu_93 mx_94 bx_95 by_96 ma_97 ba_98 mB_100 E_99 hb
    have bb_113 := Lib.hid hB
    have S_113b := Lib.hid hl
    clear hB hl
    obtain ⟨x00, x01, x02, x03, x04⟩ := bb_113.out
    obtain ⟨x10, x11, x12, x13, x14, x15⟩ := bq_104.out
    go_wp2_with fail
    clear hW101
    refine (implR b0 b1 b2 b3 _ _ _ _ _ B A q 0 G3.out G2.out _ (HS.out.keep E_112.out) mB_111.out.sto (szT_of G5.out) HDQ.out).mono ?_; rintro e w114 ⟨j0, j1, j2, j3, j4, rfl, M, hb⟩
    have s_115 := Lib.hid (s_102.out.keep hb)
    have bs_116 := Lib.hid (bs_103.out.keep hb)
    have bq_117 := Lib.hid (bq_104.out.keep hb)
    have bu_118 := Lib.hid (bu_105.out.keep hb)
    have mx_119 := Lib.hid (mx_106.out.keep hb)
    have bx_120 := Lib.hid (bx_107.out.keep hb)
    have by_121 := Lib.hid (by_108.out.keep hb)
    have ma_122 := Lib.hid (ma_109.out.keep hb)
    have ba_123 := Lib.hid (ba_110.out.keep hb)
    have mB_124 := Lib.hid (mB_111.out.keep hb)
    have bb_125 := Lib.hid (bb_113.out.keep hb)
    have E_126 := Lib.hid (E_112.out.trans (hb.mono E_112.out.size))
    have S_126 := Lib.hid hb.size
    clear x00 x01 x02 x03 x04 x10 x11 x12 x13 x14 x15
    clear s_102 bs_103 bq_104 bu_105 mx_106 bx_107 by_108 ma_109 ba_110 mB_111 bb_113 E_112 hb
    have mz_127 := M
    clear M
    obtain ⟨pj0, cj0, rfl⟩ := mz_127.out.a.vls.form
    obtain ⟨pj1, cj1, rfl⟩ := mz_127.out.b.vls.form
    obtain ⟨pj2, cj2, rfl⟩ := mz_127.out.c.vls.form
    obtain ⟨pj3, cj3, rfl⟩ := mz_127.out.d.vls.form
    obtain ⟨pj4, cj4, rfl⟩ := mz_127.out.e.vls.form
    obtain ⟨W128, hW128⟩ : ∃ X, w114.alloc (.cells #[.slice pj0 A.n5.a cj0, .slice pj1 A.n5.b cj1, .slice pj2 A.n5.c cj2, .slice pj3 A.n5.d cj3, .slice pj4 A.n5.e cj4] 30) = X := ⟨_, rfl⟩
    have hb : Below w114.heap.size w114 W128 := by rw [← hW128]; exact (Below.refl _ _).alloc (Nat.le_refl _) _
    have hB : Box5 W128 w114.heap.size (.slice pj0 A.n5.a cj0) (.slice pj1 A.n5.b cj1) (.slice pj2 A.n5.c cj2) (.slice pj3 A.n5.d cj3) (.slice pj4 A.n5.e cj4) := by rw [← hW128]; exact new_box5 _ _ _ _ _ _ _
    have hl : w114.heap.size < W128.heap.size := by rw [← hW128]; simp
    have s_129 := Lib.hid (s_115.out.keep hb)
    have bs_130 := Lib.hid (bs_116.out.keep hb)
    have bq_131 := Lib.hid (bq_117.out.keep hb)
    have bu_132 := Lib.hid (bu_118.out.keep hb)
    have mx_133 := Lib.hid (mx_119.out.keep hb)
    have bx_134 := Lib.hid (bx_120.out.keep hb)
    have by_135 := Lib.hid (by_121.out.keep hb)
    have ma_136 := Lib.hid (ma_122.out.keep hb)
    have ba_137 := Lib.hid (ba_123.out.keep hb)
    have mB_138 := Lib.hid (mB_124.out.keep hb)
    have bb_139 := Lib.hid (bb_125.out.keep hb)
    have mz_140 := Lib.hid (mz_127.out.keep hb)
    have E_141 := Lib.hid (E_126.out.trans (hb.mono E_126.out.size))
    have S_141 := Lib.hid hb.size
    clear s_115 bs_116 bq_117 bu_118 mx_119 bx_120 by_121 ma_122 ba_123 mB_124 bb_125 mz_127 E_126 hb
    have bz_142 := Lib.hid hB
    have S_142b := Lib.hid hl
    clear hB hl
    obtain ⟨x00, x01, x02, x03, x04⟩ := ba_137.out
    obtain ⟨x10, x11, x12, x13, x14⟩ := bz_142.out
    go_wp2_with fail
    clear hW128
    refine (sameT _ _ _ _ _ _ _ _ _ _ A _ ma_136.out.sto mz_140.out.sto).mono ?_; rintro e w143 ⟨rfl, hb⟩
    have s_144 := Lib.hid (s_129.out.keep hb)
    have bs_145 := Lib.hid (bs_130.out.keep hb)
    have bq_146 := Lib.hid (bq_131.out.keep hb)
    have bu_147 := Lib.hid (bu_132.out.keep hb)
    have mx_148 := Lib.hid (mx_133.out.keep hb)
    have bx_149 := Lib.hid (bx_134.out.keep hb)
    have by_150 := Lib.hid (by_135.out.keep hb)
    have ma_151 := Lib.hid (ma_136.out.keep hb)
    have ba_152 := Lib.hid (ba_137.out.keep hb)
    have mB_153 := Lib.hid (mB_138.out.keep hb)
    have bb_154 := Lib.hid (bb_139.out.keep hb)
    have mz_155 := Lib.hid (mz_140.out.keep hb)
    have bz_156 := Lib.hid (bz_142.out.keep hb)
    have E_157 := Lib.hid (E_141.out.trans (hb.mono E_141.out.size))
    have S_157 := Lib.hid hb.size
    clear x00 x01 x02 x03 x04 x10 x11 x12 x13 x14
    clear s_129 bs_130 bq_131 bu_132 mx_133 bx_134 by_135 ma_136 ba_137 mB_138 bb_139 mz_140 bz_142 E_141 hb
    go_wp2
    go_ret
    exact ⟨rfl, E_157.out⟩
  · have ho2 : ¬ u.obj = q.obj := fun c => ho ⟨rfl, c⟩
    have k2 : (u.obj == q.obj) = false := by simpa using ho2
    clear ho2
    clear ho
    clear x00 x01 x02 x03 x04 x05 x10 x11 x12 x13 x14 x15
    obtain ⟨x00, x01, x02, x03, x04⟩ := bx_65.out
    obtain ⟨x10, x11, x12, x13, x14, x15⟩ := bu_63.out
    obtain ⟨r0, r1, r2, r3, r4, r5⟩ := bq_62.out
    go_wp2_with fail
    clear hW59 k1 k3 k2
    clear r0 r1 r2 r3 r4 r5
    refine (implR b0 b1 b2 b3 _ _ _ _ _ T A u D GA.out G1.out _ (HS.out.keep E_67.out) mx_64.out.sto (szT_of G4.out) HDU.out).mono ?_; rintro e w68 ⟨h0, h1, h2, h3, h4, rfl, M, hb⟩
    have s_69 := Lib.hid (s_60.out.keep hb)
    have bs_70 := Lib.hid (bs_61.out.keep hb)
    have bq_71 := Lib.hid (bq_62.out.keep hb)
    have bu_72 := Lib.hid (bu_63.out.keep hb)
    have mx_73 := Lib.hid (mx_64.out.keep hb)
    have bx_74 := Lib.hid (bx_65.out.keep hb)
    have by_75 := Lib.hid (by_66.out.keep hb)
    have E_76 := Lib.hid (E_67.out.trans (hb.mono E_67.out.size))
    have S_76 := Lib.hid hb.size
    clear x00 x01 x02 x03 x04 x10 x11 x12 x13 x14 x15
    clear s_60 bs_61 bq_62 bu_63 mx_64 bx_65 by_66 E_67 hb
    have ma_77 := M
    clear M
    obtain ⟨ph0, ch0, rfl⟩ := ma_77.out.a.vls.form
    obtain ⟨ph1, ch1, rfl⟩ := ma_77.out.b.vls.form
    obtain ⟨ph2, ch2, rfl⟩ := ma_77.out.c.vls.form
    obtain ⟨ph3, ch3, rfl⟩ := ma_77.out.d.vls.form
    obtain ⟨ph4, ch4, rfl⟩ := ma_77.out.e.vls.form
    obtain ⟨W78, hW78⟩ : ∃ X, w68.alloc (.cells #[.slice ph0 A.n5.a ch0, .slice ph1 A.n5.b ch1, .slice ph2 A.n5.c ch2, .slice ph3 A.n5.d ch3, .slice ph4 A.n5.e ch4] 30) = X := ⟨_, rfl⟩
    have hb : Below w68.heap.size w68 W78 := by rw [← hW78]; exact (Below.refl _ _).alloc (Nat.le_refl _) _
    have hB : Box5 W78 w68.heap.size (.slice ph0 A.n5.a ch0) (.slice ph1 A.n5.b ch1) (.slice ph2 A.n5.c ch2) (.slice ph3 A.n5.d ch3) (.slice ph4 A.n5.e ch4) := by rw [← hW78]; exact new_box5 _ _ _ _ _ _ _
    have hl : w68.heap.size < W78.heap.size := by rw [← hW78]; simp
    have s_79 := Lib.hid (s_69.out.keep hb)
    have bs_80 := Lib.hid (bs_70.out.keep hb)
    have bq_81 := Lib.hid (bq_71.out.keep hb)
    have bu_82 := Lib.hid (bu_72.out.keep hb)
    have mx_83 := Lib.hid (mx_73.out.keep hb)
    have bx_84 := Lib.hid (bx_74.out.keep hb)
    have by_85 := Lib.hid (by_75.out.keep hb)
    have ma_86 := Lib.hid (ma_77.out.keep hb)
    have E_87 := Lib.hid (E_76.out.trans (hb.mono E_76.out.size))
    have S_87 := Lib.hid hb.size
    clear s_69 bs_70 bq_71 bu_72 mx_73 bx_74 by_75 ma_77 E_76 hb
    have ba_88 := Lib.hid hB
    have S_88b := Lib.hid hl
    clear hB hl
    obtain ⟨x00, x01, x02, x03, x04⟩ := bs_80.out
    obtain ⟨x10, x11, x12, x13, x14, x15⟩ := bu_82.out
    go_wp2_with fail
    clear hW78
    refine (implR b0 b1 b2 b3 _ _ _ _ _ S B u D GB.out GD.out _ (HS.out.keep E_87.out) s_79.out HZ.out HDU.out).mono ?_; rintro e w89 ⟨i0, i1, i2, i3, i4, rfl, M, hb⟩
    have s_90 := Lib.hid (s_79.out.keep hb)
    have bs_91 := Lib.hid (bs_80.out.keep hb)
    have bq_92 := Lib.hid (bq_81.out.keep hb)
    have bu_93 := Lib.hid (bu_82.out.keep hb)
    have mx_94 := Lib.hid (mx_83.out.keep hb)
    have bx_95 := Lib.hid (bx_84.out.keep hb)
    have by_96 := Lib.hid (by_85.out.keep hb)
    have ma_97 := Lib.hid (ma_86.out.keep hb)
    have ba_98 := Lib.hid (ba_88.out.keep hb)
    have E_99 := Lib.hid (E_87.out.trans (hb.mono E_87.out.size))
    have S_99 := Lib.hid hb.size
    clear x00 x01 x02 x03 x04 x10 x11 x12 x13 x14 x15
    clear s_79 bs_80 bq_81 bu_82 mx_83 bx_84 by_85 ma_86 ba_88 E_87 hb
    have mB_100 := M
    clear M
    obtain ⟨pi0, ci0, rfl⟩ := mB_100.out.a.vls.form
    obtain ⟨pi1, ci1, rfl⟩ := mB_100.out.b.vls.form
    obtain ⟨pi2, ci2, rfl⟩ := mB_100.out.c.vls.form
    obtain ⟨pi3, ci3, rfl⟩ := mB_100.out.d.vls.form
    obtain ⟨pi4, ci4, rfl⟩ := mB_100.out.e.vls.form
    obtain ⟨W101, hW101⟩ : ∃ X, w89.alloc (.cells #[.slice pi0 B.n5.a ci0, .slice pi1 B.n5.b ci1, .slice pi2 B.n5.c ci2, .slice pi3 B.n5.d ci3, .slice pi4 B.n5.e ci4] 30) = X := ⟨_, rfl⟩
    have hb : Below w89.heap.size w89 W101 := by rw [← hW101]; exact (Below.refl _ _).alloc (Nat.le_refl _) _
    have hB : Box5 W101 w89.heap.size (.slice pi0 B.n5.a ci0) (.slice pi1 B.n5.b ci1) (.slice pi2 B.n5.c ci2) (.slice pi3 B.n5.d ci3) (.slice pi4 B.n5.e ci4) := by rw [← hW101]; exact new_box5 _ _ _ _ _ _ _
    have hl : w89.heap.size < W101.heap.size := by rw [← hW101]; simp
    have s_102 := Lib.hid (s_90.out.keep hb)
    have bs_103 := Lib.hid (bs_91.out.keep hb)
    have bq_104 := Lib.hid (bq_92.out.keep hb)
    have bu_105 := Lib.hid (bu_93.out.keep hb)
    have mx_106 := Lib.hid (mx_94.out.keep hb)
    have bx_107 := Lib.hid (bx_95.out.keep hb)
    have by_108 := Lib.hid (by_96.out.keep hb)
    have ma_109 := Lib.hid (ma_97.out.keep hb)
    have ba_110 := Lib.hid (ba_98.out.keep hb)
    have mB_111 := Lib.hid (mB_100.out.keep hb)
    have E_112 := Lib.hid (E_99.out.trans (hb.mono E_99.out.size))
    have S_112 := Lib.hid hb.size
    clear s_90 bs_91 bq_92 bu_93 mx_94 bx_95 by_96 ma_97 ba_98 mB_100 E_99 hb
    have bb_113 := Lib.hid hB
    have S_113b := Lib.hid hl
    clear hB hl
    obtain ⟨x00, x01, x02, x03, x04⟩ := bb_113.out
    obtain ⟨x10, x11, x12, x13, x14, x15⟩ := bq_104.out
    go_wp2_with fail
    clear hW101
    refine (implR b0 b1 b2 b3 _ _ _ _ _ B A q 0 G3.out G2.out _ (HS.out.keep E_112.out) mB_111.out.sto (szT_of G5.out) HDQ.out).mono ?_; rintro e w114 ⟨j0, j1, j2, j3, j4, rfl, M, hb⟩
    have s_115 := Lib.hid (s_102.out.keep hb)
    have bs_116 := Lib.hid (bs_103.out.keep hb)
    have bq_117 := Lib.hid (bq_104.out.keep hb)
    have bu_118 := Lib.hid (bu_105.out.keep hb)
    have mx_119 := Lib.hid (mx_106.out.keep hb)
    have bx_120 := Lib.hid (bx_107.out.keep hb)
    have by_121 := Lib.hid (by_108.out.keep hb)
    have ma_122 := Lib.hid (ma_109.out.keep hb)
    have ba_123 := Lib.hid (ba_110.out.keep hb)
    have mB_124 := Lib.hid (mB_111.out.keep hb)
    have bb_125 := Lib.hid (bb_113.out.keep hb)
    have E_126 := Lib.hid (E_112.out.trans (hb.mono E_112.out.size))
    have S_126 := Lib.hid hb.size
    clear x00 x01 x02 x03 x04 x10 x11 x12 x13 x14 x15
    clear s_102 bs_103 bq_104 bu_105 mx_106 bx_107 by_108 ma_109 ba_110 mB_111 bb_113 E_112 hb
    have mz_127 := M
    clear M
    obtain ⟨pj0, cj0, rfl⟩ := mz_127.out.a.vls.form
    obtain ⟨pj1, cj1, rfl⟩ := mz_127.out.b.vls.form
    obtain ⟨pj2, cj2, rfl⟩ := mz_127.out.c.vls.form
    obtain ⟨pj3, cj3, rfl⟩ := mz_127.out.d.vls.form
    obtain ⟨pj4, cj4, rfl⟩ := mz_127.out.e.vls.form
    obtain ⟨W128, hW128⟩ : ∃ X, w114.alloc (.cells #[.slice pj0 A.n5.a cj0, .slice pj1 A.n5.b cj1, .slice pj2 A.n5.c cj2, .slice pj3 A.n5.d cj3, .slice pj4 A.n5.e cj4] 30) = X := ⟨_, rfl⟩
    have hb : Below w114.heap.size w114 W128 := by rw [← hW128]; exact (Below.refl _ _).alloc (Nat.le_refl _) _
    have hB : Box5 W128 w114.heap.size (.slice pj0 A.n5.a cj0) (.slice pj1 A.n5.b cj1) (.slice pj2 A.n5.c cj2) (.slice pj3 A.n5.d cj3) (.slice pj4 A.n5.e cj4) := by rw [← hW128]; exact new_box5 _ _ _ _ _ _ _
    have hl : w114.heap.size < W128.heap.size := by rw [← hW128]; simp
    have s_129 := Lib.hid (s_115.out.keep hb)
    have bs_130 := Lib.hid (bs_116.out.keep hb)
    have bq_131 := Lib.hid (bq_117.out.keep hb)
    have bu_132 := Lib.hid (bu_118.out.keep hb)
    have mx_133 := Lib.hid (mx_119.out.keep hb)
    have bx_134 := Lib.hid (bx_120.out.keep hb)
    have by_135 := Lib.hid (by_121.out.keep hb)
    have ma_136 := Lib.hid (ma_122.out.keep hb)
    have ba_137 := Lib.hid (ba_123.out.keep hb)
    have mB_138 := Lib.hid (mB_124.out.keep hb)
    have bb_139 := Lib.hid (bb_125.out.keep hb)
    have mz_140 := Lib.hid (mz_127.out.keep hb)
    have E_141 := Lib.hid (E_126.out.trans (hb.mono E_126.out.size))
    have S_141 := Lib.hid hb.size
    clear s_115 bs_116 bq_117 bu_118 mx_119 bx_120 by_121 ma_122 ba_123 mB_124 bb_125 mz_127 E_126 hb
    have bz_142 := Lib.hid hB
    have S_142b := Lib.hid hl
    clear hB hl
    obtain ⟨x00, x01, x02, x03, x04⟩ := ba_137.out
    obtain ⟨x10, x11, x12, x13, x14⟩ := bz_142.out
    go_wp2_with fail
    clear hW128
    refine (sameT _ _ _ _ _ _ _ _ _ _ A _ ma_136.out.sto mz_140.out.sto).mono ?_; rintro e w143 ⟨rfl, hb⟩
    have s_144 := Lib.hid (s_129.out.keep hb)
    have bs_145 := Lib.hid (bs_130.out.keep hb)
    have bq_146 := Lib.hid (bq_131.out.keep hb)
    have bu_147 := Lib.hid (bu_132.out.keep hb)
    have mx_148 := Lib.hid (mx_133.out.keep hb)
    have bx_149 := Lib.hid (bx_134.out.keep hb)
    have by_150 := Lib.hid (by_135.out.keep hb)
    have ma_151 := Lib.hid (ma_136.out.keep hb)
    have ba_152 := Lib.hid (ba_137.out.keep hb)
    have mB_153 := Lib.hid (mB_138.out.keep hb)
    have bb_154 := Lib.hid (bb_139.out.keep hb)
    have mz_155 := Lib.hid (mz_140.out.keep hb)
    have bz_156 := Lib.hid (bz_142.out.keep hb)
    have E_157 := Lib.hid (E_141.out.trans (hb.mono E_141.out.size))
    have S_157 := Lib.hid hb.size
    clear x00 x01 x02 x03 x04 x10 x11 x12 x13 x14
    clear s_129 bs_130 bq_131 bu_132 mx_133 bx_134 by_135 ma_136 ba_137 mB_138 bb_139 mz_140 bz_142 E_141 hb
    go_wp2
    go_ret
    exact ⟨rfl, E_157.out⟩

end Go.Proofs.YtadoihddmbbjoaaDoor.fnStoreApart
