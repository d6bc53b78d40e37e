/-
  laws.FnStoreFall returns true at every code: the walk of the law. No condition.
-/
import Derived.Test.YtjknmocimenagaaStoDraw
import Derived.Test.YtjknmocimenagaaStoSpec
import Derived.Test.YtjknmocimenagaaStoFns
import Derived.Test.YtjknmocimenagaaStoSame
import Derived.Deep.RegionHeld3
namespace Go.Proofs.Ytjknmocimenagaa.fnStoreFall
open Go.RowKit

theorem fall_fall {S : StT} (h : stOkB S = true) : fallT (fallT S) = fallT S := by
  have h2 := stOkB_fall h
  unfold fallT at h2 ⊢
  rw [if_pos h] at h2 ⊢
  rw [if_pos h2]
theorem fall_sync {S : StT} (h : stOkB S = true) : fallT (syncT S) = syncT S := by
  have h2 := stOkB_sync h
  unfold syncT at h2 ⊢
  rw [if_pos h] at h2 ⊢
  unfold fallT
  rw [if_pos h2]
theorem sync_fall {S : StT} (h : stOkB S = true) : syncT (fallT S) = fallT S := by
  have h2 := stOkB_fall h
  unfold fallT at h2 ⊢
  rw [if_pos h] at h2 ⊢
  unfold syncT
  rw [if_pos h2]
theorem floors_fall {S : StT} (h : stOkB S = true) : (fallT S).floors = S.floors := by unfold fallT; rw [if_pos h]
theorem fall_no {S : StT} (h : stOkB S = false) : fallT S = st0 := by unfold fallT; rw [if_neg (by rw [h]; simp)]
theorem sync_no {S : StT} (h : stOkB S = false) : syncT S = st0 := by unfold syncT; rw [if_neg (by rw [h]; simp)]
theorem sz_fall {S : StT} (h : szT S) : szT (fallT S) := by
  unfold fallT; split
  · exact ⟨h.2, h.2⟩
  · exact ⟨fun i => by simp [st0], fun i => by simp [st0]⟩
theorem sz_sync {S : StT} (h : szT S) : szT (syncT S) := by
  unfold syncT; split
  · exact ⟨h.1, h.1⟩
  · exact ⟨fun i => by simp [st0], fun i => by simp [st0]⟩
theorem sameT (v0 v1 v2 v3 v4 u0 u1 u2 u3 u4 : Value) (S : StT) (w : World) (h : Sto w v0 v1 v2 v3 v4 S) (h' : Sto w u0 u1 u2 u3 u4 S) :
    Calls Try.prog 9 #[.agg #[v0, v1, v2, v3, v4], .agg #[u0, u1, u2, u3, u4]] w fun e w' => e = .returned (.bool true) ∧ Below w.heap.size w w' := by
  have := implSame_any _ _ _ _ _ _ _ _ _ _ S S w h h'
  rwa [sameB_self] at this
theorem okT (v0 v1 v2 v3 v4 : Value) (S : StT) (w : World) (h : Sto w v0 v1 v2 v3 v4 S) (hz : szT S) (ho : stOkB S = true) :
    Calls Try.prog 13 #[.agg #[v0, v1, v2, v3, v4]] w fun e w' => e = .returned (.bool true) ∧ Below w.heap.size w w' := by
  have := implStoreOk_any _ _ _ _ _ S w h hz
  rwa [ho] at this
theorem fallR (v0 v1 v2 v3 v4 : Value) (S R : StT) (hR : fallT S = R) (w : World) (h : Sto w v0 v1 v2 v3 v4 S) (hz : szT S) : Calls Try.prog 7 #[.agg #[v0, v1, v2, v3, v4]] w (ToSt w R) := by
  subst hR; exact implFall_any _ _ _ _ _ S w h hz
theorem syncR (v0 v1 v2 v3 v4 : Value) (S R : StT) (hR : syncT S = R) (w : World) (h : Sto w v0 v1 v2 v3 v4 S) (hz : szT S) : Calls Try.prog 8 #[.agg #[v0, v1, v2, v3, v4]] w (ToSt w R) := by
  subst hR; exact implSync_any _ _ _ _ _ S w h hz
theorem sfallR (v0 v1 v2 v3 v4 : Value) (S R : StT) (hR : fallT S = R) (w : World) (h : Sto w v0 v1 v2 v3 v4 S) (hz : szT S) (hn : S.n5.le) : Calls Try.prog 10 #[.agg #[v0, v1, v2, v3, v4]] w (ToSt w R) := by
  subst hR; exact specFall_any _ _ _ _ _ S w h hz hn
theorem ssyncR (v0 v1 v2 v3 v4 : Value) (S R : StT) (hR : syncT S = R) (w : World) (h : Sto w v0 v1 v2 v3 v4 S) (hz : szT S) (hn : S.n5.le) : Calls Try.prog 11 #[.agg #[v0, v1, v2, v3, v4]] w (ToSt w R) := by
  subst hR; exact specSync_any _ _ _ _ _ S w h hz hn
theorem numsT (v u : Value) (A B : List Int) (hAB : A = B) (w : World) (h : Vls w v A.length (intF A)) (h' : Vls w u B.length (intF B)) :
    Calls Try.prog 14 #[v, u] w fun e w' => e = .returned (.bool true) ∧ Below w.heap.size w w' := by
  subst hAB
  have := wpNums_gen v u A A w h h'
  rwa [eqLB_self] at this

set_option maxRecDepth 100000 in
set_option maxHeartbeats 16000000 in
theorem walk (v : Value) (len : Nat) (w : World) (h : Byt w v len) :
    Calls Try.prog 3 #[v] w fun e w' => e = .returned (.bool true) ∧ Below w.heap.size w w' := by
  have HB := Lib.hid h
  have hlen : len ≤ 9223372036854775807 := by obtain ⟨z, a, cap, -, h1, h2, -⟩ := h; unfold maxLen at h2; omega
  obtain ⟨z, a, cap, rfl, -, -, -⟩ := h
  by_cases hL : len ≤ 1048576
  · go_enter Try.func3, Try.ntmps3
    go_wp2_with fail
    refine (drawStoreFall_any _ len _ HB.out).mono ?_; rintro e w1 ⟨S, y0, y1, y2, y3, y4, rfl, hz, hn, HS, hb⟩
    have hq := HS.out w1 (Btn.refl _ _ _)
    obtain ⟨pa0, ca0, rfl⟩ := hq.now.form
    obtain ⟨pa1, ca1, rfl⟩ := hq.sure.form
    obtain ⟨pa2, ca2, rfl⟩ := hq.last.form
    obtain ⟨pa3, ca3, rfl⟩ := hq.slast.form
    obtain ⟨pa4, ca4, rfl⟩ := hq.floors.form
    have s_0 := Lib.hid hq
    have HZ := Lib.hid hz
    have HN := Lib.hid hn
    have E_0 := Lib.hid hb
    have S_0 := Lib.hid hb.size
    clear hq hz hn HS hb HB
    obtain ⟨XX, hX⟩ : ∃ R, fallT S = R := ⟨_, rfl⟩
    obtain ⟨YY, hY⟩ : ∃ R, syncT S = R := ⟨_, rfl⟩
    have HX := Lib.hid hX
    have HY := Lib.hid hY
    have HZX : Hid (szT XX) := by rw [← hX]; exact sz_fall HZ.out
    have HZY : Hid (szT YY) := by rw [← hY]; exact sz_sync HZ.out
    clear hX hY
    obtain ⟨W1, hW1⟩ : ∃ X, w1.alloc (.cells #[.slice pa0 S.now.length ca0, .slice pa1 S.sure.length ca1, .slice pa2 S.last.length ca2, .slice pa3 S.slast.length ca3, .slice pa4 S.floors.length ca4] 26) = X := ⟨_, rfl⟩
    have hb : Below w1.heap.size w1 W1 := by rw [← hW1]; exact (Below.refl _ _).alloc (Nat.le_refl _) _
    have hB : Box5 W1 w1.heap.size (.slice pa0 S.now.length ca0) (.slice pa1 S.sure.length ca1) (.slice pa2 S.last.length ca2) (.slice pa3 S.slast.length ca3) (.slice pa4 S.floors.length ca4) := by rw [← hW1]; exact new_box5 _ _ _ _ _ _ _
    have hl : w1.heap.size < W1.heap.size := by rw [← hW1]; simp
    have s_2 := Lib.hid (s_0.out.keep hb)
    have E_3 := Lib.hid (E_0.out.trans (hb.mono E_0.out.size))
    have S_3 := Lib.hid hb.size
    clear s_0 E_0 hb
    have bs_4 := Lib.hid hB
    have S_4b := Lib.hid hl
    clear hB hl
    obtain ⟨x00, x01, x02, x03, x04⟩ := bs_4.out
    go_wp2_with fail
    clear hW1
    refine (fallR _ _ _ _ _ S XX HX.out _ s_2.out HZ.out).mono ?_; rintro e w5 ⟨g0, g1, g2, g3, g4, rfl, M, hb⟩
    have s_6 := Lib.hid (s_2.out.keep hb)
    have bs_7 := Lib.hid (bs_4.out.keep hb)
    have E_8 := Lib.hid (E_3.out.trans (hb.mono E_3.out.size))
    have S_8 := Lib.hid hb.size
    clear x00 x01 x02 x03 x04
    clear s_2 bs_4 E_3 hb
    have mx_9 := M
    clear M
    obtain ⟨pg0, cg0, rfl⟩ := mx_9.out.a.vls.form
    obtain ⟨pg1, cg1, rfl⟩ := mx_9.out.b.vls.form
    obtain ⟨pg2, cg2, rfl⟩ := mx_9.out.c.vls.form
    obtain ⟨pg3, cg3, rfl⟩ := mx_9.out.d.vls.form
    obtain ⟨pg4, cg4, rfl⟩ := mx_9.out.e.vls.form
    obtain ⟨W10, hW10⟩ : ∃ X, w5.alloc (.cells #[.slice pg0 XX.n5.a cg0, .slice pg1 XX.n5.b cg1, .slice pg2 XX.n5.c cg2, .slice pg3 XX.n5.d cg3, .slice pg4 XX.n5.e cg4] 26) = X := ⟨_, rfl⟩
    have hb : Below w5.heap.size w5 W10 := by rw [← hW10]; exact (Below.refl _ _).alloc (Nat.le_refl _) _
    have hB : Box5 W10 w5.heap.size (.slice pg0 XX.n5.a cg0) (.slice pg1 XX.n5.b cg1) (.slice pg2 XX.n5.c cg2) (.slice pg3 XX.n5.d cg3) (.slice pg4 XX.n5.e cg4) := by rw [← hW10]; exact new_box5 _ _ _ _ _ _ _
    have hl : w5.heap.size < W10.heap.size := by rw [← hW10]; simp
    have s_11 := Lib.hid (s_6.out.keep hb)
    have bs_12 := Lib.hid (bs_7.out.keep hb)
    have mx_13 := Lib.hid (mx_9.out.keep hb)
    have E_14 := Lib.hid (E_8.out.trans (hb.mono E_8.out.size))
    have S_14 := Lib.hid hb.size
    clear s_6 bs_7 mx_9 E_8 hb
    have bx_15 := Lib.hid hB
    have S_15b := Lib.hid hl
    clear hB hl
    obtain ⟨x00, x01, x02, x03, x04⟩ := bs_12.out
    go_wp2_with fail
    clear hW10
    refine (syncR _ _ _ _ _ S YY HY.out _ s_11.out HZ.out).mono ?_; rintro e w16 ⟨k0, k1, k2, k3, k4, rfl, M, hb⟩
    have s_17 := Lib.hid (s_11.out.keep hb)
    have bs_18 := Lib.hid (bs_12.out.keep hb)
    have mx_19 := Lib.hid (mx_13.out.keep hb)
    have bx_20 := Lib.hid (bx_15.out.keep hb)
    have E_21 := Lib.hid (E_14.out.trans (hb.mono E_14.out.size))
    have S_21 := Lib.hid hb.size
    clear x00 x01 x02 x03 x04
    clear s_11 bs_12 mx_13 bx_15 E_14 hb
    have my_22 := M
    clear M
    obtain ⟨pk0, ck0, rfl⟩ := my_22.out.a.vls.form
    obtain ⟨pk1, ck1, rfl⟩ := my_22.out.b.vls.form
    obtain ⟨pk2, ck2, rfl⟩ := my_22.out.c.vls.form
    obtain ⟨pk3, ck3, rfl⟩ := my_22.out.d.vls.form
    obtain ⟨pk4, ck4, rfl⟩ := my_22.out.e.vls.form
    obtain ⟨W23, hW23⟩ : ∃ X, w16.alloc (.cells #[.slice pk0 YY.n5.a ck0, .slice pk1 YY.n5.b ck1, .slice pk2 YY.n5.c ck2, .slice pk3 YY.n5.d ck3, .slice pk4 YY.n5.e ck4] 26) = X := ⟨_, rfl⟩
    have hb : Below w16.heap.size w16 W23 := by rw [← hW23]; exact (Below.refl _ _).alloc (Nat.le_refl _) _
    have hB : Box5 W23 w16.heap.size (.slice pk0 YY.n5.a ck0) (.slice pk1 YY.n5.b ck1) (.slice pk2 YY.n5.c ck2) (.slice pk3 YY.n5.d ck3) (.slice pk4 YY.n5.e ck4) := by rw [← hW23]; exact new_box5 _ _ _ _ _ _ _
    have hl : w16.heap.size < W23.heap.size := by rw [← hW23]; simp
    have s_24 := Lib.hid (s_17.out.keep hb)
    have bs_25 := Lib.hid (bs_18.out.keep hb)
    have mx_26 := Lib.hid (mx_19.out.keep hb)
    have bx_27 := Lib.hid (bx_20.out.keep hb)
    have my_28 := Lib.hid (my_22.out.keep hb)
    have E_29 := Lib.hid (E_21.out.trans (hb.mono E_21.out.size))
    have S_29 := Lib.hid hb.size
    clear s_17 bs_18 mx_19 bx_20 my_22 E_21 hb
    have by_30 := Lib.hid hB
    have S_30b := Lib.hid hl
    clear hB hl
    obtain ⟨x00, x01, x02, x03, x04⟩ := bx_27.out
    obtain ⟨x10, x11, x12, x13, x14⟩ := bs_25.out
    obtain ⟨x20, x21, x22, x23, x24⟩ := by_30.out
    go_wp2_with fail
    clear hW23
    have hD : Below W23.heap.size W23 W23.drew := (Below.refl _ _).drew
    go_region_held3 (fun w' => w'.cell? ⟨w5.heap.size, 0, none⟩ = some (.slice pg0 XX.n5.a cg0) ∧ w'.cell? ⟨w5.heap.size, 1, none⟩ = some (.slice pg1 XX.n5.b cg1) ∧ w'.cell? ⟨w5.heap.size, 2, none⟩ = some (.slice pg2 XX.n5.c cg2) ∧ w'.cell? ⟨w5.heap.size, 3, none⟩ = some (.slice pg3 XX.n5.d cg3) ∧ w'.cell? ⟨w5.heap.size, 4, none⟩ = some (.slice pg4 XX.n5.e cg4) ∧ w'.cell? ⟨w1.heap.size, 0, none⟩ = some (.slice pa0 S.now.length ca0) ∧ w'.cell? ⟨w1.heap.size, 1, none⟩ = some (.slice pa1 S.sure.length ca1) ∧ w'.cell? ⟨w1.heap.size, 2, none⟩ = some (.slice pa2 S.last.length ca2) ∧ w'.cell? ⟨w1.heap.size, 3, none⟩ = some (.slice pa3 S.slast.length ca3) ∧ w'.cell? ⟨w1.heap.size, 4, none⟩ = some (.slice pa4 S.floors.length ca4) ∧ w'.cell? ⟨w16.heap.size, 0, none⟩ = some (.slice pk0 YY.n5.a ck0) ∧ w'.cell? ⟨w16.heap.size, 1, none⟩ = some (.slice pk1 YY.n5.b ck1) ∧ w'.cell? ⟨w16.heap.size, 2, none⟩ = some (.slice pk2 YY.n5.c ck2) ∧ w'.cell? ⟨w16.heap.size, 3, none⟩ = some (.slice pk3 YY.n5.d ck3) ∧ w'.cell? ⟨w16.heap.size, 4, none⟩ = some (.slice pk4 YY.n5.e ck4))
      (refine ⟨?_, ?_, ?_, ?_, ?_, ?_, ?_, ?_, ?_, ?_, ?_, ?_, ?_, ?_, ?_⟩ <;> first | (go_keep; done) | (refine cell_keep hb ?_; first | (go_keep; done) | (go_simp; done)))
      (first
        | (go_at_call 9; refine (sameT _ _ _ _ _ _ _ _ _ _ YY _ (my_28.out.keep hR2).sto MG.out.sto).mono ?_; rintro e r31_3 ⟨rfl, hb⟩; have hR3 := hR2.trans (hb.mono hR2.size))
        | (go_at_call 11; refine (ssyncR _ _ _ _ _ S YY HY.out _ (s_24.out.keep hR1) HZ.out HN.out).mono ?_; rintro e r31_2 ⟨b0, b1, b2, b3, b4, rfl, MG, hb⟩; have hR2 := hR1.trans (hb.mono hR1.size))
        | (go_at_call 9; refine (sameT _ _ _ _ _ _ _ _ _ _ XX _ (mx_26.out.keep hR0).sto MF.out.sto).mono ?_; rintro e r31_1 ⟨rfl, hb⟩; have hR1 := hR0.trans (hb.mono hR0.size))
        | (go_at_call 10; refine (sfallR _ _ _ _ _ S XX HX.out _ (s_24.out.keep hD) HZ.out HN.out).mono ?_; rintro e r31_0 ⟨a0, a1, a2, a3, a4, rfl, MF, hb⟩; have hR0 := hD.trans (hb.mono hD.size)))
    have hbb : Below W23.heap.size W23 r31_3 := hR3
    clear hb hD hR0 hR1 hR2 hR3 MF MG
    have s_32 := Lib.hid (s_24.out.keep hbb)
    have bs_33 := Lib.hid (bs_25.out.keep hbb)
    have mx_34 := Lib.hid (mx_26.out.keep hbb)
    have bx_35 := Lib.hid (bx_27.out.keep hbb)
    have my_36 := Lib.hid (my_28.out.keep hbb)
    have by_37 := Lib.hid (by_30.out.keep hbb)
    have E_38 := Lib.hid (E_29.out.trans (hbb.mono E_29.out.size))
    have S_38 := Lib.hid hbb.size
    clear x00 x01 x02 x03 x04 x10 x11 x12 x13 x14 x20 x21 x22 x23 x24
    clear s_24 bs_25 mx_26 bx_27 my_28 by_30 E_29 hbb
    obtain ⟨x00, x01, x02, x03, x04⟩ := bs_33.out
    go_wp2_with fail
    refine (specStoreOk_any _ _ _ _ _ S _ s_32.out HZ.out).mono ?_; rintro e w39 ⟨rfl, hb⟩
    have s_40 := Lib.hid (s_32.out.keep hb)
    have bs_41 := Lib.hid (bs_33.out.keep hb)
    have mx_42 := Lib.hid (mx_34.out.keep hb)
    have bx_43 := Lib.hid (bx_35.out.keep hb)
    have my_44 := Lib.hid (my_36.out.keep hb)
    have by_45 := Lib.hid (by_37.out.keep hb)
    have E_46 := Lib.hid (E_38.out.trans (hb.mono E_38.out.size))
    have S_46 := Lib.hid hb.size
    clear x00 x01 x02 x03 x04
    clear s_32 bs_33 mx_34 bx_35 my_36 by_37 E_38 hb
    by_cases hok : stOkB S = true
    · have HOX : Hid (stOkB XX = true) := by show _ = _; rw [← HX.out]; exact stOkB_fall hok
      have HOY : Hid (stOkB YY = true) := by show _ = _; rw [← HY.out]; exact stOkB_sync hok
      have HFX : Hid (fallT XX = XX) := by show _ = _; rw [← HX.out]; exact fall_fall hok
      have HFY : Hid (fallT YY = YY) := by show _ = _; rw [← HY.out]; exact fall_sync hok
      have HSX : Hid (syncT XX = XX) := by show _ = _; rw [← HX.out]; exact sync_fall hok
      have HFL : Hid (XX.floors = S.floors) := by show _ = _; rw [← HX.out]; exact floors_fall hok
      rw [hok]
      clear hok
      obtain ⟨x00, x01, x02, x03, x04⟩ := bx_43.out
      obtain ⟨x10, x11, x12, x13, x14⟩ := bs_41.out
      obtain ⟨x20, x21, x22, x23, x24⟩ := by_45.out
      go_wp2_with fail
      have hD : Below w39.heap.size w39 w39.drew := (Below.refl _ _).drew
      go_region_held3 (fun w' => w'.cell? ⟨w5.heap.size, 0, none⟩ = some (.slice pg0 XX.n5.a cg0) ∧ w'.cell? ⟨w5.heap.size, 1, none⟩ = some (.slice pg1 XX.n5.b cg1) ∧ w'.cell? ⟨w5.heap.size, 2, none⟩ = some (.slice pg2 XX.n5.c cg2) ∧ w'.cell? ⟨w5.heap.size, 3, none⟩ = some (.slice pg3 XX.n5.d cg3) ∧ w'.cell? ⟨w5.heap.size, 4, none⟩ = some (.slice pg4 XX.n5.e cg4) ∧ w'.cell? ⟨w1.heap.size, 0, none⟩ = some (.slice pa0 S.now.length ca0) ∧ w'.cell? ⟨w1.heap.size, 1, none⟩ = some (.slice pa1 S.sure.length ca1) ∧ w'.cell? ⟨w1.heap.size, 2, none⟩ = some (.slice pa2 S.last.length ca2) ∧ w'.cell? ⟨w1.heap.size, 3, none⟩ = some (.slice pa3 S.slast.length ca3) ∧ w'.cell? ⟨w1.heap.size, 4, none⟩ = some (.slice pa4 S.floors.length ca4) ∧ w'.cell? ⟨w16.heap.size, 0, none⟩ = some (.slice pk0 YY.n5.a ck0) ∧ w'.cell? ⟨w16.heap.size, 1, none⟩ = some (.slice pk1 YY.n5.b ck1) ∧ w'.cell? ⟨w16.heap.size, 2, none⟩ = some (.slice pk2 YY.n5.c ck2) ∧ w'.cell? ⟨w16.heap.size, 3, none⟩ = some (.slice pk3 YY.n5.d ck3) ∧ w'.cell? ⟨w16.heap.size, 4, none⟩ = some (.slice pk4 YY.n5.e ck4))
        (refine ⟨?_, ?_, ?_, ?_, ?_, ?_, ?_, ?_, ?_, ?_, ?_, ?_, ?_, ?_, ?_⟩ <;> first | (go_keep; done) | (refine cell_keep hb ?_; first | (go_keep; done) | (go_simp; done)))
        (first
          | (go_at_call 14; refine (numsT _ _ XX.floors S.floors HFL.out _ (mx_42.out.keep hR7).sto.floors (s_40.out.keep hR7).floors).mono ?_; rintro e r47_8 ⟨rfl, hb⟩; have hR8 := hR7.trans (hb.mono hR7.size))
          | (go_at_call 9; refine (sameT _ _ _ _ _ _ _ _ _ _ XX _ M7.out.sto (mx_42.out.keep hR6).sto).mono ?_; rintro e r47_7 ⟨rfl, hb⟩; have hR7 := hR6.trans (hb.mono hR6.size))
          | (go_at_call 8; refine (syncR _ _ _ _ _ XX XX HSX.out _ (mx_42.out.keep hR5).sto HZX.out).mono ?_; rintro e r47_6 ⟨c0, c1, c2, c3, c4, rfl, M7, hb⟩; have hR6 := hR5.trans (hb.mono hR5.size))
          | (go_at_call 9; refine (sameT _ _ _ _ _ _ _ _ _ _ YY _ M5.out.sto (my_44.out.keep hR4).sto).mono ?_; rintro e r47_5 ⟨rfl, hb⟩; have hR5 := hR4.trans (hb.mono hR4.size))
          | (go_at_call 7; refine (fallR _ _ _ _ _ YY YY HFY.out _ (my_44.out.keep hR3).sto HZY.out).mono ?_; rintro e r47_4 ⟨b0, b1, b2, b3, b4, rfl, M5, hb⟩; have hR4 := hR3.trans (hb.mono hR3.size))
          | (go_at_call 9; refine (sameT _ _ _ _ _ _ _ _ _ _ XX _ M3.out.sto (mx_42.out.keep hR2).sto).mono ?_; rintro e r47_3 ⟨rfl, hb⟩; have hR3 := hR2.trans (hb.mono hR2.size))
          | (go_at_call 7; refine (fallR _ _ _ _ _ XX XX HFX.out _ (mx_42.out.keep hR1).sto HZX.out).mono ?_; rintro e r47_2 ⟨a0, a1, a2, a3, a4, rfl, M3, hb⟩; have hR2 := hR1.trans (hb.mono hR1.size))
          | (go_at_call 13; refine (okT _ _ _ _ _ YY _ (my_44.out.keep hR0).sto HZY.out HOY.out).mono ?_; rintro e r47_1 ⟨rfl, hb⟩; have hR1 := hR0.trans (hb.mono hR0.size))
          | (go_at_call 13; refine (okT _ _ _ _ _ XX _ (mx_42.out.keep hD).sto HZX.out HOX.out).mono ?_; rintro e r47_0 ⟨rfl, hb⟩; have hR0 := hD.trans (hb.mono hD.size)))
      have hbb : Below w39.heap.size w39 r47_8 := hR8
      clear hb hD hR0 hR1 hR2 hR3 hR4 hR5 hR6 hR7 hR8 M3 M5 M7
      have s_48 := Lib.hid (s_40.out.keep hbb)
      have bs_49 := Lib.hid (bs_41.out.keep hbb)
      have mx_50 := Lib.hid (mx_42.out.keep hbb)
      have bx_51 := Lib.hid (bx_43.out.keep hbb)
      have my_52 := Lib.hid (my_44.out.keep hbb)
      have by_53 := Lib.hid (by_45.out.keep hbb)
      have E_54 := Lib.hid (E_46.out.trans (hbb.mono E_46.out.size))
      have S_54 := Lib.hid hbb.size
      clear x00 x01 x02 x03 x04 x10 x11 x12 x13 x14 x20 x21 x22 x23 x24
      clear s_40 bs_41 mx_42 bx_43 my_44 by_45 E_46 hbb
      go_wp2
      go_ret
      exact ⟨rfl, E_54.out⟩
    · have hno : stOkB S = false := by simpa using hok
      have hXn : XX = st0 := by rw [← HX.out]; exact fall_no hno
      have hYn : YY = st0 := by rw [← HY.out]; exact sync_no hno
      rw [hno]
      subst hXn hYn
      clear hok hno
      obtain ⟨x00, x01, x02, x03, x04⟩ := bx_43.out
      go_wp2_with fail
      refine (sameT _ _ _ _ _ _ _ _ _ _ st0 _ mx_42.out.sto (M5.none _ 0 0).sto).mono ?_; rintro e w47 ⟨rfl, hb⟩
      have s_48 := Lib.hid (s_40.out.keep hb)
      have bs_49 := Lib.hid (bs_41.out.keep hb)
      have mx_50 := Lib.hid (mx_42.out.keep hb)
      have bx_51 := Lib.hid (bx_43.out.keep hb)
      have my_52 := Lib.hid (my_44.out.keep hb)
      have by_53 := Lib.hid (by_45.out.keep hb)
      have E_54 := Lib.hid (E_46.out.trans (hb.mono E_46.out.size))
      have S_54 := Lib.hid hb.size
      clear x00 x01 x02 x03 x04
      clear s_40 bs_41 mx_42 bx_43 my_44 by_45 E_46 hb
      obtain ⟨x00, x01, x02, x03, x04⟩ := by_53.out
      go_wp2_with fail
      refine (sameT _ _ _ _ _ _ _ _ _ _ st0 _ my_52.out.sto (M5.none _ 0 0).sto).mono ?_; rintro e w55 ⟨rfl, hb⟩
      have s_56 := Lib.hid (s_48.out.keep hb)
      have bs_57 := Lib.hid (bs_49.out.keep hb)
      have mx_58 := Lib.hid (mx_50.out.keep hb)
      have bx_59 := Lib.hid (bx_51.out.keep hb)
      have my_60 := Lib.hid (my_52.out.keep hb)
      have by_61 := Lib.hid (by_53.out.keep hb)
      have E_62 := Lib.hid (E_54.out.trans (hb.mono E_54.out.size))
      have S_62 := Lib.hid hb.size
      clear x00 x01 x02 x03 x04
      clear s_48 bs_49 mx_50 bx_51 my_52 by_53 E_54 hb
      go_wp2
      go_ret
      exact ⟨rfl, E_62.out⟩
  · go_enter Try.func3, Try.ntmps3
    go_wp2
    go_ret
    exact ⟨rfl, Below.refl _ _⟩

end Go.Proofs.Ytjknmocimenagaa.fnStoreFall
