/-
  laws.FnStoreSame returns true at every code: the walk of the law. No condition.
-/
import Derived.Test.YtjbkahfbaploaaaStoDrawS
import Derived.Test.YtjbkahfbaploaaaAppOwn
import Derived.Test.YtjbkahfbaploaaaStoNew
import Derived.Test.YtjbkahfbaploaaaStoOk
import Derived.Test.YtjbkahfbaploaaaStoSame
import Derived.Deep.RegionHeld3
namespace Go.Proofs.Ytjbkahfbaploaaa.fnStoreSame
open Go.RowKit

theorem one_at {j : Nat} {u : Value} (h : [Value.string ⟨#[]⟩][j]? = some u) : j = 0 ∧ u = .string ⟨#[]⟩ := by
  match j, h with
  | 0, h => simp at h; exact ⟨rfl, h.symm⟩
  | j + 1, h => simp at h
theorem same_symm (S T : StT) : sameB T S = sameB S T := by
  rw [Bool.eq_iff_iff, sameB_iff, sameB_iff]; exact eq_comm
theorem same_more (S : StT) : sameB S ⟨S.now ++ [[]], S.sure, S.last, S.slast, S.floors⟩ = false := by
  cases h : sameB S ⟨S.now ++ [[]], S.sure, S.last, S.slast, S.floors⟩
  · rfl
  · have := congrArg (fun X => X.now.length) (sameB_iff.1 h)
    simp at this
theorem sameR (v0 v1 v2 v3 v4 u0 u1 u2 u3 u4 : Value) (S T : StT) (b : Bool) (hb : sameB S T = b) (w : World) (h : Sto w v0 v1 v2 v3 v4 S) (h' : Sto w u0 u1 u2 u3 u4 T) :
    Calls Try.prog 16 #[.agg #[v0, v1, v2, v3, v4], .agg #[u0, u1, u2, u3, u4]] w fun e w' => e = .returned (.bool b) ∧ Below w.heap.size w w' := by
  subst hb; exact implSame_any _ _ _ _ _ _ _ _ _ _ S T w h h'
theorem ssameR (v0 v1 v2 v3 v4 u0 u1 u2 u3 u4 : Value) (S T : StT) (b : Bool) (hb : sameB S T = b) (w : World) (h : Sto w v0 v1 v2 v3 v4 S) (h' : Sto w u0 u1 u2 u3 u4 T) :
    Calls Try.prog 17 #[.agg #[v0, v1, v2, v3, v4], .agg #[u0, u1, u2, u3, u4]] w fun e w' => e = .returned (.bool b) ∧ Below w.heap.size w w' := by
  subst hb; exact specSame_any _ _ _ _ _ _ _ _ _ _ S T w h h'
theorem okT (v0 v1 v2 v3 v4 : Value) (S : StT) (w : World) (h : Sto w v0 v1 v2 v3 v4 S) (hz : szT S) (ho : stOkB S = true) :
    Calls Try.prog 19 #[.agg #[v0, v1, v2, v3, v4]] w fun e w' => e = .returned (.bool true) ∧ Below w.heap.size w w' := by
  have := implStoreOk_any _ _ _ _ _ S w h hz
  rwa [ho] at this
theorem newR (N : StT) (hN : stNew = N) (w : World) : Calls Try.prog 15 #[] w (ToSt w N) := by
  subst hN; exact implNew_any w
theorem snewR (N : StT) (hN : stNew = N) (w : World) : Calls Try.prog 18 #[] w (ToSt w N) := by
  subst hN; exact specNew_any w

set_option maxRecDepth 100000 in
set_option maxHeartbeats 16000000 in
theorem walk (v : Value) (len : Nat) (w : World) (h : Byt w v len) :
    Calls Try.prog 4 #[v] w fun e w' => e = .returned (.bool true) ∧ Below w.heap.size w w' := by
  have HB := Lib.hid h
  have hlen : len ≤ 9223372036854775807 := by obtain ⟨z, a, cap, -, h1, h2, -⟩ := h; unfold maxLen at h2; omega
  obtain ⟨z, a, cap, rfl, -, -, -⟩ := h
  by_cases hL : len ≤ 1048576
  · go_enter Try.func4, Try.ntmps4
    go_wp2_with fail
    refine (drawStoreSame_any _ len _ HB.out).mono ?_; rintro e w1 ⟨S, T, y0, y1, y2, y3, y4, z0, z1, z2, z3, z4, rfl, hz, hn, hzT, hnT, HS, HT, hb⟩
    have hq := HS.out w1 (Btn.refl _ _ _)
    have hq' := HT.out w1 (Btn.refl _ _ _)
    obtain ⟨pa0, ca0, rfl⟩ := hq.now.form
    obtain ⟨pa1, ca1, rfl⟩ := hq.sure.form
    obtain ⟨pa2, ca2, rfl⟩ := hq.last.form
    obtain ⟨pa3, ca3, rfl⟩ := hq.slast.form
    obtain ⟨pa4, ca4, rfl⟩ := hq.floors.form
    obtain ⟨pb0, cb0, rfl⟩ := hq'.now.form
    obtain ⟨pb1, cb1, rfl⟩ := hq'.sure.form
    obtain ⟨pb2, cb2, rfl⟩ := hq'.last.form
    obtain ⟨pb3, cb3, rfl⟩ := hq'.slast.form
    obtain ⟨pb4, cb4, rfl⟩ := hq'.floors.form
    have s_0 := Lib.hid hq
    have t_0 := Lib.hid hq'
    have HZ := Lib.hid hz
    have HN := Lib.hid hn
    have E_0 := Lib.hid hb
    have S_0 := Lib.hid hb.size
    clear hq hq' hz hn hzT hnT HS HT hb HB
    obtain ⟨c, hc⟩ : ∃ c, sameB S T = c := ⟨_, rfl⟩
    have HC := Lib.hid hc
    have HC' := Lib.hid ((same_symm S T).trans hc)
    obtain ⟨M, hM⟩ : ∃ M, S.now ++ [[]] = M := ⟨_, rfl⟩
    have hne := same_more S
    rw [hM] at hne
    have HNE := Lib.hid hne
    have HM := Lib.hid hM
    clear hne hM
    obtain ⟨N, hN⟩ : ∃ N, stNew = N := ⟨_, rfl⟩
    have HNW := Lib.hid hN
    have HNO : Hid (stOkB N = true) := by show _ = _; rw [← hN]; exact stOkB_new
    clear hc hN
    go_wp2_with fail
    obtain ⟨W1, hW1⟩ : ∃ X, w1.alloc (.cells #[.slice pa0 S.now.length ca0, .slice pa1 S.sure.length ca1, .slice pa2 S.last.length ca2, .slice pa3 S.slast.length ca3, .slice pa4 S.floors.length ca4] 42) = X := ⟨_, rfl⟩
    have hb : Below w1.heap.size w1 W1 := by rw [← hW1]; exact (Below.refl _ _).alloc (Nat.le_refl _) _
    have hB : Box5 W1 w1.heap.size (.slice pa0 S.now.length ca0) (.slice pa1 S.sure.length ca1) (.slice pa2 S.last.length ca2) (.slice pa3 S.slast.length ca3) (.slice pa4 S.floors.length ca4) := by rw [← hW1]; exact new_box5 _ _ _ _ _ _ _
    have hl : w1.heap.size < W1.heap.size := by rw [← hW1]; simp
    have s_2 := Lib.hid (s_0.out.keep hb)
    have t_3 := Lib.hid (t_0.out.keep hb)
    have E_4 := Lib.hid (E_0.out.trans (hb.mono E_0.out.size))
    have S_4 := Lib.hid hb.size
    clear s_0 t_0 E_0 hb
    have bs_5 := Lib.hid hB
    have S_5b := Lib.hid hl
    clear hB hl
    rw [hW1]
    obtain ⟨W6, hW6⟩ : ∃ X, W1.alloc (.cells #[.slice pb0 T.now.length cb0, .slice pb1 T.sure.length cb1, .slice pb2 T.last.length cb2, .slice pb3 T.slast.length cb3, .slice pb4 T.floors.length cb4] 42) = X := ⟨_, rfl⟩
    have hb : Below W1.heap.size W1 W6 := by rw [← hW6]; exact (Below.refl _ _).alloc (Nat.le_refl _) _
    have hB : Box5 W6 W1.heap.size (.slice pb0 T.now.length cb0) (.slice pb1 T.sure.length cb1) (.slice pb2 T.last.length cb2) (.slice pb3 T.slast.length cb3) (.slice pb4 T.floors.length cb4) := by rw [← hW6]; exact new_box5 _ _ _ _ _ _ _
    have hl : W1.heap.size < W6.heap.size := by rw [← hW6]; simp
    have s_7 := Lib.hid (s_2.out.keep hb)
    have t_8 := Lib.hid (t_3.out.keep hb)
    have bs_9 := Lib.hid (bs_5.out.keep hb)
    have E_10 := Lib.hid (E_4.out.trans (hb.mono E_4.out.size))
    have S_10 := Lib.hid hb.size
    clear s_2 t_3 bs_5 E_4 hb
    have bt_11 := Lib.hid hB
    have S_11b := Lib.hid hl
    clear hB hl
    have hs1 : W1.heap.size = w1.heap.size + 1 := by rw [← hW1]; simp
    rw [hW6]
    clear hW1 hW6
    have hBT := bt_11.out
    rw [hs1] at hBT
    have bt_12 := Lib.hid hBT
    clear hBT bt_11 hs1
    refine (newR N HNW.out _).mono ?_; rintro e w13 ⟨g0, g1, g2, g3, g4, rfl, M, hb⟩
    have s_14 := Lib.hid (s_7.out.keep hb)
    have t_15 := Lib.hid (t_8.out.keep hb)
    have bs_16 := Lib.hid (bs_9.out.keep hb)
    have bt_17 := Lib.hid (bt_12.out.keep hb)
    have E_18 := Lib.hid (E_10.out.trans (hb.mono E_10.out.size))
    have S_18 := Lib.hid hb.size
    clear s_7 t_8 bs_9 bt_12 E_10 hb
    have mn_19 := M
    clear M
    obtain ⟨pg0, cg0, rfl⟩ := mn_19.out.a.vls.form
    obtain ⟨pg1, cg1, rfl⟩ := mn_19.out.b.vls.form
    obtain ⟨pg2, cg2, rfl⟩ := mn_19.out.c.vls.form
    obtain ⟨pg3, cg3, rfl⟩ := mn_19.out.d.vls.form
    obtain ⟨pg4, cg4, rfl⟩ := mn_19.out.e.vls.form
    obtain ⟨W20, hW20⟩ : ∃ X, w13.alloc (.cells #[.slice pg0 N.n5.a cg0, .slice pg1 N.n5.b cg1, .slice pg2 N.n5.c cg2, .slice pg3 N.n5.d cg3, .slice pg4 N.n5.e cg4] 42) = X := ⟨_, rfl⟩
    have hb : Below w13.heap.size w13 W20 := by rw [← hW20]; exact (Below.refl _ _).alloc (Nat.le_refl _) _
    have hB : Box5 W20 w13.heap.size (.slice pg0 N.n5.a cg0) (.slice pg1 N.n5.b cg1) (.slice pg2 N.n5.c cg2) (.slice pg3 N.n5.d cg3) (.slice pg4 N.n5.e cg4) := by rw [← hW20]; exact new_box5 _ _ _ _ _ _ _
    have hl : w13.heap.size < W20.heap.size := by rw [← hW20]; simp
    have s_21 := Lib.hid (s_14.out.keep hb)
    have t_22 := Lib.hid (t_15.out.keep hb)
    have bs_23 := Lib.hid (bs_16.out.keep hb)
    have bt_24 := Lib.hid (bt_17.out.keep hb)
    have mn_25 := Lib.hid (mn_19.out.keep hb)
    have E_26 := Lib.hid (E_18.out.trans (hb.mono E_18.out.size))
    have S_26 := Lib.hid hb.size
    clear s_14 t_15 bs_16 bt_17 mn_19 E_18 hb
    have bn_27 := Lib.hid hB
    have S_27b := Lib.hid hl
    clear hB hl
    obtain ⟨x00, x01, x02, x03, x04⟩ := bs_23.out
    obtain ⟨x10, x11, x12, x13, x14⟩ := bt_24.out
    obtain ⟨x20, x21, x22, x23, x24⟩ := bn_27.out
    go_wp2_with fail
    clear hW20
    have hD : Below W20.heap.size W20 W20.drew := (Below.refl _ _).drew
    go_region_held3 (fun w' => w'.cell? ⟨w1.heap.size, 0, none⟩ = some (.slice pa0 S.now.length ca0) ∧ w'.cell? ⟨w1.heap.size, 1, none⟩ = some (.slice pa1 S.sure.length ca1) ∧ w'.cell? ⟨w1.heap.size, 2, none⟩ = some (.slice pa2 S.last.length ca2) ∧ w'.cell? ⟨w1.heap.size, 3, none⟩ = some (.slice pa3 S.slast.length ca3) ∧ w'.cell? ⟨w1.heap.size, 4, none⟩ = some (.slice pa4 S.floors.length ca4) ∧ w'.cell? ⟨w1.heap.size + 1, 0, none⟩ = some (.slice pb0 T.now.length cb0) ∧ w'.cell? ⟨w1.heap.size + 1, 1, none⟩ = some (.slice pb1 T.sure.length cb1) ∧ w'.cell? ⟨w1.heap.size + 1, 2, none⟩ = some (.slice pb2 T.last.length cb2) ∧ w'.cell? ⟨w1.heap.size + 1, 3, none⟩ = some (.slice pb3 T.slast.length cb3) ∧ w'.cell? ⟨w1.heap.size + 1, 4, none⟩ = some (.slice pb4 T.floors.length cb4) ∧ w'.cell? ⟨w13.heap.size, 0, none⟩ = some (.slice pg0 N.n5.a cg0) ∧ w'.cell? ⟨w13.heap.size, 1, none⟩ = some (.slice pg1 N.n5.b cg1) ∧ w'.cell? ⟨w13.heap.size, 2, none⟩ = some (.slice pg2 N.n5.c cg2) ∧ w'.cell? ⟨w13.heap.size, 3, none⟩ = some (.slice pg3 N.n5.d cg3) ∧ w'.cell? ⟨w13.heap.size, 4, none⟩ = some (.slice pg4 N.n5.e cg4))
      (refine ⟨?_, ?_, ?_, ?_, ?_, ?_, ?_, ?_, ?_, ?_, ?_, ?_, ?_, ?_, ?_⟩ <;> first | (go_keep; done) | (refine cell_keep hb ?_; first | (go_keep; done) | (go_simp; done)))
      (first
        | (go_at_call 19; refine (okT _ _ _ _ _ N _ (mn_25.out.keep hR6).sto (szT_of HNO.out) HNO.out).mono ?_; rintro e r28_7 ⟨rfl, hb⟩; have hR7 := hR6.trans (hb.mono hR6.size))
        | (go_at_call 16; refine (sameR _ _ _ _ _ _ _ _ _ _ N N true (sameB_self N) _ (mn_25.out.keep hR5).sto MF.out.sto).mono ?_; rintro e r28_6 ⟨rfl, hb⟩; have hR6 := hR5.trans (hb.mono hR5.size))
        | (go_at_call 18; refine (snewR N HNW.out _).mono ?_; rintro e r28_5 ⟨a0, a1, a2, a3, a4, rfl, MF, hb⟩; have hR5 := hR4.trans (hb.mono hR4.size))
        | (go_at_call 16; refine (sameR _ _ _ _ _ _ _ _ _ _ S S true (sameB_self S) _ (s_21.out.keep hR3) (s_21.out.keep hR3)).mono ?_; rintro e r28_4 ⟨rfl, hb⟩; have hR4 := hR3.trans (hb.mono hR3.size))
        | (go_at_call 16; refine (sameR _ _ _ _ _ _ _ _ _ _ T S c HC'.out _ (t_22.out.keep hR2) (s_21.out.keep hR2)).mono ?_; rintro e r28_3 ⟨rfl, hb⟩; have hR3 := hR2.trans (hb.mono hR2.size))
        | (go_at_call 16; refine (sameR _ _ _ _ _ _ _ _ _ _ S T c HC.out _ (s_21.out.keep hR1) (t_22.out.keep hR1)).mono ?_; rintro e r28_2 ⟨rfl, hb⟩; have hR2 := hR1.trans (hb.mono hR1.size))
        | (go_at_call 17; refine (ssameR _ _ _ _ _ _ _ _ _ _ S T c HC.out _ (s_21.out.keep hR0) (t_22.out.keep hR0)).mono ?_; rintro e r28_1 ⟨rfl, hb⟩; have hR1 := hR0.trans (hb.mono hR0.size))
        | (go_at_call 16; refine (sameR _ _ _ _ _ _ _ _ _ _ S T c HC.out _ (s_21.out.keep hD) (t_22.out.keep hD)).mono ?_; rintro e r28_0 ⟨rfl, hb⟩; have hR0 := hD.trans (hb.mono hD.size)))
    have hbb : Below W20.heap.size W20 r28_7 := hR7
    clear hb hD hR0 hR1 hR2 hR3 hR4 hR5 hR6 hR7 MF
    have s_29 := Lib.hid (s_21.out.keep hbb)
    have t_30 := Lib.hid (t_22.out.keep hbb)
    have bs_31 := Lib.hid (bs_23.out.keep hbb)
    have bt_32 := Lib.hid (bt_24.out.keep hbb)
    have mn_33 := Lib.hid (mn_25.out.keep hbb)
    have bn_34 := Lib.hid (bn_27.out.keep hbb)
    have E_35 := Lib.hid (E_26.out.trans (hbb.mono E_26.out.size))
    have S_35 := Lib.hid hbb.size
    clear x00 x01 x02 x03 x04 x10 x11 x12 x13 x14 x20 x21 x22 x23 x24
    clear s_21 t_22 bs_23 bt_24 mn_25 bn_27 E_26 hbb
    obtain ⟨x00, x01, x02, x03, x04⟩ := bs_31.out
    obtain ⟨X, hX⟩ : ∃ X, r28_7.alloc (.cells #[.slice pa0 S.now.length ca0, .slice pa1 S.sure.length ca1, .slice pa2 S.last.length ca2, .slice pa3 S.slast.length ca3, .slice pa4 S.floors.length ca4] 42) = X := ⟨_, rfl⟩
    have hwX : Below r28_7.heap.size r28_7 X := by rw [← hX]; exact (Below.refl _ _).alloc (Nat.le_refl _) _
    have hB : Box5W X r28_7.heap.size (.slice pa0 S.now.length ca0) (.slice pa1 S.sure.length ca1) (.slice pa2 S.last.length ca2) (.slice pa3 S.slast.length ca3) (.slice pa4 S.floors.length ca4) := by rw [← hX]; exact new_box5W _ _ _ _ _ _ _
    have hl : r28_7.heap.size < X.heap.size := by rw [← hX]; simp
    have HWX := Lib.hid hwX
    have HBX := Lib.hid hB
    have HL := Lib.hid hl
    clear hwX hB hl bt_32 bn_34 mn_33 t_30
    have HV := Lib.hid (s_29.out.now.keep (HWX.out.trans (((Below.refl X.heap.size X).alloc (Nat.le_refl _) (.cells #[] 9)).mono HWX.out.size)))
    obtain ⟨l0, l1, l2, l3, l4⟩ := bs_31.out.keep (HWX.out.trans (((Below.refl X.heap.size X).alloc (Nat.le_refl _) (.cells #[] 9)).mono HWX.out.size))
    go_wp2_with (at_builtin; go_must (
        clear hX x00 x01 x02 x03 x04
        refine wpList_app0_own rfl (.tmp 50) (.tmp 52) 31 9 rfl Try.underlying31 _ rfl 16 infoStrV (by omega) X.heap.size X.heap.size (Nat.le_refl _) (heap_alloc_new _ _) rfl (.slice pa0 S.now.length ca0) rfl S.now.length _ HV.out (fun _ => rfl) HN.out.1 ?_; intro va wa qa qn qb
        have hba : Below X.heap.size X wa := ((Below.refl _ _).alloc (Nat.le_refl _) _).trans (qb.mono (by simp))
        clear HV l0 l1 l2 l3 l4 qb
        have hlt := qa.lt
        obtain ⟨i0, hi, hz0, hz1, hz2⟩ := info_parts infoStrV
        have HA := Lib.hid hba
        have HQ := Lib.hid qa
        have HLT := Lib.hid hlt
        clear qa hba hlt
        go_wp2_with (at_builtin; go_must (
            refine wpList_append_own _ rfl _ _ 31 rfl X.heap.size 9 i0 (.string ⟨#[]⟩) 1 16 Try.underlying31 hi hz0 hz1 hz2 rfl (by decide) va S.now.length _ rfl (HQ.out.alloc _) ⟨wa.heap.size, 0, none⟩ 1 1 [.string ⟨#[]⟩] rfl rfl ?c1 ?c2 ?c3 ?c4 ?c5 ?_
            case c1 => intro j u hu; obtain ⟨rfl, rfl⟩ := one_at hu; go_simp
            case c2 => simp [Value.oneCell']
            case c3 => have h1 : S.now.length ≤ 1048576 := HN.out.1; unfold maxLen; omega
            case c4 => have h1 : S.now.length ≤ 1048576 := HN.out.1; omega
            case c5 => have := HA.out.size; simp; omega
            intro vb wb qb qg _
            clear hi hz0 hz1 hz2
            have hb : Below X.heap.size X wb := (HA.out.alloc HA.out.size _).trans (below_own qg (fun k hk => (HLT.out k hk).1) (by have := HA.out.size; simp; omega))
            have hv := mk_snoc qb
            rw [HM.out] at hv
            clear qb qg HA HQ HLT qn
            obtain ⟨pc, cc, rfl⟩ := hv.vls.form
            have HWB := Lib.hid (HWX.out.trans (hb.mono HWX.out.size))
            have HV := Lib.hid hv
            have HXB := Lib.hid (HBX.out.keep hb)
            clear hb hv HBX HWX
            obtain ⟨m0, m1, m2, m3, m4, f0, f1, f2, f3, f4⟩ := HXB.out
            obtain ⟨Y, hY⟩ : ∃ X, wb.setCell ⟨r28_7.heap.size, 0, none⟩ (.slice pc M.length cc) = X := ⟨_, rfl⟩
            have ht : Btn (r28_7.heap.size) (r28_7.heap.size + 1) wb Y := by rw [← hY]; exact btn_set _ _ _ _
            have hB : Box5W Y (r28_7.heap.size) (.slice pc M.length cc) (.slice pa1 S.sure.length ca1) (.slice pa2 S.last.length ca2) (.slice pa3 S.slast.length ca3) (.slice pa4 S.floors.length ca4) := by rw [← hY]; exact HXB.out.set0 _
            have hE := HWB.out.trans (ht.below (Nat.le_refl _) HWB.out.size)
            have HN2 := Lib.hid (HV.out.btn ht (.inr HL.out)).vls
            have HS2 := Lib.hid (s_29.out.keep hE)
            have HB2 := Lib.hid (bs_31.out.keep hE)
            have HBE := Lib.hid hE
            have HB3 := Lib.hid hB
            clear ht hB hE HXB HV HWB HL
            obtain ⟨l0, l1, l2, l3, l4⟩ := HB2.out
            obtain ⟨k0, k1, k2, k3, k4, -, -, -, -, -⟩ := HB3.out
            go_wp2_with fail
            clear hY m0 m1 m2 m3 m4 f0 f1 f2 f3 f4
            refine (sameR _ _ _ _ _ _ _ _ _ _ S ⟨M, S.sure, S.last, S.slast, S.floors⟩ false HNE.out _ HS2.out ⟨HN2.out, HS2.out.sure, HS2.out.last, HS2.out.slast, HS2.out.floors⟩).mono ?_; rintro e wz ⟨rfl, hb⟩
            have hf := E_35.out.trans (HBE.out.mono E_35.out.size)
            have hg := hf.trans (hb.mono hf.size)
            clear hf hb l0 l1 l2 l3 l4 k0 k1 k2 k3 k4
            go_wp2
            go_ret
            exact ⟨rfl, hg⟩))))
  · go_enter Try.func4, Try.ntmps4
    go_wp2
    go_ret
    exact ⟨rfl, Below.refl _ _⟩

end Go.Proofs.Ytjbkahfbaploaaa.fnStoreSame
