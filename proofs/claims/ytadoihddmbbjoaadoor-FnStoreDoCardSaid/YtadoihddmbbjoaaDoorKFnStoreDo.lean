/-
  What a request that is done leaves: one object written, one number one greater. Plain mathematics.
  laws.FnStoreDo returns true at every code: the walk of the law. The four sentinels are laid.
-/
import Derived.Test.YtadoihddmbbjoaaDoorKDoApart
import Derived.Test.YtadoihddmbbjoaaDoorKStoReadI
import Derived.Test.YtadoihddmbbjoaaDoorKStoDrawD
import Derived.Test.YtadoihddmbbjoaaDoorKStoIDoA
import Derived.Test.YtadoihddmbbjoaaDoorKStoSame
import Derived.Test.YtadoihddmbbjoaaDoorKStoOk
import Derived.Deep.RegionHeld3
namespace Go.Proofs.YtadoihddmbbjoaaDoor

structure Fine (S T : StT) (q : ReqT) (N : List UInt8) (L : Int) : Prop where
  ok : stOkB S = true
  okT : stOkB T = true
  obj : 0 ≤ q.obj ∧ q.obj < 3
  who : 0 ≤ q.who ∧ q.who < 3
  pos : 0 ≤ q.pos ∧ q.pos + q.data.length ≤ 48
  n3 : S.now.length = 3
  m3 : T.now.length = 3
  l3 : S.last.length = 3
  k3 : T.last.length = 3
  long : (S.now.getD q.obj.toNat []).length ≤ 2000000
  tw : twS (S.now.getD q.obj.toNat []) q.pos q.data = N
  twb : twB (S.now.getD q.obj.toNat []) q.pos q.data = true
  same : ∀ i : Nat, i < 3 → (i : Int) ≠ q.obj → T.now.getD i [] = S.now.getD i []
  new : ∀ i : Nat, (i : Int) = q.obj → T.now.getD i [] = N
  last : S.last.getD q.who.toNat 0 = L
  next : T.last.getD q.who.toNat 0 = L + 1
  num : 0 ≤ L ∧ L ≤ 1000
  rd : rdT T q.obj q.pos (q.pos + (q.data.length : Int)) = q.data
  rdb : rdB T q.obj q.pos (q.pos + (q.data.length : Int)) = true

theorem fine_of {S : StT} {q : ReqT} (h : doK S q = 0) : ∃ N L, Fine S (doT S q) q N L := by
  have hok : stOkB S = true := by
    by_cases hs : stOkB S = true
    · exact hs
    · unfold doK at h; rw [if_neg hs] at h; cases h
  have hc : doC S q = 0 := by unfold doK at h; rwa [if_pos hok] at h
  have hT : doT S q = doS S q := by unfold doT; rw [if_pos hok]
  obtain ⟨hq, hn⟩ := doC_fine hc
  obtain ⟨⟨w0, w1⟩, -, ⟨n0, n1⟩, ⟨o0, o1⟩, hw⟩ := rqB_iff.1 hq
  obtain ⟨p0, p1, p2, p3⟩ := wokB_iff.1 hw
  have hokT : stOkB (doS S q) = true := stOkB_doS hok
  have h0 := hok
  unfold stOkB at h0
  simp only [Bool.and_eq_true] at h0
  obtain ⟨ht, -, hm⟩ := h0
  obtain ⟨t1, t2⟩ := txB_iff.1 ht
  obtain ⟨hl, ha⟩ := nmB_iff.1 hm
  obtain ⟨l1, -, -⟩ := lensB_iff.1 hl
  have hk := numB_iff.1 (ha q.who.toNat (by omega))
  have htk := t2 q.obj.toNat (by omega)
  have hlen : (S.now.getD q.obj.toNat []).length ≤ 48 := (tokB_iff.1 htk).1
  have hN : (doS S q).now = S.now.set q.obj.toNat (wrL (S.now.getD q.obj.toNat []) q.pos.toNat q.data) := by rw [doS_is hc]
  have hL : (doS S q).last = S.last.set q.who.toNat q.num := by rw [doS_is hc]
  have hnew : (doS S q).now.getD q.obj.toNat [] = wrL (S.now.getD q.obj.toNat []) q.pos.toNat q.data := by rw [hN, getD_set, if_pos ⟨rfl, by omega⟩]
  have d0 : 0 < q.data.length := List.length_pos_iff.2 p1
  have hrb : rdB (doS S q) q.obj q.pos (q.pos + (q.data.length : Int)) = true := by
    unfold rdB
    rw [hokT, cliB_yes ⟨o0, o1⟩, spanOkB_iff.2 ⟨p0, by omega, by omega⟩]; rfl
  rw [hT]
  refine ⟨wrL (S.now.getD q.obj.toNat []) q.pos.toNat q.data, S.last.getD q.who.toNat 0, hok, hokT, ⟨o0, o1⟩, ⟨w0, w1⟩, ⟨p0, p3⟩, t1, by rw [hN]; simpa using t1, l1, by rw [hL]; simpa using l1, by omega, ?_, ?_, ?_, ?_, rfl, ?_, ⟨by have := hk.1; have := hk.2.1; omega, hk.2.2.1⟩, ?_, hrb⟩
  · unfold twS; rw [if_pos htk, if_pos hw]
  · unfold twB; rw [htk, hw]; rfl
  · intro i hi hne
    rw [hN, getD_set, if_neg (fun e => hne (by omega))]
  · intro i hi
    rw [show i = q.obj.toNat by omega]; exact hnew
  · rw [hL, getD_set, if_pos ⟨rfl, by omega⟩]; omega
  · unfold rdT
    rw [if_pos hrb, hnew, show (q.pos + (q.data.length : Int)).toNat = q.pos.toNat + q.data.length by omega]
    exact rd_wr _ _ _

theorem not_fine {S : StT} {q : ReqT} (h : doK S q ≠ 0) (hok : stOkB S = true) : doT S q = S := by
  unfold doT; rw [if_pos hok]
  unfold doK at h; rw [if_pos hok] at h
  exact doS_not h
theorem not_ok {S : StT} {q : ReqT} (hok : stOkB S = false) : doT S q = st0 := by
  unfold doT; rw [if_neg (by rw [hok]; simp)]

end Go.Proofs.YtadoihddmbbjoaaDoor

namespace Go.Proofs.YtadoihddmbbjoaaDoor.fnStoreDo
open Go.RowKit

theorem specR (v0 v1 v2 v3 v4 : Value) (S T : StT) (q : ReqT) (k : Int) (hT : doT S q = T) (hk : doK S q = k) (w : World) (h : Sto w v0 v1 v2 v3 v4 S) (hz : szT S) (hn : S.n5.le) (hd : q.data.length ≤ 49) :
    Calls Tryd.prog 8 #[.agg #[v0, v1, v2, v3, v4], .agg (rqA q)] w (ToSK w T k) := by
  subst hT; subst hk; exact specDo_any _ _ _ _ _ S q w h hz hn (by omega)
theorem implR (a0 a1 a2 a3 : Addr) (v0 v1 v2 v3 v4 : Value) (S T : StT) (q : ReqT) (k : Int) (hT : doT S q = T) (hk : doK S q = k) (w : World) (hS : Snt w a0 a1 a2 a3) (h : Sto w v0 v1 v2 v3 v4 S) (hz : szT S) (hd : q.data.length ≤ 49) :
    Calls Tryd.prog 11 #[.agg #[v0, v1, v2, v3, v4], .agg (rqA q)] w (ToSK w T k) := by
  subst hT; subst hk; exact implStoreDo_any a0 a1 a2 a3 _ _ _ _ _ S q w hS h hz (by omega)
theorem sameT (v0 v1 v2 v3 v4 u0 u1 u2 u3 u4 : Value) (S : StT) (w : World) (h : Sto w v0 v1 v2 v3 v4 S) (h' : Sto w u0 u1 u2 u3 u4 S) :
    Calls Tryd.prog 16 #[.agg #[v0, v1, v2, v3, v4], .agg #[u0, u1, u2, u3, u4]] w fun e w' => e = .returned (.bool true) ∧ Below w.heap.size w w' := by
  have := implSame_any _ _ _ _ _ _ _ _ _ _ S S w h h'
  rwa [sameB_self] at this
theorem iokT (v0 v1 v2 v3 v4 : Value) (S : StT) (b : Bool) (w : World) (h : Sto w v0 v1 v2 v3 v4 S) (hz : szT S) (ho : stOkB S = b) :
    Calls Tryd.prog 17 #[.agg #[v0, v1, v2, v3, v4]] w fun e w' => e = .returned (.bool b) ∧ Below w.heap.size w w' := by
  subst ho; exact implStoreOk_any _ _ _ _ _ S w h hz
theorem sokT (v0 v1 v2 v3 v4 : Value) (S : StT) (b : Bool) (w : World) (h : Sto w v0 v1 v2 v3 v4 S) (hz : szT S) (ho : stOkB S = b) :
    Calls Tryd.prog 18 #[.agg #[v0, v1, v2, v3, v4]] w fun e w' => e = .returned (.bool b) ∧ Below w.heap.size w w' := by
  subst ho; exact specStoreOk_any _ _ _ _ _ S w h hz
theorem writeR (l N d : List UInt8) (p : Int) (hl : l.length ≤ 2000000) (hd : d.length ≤ 2000000) (hN : twS l p d = N) (hb : twB l p d = true) (w : World) :
    Calls Tryd.prog 19 #[.string (mkB l), .int .i64 p, .string (mkB d)] w fun e w' => e = .returned (.tuple #[.string (mkB N), .bool true]) ∧ Below w.heap.size w w' := by
  subst hN
  have := implTextWrite_any l p d hl hd w
  rwa [hb] at this
theorem readR (v0 v1 v2 v3 v4 : Value) (T : StT) (o lo hi : Int) (d : List UInt8) (hr : rdT T o lo hi = d) (hb : rdB T o lo hi = true) (w : World) (h : Sto w v0 v1 v2 v3 v4 T) (hz : szT T) :
    Calls Tryd.prog 20 #[.agg #[v0, v1, v2, v3, v4], .int .i64 o, .agg #[.int .i64 lo, .int .i64 hi]] w fun e w' => e = .returned (.tuple #[.string (mkB d), .bool true]) ∧ Below w.heap.size w w' := by
  subst hr
  have := implRead_any _ _ _ _ _ T o lo hi w h hz
  rwa [hb] at this
/-- A row's cell, at an index that is a number of Go's. -/
theorem cell_at {w : World} {a : Option Addr} {n cap : Nat} {f : Nat → Value} {i : Nat} {v : Value} (h : Vls w (.slice a n cap) n f) (hi : i < n) (hv : f i = v) : ∃ b off, a = some ⟨b, off, none⟩ ∧ w.cell? ⟨b, off + i, none⟩ = some v := by
  obtain ⟨a', cap', e, -, -, hc⟩ := h
  obtain ⟨b, off, ha, hcc⟩ := hc (by omega)
  injection e with e1 e2 e3
  exact ⟨b, off, e1.trans ha, hv ▸ hcc i hi⟩
theorem cell_is {w : World} {b off n cap : Nat} {f : Nat → Value} {i : Nat} {v : Value} (h : Vls w (.slice (some ⟨b, off, none⟩) n cap) n f) (hi : i < n) (hv : f i = v) : w.cell? ⟨b, off + i, none⟩ = some v := by
  obtain ⟨b', off', e, hc⟩ := cell_at h hi hv
  injection e with e; injection e with e1 e2 e3
  subst e1; subst e2; exact hc
theorem below_drewN1 (w : World) (j : Nat) : Below w.heap.size w (w.drewN j) := ⟨rfl, rfl, rfl, Nat.le_refl _, fun _ _ => rfl⟩

set_option maxRecDepth 100000 in
set_option maxHeartbeats 16000000 in
theorem walk (b0 b1 b2 b3 : Addr) (v : Value) (len : Nat) (w : World) (hS : Snt w b0 b1 b2 b3) (h : Byt w v len) :
    Calls Tryd.prog 4 #[v] w fun e w' => e = .returned (.bool true) ∧ Below w.heap.size w w' := by
  have HB := Lib.hid h
  have HS := Lib.hid hS
  have hlen : len ≤ 9223372036854775807 := by obtain ⟨z, a, cap, -, h1, h2, -⟩ := h; unfold maxLen at h2; omega
  obtain ⟨z, a, cap, rfl, -, -, -⟩ := h
  clear hS
  by_cases hL : len ≤ 1048576
  rotate_left
  · go_enter Tryd.func4, Tryd.ntmps4
    go_wp2
    go_ret
    exact ⟨rfl, Below.refl _ _⟩
  go_enter Tryd.func4, Tryd.ntmps4
  go_wp2_with fail
  refine (drawStoreDo_any _ len _ HB.out).mono ?_; rintro e w1 ⟨S, q, y0, y1, y2, y3, y4, rfl, hz, hn, hdq, HSt, hb⟩
  have hq := HSt.out w1 (Btn.refl _ _ _)
  obtain ⟨pa0, ca0, rfl⟩ := hq.now.form
  obtain ⟨pa1, ca1, rfl⟩ := hq.sure.form
  obtain ⟨pa2, ca2, rfl⟩ := hq.last.form
  obtain ⟨pa3, ca3, rfl⟩ := hq.slast.form
  obtain ⟨pa4, ca4, rfl⟩ := hq.floors.form
  have s_0 := Lib.hid hq
  have HZ := Lib.hid hz
  have HN := Lib.hid hn
  have HDQ := Lib.hid hdq
  have E_0 := Lib.hid hb
  have S_0 := Lib.hid hb.size
  clear hq hz hn hdq HSt hb HB
  obtain ⟨W1, hW1⟩ : ∃ X, (w1.alloc (.cells #[.slice pa0 S.now.length ca0, .slice pa1 S.sure.length ca1, .slice pa2 S.last.length ca2, .slice pa3 S.slast.length ca3, .slice pa4 S.floors.length ca4] 30)).alloc (.cells #[.int .i64 q.who, .int .i64 q.ep, .int .i64 q.num, .int .i64 q.obj, .int .i64 q.pos, .string (mkB q.data)] 34) = X := ⟨_, rfl⟩
  have hb : Below w1.heap.size w1 W1 := by rw [← hW1]; exact ((Below.refl _ _).alloc (Nat.le_refl _) _).alloc (by simp) _
  have hB1 : Box5 W1 w1.heap.size (.slice pa0 S.now.length ca0) (.slice pa1 S.sure.length ca1) (.slice pa2 S.last.length ca2) (.slice pa3 S.slast.length ca3) (.slice pa4 S.floors.length ca4) := by rw [← hW1]; exact (new_box5 w1 _ _ _ _ _ _).keep ((Below.refl _ _).alloc (Nat.le_refl _) _)
  have hB2 : Box6 W1 (w1.heap.size + 1) q := by
    rw [← hW1]
    have := new_box6 (w1.alloc (.cells #[.slice pa0 S.now.length ca0, .slice pa1 S.sure.length ca1, .slice pa2 S.last.length ca2, .slice pa3 S.slast.length ca3, .slice pa4 S.floors.length ca4] 30)) q 34
    simpa using this
  have hl : w1.heap.size + 1 < W1.heap.size := by rw [← hW1]; simp
  have s_2 := Lib.hid (s_0.out.keep hb)
  have E_3 := Lib.hid (E_0.out.trans (hb.mono E_0.out.size))
  have S_3 := Lib.hid hb.size
  clear s_0 E_0 hb
  have bs_4 := Lib.hid hB1
  have bq_4 := Lib.hid hB2
  have S_4b := Lib.hid hl
  clear hB1 hB2 hl
  obtain ⟨T, hT0⟩ : ∃ T, doT S q = T := ⟨_, rfl⟩
  obtain ⟨K, hK0⟩ : ∃ K, doK S q = K := ⟨_, rfl⟩
  have HT := Lib.hid hT0
  have HK := Lib.hid hK0
  clear hT0 hK0
  obtain ⟨x00, x01, x02, x03, x04⟩ := bs_4.out
  obtain ⟨x10, x11, x12, x13, x14, x15⟩ := bq_4.out
  go_wp2_with fail
  clear hW1
  refine (implR b0 b1 b2 b3 _ _ _ _ _ S T q K HT.out HK.out _ (HS.out.keep E_3.out) s_2.out HZ.out HDQ.out).mono ?_; rintro e w5 ⟨g0, g1, g2, g3, g4, rfl, M, hb⟩
  have s_6 := Lib.hid (s_2.out.keep hb)
  have bs_7 := Lib.hid (bs_4.out.keep hb)
  have bq_8 := Lib.hid (bq_4.out.keep hb)
  have E_9 := Lib.hid (E_3.out.trans (hb.mono E_3.out.size))
  have S_9 := Lib.hid hb.size
  clear x00 x01 x02 x03 x04 x10 x11 x12 x13 x14 x15
  clear s_2 bs_4 bq_4 E_3 hb
  have mx_10 := M
  clear M
  obtain ⟨pg0, cg0, rfl⟩ := mx_10.out.a.vls.form
  obtain ⟨pg1, cg1, rfl⟩ := mx_10.out.b.vls.form
  obtain ⟨pg2, cg2, rfl⟩ := mx_10.out.c.vls.form
  obtain ⟨pg3, cg3, rfl⟩ := mx_10.out.d.vls.form
  obtain ⟨pg4, cg4, rfl⟩ := mx_10.out.e.vls.form
  obtain ⟨W11, hW11⟩ : ∃ X, w5.alloc (.cells #[.slice pg0 T.n5.a cg0, .slice pg1 T.n5.b cg1, .slice pg2 T.n5.c cg2, .slice pg3 T.n5.d cg3, .slice pg4 T.n5.e cg4] 30) = X := ⟨_, rfl⟩
  have hb : Below w5.heap.size w5 W11 := by rw [← hW11]; exact (Below.refl _ _).alloc (Nat.le_refl _) _
  have hB : Box5 W11 w5.heap.size (.slice pg0 T.n5.a cg0) (.slice pg1 T.n5.b cg1) (.slice pg2 T.n5.c cg2) (.slice pg3 T.n5.d cg3) (.slice pg4 T.n5.e cg4) := by rw [← hW11]; exact new_box5 _ _ _ _ _ _ _
  have hl : w5.heap.size < W11.heap.size := by rw [← hW11]; simp
  have s_12 := Lib.hid (s_6.out.keep hb)
  have bs_13 := Lib.hid (bs_7.out.keep hb)
  have bq_14 := Lib.hid (bq_8.out.keep hb)
  have mx_15 := Lib.hid (mx_10.out.keep hb)
  have E_16 := Lib.hid (E_9.out.trans (hb.mono E_9.out.size))
  have S_16 := Lib.hid hb.size
  clear s_6 bs_7 bq_8 mx_10 E_9 hb
  have bx_17 := Lib.hid hB
  have S_17b := Lib.hid hl
  clear hB hl
  obtain ⟨x00, x01, x02, x03, x04⟩ := bs_13.out
  obtain ⟨x10, x11, x12, x13, x14, x15⟩ := bq_14.out
  go_wp2_with fail
  clear hW11
  refine (specR _ _ _ _ _ S T q K HT.out HK.out _ s_12.out HZ.out HN.out HDQ.out).mono ?_; rintro e w18 ⟨k0, k1, k2, k3, k4, rfl, M, hb⟩
  have s_19 := Lib.hid (s_12.out.keep hb)
  have bs_20 := Lib.hid (bs_13.out.keep hb)
  have bq_21 := Lib.hid (bq_14.out.keep hb)
  have mx_22 := Lib.hid (mx_15.out.keep hb)
  have bx_23 := Lib.hid (bx_17.out.keep hb)
  have E_24 := Lib.hid (E_16.out.trans (hb.mono E_16.out.size))
  have S_24 := Lib.hid hb.size
  clear x00 x01 x02 x03 x04 x10 x11 x12 x13 x14 x15
  clear s_12 bs_13 bq_14 mx_15 bx_17 E_16 hb
  have my_25 := M
  clear M
  obtain ⟨pk0, ck0, rfl⟩ := my_25.out.a.vls.form
  obtain ⟨pk1, ck1, rfl⟩ := my_25.out.b.vls.form
  obtain ⟨pk2, ck2, rfl⟩ := my_25.out.c.vls.form
  obtain ⟨pk3, ck3, rfl⟩ := my_25.out.d.vls.form
  obtain ⟨pk4, ck4, rfl⟩ := my_25.out.e.vls.form
  obtain ⟨W26, hW26⟩ : ∃ X, w18.alloc (.cells #[.slice pk0 T.n5.a ck0, .slice pk1 T.n5.b ck1, .slice pk2 T.n5.c ck2, .slice pk3 T.n5.d ck3, .slice pk4 T.n5.e ck4] 30) = X := ⟨_, rfl⟩
  have hb : Below w18.heap.size w18 W26 := by rw [← hW26]; exact (Below.refl _ _).alloc (Nat.le_refl _) _
  have hB : Box5 W26 w18.heap.size (.slice pk0 T.n5.a ck0) (.slice pk1 T.n5.b ck1) (.slice pk2 T.n5.c ck2) (.slice pk3 T.n5.d ck3) (.slice pk4 T.n5.e ck4) := by rw [← hW26]; exact new_box5 _ _ _ _ _ _ _
  have hl : w18.heap.size < W26.heap.size := by rw [← hW26]; simp
  have s_27 := Lib.hid (s_19.out.keep hb)
  have bs_28 := Lib.hid (bs_20.out.keep hb)
  have bq_29 := Lib.hid (bq_21.out.keep hb)
  have mx_30 := Lib.hid (mx_22.out.keep hb)
  have bx_31 := Lib.hid (bx_23.out.keep hb)
  have my_32 := Lib.hid (my_25.out.keep hb)
  have E_33 := Lib.hid (E_24.out.trans (hb.mono E_24.out.size))
  have S_33 := Lib.hid hb.size
  clear s_19 bs_20 bq_21 mx_22 bx_23 my_25 E_24 hb
  have by_34 := Lib.hid hB
  have S_34b := Lib.hid hl
  clear hB hl
  obtain ⟨O, hO⟩ : ∃ b, stOkB S = b := ⟨_, rfl⟩
  have HO := Lib.hid hO
  clear hO
  have hkk : (K != K) = false := by simp
  have hoo : (O != O) = false := by simp
  obtain ⟨x00, x01, x02, x03, x04⟩ := bx_31.out
  obtain ⟨x10, x11, x12, x13, x14⟩ := bs_28.out
  obtain ⟨x20, x21, x22, x23, x24⟩ := by_34.out
  go_wp2_with fail
  clear hW26
  have hD : Below W26.heap.size W26 W26.drew := (Below.refl _ _).drew
  go_region_held3 (fun w' => w'.cell? ⟨w5.heap.size, 0, none⟩ = some (.slice pg0 T.n5.a cg0) ∧ w'.cell? ⟨w5.heap.size, 1, none⟩ = some (.slice pg1 T.n5.b cg1) ∧ w'.cell? ⟨w5.heap.size, 2, none⟩ = some (.slice pg2 T.n5.c cg2) ∧ w'.cell? ⟨w5.heap.size, 3, none⟩ = some (.slice pg3 T.n5.d cg3) ∧ w'.cell? ⟨w5.heap.size, 4, none⟩ = some (.slice pg4 T.n5.e cg4) ∧ w'.cell? ⟨w1.heap.size, 0, none⟩ = some (.slice pa0 S.now.length ca0) ∧ w'.cell? ⟨w1.heap.size, 1, none⟩ = some (.slice pa1 S.sure.length ca1) ∧ w'.cell? ⟨w1.heap.size, 2, none⟩ = some (.slice pa2 S.last.length ca2) ∧ w'.cell? ⟨w1.heap.size, 3, none⟩ = some (.slice pa3 S.slast.length ca3) ∧ w'.cell? ⟨w1.heap.size, 4, none⟩ = some (.slice pa4 S.floors.length ca4) ∧ w'.cell? ⟨w18.heap.size, 0, none⟩ = some (.slice pk0 T.n5.a ck0) ∧ w'.cell? ⟨w18.heap.size, 1, none⟩ = some (.slice pk1 T.n5.b ck1) ∧ w'.cell? ⟨w18.heap.size, 2, none⟩ = some (.slice pk2 T.n5.c ck2) ∧ w'.cell? ⟨w18.heap.size, 3, none⟩ = some (.slice pk3 T.n5.d ck3) ∧ w'.cell? ⟨w18.heap.size, 4, none⟩ = some (.slice pk4 T.n5.e ck4))
    (refine ⟨?_, ?_, ?_, ?_, ?_, ?_, ?_, ?_, ?_, ?_, ?_, ?_, ?_, ?_, ?_⟩ <;> first | (go_keep; done) | (refine cell_keep hb ?_; first | (go_keep; done) | (go_simp; done)))
    (first
      | (go_at_call 18; refine (sokT _ _ _ _ _ S O _ (s_27.out.keep hR1) HZ.out HO.out).mono ?_; rintro e r35_2 ⟨rfl, hb⟩; have hR2 := hR1.trans (hb.mono hR1.size))
      | (go_at_call 17; refine (iokT _ _ _ _ _ S O _ (s_27.out.keep hR0) HZ.out HO.out).mono ?_; rintro e r35_1 ⟨rfl, hb⟩; have hR1 := hR0.trans (hb.mono hR0.size))
      | (go_at_call 16; refine (sameT _ _ _ _ _ _ _ _ _ _ T _ (mx_30.out.keep hD).sto (my_32.out.keep hD).sto).mono ?_; rintro e r35_0 ⟨rfl, hb⟩; have hR0 := hD.trans (hb.mono hD.size)))
  have hbb : Below W26.heap.size W26 r35_2 := hR2
  clear hb hD hR0 hR1 hR2 hoo hkk
  have s_36 := Lib.hid (s_27.out.keep hbb)
  have bs_37 := Lib.hid (bs_28.out.keep hbb)
  have bq_38 := Lib.hid (bq_29.out.keep hbb)
  have mx_39 := Lib.hid (mx_30.out.keep hbb)
  have bx_40 := Lib.hid (bx_31.out.keep hbb)
  have my_41 := Lib.hid (my_32.out.keep hbb)
  have by_42 := Lib.hid (by_34.out.keep hbb)
  have E_43 := Lib.hid (E_33.out.trans (hbb.mono E_33.out.size))
  have S_43 := Lib.hid hbb.size
  clear x00 x01 x02 x03 x04 x10 x11 x12 x13 x14 x20 x21 x22 x23 x24
  clear s_27 bs_28 bq_29 mx_30 bx_31 my_32 by_34 E_33 hbb
  clear my_41
  clear by_42
  by_cases hk0 : K = 0
  rotate_left
  · have kd : (K != 0) = true := by simpa using hk0
    cases O
    · have hTn : T = st0 := by rw [← HT.out]; exact not_ok HO.out
      subst hTn
      clear hk0
      obtain ⟨x00, x01, x02, x03, x04⟩ := bs_37.out
      go_wp2_with fail
      refine (sokT _ _ _ _ _ S false _ s_36.out HZ.out HO.out).mono ?_; rintro e w44 ⟨rfl, hb⟩
      have s_45 := Lib.hid (s_36.out.keep hb)
      have bs_46 := Lib.hid (bs_37.out.keep hb)
      have bq_47 := Lib.hid (bq_38.out.keep hb)
      have mx_48 := Lib.hid (mx_39.out.keep hb)
      have bx_49 := Lib.hid (bx_40.out.keep hb)
      have E_50 := Lib.hid (E_43.out.trans (hb.mono E_43.out.size))
      have S_50 := Lib.hid hb.size
      clear x00 x01 x02 x03 x04
      clear s_36 bs_37 bq_38 mx_39 bx_40 E_43 hb
      obtain ⟨x00, x01, x02, x03, x04⟩ := bs_46.out
      go_wp2_with fail
      refine (sokT _ _ _ _ _ S false _ s_45.out HZ.out HO.out).mono ?_; rintro e w51 ⟨rfl, hb⟩
      have s_52 := Lib.hid (s_45.out.keep hb)
      have bs_53 := Lib.hid (bs_46.out.keep hb)
      have bq_54 := Lib.hid (bq_47.out.keep hb)
      have mx_55 := Lib.hid (mx_48.out.keep hb)
      have bx_56 := Lib.hid (bx_49.out.keep hb)
      have E_57 := Lib.hid (E_50.out.trans (hb.mono E_50.out.size))
      have S_57 := Lib.hid hb.size
      clear x00 x01 x02 x03 x04
      clear s_45 bs_46 bq_47 mx_48 bx_49 E_50 hb
      obtain ⟨x00, x01, x02, x03, x04⟩ := bx_56.out
      go_wp2_with fail
      refine (sameT _ _ _ _ _ _ _ _ _ _ st0 _ mx_55.out.sto (M5.none _ 0 0).sto).mono ?_; rintro e w58 ⟨rfl, hb⟩
      have s_59 := Lib.hid (s_52.out.keep hb)
      have bs_60 := Lib.hid (bs_53.out.keep hb)
      have bq_61 := Lib.hid (bq_54.out.keep hb)
      have mx_62 := Lib.hid (mx_55.out.keep hb)
      have bx_63 := Lib.hid (bx_56.out.keep hb)
      have E_64 := Lib.hid (E_57.out.trans (hb.mono E_57.out.size))
      have S_64 := Lib.hid hb.size
      clear x00 x01 x02 x03 x04
      clear s_52 bs_53 bq_54 mx_55 bx_56 E_57 hb
      go_wp2
      go_ret
      exact ⟨rfl, E_64.out⟩
    · have hTn : T = S := by rw [← HT.out]; exact not_fine (by rw [HK.out]; exact hk0) HO.out
      subst hTn
      clear hk0
      obtain ⟨x00, x01, x02, x03, x04⟩ := bs_37.out
      go_wp2_with fail
      refine (sokT _ _ _ _ _ T true _ s_36.out HZ.out HO.out).mono ?_; rintro e w44 ⟨rfl, hb⟩
      have s_45 := Lib.hid (s_36.out.keep hb)
      have bs_46 := Lib.hid (bs_37.out.keep hb)
      have bq_47 := Lib.hid (bq_38.out.keep hb)
      have mx_48 := Lib.hid (mx_39.out.keep hb)
      have bx_49 := Lib.hid (bx_40.out.keep hb)
      have E_50 := Lib.hid (E_43.out.trans (hb.mono E_43.out.size))
      have S_50 := Lib.hid hb.size
      clear x00 x01 x02 x03 x04
      clear s_36 bs_37 bq_38 mx_39 bx_40 E_43 hb
      obtain ⟨x00, x01, x02, x03, x04⟩ := bx_49.out
      obtain ⟨x10, x11, x12, x13, x14⟩ := bs_46.out
      go_wp2_with fail
      refine (sameT _ _ _ _ _ _ _ _ _ _ T _ mx_48.out.sto s_45.out).mono ?_; rintro e w51 ⟨rfl, hb⟩
      have s_52 := Lib.hid (s_45.out.keep hb)
      have bs_53 := Lib.hid (bs_46.out.keep hb)
      have bq_54 := Lib.hid (bq_47.out.keep hb)
      have mx_55 := Lib.hid (mx_48.out.keep hb)
      have bx_56 := Lib.hid (bx_49.out.keep hb)
      have E_57 := Lib.hid (E_50.out.trans (hb.mono E_50.out.size))
      have S_57 := Lib.hid hb.size
      clear x00 x01 x02 x03 x04 x10 x11 x12 x13 x14
      clear s_45 bs_46 bq_47 mx_48 bx_49 E_50 hb
      go_wp2
      go_ret
      exact ⟨rfl, E_57.out⟩
  subst hk0
  obtain ⟨N, L, hf⟩ := fine_of HK.out
  rw [HT.out] at hf
  have HF := Lib.hid hf
  have HZT := Lib.hid (szT_of hf.okT)
  obtain ⟨o0, o1⟩ := hf.obj
  obtain ⟨u0, u1⟩ := hf.who
  obtain ⟨p0, p1⟩ := hf.pos
  have N3 := Lib.hid hf.n3
  have M3 := Lib.hid (show T.n5.a = 3 from hf.m3)
  have L3 := Lib.hid hf.l3
  have K3 := Lib.hid (show T.n5.c = 3 from hf.k3)
  obtain ⟨L0, L1⟩ := hf.num
  clear hf HO
  obtain ⟨D, hD⟩ : ∃ D, S.now.getD q.obj.toNat [] = D := ⟨_, rfl⟩
  have HD := Lib.hid hD
  clear hD
  obtain ⟨bN, fN, rfl, hcN⟩ := cell_at (i := q.obj.toNat) s_36.out.now (by have n3 := N3.out; have m3 := M3.out; have l3 := L3.out; have k3 := K3.out; omega) (show Value.string (mkB (S.now.getD q.obj.toNat [])) = .string (mkB D) by rw [HD.out])
  have HCN := Lib.hid hcN
  clear hcN
  have hcN := HCN.out
  have io : q.obj < (S.now.length : Int) := (by have n3 := N3.out; have m3 := M3.out; have l3 := L3.out; have k3 := K3.out; omega)
  obtain ⟨x00, x01, x02, x03, x04⟩ := bs_37.out
  obtain ⟨x10, x11, x12, x13, x14, x15⟩ := bq_38.out
  go_wp2_with fail
  have hD : Below r35_2.heap.size r35_2 r35_2.drew := (Below.refl _ _).drew
  go_region_held3 (fun w' => w'.cell? ⟨w1.heap.size, 0, none⟩ = some (.slice (some ⟨bN, fN, none⟩) S.now.length ca0) ∧ w'.cell? ⟨bN, fN + q.obj.toNat, none⟩ = some (.string (mkB D)) ∧ w'.cell? ⟨w1.heap.size + 1, 3, none⟩ = some (.int .i64 q.obj) ∧ w'.cell? ⟨w1.heap.size + 1, 4, none⟩ = some (.int .i64 q.pos) ∧ w'.cell? ⟨w1.heap.size + 1, 5, none⟩ = some (.string (mkB q.data)))
    (refine ⟨?_, ?_, ?_, ?_, ?_⟩ <;> first | (go_keep; done) | (refine cell_keep hb ?_; first | (go_keep; done) | (go_simp; done)))
    (first
      | (go_at_call 19; refine (writeR D N q.data q.pos (by rw [← HD.out]; exact HF.out.long) (by have := HDQ.out; omega) (by rw [← HD.out]; exact HF.out.tw) (by rw [← HD.out]; exact HF.out.twb) _).mono ?_; rintro e r44_0 ⟨rfl, hb⟩; have hR0 := hD.trans (hb.mono hD.size)))
  have hbb : Below r35_2.heap.size r35_2 r44_0 := hR0
  clear hb hD hR0 hcN HCN io
  have s_45 := Lib.hid (s_36.out.keep hbb)
  have bs_46 := Lib.hid (bs_37.out.keep hbb)
  have bq_47 := Lib.hid (bq_38.out.keep hbb)
  have mx_48 := Lib.hid (mx_39.out.keep hbb)
  have bx_49 := Lib.hid (bx_40.out.keep hbb)
  have E_50 := Lib.hid (E_43.out.trans (hbb.mono E_43.out.size))
  have S_50 := Lib.hid hbb.size
  clear x00 x01 x02 x03 x04 x10 x11 x12 x13 x14 x15
  clear s_36 bs_37 bq_38 mx_39 bx_40 E_43 hbb
  obtain ⟨bX, fX, rfl, -⟩ := cell_at (i := 0) mx_48.out.sto.now (by show 0 < T.n5.a; have m3 := M3.out; omega) rfl
  obtain ⟨x00, x01, x02, x03, x04⟩ := bx_49.out
  obtain ⟨x10, x11, x12, x13, x14⟩ := bs_46.out
  obtain ⟨x20, x21, x22, x23, x24, x25⟩ := bq_47.out
  go_wp2_with fail
  clear x00 x01 x02 x03 x04 x10 x11 x12 x13 x14 x20 x21 x22 x23 x24 x25
  go_loopg [11] 3 (fun g s11 wr => ∃ k : Nat, g = 3 - k ∧ k ≤ 3 ∧ s11 = .int .i64 k ∧ Below r44_0.heap.size r44_0 wr)
  case atStart => exact ⟨0, rfl, by omega, rfl, Below.refl _ _⟩
  case round =>
    obtain ⟨k, rfl, hk, rfl, hb⟩ := hrel
    have HBR := Lib.hid hb
    have s_51 := Lib.hid (s_45.out.keep hb)
    have bs_52 := Lib.hid (bs_46.out.keep hb)
    have bq_53 := Lib.hid (bq_47.out.keep hb)
    have mx_54 := Lib.hid (mx_48.out.keep hb)
    have bx_55 := Lib.hid (bx_49.out.keep hb)
    have E_56 := Lib.hid (E_50.out.trans (hb.mono E_50.out.size))
    have S_56 := Lib.hid hb.size
    clear s_45 bs_46 bq_47 mx_48 bx_49 E_50 hb
    by_cases hlt : k < 3
    · have i0 : (0 : Int) ≤ (k : Int) := by omega
      have i1 : (k : Int) < (T.n5.a : Int) := (by have n3 := N3.out; have m3 := M3.out; have l3 := L3.out; have k3 := K3.out; omega)
      have i2 : (k : Int) < (S.now.length : Int) := (by have n3 := N3.out; have m3 := M3.out; have l3 := L3.out; have k3 := K3.out; omega)
      have hk3 : k < T.n5.a := (by have n3 := N3.out; have m3 := M3.out; have l3 := L3.out; have k3 := K3.out; omega)
      have hk4 : k < S.now.length := (by have n3 := N3.out; have m3 := M3.out; have l3 := L3.out; have k3 := K3.out; omega)
      by_cases he : (k : Int) = q.obj
      · have c1 := cell_is (i := k) mx_54.out.sto.now hk3 (show Value.string (mkB (T.now.getD k [])) = .string (mkB N) by rw [HF.out.new k he])
        have g1 : ((k : Int) != q.obj) = false := by simpa using he
        have g2 : ((k : Int) == q.obj) = true := by simpa using he
        have g3 : ((mkB N).toList != (mkB N).toList) = false := by simp
        clear he hk3 hk4
        obtain ⟨x00, x01, x02, x03, x04⟩ := bx_55.out
        obtain ⟨x10, x11, x12, x13, x14⟩ := bs_52.out
        obtain ⟨x20, x21, x22, x23, x24, x25⟩ := bq_53.out
        go_wp2_with fail
        go_quiet (fail)
        go_wp2
        go_roundg (3 - (k + 1))
        case measure => omega
        case rel => exact ⟨k + 1, rfl, by omega, by go_num, HBR.out.trans ((below_drewN1 _ _).mono HBR.out.size)⟩
      · have c1 := cell_is (i := k) mx_54.out.sto.now hk3 (show Value.string (mkB (T.now.getD k [])) = .string (mkB (S.now.getD k [])) by rw [HF.out.same k (by omega) he])
        have c2 := cell_is (i := k) s_51.out.now hk4 (show Value.string (mkB (S.now.getD k [])) = .string (mkB (S.now.getD k [])) from rfl)
        generalize S.now.getD k [] = D' at *
        have g1 : ((k : Int) != q.obj) = true := by simpa using he
        have g2 : ((k : Int) == q.obj) = false := by simpa using he
        have g3 : ((mkB D').toList != (mkB D').toList) = false := by simp
        clear he hk3 hk4
        obtain ⟨x00, x01, x02, x03, x04⟩ := bx_55.out
        obtain ⟨x10, x11, x12, x13, x14⟩ := bs_52.out
        obtain ⟨x20, x21, x22, x23, x24, x25⟩ := bq_53.out
        go_wp2_with fail
        go_quiet (fail)
        go_wp2
        go_roundg (3 - (k + 1))
        case measure => omega
        case rel => exact ⟨k + 1, rfl, by omega, by go_num, HBR.out.trans ((below_drewN1 _ _).mono HBR.out.size)⟩
    · obtain rfl : k = 3 := by omega
      have i9 : ¬ ((3 : Nat) : Int) < (T.n5.a : Int) := by have := M3.out; omega
      clear HBR hk hlt
      have q4 : (mkB q.data).size = q.data.length := mkB_size q.data
      have hdl := HDQ.out
      obtain ⟨x00, x01, x02, x03, x04⟩ := bx_55.out
      obtain ⟨x10, x11, x12, x13, x14, x15⟩ := bq_53.out
      go_wp2_with fail
      refine (readR _ _ _ _ _ T q.obj q.pos (q.pos + (q.data.length : Int)) q.data HF.out.rd HF.out.rdb _ mx_54.out.sto HZT.out).mono ?_; rintro e w57 ⟨rfl, hb⟩
      have s_58 := Lib.hid (s_51.out.keep hb)
      have bs_59 := Lib.hid (bs_52.out.keep hb)
      have bq_60 := Lib.hid (bq_53.out.keep hb)
      have mx_61 := Lib.hid (mx_54.out.keep hb)
      have bx_62 := Lib.hid (bx_55.out.keep hb)
      have E_63 := Lib.hid (E_56.out.trans (hb.mono E_56.out.size))
      have S_63 := Lib.hid hb.size
      clear x00 x01 x02 x03 x04 x10 x11 x12 x13 x14 x15
      clear s_51 bs_52 bq_53 mx_54 bx_55 E_56 hb
      obtain ⟨bY, fY, rfl, hcY⟩ := cell_at (i := q.who.toNat) mx_61.out.sto.last (by show _ < T.n5.c; have k3 := K3.out; omega) (show Value.int .i64 (T.last.getD q.who.toNat 0) = .int .i64 (L + 1) by rw [HF.out.next])
      obtain ⟨bZ, fZ, rfl, hcZ⟩ := cell_at (i := q.who.toNat) s_58.out.last (by have n3 := N3.out; have m3 := M3.out; have l3 := L3.out; have k3 := K3.out; omega) (show Value.int .i64 (S.last.getD q.who.toNat 0) = .int .i64 L by rw [HF.out.last])
      have iy : q.who < (T.n5.c : Int) := (by have n3 := N3.out; have m3 := M3.out; have l3 := L3.out; have k3 := K3.out; omega)
      have iz : q.who < (S.last.length : Int) := (by have n3 := N3.out; have m3 := M3.out; have l3 := L3.out; have k3 := K3.out; omega)
      have hw1 : IntKind.i64.wrap (L + 1) = L + 1 := IntWalk.i64_in _ (by omega)
      have g1 : ((mkB q.data).toList == (mkB q.data).toList) = true := by simp
      have g2 : ((L + 1 : Int) == L + 1) = true := by simp
      clear q4 hdl
      obtain ⟨x00, x01, x02, x03, x04⟩ := bx_62.out
      obtain ⟨x10, x11, x12, x13, x14⟩ := bs_59.out
      obtain ⟨x20, x21, x22, x23, x24, x25⟩ := bq_60.out
      go_wp2_with fail
      have hD : Below w57.heap.size w57 w57.drew := (Below.refl _ _).drew
      go_region_held3 (fun w' => w'.cell? ⟨w5.heap.size, 0, none⟩ = some (.slice (some ⟨bX, fX, none⟩) T.n5.a cg0) ∧ w'.cell? ⟨w5.heap.size, 1, none⟩ = some (.slice pg1 T.n5.b cg1) ∧ w'.cell? ⟨w5.heap.size, 2, none⟩ = some (.slice (some ⟨bY, fY, none⟩) T.n5.c cg2) ∧ w'.cell? ⟨w5.heap.size, 3, none⟩ = some (.slice pg3 T.n5.d cg3) ∧ w'.cell? ⟨w5.heap.size, 4, none⟩ = some (.slice pg4 T.n5.e cg4) ∧ w'.cell? ⟨w1.heap.size, 2, none⟩ = some (.slice (some ⟨bZ, fZ, none⟩) S.last.length ca2) ∧ w'.cell? ⟨w1.heap.size + 1, 0, none⟩ = some (.int .i64 q.who) ∧ w'.cell? ⟨w1.heap.size + 1, 5, none⟩ = some (.string (mkB q.data)) ∧ w'.cell? ⟨bY, fY + q.who.toNat, none⟩ = some (.int .i64 (L + 1)) ∧ w'.cell? ⟨bZ, fZ + q.who.toNat, none⟩ = some (.int .i64 L))
        (refine ⟨?_, ?_, ?_, ?_, ?_, ?_, ?_, ?_, ?_, ?_⟩ <;> first | (go_keep; done) | (refine cell_keep hb ?_; first | (go_keep; done) | (go_simp; done)))
        (first
          | (go_at_call 17; refine (iokT _ _ _ _ _ T true _ (mx_61.out.keep hD).sto HZT.out HF.out.okT).mono ?_; rintro e r64_0 ⟨rfl, hb⟩; have hR0 := hD.trans (hb.mono hD.size)))
      have hbb : Below w57.heap.size w57 r64_0 := hR0
      clear hb hD hR0 hcY hcZ
      have s_65 := Lib.hid (s_58.out.keep hbb)
      have bs_66 := Lib.hid (bs_59.out.keep hbb)
      have bq_67 := Lib.hid (bq_60.out.keep hbb)
      have mx_68 := Lib.hid (mx_61.out.keep hbb)
      have bx_69 := Lib.hid (bx_62.out.keep hbb)
      have E_70 := Lib.hid (E_63.out.trans (hbb.mono E_63.out.size))
      have S_70 := Lib.hid hbb.size
      clear x00 x01 x02 x03 x04 x10 x11 x12 x13 x14 x20 x21 x22 x23 x24 x25
      clear s_58 bs_59 bq_60 mx_61 bx_62 E_63 hbb
      go_wp2
      go_ret
      exact ⟨rfl, E_70.out⟩

end Go.Proofs.YtadoihddmbbjoaaDoor.fnStoreDo
