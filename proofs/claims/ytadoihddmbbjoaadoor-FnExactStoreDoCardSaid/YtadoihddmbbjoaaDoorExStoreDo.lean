/-
  laws.FnExactStoreDo returns true at every input: the walk of the law. The four sentinels are laid.
-/
import Derived.Test.YtadoihddmbbjoaaDoorStoFree
import Derived.Test.YtadoihddmbbjoaaDoorStoOk
import Derived.Test.YtadoihddmbbjoaaDoorStoMark
import Derived.Deep.RegionHeld3
namespace Go.Proofs.YtadoihddmbbjoaaDoor.exStoreDo
open Go.RowKit

/-- Where a mark ends. -/
def mkEnd (N : N5) : Int := ((1 : Nat) : Int) + N.a + N.b + N.c + N.d + N.e
theorem mkEnd_pos (N : N5) : ¬ mkEnd N < 0 := by unfold mkEnd; omega
theorem mark1 (v0 v1 v2 v3 v4 : Value) (lo hi : Nat) (N : N5) (F : F5) (w : World) (h : M5 w lo hi v0 v1 v2 v3 v4 N F) (hhi : hi ≤ w.heap.size) (hn : N.le) :
    Calls Tryd.prog 13 #[.agg #[v0, v1, v2, v3, v4], .int .i64 1] w fun e w' => e = .returned (.int .i64 (mkEnd N)) ∧ Hid (M5 w' lo hi v0 v1 v2 v3 v4 N (mk5 1 N)) ∧ Btn lo hi w w' := markStore_any _ _ _ _ _ lo hi 1 N F w h hhi hn (by omega) (by omega)
theorem held1 (v0 v1 v2 v3 v4 : Value) (lo hi : Nat) (N : N5) (w : World) (h : M5 w lo hi v0 v1 v2 v3 v4 N (mk5 1 N)) (hn : N.le) :
    Calls Tryd.prog 14 #[.agg #[v0, v1, v2, v3, v4], .int .i64 1] w fun e w' => e = .returned (.int .i64 (mkEnd N)) ∧ Below w.heap.size w w' := heldStore_any _ _ _ _ _ lo hi 1 N w h hn (by omega) (by omega)

theorem le_set {α : Type} {L : List α} {k : Nat} {x : α} {n : Nat} (h : L.length ≤ n) : (L.set k x).length ≤ n := by rw [List.length_set]; exact h
theorem le_do (S : StT) (q : ReqT) (h : S.n5.le) : (doT S q).n5.le := by
  obtain ⟨h0, h1, h2, h3, h4⟩ := h
  unfold doT doS
  split
  · split
    · exact ⟨le_set h0, h1, le_set h2, h3, h4⟩
    · exact ⟨h0, h1, h2, h3, h4⟩
  · exact ⟨by decide, by decide, by decide, by decide, by decide⟩
theorem specR (v0 v1 v2 v3 v4 : Value) (S T : StT) (q : ReqT) (k : Int) (hT : doT S q = T) (hk : doK S q = k) (w : World) (h : Sto w v0 v1 v2 v3 v4 S) (hz : szT S) (hn : S.n5.le) (hd : q.data.length ≤ 1048576) :
    Calls Tryd.prog 8 #[.agg #[v0, v1, v2, v3, v4], .agg (rqA q)] w (ToSK w T k) := by
  subst hT; subst hk; exact specDo_any _ _ _ _ _ S q w h hz hn (by omega)
theorem implR (a0 a1 a2 a3 : Addr) (v0 v1 v2 v3 v4 : Value) (S T : StT) (q : ReqT) (k : Int) (hT : doT S q = T) (hk : doK S q = k) (w : World) (hS : Snt w a0 a1 a2 a3) (h : Sto w v0 v1 v2 v3 v4 S) (hz : szT S) (hd : q.data.length ≤ 1048576) :
    Calls Tryd.prog 11 #[.agg #[v0, v1, v2, v3, v4], .agg (rqA q)] w (ToSK w T k) := by
  subst hT; subst hk; exact implStoreDo_any a0 a1 a2 a3 _ _ _ _ _ S q w hS h hz (by omega)

set_option maxRecDepth 100000 in
set_option maxHeartbeats 16000000 in
theorem walk (a0 a1 a2 a3 : Addr) (v0 v1 v2 v3 v4 : Value) (S : StT) (q : ReqT) (w : World) (hS : Snt w a0 a1 a2 a3) (h : Sto w v0 v1 v2 v3 v4 S) (hz : szT S) (hd : q.data.length ≤ 9223372036854775807) :
    Calls Tryd.prog 3 #[.agg #[v0, v1, v2, v3, v4], .agg (rqA q)] w fun e w' => e = .returned (.bool true) ∧ Below w.heap.size w w' := by
  obtain ⟨pa0, c0, rfl⟩ := h.now.form
  obtain ⟨pa1, c1, rfl⟩ := h.sure.form
  obtain ⟨pa2, c2, rfl⟩ := h.last.form
  obtain ⟨pa3, c3, rfl⟩ := h.slast.form
  obtain ⟨pa4, c4, rfl⟩ := h.floors.form
  obtain ⟨W, hW⟩ : ∃ W, (w.alloc (.cells #[.slice pa0 S.now.length c0, .slice pa1 S.sure.length c1, .slice pa2 S.last.length c2, .slice pa3 S.slast.length c3, .slice pa4 S.floors.length c4] 25)).alloc (.cells (rqA q) 27) = W := ⟨_, rfl⟩
  have hal : Below w.heap.size w W := by rw [← hW]; exact ((Below.refl _ _).alloc (Nat.le_refl _) _).alloc (by simp) _
  have A0 : Box5 W w.heap.size (.slice pa0 S.now.length c0) (.slice pa1 S.sure.length c1) (.slice pa2 S.last.length c2) (.slice pa3 S.slast.length c3) (.slice pa4 S.floors.length c4) := by rw [← hW]; exact (new_box5 w _ _ _ _ _ _).keep ((Below.refl _ _).alloc (Nat.le_refl _) _)
  have B0 : Box6 W (w.heap.size + 1) q := by
    rw [← hW]
    have := new_box6 (w.alloc (.cells #[.slice pa0 S.now.length c0, .slice pa1 S.sure.length c1, .slice pa2 S.last.length c2, .slice pa3 S.slast.length c3, .slice pa4 S.floors.length c4] 25)) q 27
    simpa using this
  have hl : w.heap.size + 1 < W.heap.size := by rw [← hW]; simp
  have E_0 := Lib.hid hal
  have S_0 := Lib.hid hl
  have HH := Lib.hid h
  have HZ := Lib.hid hz
  have HS := Lib.hid hS
  have bA_0 := Lib.hid A0
  have bQ_0 := Lib.hid B0
  clear h hz hS hal hl A0 B0
  obtain ⟨x00, x01, x02, x03, x04⟩ := bA_0.out
  go_enter Tryd.func3, Tryd.ntmps3
  go_wp2_with fail
  clear hW
  refine (szStore_any _ _ _ _ _ S 1048576 _ (HH.out.keep E_0.out) HZ.out.1 HZ.out.2 (by omega) (by omega)).mono ?_; rintro e w1 ⟨z1, rfl, p1, p2, P, hb⟩
  have bA_2 := Lib.hid (bA_0.out.keep hb)
  have bQ_3 := Lib.hid (bQ_0.out.keep hb)
  have E_4 := Lib.hid (E_0.out.trans (hb.mono E_0.out.size))
  have S_4 := Lib.hid hb.size
  clear x00 x01 x02 x03 x04
  clear bA_0 bQ_0 E_0 hb
  by_cases hz4 : z1 < 0
  · clear P
    go_wp2
    go_ret
    exact ⟨rfl, E_4.out⟩
  have BD := Lib.hid (P (by omega))
  clear P
  obtain ⟨x00, x01, x02, x03, x04, x05⟩ := bQ_3.out
  go_wp2_with fail
  refine (szReq_any q z1 _ hd (by omega) (by omega)).mono ?_; rintro e w5 ⟨z', rfl, PD, hb⟩
  clear hd
  have bA_6 := Lib.hid (bA_2.out.keep hb)
  have bQ_7 := Lib.hid (bQ_3.out.keep hb)
  have E_8 := Lib.hid (E_4.out.trans (hb.mono E_4.out.size))
  have S_8 := Lib.hid hb.size
  clear x00 x01 x02 x03 x04 x05
  clear bA_2 bQ_3 E_4 hb
  by_cases hzq : z' < 0
  · clear PD
    go_wp2
    go_ret
    exact ⟨rfl, E_8.out⟩
  have HDL := Lib.hid (PD (by omega))
  clear PD
  obtain ⟨T, hT0⟩ : ∃ T, doT S q = T := ⟨_, rfl⟩
  obtain ⟨K, hK0⟩ : ∃ K, doK S q = K := ⟨_, rfl⟩
  have HT := Lib.hid hT0
  have HK := Lib.hid hK0
  have HTL : Hid T.n5.le := by rw [← hT0]; exact le_do S q BD.out.le
  clear hT0 hK0
  have hkk : (K != K) = false := by simp
  obtain ⟨x00, x01, x02, x03, x04⟩ := bA_6.out
  obtain ⟨x10, x11, x12, x13, x14, x15⟩ := bQ_7.out
  go_wp2_with fail
  clear x00 x01 x02 x03 x04 x10 x11 x12 x13 x14 x15
  refine wp_region_free 9 8 4 (fun j => (#[0, 2, 0, 2, 2, 1, 1, 1, 3, 4, 1] : Array Nat).getD j 0) (fun j => (#[0, 0, 0, 0, 0, 4, 4, 4, 0, 0, 4] : Array Nat).getD j 0) (fun j => (#[id, id, id, id, id, id, fun v => tupAt v 0, fun v => tupAt v 1, id, id, fun v => tupAt v 1] : Array (Value → Value)).getD j id) (fun j => (#[.agg #[.slice pa0 S.now.length c0, .slice pa1 S.sure.length c1, .slice pa2 S.last.length c2, .slice pa3 S.slast.length c3, .slice pa4 S.floors.length c4], undef, .agg #[.int .i64 q.who, .int .i64 q.ep, .int .i64 q.num, .int .i64 q.obj, .int .i64 q.pos, .string (mkB q.data)], undef, undef, undef, undef, undef, undef, undef, undef] : Array Value).getD j undef) (fun j v w' => if j = 1 then CSt S v w' else if j = 3 then v = .agg (rqA q) else if j = 4 then CTk w5.heap.size T K v w' else True) Apt (.cells #[.slice none 0 0, .slice none 0 0, .slice none 0 0, .slice none 0 0, .slice none 0 0] 30) (RSt w5 T K) (fun x => ({ tmps := #[Value.agg #[Value.slice pa0 S.now.length c0, Value.slice pa1 S.sure.length c1, Value.slice pa2 S.last.length c2, Value.slice pa3 S.slast.length c3, Value.slice pa4 S.floors.length c4], Value.agg (rqA q), Value.pointer (some { block := w.heap.size, off := 0 }), Value.pointer (some { block := w.heap.size + 1, off := 0 }), Value.bool false, Value.int IntKind.i64 z', x 8, x 10, undef, undef, undef, undef, undef, undef, undef, undef, Value.agg #[Value.slice pa0 S.now.length c0, Value.slice pa1 S.sure.length c1, Value.slice pa2 S.last.length c2, Value.slice pa3 S.slast.length c3, Value.slice pa4 S.floors.length c4], Value.int IntKind.i64 1048576, Value.int IntKind.i64 z1, Value.int IntKind.i64 z1, Value.bool (decide (z1 < 0)), Value.agg #[Value.int IntKind.i64 q.who, Value.int IntKind.i64 q.ep, Value.int IntKind.i64 q.num, Value.int IntKind.i64 q.obj, Value.int IntKind.i64 q.pos, Value.string (mkB q.data)], Value.int IntKind.i64 z1, Value.int IntKind.i64 z', Value.int IntKind.i64 z', Value.bool (decide (z' < 0)), x 5, x 0, x 1, x 2, x 3, x 4, x 6, x 7, undef, undef, undef, undef, undef, undef, undef, undef, undef, undef, undef, undef, undef, undef, undef, undef, undef, undef, undef, undef, undef, undef, undef, undef, undef, undef, undef, undef, undef, undef, undef, undef, undef, undef, undef, undef, undef, undef, undef, undef, undef, undef, undef, undef, undef, undef, undef, undef, undef, undef, undef, undef, undef, undef, undef, undef, undef, undef, undef, undef, undef, undef, undef, undef, undef, undef, undef, undef, undef, undef, undef, undef, undef, undef, undef], defers := [] } : Act)) (x0 := fun i => (#[undef, undef, undef, undef, undef, undef, undef, undef, undef, undef, undef] : Array Value).getD i undef) rfl (by kernel_rfl) (by kernel_rfl) (by kernel_rfl) (by kernel_rfl) (fun j v w1 w2 h hb => by
      try dsimp only at h ⊢
      split at h
      · rename_i c; rw [if_pos c]; exact CSt.keep h hb
      · rename_i c; rw [if_neg c]; split at h
        · rename_i c; rw [if_pos c]; exact h
        · rename_i c; rw [if_neg c]; split at h
          · rename_i c; rw [if_pos c]; exact CTk.keep h hb
          · rename_i c; rw [if_neg c]; trivial) (fun v w1 g h hg => apt_late (show CTk w5.heap.size T K v w1 from h) hg) ?_ ?_ ?_ ?_ ?_ ?_
  · rintro i oi x w' hi ht ho hbl hdep
    obtain rfl | rfl | rfl | rfl | rfl | rfl | rfl | rfl | rfl | rfl | rfl : i = 0 ∨ i = 1 ∨ i = 2 ∨ i = 3 ∨ i = 4 ∨ i = 5 ∨ i = 6 ∨ i = 7 ∨ i = 8 ∨ i = 9 ∨ i = 10 := by have h : i < 11 := hi; omega
    · obtain rfl := Option.some.inj ho
      skip
      obtain ⟨k0, k1, k2, k3, k4⟩ := bA_6.out.keep hbl
      refine wp_value (v := .agg #[.slice pa0 S.now.length c0, .slice pa1 S.sure.length c1, .slice pa2 S.last.length c2, .slice pa3 S.slast.length c3, .slice pa4 S.floors.length c4]) (w' := w') ?_ ⟨rfl, rfl⟩
      go_simp
    · exact absurd ht (by decide)
    · obtain rfl := Option.some.inj ho
      skip
      obtain ⟨k0, k1, k2, k3, k4, k5⟩ := bQ_7.out.keep hbl
      refine wp_value (v := .agg #[.int .i64 q.who, .int .i64 q.ep, .int .i64 q.num, .int .i64 q.obj, .int .i64 q.pos, .string (mkB q.data)]) (w' := w') ?_ ⟨rfl, rfl⟩
      go_simp
    · exact absurd ht (by decide)
    · exact absurd ht (by decide)
    · exact absurd ht (by decide)
    · exact absurd ht (by decide)
    · exact absurd ht (by decide)
    · exact absurd ht (by decide)
    · exact absurd ht (by decide)
    · exact absurd ht (by decide)
  · rintro i oi x w' hi ht ho hcr hdep
    obtain rfl | rfl | rfl | rfl | rfl | rfl | rfl | rfl | rfl | rfl | rfl : i = 0 ∨ i = 1 ∨ i = 2 ∨ i = 3 ∨ i = 4 ∨ i = 5 ∨ i = 6 ∨ i = 7 ∨ i = 8 ∨ i = 9 ∨ i = 10 := by have h : i < 11 := hi; omega
    · exact absurd ht (by decide)
    · exact absurd ht (by decide)
    · exact absurd ht (by decide)
    · exact absurd ht (by decide)
    · exact absurd ht (by decide)
    · obtain rfl := Option.some.inj ho
      refine wp_value (v := x 4) (w' := w') ?_ ⟨rfl, rfl⟩
      go_simp
    · obtain rfl := Option.some.inj ho
      have e5 : x 5 = (id) (x 4) := ((hdep _ (Array.mem_of_getElem? (i := 0) rfl) rfl).2 rfl).1
      obtain ⟨wr, hcr1⟩ := hcr
      have hcr2 : CTk w5.heap.size T K (x 4) wr := hcr1
      clear hcr1
      obtain ⟨lo, hi, u0, u1, u2, u3, u4, ec, -⟩ := hcr2
      have em : x 5 = .tuple #[.agg #[u0, u1, u2, u3, u4], .int .i64 K] := e5.trans ec
      clear e5
      refine wp_value (v := tupAt (x 4) 0) (w' := w') ?_ ⟨rfl, rfl⟩
      rw [ec]
      clear ec
      show _ = Result.ok (Next.value (.agg #[u0, u1, u2, u3, u4])) _
      go_simp
    · obtain rfl := Option.some.inj ho
      have e5 : x 5 = (id) (x 4) := ((hdep _ (Array.mem_of_getElem? (i := 0) rfl) rfl).2 rfl).1
      obtain ⟨wr, hcr1⟩ := hcr
      have hcr2 : CTk w5.heap.size T K (x 4) wr := hcr1
      clear hcr1
      obtain ⟨lo, hi, u0, u1, u2, u3, u4, ec, -⟩ := hcr2
      have em : x 5 = .tuple #[.agg #[u0, u1, u2, u3, u4], .int .i64 K] := e5.trans ec
      clear e5
      refine wp_value (v := tupAt (x 4) 1) (w' := w') ?_ ⟨rfl, rfl⟩
      rw [ec]
      clear ec
      show _ = Result.ok (Next.value (.int .i64 K)) _
      go_simp
    · exact absurd ht (by decide)
    · exact absurd ht (by decide)
    · obtain rfl := Option.some.inj ho
      have e7 : x 7 = (fun v => tupAt v 1) (x 4) := ((hdep _ (Array.mem_of_getElem? (i := 0) rfl) rfl).2 rfl).1
      obtain ⟨wr, hcr1⟩ := hcr
      have hcr2 : CTk w5.heap.size T K (x 4) wr := hcr1
      clear hcr1
      obtain ⟨lo, hi, u0, u1, u2, u3, u4, ec, -⟩ := hcr2
      have em : x 7 = .int .i64 K := by rw [e7, ec]; rfl
      clear e7
      refine wp_value (v := tupAt (x 4) 1) (w' := w') ?_ ⟨rfl, rfl⟩
      rw [ec]
      clear ec
      show _ = Result.ok (Next.value (.int .i64 K)) _
      go_simp
  · rintro i oi x w' hi ht ho hbl hdep hcd
    obtain rfl | rfl | rfl | rfl | rfl | rfl | rfl | rfl | rfl | rfl | rfl : i = 0 ∨ i = 1 ∨ i = 2 ∨ i = 3 ∨ i = 4 ∨ i = 5 ∨ i = 6 ∨ i = 7 ∨ i = 8 ∨ i = 9 ∨ i = 10 := by have h : i < 11 := hi; omega
    · exact absurd ht (by decide)
    · obtain rfl := Option.some.inj ho
      have e0 : x 0 = .agg #[.slice pa0 S.now.length c0, .slice pa1 S.sure.length c1, .slice pa2 S.last.length c2, .slice pa3 S.slast.length c3, .slice pa4 S.floors.length c4] := (hdep _ (Array.mem_of_getElem? (i := 0) rfl) rfl).1 rfl
      refine wp_enter 9 #[.agg #[.slice pa0 S.now.length c0, .slice pa1 S.sure.length c1, .slice pa2 S.last.length c2, .slice pa3 S.slast.length c3, .slice pa4 S.floors.length c4]] ?_ ((toStore_any _ _ _ _ _ S w' (HH.out.keep (E_8.out.trans (hbl.mono E_8.out.size))) BD.out.le).mono fun e' wz ⟨t0, t1, t2, t3, t4, he, hM, hb⟩ => ⟨_, he, _, rfl, show CSt S _ wz from ⟨t0, t1, t2, t3, t4, rfl, hM.out.sto⟩, hb, fun c => absurd c (by decide)⟩)
      go_simp
    · exact absurd ht (by decide)
    · obtain rfl := Option.some.inj ho
      have e2 : x 2 = .agg #[.int .i64 q.who, .int .i64 q.ep, .int .i64 q.num, .int .i64 q.obj, .int .i64 q.pos, .string (mkB q.data)] := (hdep _ (Array.mem_of_getElem? (i := 0) rfl) rfl).1 rfl
      refine wp_enter 10 #[.agg #[.int .i64 q.who, .int .i64 q.ep, .int .i64 q.num, .int .i64 q.obj, .int .i64 q.pos, .string (mkB q.data)]] ?_ ((toReq_any q w').mono fun e' wz ⟨he, hb⟩ => ⟨_, he, _, rfl, show Value.agg (rqA q) = _ from rfl, hb, fun c => absurd c (by decide)⟩)
      go_simp
    · obtain rfl := Option.some.inj ho
      have c1 := hcd _ (Array.mem_of_getElem? (i := 0) rfl) rfl rfl
      have c3 := hcd _ (Array.mem_of_getElem? (i := 1) rfl) rfl rfl
      obtain ⟨t0, t1, t2, t3, t4, es, hst⟩ := (show CSt S (x 1) w' from c1)
      clear c1
      have eq : x 3 = .agg #[.int .i64 q.who, .int .i64 q.ep, .int .i64 q.num, .int .i64 q.obj, .int .i64 q.pos, .string (mkB q.data)] := c3
      clear c3
      refine wp_enter 8 #[.agg #[t0, t1, t2, t3, t4], .agg #[.int .i64 q.who, .int .i64 q.ep, .int .i64 q.num, .int .i64 q.obj, .int .i64 q.pos, .string (mkB q.data)]] ?_ ((specR _ _ _ _ _ S T q K HT.out HK.out w' hst HZ.out BD.out.le HDL.out).mono fun e' wz ⟨u0, u1, u2, u3, u4, he, hM, hb⟩ => ⟨_, he, _, rfl, show CTk w5.heap.size T K _ wz from ⟨w'.heap.size, wz.heap.size, u0, u1, u2, u3, u4, rfl, hbl.size, Nat.le_refl _, hM⟩, hb, fun _ g hg => apt_of hM.out (.inl hg)⟩)
      go_simp
    · exact absurd ht (by decide)
    · exact absurd ht (by decide)
    · exact absurd ht (by decide)
    · exact absurd ht (by decide)
    · exact absurd ht (by decide)
    · exact absurd ht (by decide)
  · rintro oi x w' ho
    obtain rfl := Option.some.inj ho
    refine wp_value (v := .pointer (some ⟨w'.heap.size, 0, none⟩)) (w' := w'.alloc (.cells #[.slice none 0 0, .slice none 0 0, .slice none 0 0, .slice none 0 0, .slice none 0 0] 30)) ?_ ⟨rfl, rfl⟩
    go_simp
  · rintro oi x w' g ho hbl hxa hgl hgO hcc hap hdep
    obtain rfl := Option.some.inj ho
    have e6 : x 6 = (fun v => tupAt v 0) (x 4) := ((hdep _ (Array.mem_of_getElem? (i := 1) rfl) rfl).2 rfl).1
    obtain ⟨lo, hi, u0, u1, u2, u3, u4, ec, h1, h2, hM⟩ := hcc
    have ev : x 6 = .agg #[u0, u1, u2, u3, u4] := by rw [e6, ec]; rfl
    clear e6
    obtain ⟨r0, s0, rfl⟩ := hM.out.a.vls.form
    obtain ⟨r1, s1, rfl⟩ := hM.out.b.vls.form
    obtain ⟨r2, s2, rfl⟩ := hM.out.c.vls.form
    obtain ⟨r3, s3, rfl⟩ := hM.out.d.vls.form
    obtain ⟨r4, s4, rfl⟩ := hM.out.e.vls.form
    obtain ⟨Z, hZ⟩ : ∃ X, (((((w'.setCell ⟨g, 0, none⟩ (.slice r0 T.n5.a s0)).setCell ⟨g, 1, none⟩ (.slice r1 T.n5.b s1)).setCell ⟨g, 2, none⟩ (.slice r2 T.n5.c s2)).setCell ⟨g, 3, none⟩ (.slice r3 T.n5.d s3)).setCell ⟨g, 4, none⟩ (.slice r4 T.n5.e s4)) = X := ⟨_, rfl⟩
    refine wp_skip (w' := Z) ?_ ⟨rfl, by rw [hxa, ec]; rw [ec] at hap; exact rst_of hbl hgl hgO h1 h2 hM.out hap hZ⟩
    rw [← hZ]
    have y0 := row_cell hgO 0 _ rfl
    have y1 := row_cell hgO 1 _ rfl
    have y2 := row_cell hgO 2 _ rfl
    have y3 := row_cell hgO 3 _ rfl
    have y4 := row_cell hgO 4 _ rfl
    have z0 := row_free hgO 0
    have z1 := row_free hgO 1
    have z2 := row_free hgO 2
    have z3 := row_free hgO 3
    have z4 := row_free hgO 4
    clear hZ hgO hap hM ec
    go_simp
  rintro xs1 wr1 F hF hv hs hR
  subst hF
  obtain ⟨gw, logw, higw, o0, o1, o2, o3, o4, hxa, hxc, hgl, hlo, hhi, hgs, hdj, hM, hB, hbl⟩ := hR
  have hk0 : xs1 10 = tupAt (xs1 4) 1 := hs 10 (by decide) rfl
  have hk : xs1 10 = .int .i64 K := by rw [hk0, hxc]; rfl
  clear hk0
  clear hv hs
  simp only [hxa, hk]
  clear hxa hxc hk
  obtain ⟨po0, qo0, rfl⟩ := hM.out.a.vls.form
  obtain ⟨po1, qo1, rfl⟩ := hM.out.b.vls.form
  obtain ⟨po2, qo2, rfl⟩ := hM.out.c.vls.form
  obtain ⟨po3, qo3, rfl⟩ := hM.out.d.vls.form
  obtain ⟨po4, qo4, rfl⟩ := hM.out.e.vls.form
  have Ggw := Lib.hid hgl
  have Lgw := Lib.hid hlo
  have Dgw := Lib.hid hdj
  have Ugw := Lib.hid hhi
  have Ygw := Lib.hid hgs
  clear hgl hlo hdj hhi hgs
  have bA_9 := Lib.hid (bA_6.out.keep hbl)
  have bQ_10 := Lib.hid (bQ_7.out.keep hbl)
  have E_11 := Lib.hid (E_8.out.trans (hbl.mono E_8.out.size))
  have S_11 := Lib.hid hbl.size
  clear bA_6 bQ_7 E_8 hbl
  have mw_1 := hM
  have bw_1 := hB
  clear hM hB
  obtain ⟨x00, x01, x02, x03, x04⟩ := bA_9.out
  go_wp2_with fail
  refine (toStore_any _ _ _ _ _ S _ (HH.out.keep E_11.out) BD.out.le).mono ?_; rintro e w12 ⟨s0, s1, s2, s3, s4, rfl, M, hb⟩
  have bA_13 := Lib.hid (bA_9.out.keep hb)
  have bQ_14 := Lib.hid (bQ_10.out.keep hb)
  have mw_15 := Lib.hid (mw_1.out.keep hb)
  have bw_16 := Lib.hid (bw_1.out.keep hb)
  have E_17 := Lib.hid (E_11.out.trans (hb.mono E_11.out.size))
  have S_17 := Lib.hid hb.size
  clear x00 x01 x02 x03 x04
  clear bA_9 bQ_10 mw_1 bw_1 E_11 hb
  have mx_18 := M
  clear M
  obtain ⟨ps0, cs0, rfl⟩ := mx_18.out.a.vls.form
  obtain ⟨ps1, cs1, rfl⟩ := mx_18.out.b.vls.form
  obtain ⟨ps2, cs2, rfl⟩ := mx_18.out.c.vls.form
  obtain ⟨ps3, cs3, rfl⟩ := mx_18.out.d.vls.form
  obtain ⟨ps4, cs4, rfl⟩ := mx_18.out.e.vls.form
  obtain ⟨W19, hW19⟩ : ∃ X, w12.alloc (.cells #[.slice ps0 S.n5.a cs0, .slice ps1 S.n5.b cs1, .slice ps2 S.n5.c cs2, .slice ps3 S.n5.d cs3, .slice ps4 S.n5.e cs4] 30) = X := ⟨_, rfl⟩
  have hb : Below w12.heap.size w12 W19 := by rw [← hW19]; exact (Below.refl _ _).alloc (Nat.le_refl _) _
  have hB : Box5 W19 w12.heap.size (.slice ps0 S.n5.a cs0) (.slice ps1 S.n5.b cs1) (.slice ps2 S.n5.c cs2) (.slice ps3 S.n5.d cs3) (.slice ps4 S.n5.e cs4) := by rw [← hW19]; exact new_box5 _ _ _ _ _ _ _
  have hl : w12.heap.size < W19.heap.size := by rw [← hW19]; simp
  have bA_20 := Lib.hid (bA_13.out.keep hb)
  have bQ_21 := Lib.hid (bQ_14.out.keep hb)
  have mw_22 := Lib.hid (mw_15.out.keep hb)
  have bw_23 := Lib.hid (bw_16.out.keep hb)
  have mx_24 := Lib.hid (mx_18.out.keep hb)
  have E_25 := Lib.hid (E_17.out.trans (hb.mono E_17.out.size))
  have S_25 := Lib.hid hb.size
  clear bA_13 bQ_14 mw_15 bw_16 mx_18 E_17 hb
  have bx_26 := Lib.hid hB
  have S_26b := Lib.hid hl
  clear hB hl
  obtain ⟨x00, x01, x02, x03, x04⟩ := bx_26.out
  obtain ⟨x10, x11, x12, x13, x14, x15⟩ := bQ_21.out
  go_wp2_with fail
  clear hW19
  clear x00 x01 x02 x03 x04 x10 x11 x12 x13 x14 x15
  refine wp_region_free 8 7 3 (fun j => (#[0, 0, 2, 2, 1, 1, 1, 3, 4, 1] : Array Nat).getD j 0) (fun j => (#[0, 0, 0, 0, 3, 3, 3, 0, 0, 3] : Array Nat).getD j 0) (fun j => (#[id, id, id, id, id, fun v => tupAt v 0, fun v => tupAt v 1, id, id, fun v => tupAt v 1] : Array (Value → Value)).getD j id) (fun j => (#[.agg #[.slice ps0 S.n5.a cs0, .slice ps1 S.n5.b cs1, .slice ps2 S.n5.c cs2, .slice ps3 S.n5.d cs3, .slice ps4 S.n5.e cs4], .agg #[.int .i64 q.who, .int .i64 q.ep, .int .i64 q.num, .int .i64 q.obj, .int .i64 q.pos, .string (mkB q.data)], undef, undef, undef, undef, undef, undef, undef, undef] : Array Value).getD j undef) (fun j v w' => if j = 2 then v = .agg (rqA q) else if j = 3 then CTk W19.heap.size T K v w' else True) Apt (.cells #[.slice none 0 0, .slice none 0 0, .slice none 0 0, .slice none 0 0, .slice none 0 0] 30) (RSt W19 T K) (fun x => ({ tmps := #[Value.agg #[Value.slice pa0 S.now.length c0, Value.slice pa1 S.sure.length c1, Value.slice pa2 S.last.length c2, Value.slice pa3 S.slast.length c3, Value.slice pa4 S.floors.length c4], Value.agg (rqA q), Value.pointer (some { block := w.heap.size, off := 0 }), Value.pointer (some { block := w.heap.size + 1, off := 0 }), Value.bool false, Value.int IntKind.i64 z', Value.pointer (some { block := gw, off := 0 }), Value.int IntKind.i64 K, Value.pointer (some { block := w12.heap.size, off := 0 }), x 7, x 9, undef, undef, undef, undef, undef, Value.agg #[Value.slice pa0 S.now.length c0, Value.slice pa1 S.sure.length c1, Value.slice pa2 S.last.length c2, Value.slice pa3 S.slast.length c3, Value.slice pa4 S.floors.length c4], Value.int IntKind.i64 1048576, Value.int IntKind.i64 z1, Value.int IntKind.i64 z1, Value.bool (decide (z1 < 0)), Value.agg #[Value.int IntKind.i64 q.who, Value.int IntKind.i64 q.ep, Value.int IntKind.i64 q.num, Value.int IntKind.i64 q.obj, Value.int IntKind.i64 q.pos, Value.string (mkB q.data)], Value.int IntKind.i64 z1, Value.int IntKind.i64 z', Value.int IntKind.i64 z', Value.bool (decide (z' < 0)), xs1 5, xs1 0, xs1 1, xs1 2, xs1 3, xs1 4, xs1 6, xs1 7, Value.agg #[Value.slice pa0 S.now.length c0, Value.slice pa1 S.sure.length c1, Value.slice pa2 S.last.length c2, Value.slice pa3 S.slast.length c3, Value.slice pa4 S.floors.length c4], Value.agg #[Value.slice ps0 S.n5.a cs0, Value.slice ps1 S.n5.b cs1, Value.slice ps2 S.n5.c cs2, Value.slice ps3 S.n5.d cs3, Value.slice ps4 S.n5.e cs4], x 4, x 0, x 1, x 2, x 3, x 5, x 6, undef, undef, undef, undef, undef, undef, undef, undef, undef, undef, undef, undef, undef, undef, undef, undef, undef, undef, undef, undef, undef, undef, undef, undef, undef, undef, undef, undef, undef, undef, undef, undef, undef, undef, undef, undef, undef, undef, undef, undef, undef, undef, undef, undef, undef, undef, undef, undef, undef, undef, undef, undef, undef, undef, undef, undef, undef, undef, undef, undef, undef, undef, undef, undef, undef, undef], defers := [] } : Act)) (x0 := fun i => (#[undef, undef, undef, undef, undef, undef, undef, undef, undef, undef] : Array Value).getD i undef) rfl (by kernel_rfl) (by kernel_rfl) (by kernel_rfl) (by kernel_rfl) (fun j v w1 w2 h hb => by
      try dsimp only at h ⊢
      split at h
      · rename_i c; rw [if_pos c]; exact h
      · rename_i c; rw [if_neg c]; split at h
        · rename_i c; rw [if_pos c]; exact CTk.keep h hb
        · rename_i c; rw [if_neg c]; trivial) (fun v w1 g h hg => apt_late (show CTk W19.heap.size T K v w1 from h) hg) ?_ ?_ ?_ ?_ ?_ ?_
  · rintro i oi x w' hi ht ho hbl hdep
    obtain rfl | rfl | rfl | rfl | rfl | rfl | rfl | rfl | rfl | rfl : i = 0 ∨ i = 1 ∨ i = 2 ∨ i = 3 ∨ i = 4 ∨ i = 5 ∨ i = 6 ∨ i = 7 ∨ i = 8 ∨ i = 9 := by have h : i < 10 := hi; omega
    · obtain rfl := Option.some.inj ho
      skip
      obtain ⟨k0, k1, k2, k3, k4⟩ := bx_26.out.keep hbl
      refine wp_value (v := .agg #[.slice ps0 S.n5.a cs0, .slice ps1 S.n5.b cs1, .slice ps2 S.n5.c cs2, .slice ps3 S.n5.d cs3, .slice ps4 S.n5.e cs4]) (w' := w') ?_ ⟨rfl, rfl⟩
      go_simp
    · obtain rfl := Option.some.inj ho
      skip
      obtain ⟨k0, k1, k2, k3, k4, k5⟩ := bQ_21.out.keep hbl
      refine wp_value (v := .agg #[.int .i64 q.who, .int .i64 q.ep, .int .i64 q.num, .int .i64 q.obj, .int .i64 q.pos, .string (mkB q.data)]) (w' := w') ?_ ⟨rfl, rfl⟩
      go_simp
    · exact absurd ht (by decide)
    · exact absurd ht (by decide)
    · exact absurd ht (by decide)
    · exact absurd ht (by decide)
    · exact absurd ht (by decide)
    · exact absurd ht (by decide)
    · exact absurd ht (by decide)
    · exact absurd ht (by decide)
  · rintro i oi x w' hi ht ho hcr hdep
    obtain rfl | rfl | rfl | rfl | rfl | rfl | rfl | rfl | rfl | rfl : i = 0 ∨ i = 1 ∨ i = 2 ∨ i = 3 ∨ i = 4 ∨ i = 5 ∨ i = 6 ∨ i = 7 ∨ i = 8 ∨ i = 9 := by have h : i < 10 := hi; omega
    · exact absurd ht (by decide)
    · exact absurd ht (by decide)
    · exact absurd ht (by decide)
    · exact absurd ht (by decide)
    · obtain rfl := Option.some.inj ho
      refine wp_value (v := x 3) (w' := w') ?_ ⟨rfl, rfl⟩
      go_simp
    · obtain rfl := Option.some.inj ho
      have e4 : x 4 = (id) (x 3) := ((hdep _ (Array.mem_of_getElem? (i := 0) rfl) rfl).2 rfl).1
      obtain ⟨wr, hcr1⟩ := hcr
      have hcr2 : CTk W19.heap.size T K (x 3) wr := hcr1
      clear hcr1
      obtain ⟨lo, hi, u0, u1, u2, u3, u4, ec, -⟩ := hcr2
      have em : x 4 = .tuple #[.agg #[u0, u1, u2, u3, u4], .int .i64 K] := e4.trans ec
      clear e4
      refine wp_value (v := tupAt (x 3) 0) (w' := w') ?_ ⟨rfl, rfl⟩
      rw [ec]
      clear ec
      show _ = Result.ok (Next.value (.agg #[u0, u1, u2, u3, u4])) _
      go_simp
    · obtain rfl := Option.some.inj ho
      have e4 : x 4 = (id) (x 3) := ((hdep _ (Array.mem_of_getElem? (i := 0) rfl) rfl).2 rfl).1
      obtain ⟨wr, hcr1⟩ := hcr
      have hcr2 : CTk W19.heap.size T K (x 3) wr := hcr1
      clear hcr1
      obtain ⟨lo, hi, u0, u1, u2, u3, u4, ec, -⟩ := hcr2
      have em : x 4 = .tuple #[.agg #[u0, u1, u2, u3, u4], .int .i64 K] := e4.trans ec
      clear e4
      refine wp_value (v := tupAt (x 3) 1) (w' := w') ?_ ⟨rfl, rfl⟩
      rw [ec]
      clear ec
      show _ = Result.ok (Next.value (.int .i64 K)) _
      go_simp
    · exact absurd ht (by decide)
    · exact absurd ht (by decide)
    · obtain rfl := Option.some.inj ho
      have e6 : x 6 = (fun v => tupAt v 1) (x 3) := ((hdep _ (Array.mem_of_getElem? (i := 0) rfl) rfl).2 rfl).1
      obtain ⟨wr, hcr1⟩ := hcr
      have hcr2 : CTk W19.heap.size T K (x 3) wr := hcr1
      clear hcr1
      obtain ⟨lo, hi, u0, u1, u2, u3, u4, ec, -⟩ := hcr2
      have em : x 6 = .int .i64 K := by rw [e6, ec]; rfl
      clear e6
      refine wp_value (v := tupAt (x 3) 1) (w' := w') ?_ ⟨rfl, rfl⟩
      rw [ec]
      clear ec
      show _ = Result.ok (Next.value (.int .i64 K)) _
      go_simp
  · rintro i oi x w' hi ht ho hbl hdep hcd
    obtain rfl | rfl | rfl | rfl | rfl | rfl | rfl | rfl | rfl | rfl : i = 0 ∨ i = 1 ∨ i = 2 ∨ i = 3 ∨ i = 4 ∨ i = 5 ∨ i = 6 ∨ i = 7 ∨ i = 8 ∨ i = 9 := by have h : i < 10 := hi; omega
    · exact absurd ht (by decide)
    · exact absurd ht (by decide)
    · obtain rfl := Option.some.inj ho
      have e1 : x 1 = .agg #[.int .i64 q.who, .int .i64 q.ep, .int .i64 q.num, .int .i64 q.obj, .int .i64 q.pos, .string (mkB q.data)] := (hdep _ (Array.mem_of_getElem? (i := 0) rfl) rfl).1 rfl
      refine wp_enter 10 #[.agg #[.int .i64 q.who, .int .i64 q.ep, .int .i64 q.num, .int .i64 q.obj, .int .i64 q.pos, .string (mkB q.data)]] ?_ ((toReq_any q w').mono fun e' wz ⟨he, hb⟩ => ⟨_, he, _, rfl, show Value.agg (rqA q) = _ from rfl, hb, fun c => absurd c (by decide)⟩)
      go_simp
    · obtain rfl := Option.some.inj ho
      have e0 : x 0 = .agg #[.slice ps0 S.n5.a cs0, .slice ps1 S.n5.b cs1, .slice ps2 S.n5.c cs2, .slice ps3 S.n5.d cs3, .slice ps4 S.n5.e cs4] := (hdep _ (Array.mem_of_getElem? (i := 0) rfl) rfl).1 rfl
      have c2 := hcd _ (Array.mem_of_getElem? (i := 1) rfl) rfl rfl
      have hst := mx_24.out.sto.keep hbl
      have eq : x 2 = .agg #[.int .i64 q.who, .int .i64 q.ep, .int .i64 q.num, .int .i64 q.obj, .int .i64 q.pos, .string (mkB q.data)] := c2
      clear c2
      refine wp_enter 11 #[.agg #[.slice ps0 S.n5.a cs0, .slice ps1 S.n5.b cs1, .slice ps2 S.n5.c cs2, .slice ps3 S.n5.d cs3, .slice ps4 S.n5.e cs4], .agg #[.int .i64 q.who, .int .i64 q.ep, .int .i64 q.num, .int .i64 q.obj, .int .i64 q.pos, .string (mkB q.data)]] ?_ ((implR a0 a1 a2 a3 _ _ _ _ _ S T q K HT.out HK.out w' (HS.out.keep (E_25.out.trans (hbl.mono E_25.out.size))) hst HZ.out HDL.out).mono fun e' wz ⟨u0, u1, u2, u3, u4, he, hM, hb⟩ => ⟨_, he, _, rfl, show CTk W19.heap.size T K _ wz from ⟨w'.heap.size, wz.heap.size, u0, u1, u2, u3, u4, rfl, hbl.size, Nat.le_refl _, hM⟩, hb, fun _ g hg => apt_of hM.out (.inl hg)⟩)
      go_simp
    · exact absurd ht (by decide)
    · exact absurd ht (by decide)
    · exact absurd ht (by decide)
    · exact absurd ht (by decide)
    · exact absurd ht (by decide)
    · exact absurd ht (by decide)
  · rintro oi x w' ho
    obtain rfl := Option.some.inj ho
    refine wp_value (v := .pointer (some ⟨w'.heap.size, 0, none⟩)) (w' := w'.alloc (.cells #[.slice none 0 0, .slice none 0 0, .slice none 0 0, .slice none 0 0, .slice none 0 0] 30)) ?_ ⟨rfl, rfl⟩
    go_simp
  · rintro oi x w' g ho hbl hxa hgl hgO hcc hap hdep
    obtain rfl := Option.some.inj ho
    have e5 : x 5 = (fun v => tupAt v 0) (x 3) := ((hdep _ (Array.mem_of_getElem? (i := 1) rfl) rfl).2 rfl).1
    obtain ⟨lo, hi, u0, u1, u2, u3, u4, ec, h1, h2, hM⟩ := hcc
    have ev : x 5 = .agg #[u0, u1, u2, u3, u4] := by rw [e5, ec]; rfl
    clear e5
    obtain ⟨r0, s0, rfl⟩ := hM.out.a.vls.form
    obtain ⟨r1, s1, rfl⟩ := hM.out.b.vls.form
    obtain ⟨r2, s2, rfl⟩ := hM.out.c.vls.form
    obtain ⟨r3, s3, rfl⟩ := hM.out.d.vls.form
    obtain ⟨r4, s4, rfl⟩ := hM.out.e.vls.form
    obtain ⟨Z, hZ⟩ : ∃ X, (((((w'.setCell ⟨g, 0, none⟩ (.slice r0 T.n5.a s0)).setCell ⟨g, 1, none⟩ (.slice r1 T.n5.b s1)).setCell ⟨g, 2, none⟩ (.slice r2 T.n5.c s2)).setCell ⟨g, 3, none⟩ (.slice r3 T.n5.d s3)).setCell ⟨g, 4, none⟩ (.slice r4 T.n5.e s4)) = X := ⟨_, rfl⟩
    refine wp_skip (w' := Z) ?_ ⟨rfl, by rw [hxa, ec]; rw [ec] at hap; exact rst_of hbl hgl hgO h1 h2 hM.out hap hZ⟩
    rw [← hZ]
    have y0 := row_cell hgO 0 _ rfl
    have y1 := row_cell hgO 1 _ rfl
    have y2 := row_cell hgO 2 _ rfl
    have y3 := row_cell hgO 3 _ rfl
    have y4 := row_cell hgO 4 _ rfl
    have z0 := row_free hgO 0
    have z1 := row_free hgO 1
    have z2 := row_free hgO 2
    have z3 := row_free hgO 3
    have z4 := row_free hgO 4
    clear hZ hgO hap hM ec
    go_simp
  rintro xs2 wr2 F hF hv hs hR
  subst hF
  obtain ⟨gg, logg, higg, g0, g1, g2, g3, g4, hxa, hxc, hgl, hlo, hhi, hgs, hdj, hM, hB, hbl⟩ := hR
  have hk0 : xs2 9 = tupAt (xs2 3) 1 := hs 9 (by decide) rfl
  have hk : xs2 9 = .int .i64 K := by rw [hk0, hxc]; rfl
  clear hk0
  clear hv hs
  simp only [hxa, hk]
  clear hxa hxc hk
  obtain ⟨pg0, qg0, rfl⟩ := hM.out.a.vls.form
  obtain ⟨pg1, qg1, rfl⟩ := hM.out.b.vls.form
  obtain ⟨pg2, qg2, rfl⟩ := hM.out.c.vls.form
  obtain ⟨pg3, qg3, rfl⟩ := hM.out.d.vls.form
  obtain ⟨pg4, qg4, rfl⟩ := hM.out.e.vls.form
  have Ggg := Lib.hid hgl
  have Lgg := Lib.hid hlo
  have Dgg := Lib.hid hdj
  have Ugg := Lib.hid hhi
  have Ygg := Lib.hid hgs
  clear hgl hlo hdj hhi hgs
  have bA_27 := Lib.hid (bA_20.out.keep hbl)
  have bQ_28 := Lib.hid (bQ_21.out.keep hbl)
  have mw_29 := Lib.hid (mw_22.out.keep hbl)
  have bw_30 := Lib.hid (bw_23.out.keep hbl)
  have mx_31 := Lib.hid (mx_24.out.keep hbl)
  have bx_32 := Lib.hid (bx_26.out.keep hbl)
  have E_33 := Lib.hid (E_25.out.trans (hbl.mono E_25.out.size))
  have S_33 := Lib.hid hbl.size
  clear bA_20 bQ_21 mw_22 bw_23 mx_24 bx_26 E_25 hbl
  have mg_2 := hM
  have bg_2 := hB
  clear hM hB
  obtain ⟨x00, x01, x02, x03, x04, x05, x06, x07, x08, x09⟩ := bg_2.out
  obtain ⟨x10, x11, x12, x13, x14, x15, x16, x17, x18, x19⟩ := bw_30.out
  go_wp2_with fail
  refine (eqStore_same _ _ _ _ _ _ _ _ _ _ T _ mg_2.out.sto mw_29.out.sto).mono ?_; rintro e w34 ⟨rfl, hb⟩
  have bA_35 := Lib.hid (bA_27.out.keep hb)
  have bQ_36 := Lib.hid (bQ_28.out.keep hb)
  have mw_37 := Lib.hid (mw_29.out.keep hb)
  have bw_38 := Lib.hid (bw_30.out.keep hb)
  have mx_39 := Lib.hid (mx_31.out.keep hb)
  have bx_40 := Lib.hid (bx_32.out.keep hb)
  have mg_41 := Lib.hid (mg_2.out.keep hb)
  have bg_42 := Lib.hid (bg_2.out.keep hb)
  have E_43 := Lib.hid (E_33.out.trans (hb.mono E_33.out.size))
  have S_43 := Lib.hid hb.size
  clear x00 x01 x02 x03 x04 x05 x06 x07 x08 x09 x10 x11 x12 x13 x14 x15 x16 x17 x18 x19
  clear bA_27 bQ_28 mw_29 bw_30 mx_31 bx_32 mg_2 bg_2 E_33 hb
  obtain ⟨x00, x01, x02, x03, x04⟩ := bx_40.out
  obtain ⟨x10, x11, x12, x13, x14⟩ := bA_35.out
  go_wp2_with fail
  have hD : Below w34.heap.size w34 w34.drew := (Below.refl _ _).drew
  go_region_held3 (fun w' => w'.cell? ⟨w12.heap.size, 0, none⟩ = some (.slice ps0 S.n5.a cs0) ∧ w'.cell? ⟨w12.heap.size, 1, none⟩ = some (.slice ps1 S.n5.b cs1) ∧ w'.cell? ⟨w12.heap.size, 2, none⟩ = some (.slice ps2 S.n5.c cs2) ∧ w'.cell? ⟨w12.heap.size, 3, none⟩ = some (.slice ps3 S.n5.d cs3) ∧ w'.cell? ⟨w12.heap.size, 4, none⟩ = some (.slice ps4 S.n5.e cs4) ∧ w'.cell? ⟨w.heap.size, 0, none⟩ = some (.slice pa0 S.now.length c0) ∧ w'.cell? ⟨w.heap.size, 1, none⟩ = some (.slice pa1 S.sure.length c1) ∧ w'.cell? ⟨w.heap.size, 2, none⟩ = some (.slice pa2 S.last.length c2) ∧ w'.cell? ⟨w.heap.size, 3, none⟩ = some (.slice pa3 S.slast.length c3) ∧ w'.cell? ⟨w.heap.size, 4, none⟩ = some (.slice pa4 S.floors.length c4))
    (refine ⟨?_, ?_, ?_, ?_, ?_, ?_, ?_, ?_, ?_, ?_⟩ <;> first | (go_keep; done) | (refine cell_keep hb ?_; first | (go_keep; done) | (go_simp; done)))
    (first
      | (go_at_call 12; refine (eqStore_same _ _ _ _ _ _ _ _ _ _ S _ (mx_39.out.sto.keep hR0) MT.out.sto).mono ?_; rintro e r44_1 ⟨rfl, hb⟩; have hR1 := hR0.trans (hb.mono hR0.size); clear MT)
      | (go_at_call 9; refine (toStore_any _ _ _ _ _ S _ (HH.out.keep ((E_43.out).trans (hD.mono E_43.out.size))) BD.out.le).mono ?_; rintro e r44_0 ⟨t0, t1, t2, t3, t4, rfl, MT, hb⟩; have hR0 := hD.trans (hb.mono hD.size)))
  have hbb : Below w34.heap.size w34 r44_1 := hR1
  clear hR0 hR1 hb hD
  have bA_45 := Lib.hid (bA_35.out.keep hbb)
  have bQ_46 := Lib.hid (bQ_36.out.keep hbb)
  have mw_47 := Lib.hid (mw_37.out.keep hbb)
  have bw_48 := Lib.hid (bw_38.out.keep hbb)
  have mx_49 := Lib.hid (mx_39.out.keep hbb)
  have bx_50 := Lib.hid (bx_40.out.keep hbb)
  have mg_51 := Lib.hid (mg_41.out.keep hbb)
  have bg_52 := Lib.hid (bg_42.out.keep hbb)
  have E_53 := Lib.hid (E_43.out.trans (hbb.mono E_43.out.size))
  have S_53 := Lib.hid hbb.size
  clear x00 x01 x02 x03 x04 x10 x11 x12 x13 x14
  clear bA_35 bQ_36 mw_37 bw_38 mx_39 bx_40 mg_41 bg_42 E_43 hbb
  obtain ⟨x00, x01, x02, x03, x04⟩ := bx_50.out
  go_wp2_with fail
  have q0 := S_0.out
  have q1 := S_4.out
  have q2 := S_8.out
  have q3 := S_11.out
  have q4 := Ggw.out
  have q5 := Lgw.out
  have q6 := Dgw.out
  have q7 := Ugw.out
  have q8 := Ygw.out
  have q9 := S_17.out
  have q10 := S_25.out
  have q11 := S_26b.out
  have q12 := S_33.out
  have q13 := Ggg.out
  have q14 := Lgg.out
  have q15 := Dgg.out
  have q16 := Ugg.out
  have q17 := Ygg.out
  have q18 := S_43.out
  have q19 := S_53.out
  have hhi := mark1 _ _ _ _ _ _ _ S.n5 _ _ mx_49.out (by omega) BD.out.le
  clear q0 q1 q2 q3 q4 q5 q6 q7 q8 q9 q10 q11 q12 q13 q14 q15 q16 q17 q18 q19
  refine hhi.mono ?_; rintro e w54 ⟨rfl, MM, ht⟩
  clear hhi
  have q0 := S_0.out
  have q1 := S_4.out
  have q2 := S_8.out
  have q3 := S_11.out
  have q4 := Ggw.out
  have q5 := Lgw.out
  have q6 := Dgw.out
  have q7 := Ugw.out
  have q8 := Ygw.out
  have q9 := S_17.out
  have q10 := S_25.out
  have q11 := S_26b.out
  have q12 := S_33.out
  have q13 := Ggg.out
  have q14 := Lgg.out
  have q15 := Dgg.out
  have q16 := Ugg.out
  have q17 := Ygg.out
  have q18 := S_43.out
  have q19 := S_53.out
  have bA_55 := Lib.hid (bA_45.out.btn ht (by omega))
  have bQ_56 := Lib.hid (bQ_46.out.btn ht (by omega))
  have mw_57 := Lib.hid (mw_47.out.btn ht (by omega))
  have bw_58 := Lib.hid (bw_48.out.btn ht (by omega))
  have bx_59 := Lib.hid (bx_50.out.btn ht (by omega))
  have mg_60 := Lib.hid (mg_51.out.btn ht (by omega))
  have bg_61 := Lib.hid (bg_52.out.btn ht (by omega))
  have E_62 := Lib.hid (E_53.out.trans (ht.below (by omega) E_53.out.size))
  have S_62 := Lib.hid ht.size
  clear x00 x01 x02 x03 x04
  clear bA_45 bQ_46 mw_47 bw_48 bx_50 mg_51 bg_52 E_53 q0 q1 q2 q3 q4 q5 q6 q7 q8 q9 q10 q11 q12 q13 q14 q15 q16 q17 q18 q19 ht
  have mx_63 := MM
  clear MM mx_49
  clear mx_63
  clear bx_59
  have k1 : decide (mkEnd S.n5 < 0) = false := by simpa using mkEnd_pos S.n5
  obtain ⟨x00, x01, x02, x03, x04, x05, x06, x07, x08, x09⟩ := bg_61.out
  obtain ⟨x10, x11, x12, x13, x14, x15, x16, x17, x18, x19⟩ := bw_58.out
  go_wp2_with fail
  refine (eqStore_same _ _ _ _ _ _ _ _ _ _ T _ mg_60.out.sto mw_57.out.sto).mono ?_; rintro e w64 ⟨rfl, hb⟩
  have bA_65 := Lib.hid (bA_55.out.keep hb)
  have bQ_66 := Lib.hid (bQ_56.out.keep hb)
  have mw_67 := Lib.hid (mw_57.out.keep hb)
  have bw_68 := Lib.hid (bw_58.out.keep hb)
  have mg_69 := Lib.hid (mg_60.out.keep hb)
  have bg_70 := Lib.hid (bg_61.out.keep hb)
  have E_71 := Lib.hid (E_62.out.trans (hb.mono E_62.out.size))
  have S_71 := Lib.hid hb.size
  clear x00 x01 x02 x03 x04 x05 x06 x07 x08 x09 x10 x11 x12 x13 x14 x15 x16 x17 x18 x19
  clear bA_55 bQ_56 mw_57 bw_58 mg_60 bg_61 E_62 hb
  clear k1
  obtain ⟨x00, x01, x02, x03, x04, x05, x06, x07, x08, x09⟩ := bg_70.out
  go_wp2_with fail
  have q0 := S_0.out
  have q1 := S_4.out
  have q2 := S_8.out
  have q3 := S_11.out
  have q4 := Ggw.out
  have q5 := Lgw.out
  have q6 := Dgw.out
  have q7 := Ugw.out
  have q8 := Ygw.out
  have q9 := S_17.out
  have q10 := S_25.out
  have q11 := S_26b.out
  have q12 := S_33.out
  have q13 := Ggg.out
  have q14 := Lgg.out
  have q15 := Dgg.out
  have q16 := Ugg.out
  have q17 := Ygg.out
  have q18 := S_43.out
  have q19 := S_53.out
  have q20 := S_62.out
  have q21 := S_71.out
  have hhi := mark1 _ _ _ _ _ _ _ T.n5 _ _ mg_69.out (by omega) HTL.out
  clear q0 q1 q2 q3 q4 q5 q6 q7 q8 q9 q10 q11 q12 q13 q14 q15 q16 q17 q18 q19 q20 q21
  refine hhi.mono ?_; rintro e w72 ⟨rfl, MM, ht⟩
  clear hhi
  have q0 := S_0.out
  have q1 := S_4.out
  have q2 := S_8.out
  have q3 := S_11.out
  have q4 := Ggw.out
  have q5 := Lgw.out
  have q6 := Dgw.out
  have q7 := Ugw.out
  have q8 := Ygw.out
  have q9 := S_17.out
  have q10 := S_25.out
  have q11 := S_26b.out
  have q12 := S_33.out
  have q13 := Ggg.out
  have q14 := Lgg.out
  have q15 := Dgg.out
  have q16 := Ugg.out
  have q17 := Ygg.out
  have q18 := S_43.out
  have q19 := S_53.out
  have q20 := S_62.out
  have q21 := S_71.out
  have bA_73 := Lib.hid (bA_65.out.btn ht (by omega))
  have bQ_74 := Lib.hid (bQ_66.out.btn ht (by omega))
  have mw_75 := Lib.hid (mw_67.out.btn ht (by omega))
  have bw_76 := Lib.hid (bw_68.out.btn ht (by omega))
  have bg_77 := Lib.hid (bg_70.out.btn ht (by omega))
  have E_78 := Lib.hid (E_71.out.trans (ht.below (by omega) E_71.out.size))
  have S_78 := Lib.hid ht.size
  clear x00 x01 x02 x03 x04 x05 x06 x07 x08 x09
  clear bA_65 bQ_66 mw_67 bw_68 bg_70 E_71 q0 q1 q2 q3 q4 q5 q6 q7 q8 q9 q10 q11 q12 q13 q14 q15 q16 q17 q18 q19 q20 q21 ht
  have mg_79 := MM
  clear MM mg_69
  have k2 : decide (mkEnd T.n5 < 0) = false := by simpa using mkEnd_pos T.n5
  obtain ⟨x00, x01, x02, x03, x04, x05, x06, x07, x08, x09⟩ := bg_77.out
  go_wp2_with fail
  refine (held1 _ _ _ _ _ _ _ T.n5 _ mg_79.out HTL.out).mono ?_; rintro e w80 ⟨rfl, hb⟩
  have bA_81 := Lib.hid (bA_73.out.keep hb)
  have bQ_82 := Lib.hid (bQ_74.out.keep hb)
  have mw_83 := Lib.hid (mw_75.out.keep hb)
  have bw_84 := Lib.hid (bw_76.out.keep hb)
  have bg_85 := Lib.hid (bg_77.out.keep hb)
  have mg_86 := Lib.hid (mg_79.out.keep hb)
  have E_87 := Lib.hid (E_78.out.trans (hb.mono E_78.out.size))
  have S_87 := Lib.hid hb.size
  clear x00 x01 x02 x03 x04 x05 x06 x07 x08 x09
  clear bA_73 bQ_74 mw_75 bw_76 bg_77 mg_79 E_78 hb
  obtain ⟨x00, x01, x02, x03, x04⟩ := bA_81.out
  obtain ⟨x10, x11, x12, x13, x14, x15⟩ := bQ_82.out
  go_wp2_with fail
  clear x00 x01 x02 x03 x04 x10 x11 x12 x13 x14 x15
  refine wp_region_free 9 8 4 (fun j => (#[0, 2, 0, 2, 2, 1, 1, 1, 3, 4, 1] : Array Nat).getD j 0) (fun j => (#[0, 0, 0, 0, 0, 4, 4, 4, 0, 0, 4] : Array Nat).getD j 0) (fun j => (#[id, id, id, id, id, id, fun v => tupAt v 0, fun v => tupAt v 1, id, id, fun v => tupAt v 1] : Array (Value → Value)).getD j id) (fun j => (#[.agg #[.slice pa0 S.now.length c0, .slice pa1 S.sure.length c1, .slice pa2 S.last.length c2, .slice pa3 S.slast.length c3, .slice pa4 S.floors.length c4], undef, .agg #[.int .i64 q.who, .int .i64 q.ep, .int .i64 q.num, .int .i64 q.obj, .int .i64 q.pos, .string (mkB q.data)], undef, undef, undef, undef, undef, undef, undef, undef] : Array Value).getD j undef) (fun j v w' => if j = 1 then CSt S v w' else if j = 3 then v = .agg (rqA q) else if j = 4 then CTk w80.heap.size T K v w' else True) Apt (.cells #[.slice none 0 0, .slice none 0 0, .slice none 0 0, .slice none 0 0, .slice none 0 0] 30) (RSt w80 T K) (fun x => ({ tmps := #[Value.agg #[Value.slice pa0 S.now.length c0, Value.slice pa1 S.sure.length c1, Value.slice pa2 S.last.length c2, Value.slice pa3 S.slast.length c3, Value.slice pa4 S.floors.length c4], Value.agg (rqA q), Value.pointer (some { block := w.heap.size, off := 0 }), Value.pointer (some { block := w.heap.size + 1, off := 0 }), Value.bool false, Value.int IntKind.i64 z', Value.pointer (some { block := gw, off := 0 }), Value.int IntKind.i64 K, Value.pointer (some { block := w12.heap.size, off := 0 }), Value.pointer (some { block := gg, off := 0 }), Value.int IntKind.i64 K, Value.int IntKind.i64 (mkEnd S.n5), Value.int IntKind.i64 (mkEnd T.n5), Value.int IntKind.i64 (mkEnd T.n5), x 8, x 10, Value.agg #[Value.slice pa0 S.now.length c0, Value.slice pa1 S.sure.length c1, Value.slice pa2 S.last.length c2, Value.slice pa3 S.slast.length c3, Value.slice pa4 S.floors.length c4], Value.int IntKind.i64 1048576, Value.int IntKind.i64 z1, Value.int IntKind.i64 z1, Value.bool (decide (z1 < 0)), Value.agg #[Value.int IntKind.i64 q.who, Value.int IntKind.i64 q.ep, Value.int IntKind.i64 q.num, Value.int IntKind.i64 q.obj, Value.int IntKind.i64 q.pos, Value.string (mkB q.data)], Value.int IntKind.i64 z1, Value.int IntKind.i64 z', Value.int IntKind.i64 z', Value.bool (decide (z' < 0)), xs1 5, xs1 0, xs1 1, xs1 2, xs1 3, xs1 4, xs1 6, xs1 7, Value.agg #[Value.slice pa0 S.now.length c0, Value.slice pa1 S.sure.length c1, Value.slice pa2 S.last.length c2, Value.slice pa3 S.slast.length c3, Value.slice pa4 S.floors.length c4], Value.agg #[Value.slice ps0 S.n5.a cs0, Value.slice ps1 S.n5.b cs1, Value.slice ps2 S.n5.c cs2, Value.slice ps3 S.n5.d cs3, Value.slice ps4 S.n5.e cs4], xs2 4, xs2 0, xs2 1, xs2 2, xs2 3, xs2 5, xs2 6, Value.agg #[Value.slice pg0 T.n5.a qg0, Value.slice pg1 T.n5.b qg1, Value.slice pg2 T.n5.c qg2, Value.slice pg3 T.n5.d qg3, Value.slice pg4 T.n5.e qg4], Value.agg #[Value.slice po0 T.n5.a qo0, Value.slice po1 T.n5.b qo1, Value.slice po2 T.n5.c qo2, Value.slice po3 T.n5.d qo3, Value.slice po4 T.n5.e qo4], Value.bool true, Value.bool false, Value.bool false, Value.int IntKind.i64 K, Value.int IntKind.i64 K, Value.bool false, Value.bool false, Value.agg #[Value.slice ps0 S.n5.a cs0, Value.slice ps1 S.n5.b cs1, Value.slice ps2 S.n5.c cs2, Value.slice ps3 S.n5.d cs3, Value.slice ps4 S.n5.e cs4], Value.agg #[Value.slice pa0 S.now.length c0, Value.slice pa1 S.sure.length c1, Value.slice pa2 S.last.length c2, Value.slice pa3 S.slast.length c3, Value.slice pa4 S.floors.length c4], Value.agg #[t0, t1, t2, t3, t4], Value.bool true, Value.bool false, Value.agg #[Value.slice ps0 S.n5.a cs0, Value.slice ps1 S.n5.b cs1, Value.slice ps2 S.n5.c cs2, Value.slice ps3 S.n5.d cs3, Value.slice ps4 S.n5.e cs4], Value.int IntKind.i64 1, Value.int IntKind.i64 (mkEnd S.n5), Value.int IntKind.i64 (mkEnd S.n5), Value.bool false, Value.bool false, Value.agg #[Value.slice pg0 T.n5.a qg0, Value.slice pg1 T.n5.b qg1, Value.slice pg2 T.n5.c qg2, Value.slice pg3 T.n5.d qg3, Value.slice pg4 T.n5.e qg4], Value.agg #[Value.slice po0 T.n5.a qo0, Value.slice po1 T.n5.b qo1, Value.slice po2 T.n5.c qo2, Value.slice po3 T.n5.d qo3, Value.slice po4 T.n5.e qo4], Value.bool true, Value.bool false, Value.bool false, Value.bool false, Value.int IntKind.i64 K, Value.int IntKind.i64 K, Value.bool false, Value.bool false, Value.agg #[Value.slice pg0 T.n5.a qg0, Value.slice pg1 T.n5.b qg1, Value.slice pg2 T.n5.c qg2, Value.slice pg3 T.n5.d qg3, Value.slice pg4 T.n5.e qg4], Value.int IntKind.i64 1, Value.int IntKind.i64 (mkEnd T.n5), Value.agg #[Value.slice pg0 T.n5.a qg0, Value.slice pg1 T.n5.b qg1, Value.slice pg2 T.n5.c qg2, Value.slice pg3 T.n5.d qg3, Value.slice pg4 T.n5.e qg4], Value.int IntKind.i64 1, Value.int IntKind.i64 (mkEnd T.n5), Value.int IntKind.i64 (mkEnd T.n5), Value.bool false, Value.int IntKind.i64 (mkEnd T.n5), Value.int IntKind.i64 (mkEnd T.n5), Value.bool false, x 5, x 0, x 1, x 2, x 3, x 4, x 6, x 7, undef, undef, undef, undef, undef, undef, undef, undef, undef, undef, undef, undef, undef, undef, undef, undef, undef], defers := [] } : Act)) (x0 := fun i => (#[undef, undef, undef, undef, undef, undef, undef, undef, undef, undef, undef] : Array Value).getD i undef) rfl (by kernel_rfl) (by kernel_rfl) (by kernel_rfl) (by kernel_rfl) (fun j v w1 w2 h hb => by
      try dsimp only at h ⊢
      split at h
      · rename_i c; rw [if_pos c]; exact CSt.keep h hb
      · rename_i c; rw [if_neg c]; split at h
        · rename_i c; rw [if_pos c]; exact h
        · rename_i c; rw [if_neg c]; split at h
          · rename_i c; rw [if_pos c]; exact CTk.keep h hb
          · rename_i c; rw [if_neg c]; trivial) (fun v w1 g h hg => apt_late (show CTk w80.heap.size T K v w1 from h) hg) ?_ ?_ ?_ ?_ ?_ ?_
  · rintro i oi x w' hi ht ho hbl hdep
    obtain rfl | rfl | rfl | rfl | rfl | rfl | rfl | rfl | rfl | rfl | rfl : i = 0 ∨ i = 1 ∨ i = 2 ∨ i = 3 ∨ i = 4 ∨ i = 5 ∨ i = 6 ∨ i = 7 ∨ i = 8 ∨ i = 9 ∨ i = 10 := by have h : i < 11 := hi; omega
    · obtain rfl := Option.some.inj ho
      skip
      obtain ⟨k0, k1, k2, k3, k4⟩ := bA_81.out.keep hbl
      refine wp_value (v := .agg #[.slice pa0 S.now.length c0, .slice pa1 S.sure.length c1, .slice pa2 S.last.length c2, .slice pa3 S.slast.length c3, .slice pa4 S.floors.length c4]) (w' := w') ?_ ⟨rfl, rfl⟩
      go_simp
    · exact absurd ht (by decide)
    · obtain rfl := Option.some.inj ho
      skip
      obtain ⟨k0, k1, k2, k3, k4, k5⟩ := bQ_82.out.keep hbl
      refine wp_value (v := .agg #[.int .i64 q.who, .int .i64 q.ep, .int .i64 q.num, .int .i64 q.obj, .int .i64 q.pos, .string (mkB q.data)]) (w' := w') ?_ ⟨rfl, rfl⟩
      go_simp
    · exact absurd ht (by decide)
    · exact absurd ht (by decide)
    · exact absurd ht (by decide)
    · exact absurd ht (by decide)
    · exact absurd ht (by decide)
    · exact absurd ht (by decide)
    · exact absurd ht (by decide)
    · exact absurd ht (by decide)
  · rintro i oi x w' hi ht ho hcr hdep
    obtain rfl | rfl | rfl | rfl | rfl | rfl | rfl | rfl | rfl | rfl | rfl : i = 0 ∨ i = 1 ∨ i = 2 ∨ i = 3 ∨ i = 4 ∨ i = 5 ∨ i = 6 ∨ i = 7 ∨ i = 8 ∨ i = 9 ∨ i = 10 := by have h : i < 11 := hi; omega
    · exact absurd ht (by decide)
    · exact absurd ht (by decide)
    · exact absurd ht (by decide)
    · exact absurd ht (by decide)
    · exact absurd ht (by decide)
    · obtain rfl := Option.some.inj ho
      refine wp_value (v := x 4) (w' := w') ?_ ⟨rfl, rfl⟩
      go_simp
    · obtain rfl := Option.some.inj ho
      have e5 : x 5 = (id) (x 4) := ((hdep _ (Array.mem_of_getElem? (i := 0) rfl) rfl).2 rfl).1
      obtain ⟨wr, hcr1⟩ := hcr
      have hcr2 : CTk w80.heap.size T K (x 4) wr := hcr1
      clear hcr1
      obtain ⟨lo, hi, u0, u1, u2, u3, u4, ec, -⟩ := hcr2
      have em : x 5 = .tuple #[.agg #[u0, u1, u2, u3, u4], .int .i64 K] := e5.trans ec
      clear e5
      refine wp_value (v := tupAt (x 4) 0) (w' := w') ?_ ⟨rfl, rfl⟩
      rw [ec]
      clear ec
      show _ = Result.ok (Next.value (.agg #[u0, u1, u2, u3, u4])) _
      go_simp
    · obtain rfl := Option.some.inj ho
      have e5 : x 5 = (id) (x 4) := ((hdep _ (Array.mem_of_getElem? (i := 0) rfl) rfl).2 rfl).1
      obtain ⟨wr, hcr1⟩ := hcr
      have hcr2 : CTk w80.heap.size T K (x 4) wr := hcr1
      clear hcr1
      obtain ⟨lo, hi, u0, u1, u2, u3, u4, ec, -⟩ := hcr2
      have em : x 5 = .tuple #[.agg #[u0, u1, u2, u3, u4], .int .i64 K] := e5.trans ec
      clear e5
      refine wp_value (v := tupAt (x 4) 1) (w' := w') ?_ ⟨rfl, rfl⟩
      rw [ec]
      clear ec
      show _ = Result.ok (Next.value (.int .i64 K)) _
      go_simp
    · exact absurd ht (by decide)
    · exact absurd ht (by decide)
    · obtain rfl := Option.some.inj ho
      have e7 : x 7 = (fun v => tupAt v 1) (x 4) := ((hdep _ (Array.mem_of_getElem? (i := 0) rfl) rfl).2 rfl).1
      obtain ⟨wr, hcr1⟩ := hcr
      have hcr2 : CTk w80.heap.size T K (x 4) wr := hcr1
      clear hcr1
      obtain ⟨lo, hi, u0, u1, u2, u3, u4, ec, -⟩ := hcr2
      have em : x 7 = .int .i64 K := by rw [e7, ec]; rfl
      clear e7
      refine wp_value (v := tupAt (x 4) 1) (w' := w') ?_ ⟨rfl, rfl⟩
      rw [ec]
      clear ec
      show _ = Result.ok (Next.value (.int .i64 K)) _
      go_simp
  · rintro i oi x w' hi ht ho hbl hdep hcd
    obtain rfl | rfl | rfl | rfl | rfl | rfl | rfl | rfl | rfl | rfl | rfl : i = 0 ∨ i = 1 ∨ i = 2 ∨ i = 3 ∨ i = 4 ∨ i = 5 ∨ i = 6 ∨ i = 7 ∨ i = 8 ∨ i = 9 ∨ i = 10 := by have h : i < 11 := hi; omega
    · exact absurd ht (by decide)
    · obtain rfl := Option.some.inj ho
      have e0 : x 0 = .agg #[.slice pa0 S.now.length c0, .slice pa1 S.sure.length c1, .slice pa2 S.last.length c2, .slice pa3 S.slast.length c3, .slice pa4 S.floors.length c4] := (hdep _ (Array.mem_of_getElem? (i := 0) rfl) rfl).1 rfl
      refine wp_enter 9 #[.agg #[.slice pa0 S.now.length c0, .slice pa1 S.sure.length c1, .slice pa2 S.last.length c2, .slice pa3 S.slast.length c3, .slice pa4 S.floors.length c4]] ?_ ((toStore_any _ _ _ _ _ S w' (HH.out.keep (E_87.out.trans (hbl.mono E_87.out.size))) BD.out.le).mono fun e' wz ⟨t0, t1, t2, t3, t4, he, hM, hb⟩ => ⟨_, he, _, rfl, show CSt S _ wz from ⟨t0, t1, t2, t3, t4, rfl, hM.out.sto⟩, hb, fun c => absurd c (by decide)⟩)
      go_simp
    · exact absurd ht (by decide)
    · obtain rfl := Option.some.inj ho
      have e2 : x 2 = .agg #[.int .i64 q.who, .int .i64 q.ep, .int .i64 q.num, .int .i64 q.obj, .int .i64 q.pos, .string (mkB q.data)] := (hdep _ (Array.mem_of_getElem? (i := 0) rfl) rfl).1 rfl
      refine wp_enter 10 #[.agg #[.int .i64 q.who, .int .i64 q.ep, .int .i64 q.num, .int .i64 q.obj, .int .i64 q.pos, .string (mkB q.data)]] ?_ ((toReq_any q w').mono fun e' wz ⟨he, hb⟩ => ⟨_, he, _, rfl, show Value.agg (rqA q) = _ from rfl, hb, fun c => absurd c (by decide)⟩)
      go_simp
    · obtain rfl := Option.some.inj ho
      have c1 := hcd _ (Array.mem_of_getElem? (i := 0) rfl) rfl rfl
      have c3 := hcd _ (Array.mem_of_getElem? (i := 1) rfl) rfl rfl
      obtain ⟨t0, t1, t2, t3, t4, es, hst⟩ := (show CSt S (x 1) w' from c1)
      clear c1
      have eq : x 3 = .agg #[.int .i64 q.who, .int .i64 q.ep, .int .i64 q.num, .int .i64 q.obj, .int .i64 q.pos, .string (mkB q.data)] := c3
      clear c3
      refine wp_enter 11 #[.agg #[t0, t1, t2, t3, t4], .agg #[.int .i64 q.who, .int .i64 q.ep, .int .i64 q.num, .int .i64 q.obj, .int .i64 q.pos, .string (mkB q.data)]] ?_ ((implR a0 a1 a2 a3 _ _ _ _ _ S T q K HT.out HK.out w' (HS.out.keep (E_87.out.trans (hbl.mono E_87.out.size))) hst HZ.out HDL.out).mono fun e' wz ⟨u0, u1, u2, u3, u4, he, hM, hb⟩ => ⟨_, he, _, rfl, show CTk w80.heap.size T K _ wz from ⟨w'.heap.size, wz.heap.size, u0, u1, u2, u3, u4, rfl, hbl.size, Nat.le_refl _, hM⟩, hb, fun _ g hg => apt_of hM.out (.inl hg)⟩)
      go_simp
    · exact absurd ht (by decide)
    · exact absurd ht (by decide)
    · exact absurd ht (by decide)
    · exact absurd ht (by decide)
    · exact absurd ht (by decide)
    · exact absurd ht (by decide)
  · rintro oi x w' ho
    obtain rfl := Option.some.inj ho
    refine wp_value (v := .pointer (some ⟨w'.heap.size, 0, none⟩)) (w' := w'.alloc (.cells #[.slice none 0 0, .slice none 0 0, .slice none 0 0, .slice none 0 0, .slice none 0 0] 30)) ?_ ⟨rfl, rfl⟩
    go_simp
  · rintro oi x w' g ho hbl hxa hgl hgO hcc hap hdep
    obtain rfl := Option.some.inj ho
    have e6 : x 6 = (fun v => tupAt v 0) (x 4) := ((hdep _ (Array.mem_of_getElem? (i := 1) rfl) rfl).2 rfl).1
    obtain ⟨lo, hi, u0, u1, u2, u3, u4, ec, h1, h2, hM⟩ := hcc
    have ev : x 6 = .agg #[u0, u1, u2, u3, u4] := by rw [e6, ec]; rfl
    clear e6
    obtain ⟨r0, s0, rfl⟩ := hM.out.a.vls.form
    obtain ⟨r1, s1, rfl⟩ := hM.out.b.vls.form
    obtain ⟨r2, s2, rfl⟩ := hM.out.c.vls.form
    obtain ⟨r3, s3, rfl⟩ := hM.out.d.vls.form
    obtain ⟨r4, s4, rfl⟩ := hM.out.e.vls.form
    obtain ⟨Z, hZ⟩ : ∃ X, (((((w'.setCell ⟨g, 0, none⟩ (.slice r0 T.n5.a s0)).setCell ⟨g, 1, none⟩ (.slice r1 T.n5.b s1)).setCell ⟨g, 2, none⟩ (.slice r2 T.n5.c s2)).setCell ⟨g, 3, none⟩ (.slice r3 T.n5.d s3)).setCell ⟨g, 4, none⟩ (.slice r4 T.n5.e s4)) = X := ⟨_, rfl⟩
    refine wp_skip (w' := Z) ?_ ⟨rfl, by rw [hxa, ec]; rw [ec] at hap; exact rst_of hbl hgl hgO h1 h2 hM.out hap hZ⟩
    rw [← hZ]
    have y0 := row_cell hgO 0 _ rfl
    have y1 := row_cell hgO 1 _ rfl
    have y2 := row_cell hgO 2 _ rfl
    have y3 := row_cell hgO 3 _ rfl
    have y4 := row_cell hgO 4 _ rfl
    have z0 := row_free hgO 0
    have z1 := row_free hgO 1
    have z2 := row_free hgO 2
    have z3 := row_free hgO 3
    have z4 := row_free hgO 4
    clear hZ hgO hap hM ec
    go_simp
  rintro xs3 wr3 F hF hv hs hR
  subst hF
  obtain ⟨gh, logh, high, h0, h1, h2, h3, h4, hxa, hxc, hgl, hlo, hhi, hgs, hdj, hM, hB, hbl⟩ := hR
  have hk0 : xs3 10 = tupAt (xs3 4) 1 := hs 10 (by decide) rfl
  have hk : xs3 10 = .int .i64 K := by rw [hk0, hxc]; rfl
  clear hk0
  clear hv hs
  simp only [hxa, hk]
  clear hxa hxc hk
  obtain ⟨ph0, qh0, rfl⟩ := hM.out.a.vls.form
  obtain ⟨ph1, qh1, rfl⟩ := hM.out.b.vls.form
  obtain ⟨ph2, qh2, rfl⟩ := hM.out.c.vls.form
  obtain ⟨ph3, qh3, rfl⟩ := hM.out.d.vls.form
  obtain ⟨ph4, qh4, rfl⟩ := hM.out.e.vls.form
  have Ggh := Lib.hid hgl
  have Lgh := Lib.hid hlo
  have Dgh := Lib.hid hdj
  have Ugh := Lib.hid hhi
  have Ygh := Lib.hid hgs
  clear hgl hlo hdj hhi hgs
  have bA_88 := Lib.hid (bA_81.out.keep hbl)
  have bQ_89 := Lib.hid (bQ_82.out.keep hbl)
  have mw_90 := Lib.hid (mw_83.out.keep hbl)
  have bw_91 := Lib.hid (bw_84.out.keep hbl)
  have bg_92 := Lib.hid (bg_85.out.keep hbl)
  have mg_93 := Lib.hid (mg_86.out.keep hbl)
  have E_94 := Lib.hid (E_87.out.trans (hbl.mono E_87.out.size))
  have S_94 := Lib.hid hbl.size
  clear bA_81 bQ_82 mw_83 bw_84 bg_85 mg_86 E_87 hbl
  have mh_3 := hM
  have bh_3 := hB
  clear hM hB
  obtain ⟨x00, x01, x02, x03, x04, x05, x06, x07, x08, x09⟩ := bh_3.out
  obtain ⟨x10, x11, x12, x13, x14, x15, x16, x17, x18, x19⟩ := bw_91.out
  go_wp2_with fail
  refine (eqStore_same _ _ _ _ _ _ _ _ _ _ T _ mh_3.out.sto mw_90.out.sto).mono ?_; rintro e w95 ⟨rfl, hb⟩
  have bA_96 := Lib.hid (bA_88.out.keep hb)
  have bQ_97 := Lib.hid (bQ_89.out.keep hb)
  have mw_98 := Lib.hid (mw_90.out.keep hb)
  have bw_99 := Lib.hid (bw_91.out.keep hb)
  have bg_100 := Lib.hid (bg_92.out.keep hb)
  have mg_101 := Lib.hid (mg_93.out.keep hb)
  have mh_102 := Lib.hid (mh_3.out.keep hb)
  have bh_103 := Lib.hid (bh_3.out.keep hb)
  have E_104 := Lib.hid (E_94.out.trans (hb.mono E_94.out.size))
  have S_104 := Lib.hid hb.size
  clear x00 x01 x02 x03 x04 x05 x06 x07 x08 x09 x10 x11 x12 x13 x14 x15 x16 x17 x18 x19
  clear bA_88 bQ_89 mw_90 bw_91 bg_92 mg_93 mh_3 bh_3 E_94 hb
  obtain ⟨x00, x01, x02, x03, x04, x05, x06, x07, x08, x09⟩ := bg_100.out
  go_wp2_with fail
  refine (held1 _ _ _ _ _ _ _ T.n5 _ mg_101.out HTL.out).mono ?_; rintro e w105 ⟨rfl, hb⟩
  have bA_106 := Lib.hid (bA_96.out.keep hb)
  have bQ_107 := Lib.hid (bQ_97.out.keep hb)
  have mw_108 := Lib.hid (mw_98.out.keep hb)
  have bw_109 := Lib.hid (bw_99.out.keep hb)
  have bg_110 := Lib.hid (bg_100.out.keep hb)
  have mg_111 := Lib.hid (mg_101.out.keep hb)
  have mh_112 := Lib.hid (mh_102.out.keep hb)
  have bh_113 := Lib.hid (bh_103.out.keep hb)
  have E_114 := Lib.hid (E_104.out.trans (hb.mono E_104.out.size))
  have S_114 := Lib.hid hb.size
  clear x00 x01 x02 x03 x04 x05 x06 x07 x08 x09
  clear bA_96 bQ_97 mw_98 bw_99 bg_100 mg_101 mh_102 bh_103 E_104 hb
  go_wp2
  go_ret
  exact ⟨rfl, E_114.out⟩

end Go.Proofs.YtadoihddmbbjoaaDoor.exStoreDo
