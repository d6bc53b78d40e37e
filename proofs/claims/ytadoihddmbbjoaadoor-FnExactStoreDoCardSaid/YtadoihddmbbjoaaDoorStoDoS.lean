/-
  The model's l5Do: a request done in a store of one's own.
-/
import Derived.Test.YtadoihddmbbjoaaDoorStoReq
import Derived.Test.YtadoihddmbbjoaaDoorStoMark
import Derived.Test.YtadoihddmbbjoaaDoorSpecWrite
import Derived.Test.YtadoihddmbbjoaaDoorRegCore
namespace Go.Proofs.YtadoihddmbbjoaaDoor
open Go.RowKit

/-- What l5Do leaves. -/
def DoSt (w : World) (lo hi : Nat) (v0 v1 v2 v3 v4 : Value) (S : StT) (q : ReqT) (e : Ending) (w' : World) : Prop :=
  e = .returned (.tuple #[.agg #[v0, v1, v2, v3, v4], .int .i64 (doC S q)]) ∧ Hid (M5 w' lo hi v0 v1 v2 v3 v4 (doS S q).n5 (doS S q).f5) ∧ Btn lo hi w w'
theorem btn_far {lo hi l h' : Nat} {a b c : World} (h : Btn lo hi a b) (k : Btn l h' b c) (hl : a.heap.size ≤ l) : Btn lo hi a c :=
  ⟨k.os.trans h.os, k.tape.trans h.tape, k.output.trans h.output, Nat.le_trans h.size k.size, fun i hi' hn => (k.block i (Nat.lt_of_lt_of_le hi' h.size) (by omega)).trans (h.block i hi' hn)⟩
theorem doC_no {S : StT} {q : ReqT} (h : rqB q = false) : doC S q = 1 := by unfold doC; rw [if_neg (by rw [h]; simp)]
theorem doC_2 {S : StT} {q : ReqT} (h : rqB q = true) (h1 : q.ep < S.floors.getD q.who.toNat 0) : doC S q = 2 := by unfold doC; rw [if_pos h, if_pos h1]
theorem doC_3 {S : StT} {q : ReqT} (h : rqB q = true) (h1 : ¬ q.ep < S.floors.getD q.who.toNat 0) (h2 : q.num ≤ S.last.getD q.who.toNat 0) : doC S q = 3 := by unfold doC; rw [if_pos h, if_neg h1, if_pos h2]
theorem doC_4 {S : StT} {q : ReqT} (h : rqB q = true) (h1 : ¬ q.ep < S.floors.getD q.who.toNat 0) (h2 : ¬ q.num ≤ S.last.getD q.who.toNat 0) (h3 : S.last.getD q.who.toNat 0 + 1 < q.num) : doC S q = 4 := by unfold doC; rw [if_pos h, if_neg h1, if_neg h2, if_pos h3]
theorem doC_0 {S : StT} {q : ReqT} (h : rqB q = true) (h1 : ¬ q.ep < S.floors.getD q.who.toNat 0) (h2 : ¬ q.num ≤ S.last.getD q.who.toNat 0) (h3 : ¬ S.last.getD q.who.toNat 0 + 1 < q.num) : doC S q = 0 := by unfold doC; rw [if_pos h, if_neg h1, if_neg h2, if_neg h3]
theorem doS_no {S : StT} {q : ReqT} (h : doC S q ≠ 0) : doS S q = S := by unfold doS; rw [if_neg h]
theorem doS_yes {S : StT} {q : ReqT} (h : doC S q = 0) : doS S q = { S with now := S.now.set q.obj.toNat (wrL (S.now.getD q.obj.toNat []) q.pos.toNat q.data), last := S.last.set q.who.toNat q.num } := by unfold doS; rw [if_pos h]
theorem m5_seta {w w1 : World} {lo hi g n cap : Nat} {v1 v2 v3 v4 : Value} {N : N5} {F : F5} {f : Nat → Value} (h : M5 w lo hi (.slice (some ⟨g, 0, none⟩) n cap) v1 v2 v3 v4 N F) (ht : Btn g (g + 1) w w1) (hm : Mk1 w1 lo hi (.slice (some ⟨g, 0, none⟩) n cap) N.a f) :
    M5 w1 lo hi (.slice (some ⟨g, 0, none⟩) n cap) v1 v2 v3 v4 N { F with a := f } := by
  have off : ∀ u, Dis (.slice (some ⟨g, 0, none⟩) n cap) u → ∀ b, u.ownBlock = some b → b < w.heap.size → w1.heap[b]? = w.heap[b]? := fun u hd b hb hlt => ht.block b hlt (fun hh => by
    have e : b = g := by omega
    subst e
    exact hd b rfl hb)
  exact { h with b := h.b.same (off _ h.ab), c := h.c.same (off _ h.ac), d := h.d.same (off _ h.ad), e := h.e.same (off _ h.ae), a := hm }
theorem m5_setc {w w1 : World} {lo hi g n cap : Nat} {v0 v1 v3 v4 : Value} {N : N5} {F : F5} {f : Nat → Value} (h : M5 w lo hi v0 v1 (.slice (some ⟨g, 0, none⟩) n cap) v3 v4 N F) (ht : Btn g (g + 1) w w1) (hm : Mk1 w1 lo hi (.slice (some ⟨g, 0, none⟩) n cap) N.c f) :
    M5 w1 lo hi v0 v1 (.slice (some ⟨g, 0, none⟩) n cap) v3 v4 N { F with c := f } := by
  have off1 : ∀ u, Dis u (.slice (some ⟨g, 0, none⟩) n cap) → ∀ b, u.ownBlock = some b → b < w.heap.size → w1.heap[b]? = w.heap[b]? := fun u hd b hb hlt => ht.block b hlt (fun hh => by
    have e : b = g := by omega
    subst e
    exact hd b hb rfl)
  have off2 : ∀ u, Dis (.slice (some ⟨g, 0, none⟩) n cap) u → ∀ b, u.ownBlock = some b → b < w.heap.size → w1.heap[b]? = w.heap[b]? := fun u hd b hb hlt => ht.block b hlt (fun hh => by
    have e : b = g := by omega
    subst e
    exact hd b rfl hb)
  exact { h with a := h.a.same (off1 _ h.ac), b := h.b.same (off1 _ h.bc), d := h.d.same (off2 _ h.cd), e := h.e.same (off2 _ h.ce), c := hm }

set_option maxRecDepth 100000 in
set_option maxHeartbeats 8000000 in
theorem l5Do_no (v0 v1 v2 v3 v4 : Value) (S : StT) (who ep num obj pos : Int) (data : List UInt8) (lo hi : Nat) (w : World) (h : M5 w lo hi v0 v1 v2 v3 v4 S.n5 S.f5) (hhi : hi ≤ w.heap.size) (hs : stOkB S = true) (hd : data.length ≤ 9000000) (hq : rqB ⟨who, ep, num, obj, pos, data⟩ = false) :
    Calls Tryd.prog 24 #[.agg #[v0, v1, v2, v3, v4], .agg (rqA ⟨who, ep, num, obj, pos, data⟩)] w (DoSt w lo hi v0 v1 v2 v3 v4 S ⟨who, ep, num, obj, pos, data⟩) := by
  have hC : doC S ⟨who, ep, num, obj, pos, data⟩ = 1 := doC_no hq
  have hS : doS S ⟨who, ep, num, obj, pos, data⟩ = S := doS_no (by rw [hC]; decide)
  unfold DoSt
  rw [hC, hS]
  clear hC hS
  have ya : S.n5.a = 3 := (stOk_lens hs).1
  obtain ⟨g0, c0, rfl⟩ : ∃ g c, v0 = .slice (some ⟨g, 0, none⟩) 3 c := by
    obtain ⟨g, c, e, -, -⟩ := h.a.at (show 0 < S.n5.a by omega)
    exact ⟨g, c, by rw [e, ya]⟩
  have yc : S.n5.c = 3 := (stOk_lens hs).2.2.1
  obtain ⟨g2, c2, rfl⟩ : ∃ g c, v2 = .slice (some ⟨g, 0, none⟩) 3 c := by
    obtain ⟨g, c, e, -, -⟩ := h.c.at (show 0 < S.n5.c by omega)
    exact ⟨g, c, by rw [e, yc]⟩
  have ye : S.n5.e = 3 := (stOk_lens hs).2.2.2.2
  obtain ⟨g4, c4, rfl⟩ : ∃ g c, v4 = .slice (some ⟨g, 0, none⟩) 3 c := by
    obtain ⟨g, c, e, -, -⟩ := h.e.at (show 0 < S.n5.e by omega)
    exact ⟨g, c, by rw [e, ye]⟩
  obtain ⟨b1, e1, rfl⟩ := h.b.vls.form
  obtain ⟨b3, e3, rfl⟩ := h.d.vls.form
  obtain ⟨W, hW⟩ : ∃ W, ((w.alloc (.cells #[.slice (some ⟨g0, 0, none⟩) 3 c0, .slice b1 S.n5.b e1, .slice (some ⟨g2, 0, none⟩) 3 c2, .slice b3 S.n5.d e3, .slice (some ⟨g4, 0, none⟩) 3 c4] 30)).alloc (.cells (rqA ⟨who, ep, num, obj, pos, data⟩) 34)).alloc (.cells #[.slice none 0 0, .slice none 0 0, .slice none 0 0, .slice none 0 0, .slice none 0 0] 30) = W := ⟨_, rfl⟩
  have hal : Below w.heap.size w W := by rw [← hW]; exact (((Below.refl _ _).alloc (Nat.le_refl _) _).alloc (by simp) _).alloc (by simp; omega) _
  have A0 : Box5 W w.heap.size (.slice (some ⟨g0, 0, none⟩) 3 c0) (.slice b1 S.n5.b e1) (.slice (some ⟨g2, 0, none⟩) 3 c2) (.slice b3 S.n5.d e3) (.slice (some ⟨g4, 0, none⟩) 3 c4) := by rw [← hW]; exact ((new_box5 w _ _ _ _ _ _).keep ((Below.refl _ _).alloc (Nat.le_refl _) _)).keep ((Below.refl _ _).alloc (Nat.le_refl _) _)
  have B0 : Box6 W (w.heap.size + 1) ⟨who, ep, num, obj, pos, data⟩ := by
    rw [← hW]
    have := (new_box6 (w.alloc (.cells #[.slice (some ⟨g0, 0, none⟩) 3 c0, .slice b1 S.n5.b e1, .slice (some ⟨g2, 0, none⟩) 3 c2, .slice b3 S.n5.d e3, .slice (some ⟨g4, 0, none⟩) 3 c4] 30)) ⟨who, ep, num, obj, pos, data⟩ 34).keep ((Below.refl _ _).alloc (Nat.le_refl _) (.cells #[.slice none 0 0, .slice none 0 0, .slice none 0 0, .slice none 0 0, .slice none 0 0] 30))
    simpa using this
  have R0 : Box5W W (w.heap.size + 2) (.slice none 0 0) (.slice none 0 0) (.slice none 0 0) (.slice none 0 0) (.slice none 0 0) := by
    rw [← hW]
    have := new_box5W ((w.alloc (.cells #[.slice (some ⟨g0, 0, none⟩) 3 c0, .slice b1 S.n5.b e1, .slice (some ⟨g2, 0, none⟩) 3 c2, .slice b3 S.n5.d e3, .slice (some ⟨g4, 0, none⟩) 3 c4] 30)).alloc (.cells (rqA ⟨who, ep, num, obj, pos, data⟩) 34)) (.slice none 0 0) (.slice none 0 0) (.slice none 0 0) (.slice none 0 0) (.slice none 0 0) 30
    simpa using this
  have hl : w.heap.size + 2 < W.heap.size := by rw [← hW]; simp
  have M0 : M5 W lo hi (.slice (some ⟨g0, 0, none⟩) 3 c0) (.slice b1 S.n5.b e1) (.slice (some ⟨g2, 0, none⟩) 3 c2) (.slice b3 S.n5.d e3) (.slice (some ⟨g4, 0, none⟩) 3 c4) S.n5 S.f5 := h.keep hal
  have E_0 := Lib.hid hal
  have S_0 := Lib.hid hl
  have bA_0 := Lib.hid A0
  have bQ_0 := Lib.hid B0
  have bR_0 := Lib.hid R0
  have m_0 := Lib.hid M0
  have HHI := Lib.hid hhi
  clear hal A0 B0 R0 hl M0 h hhi 
  have KQ := l5Req_any ⟨who, ep, num, obj, pos, data⟩ hd W
  rw [hq] at KQ
  have KQ := Lib.hid KQ
  obtain ⟨x00, x01, x02, x03, x04, x05⟩ := bQ_0.out
  go_enter Tryd.func24, Tryd.ntmps24
  go_wp2_with fail
  clear hW
  refine KQ.out.mono ?_; rintro e w1 ⟨rfl, hb⟩
  have bA_1 := Lib.hid (bA_0.out.keep hb)
  have bQ_2 := Lib.hid (bQ_0.out.keep hb)
  have bR_3 := Lib.hid (bR_0.out.keep hb)
  have m_4 := Lib.hid (m_0.out.keep hb)
  have E_5 := Lib.hid (E_0.out.trans (hb.mono E_0.out.size))
  have S_5 := Lib.hid hb.size
  clear x00 x01 x02 x03 x04 x05
  clear bA_0 bQ_0 bR_0 m_0 E_0 hb
  clear KQ
  clear hq
  obtain ⟨x00, x01, x02, x03, x04⟩ := bA_1.out
  obtain ⟨x10, x11, x12, x13, x14, x15, x16, x17, x18, x19⟩ := bR_3.out
  obtain ⟨Z6, hZ6⟩ : ∃ X, (((((w1.setCell ⟨w.heap.size + 2, 0, none⟩ (.slice (some ⟨g0, 0, none⟩) 3 c0)).setCell ⟨w.heap.size + 2, 1, none⟩ (.slice b1 S.n5.b e1)).setCell ⟨w.heap.size + 2, 2, none⟩ (.slice (some ⟨g2, 0, none⟩) 3 c2)).setCell ⟨w.heap.size + 2, 3, none⟩ (.slice b3 S.n5.d e3)).setCell ⟨w.heap.size + 2, 4, none⟩ (.slice (some ⟨g4, 0, none⟩) 3 c4)) = X := ⟨_, rfl⟩
  have hz : Box5W Z6 (w.heap.size + 2) (.slice (some ⟨g0, 0, none⟩) 3 c0) (.slice b1 S.n5.b e1) (.slice (some ⟨g2, 0, none⟩) 3 c2) (.slice b3 S.n5.d e3) (.slice (some ⟨g4, 0, none⟩) 3 c4) := by rw [← hZ6]; exact ((((bR_3.out.set0 _).set1 _).set2 _).set3 _).set4 _
  have ht : Btn (w.heap.size + 2) (w.heap.size + 2 + 1) w1 Z6 := by rw [← hZ6]; exact ((((btn_set _ _ _ _).trans (btn_set _ _ _ _)).trans (btn_set _ _ _ _)).trans (btn_set _ _ _ _)).trans (btn_set _ _ _ _)
  have q0 := S_0.out
  have q1 := S_5.out
  have hhi := HHI.out
  have HZ : Hid (Btn lo hi w Z6) := Btn.of_below (E_5.out.trans (ht.below (by omega) E_5.out.size))
  have HM : Hid (M5 Z6 lo hi (.slice (some ⟨g0, 0, none⟩) 3 c0) (.slice b1 S.n5.b e1) (.slice (some ⟨g2, 0, none⟩) 3 c2) (.slice b3 S.n5.d e3) (.slice (some ⟨g4, 0, none⟩) 3 c4) (S).n5 (S).f5) := m_4.out.btn ht (.inl (by omega))
  clear q0 q1 ht hhi
  go_wp2
  obtain ⟨t0, t1, t2, t3, t4, -, -, -, -, -⟩ := hz
  exact bodyPost_ret (v := .tuple #[.agg #[.slice (some ⟨g0, 0, none⟩) 3 c0, .slice b1 S.n5.b e1, .slice (some ⟨g2, 0, none⟩) 3 c2, .slice b3 S.n5.d e3, .slice (some ⟨g4, 0, none⟩) 3 c4], .int .i64 1]) (by simp [results, Tryd.results24, go_sem, t0, t1, t2, t3, t4]) rfl ⟨rfl, HM, HZ.out⟩

set_option maxRecDepth 100000 in
set_option maxHeartbeats 8000000 in
theorem l5Do_2 (v0 v1 v2 v3 v4 : Value) (S : StT) (who ep num obj pos : Int) (data : List UInt8) (lo hi : Nat) (w : World) (h : M5 w lo hi v0 v1 v2 v3 v4 S.n5 S.f5) (hhi : hi ≤ w.heap.size) (hs : stOkB S = true) (hd : data.length ≤ 9000000) (hq : rqB ⟨who, ep, num, obj, pos, data⟩ = true) (h1 : ep < S.floors.getD who.toNat 0) :
    Calls Tryd.prog 24 #[.agg #[v0, v1, v2, v3, v4], .agg (rqA ⟨who, ep, num, obj, pos, data⟩)] w (DoSt w lo hi v0 v1 v2 v3 v4 S ⟨who, ep, num, obj, pos, data⟩) := by
  obtain ⟨⟨a1, a2⟩, ⟨p1, p2⟩, ⟨m1, m2⟩, ⟨o1, o2⟩, hwk⟩ := rqB_iff.1 hq
  obtain ⟨w0, wne, wtd, w48⟩ := wokB_iff.1 hwk
  dsimp only at a1 a2 p1 p2 m1 m2 o1 o2 w0 wne wtd w48
  obtain ⟨k, rfl⟩ : ∃ k : Nat, who = k := ⟨who.toNat, by omega⟩
  obtain ⟨o, rfl⟩ : ∃ k : Nat, obj = k := ⟨obj.toNat, by omega⟩
  obtain ⟨p, rfl⟩ : ∃ k : Nat, pos = k := ⟨pos.toNat, by omega⟩
  have hnm := (nmB_iff.1 (stOk_iff.1 hs).2.2).2 k (by omega)
  obtain ⟨hn1, hn2, hn3, hn4, hn5⟩ := numB_iff.1 hnm
  have hC : doC S ⟨k, ep, num, o, p, data⟩ = 2 := doC_2 hq h1
  have hS : doS S ⟨k, ep, num, o, p, data⟩ = S := doS_no (by rw [hC]; decide)
  unfold DoSt
  rw [hC, hS]
  clear hC hS
  obtain ⟨Fk, hFk⟩ : ∃ F, S.floors.getD k 0 = F := ⟨_, rfl⟩
  obtain ⟨Lk, hLk⟩ : ∃ F, S.last.getD k 0 = F := ⟨_, rfl⟩
  have HFk := Lib.hid hFk
  have HLk := Lib.hid hLk
  rw [Int.toNat_natCast] at h1
  rw [hFk] at hn4 hn5 h1
  rw [hLk] at hn2 hn3
  have k3 : k < 3 := by omega
  have i0 : (0 : Int) ≤ (k : Int) := by omega
  have i1 : (k : Int) < 3 := by omega
  have jw : IntKind.i64.wrap (Lk + 1) = Lk + 1 := IntWalk.i64_in _ (by omega)
  have d1 : decide (ep < Fk) = true := by simp; omega
  clear hFk hLk hnm hwk
  have ya : S.n5.a = 3 := (stOk_lens hs).1
  obtain ⟨g0, c0, rfl⟩ : ∃ g c, v0 = .slice (some ⟨g, 0, none⟩) 3 c := by
    obtain ⟨g, c, e, -, -⟩ := h.a.at (show 0 < S.n5.a by omega)
    exact ⟨g, c, by rw [e, ya]⟩
  have yc : S.n5.c = 3 := (stOk_lens hs).2.2.1
  obtain ⟨g2, c2, rfl⟩ : ∃ g c, v2 = .slice (some ⟨g, 0, none⟩) 3 c := by
    obtain ⟨g, c, e, -, -⟩ := h.c.at (show 0 < S.n5.c by omega)
    exact ⟨g, c, by rw [e, yc]⟩
  have ye : S.n5.e = 3 := (stOk_lens hs).2.2.2.2
  obtain ⟨g4, c4, rfl⟩ : ∃ g c, v4 = .slice (some ⟨g, 0, none⟩) 3 c := by
    obtain ⟨g, c, e, -, -⟩ := h.e.at (show 0 < S.n5.e by omega)
    exact ⟨g, c, by rw [e, ye]⟩
  obtain ⟨b1, e1, rfl⟩ := h.b.vls.form
  obtain ⟨b3, e3, rfl⟩ := h.d.vls.form
  obtain ⟨W, hW⟩ : ∃ W, ((w.alloc (.cells #[.slice (some ⟨g0, 0, none⟩) 3 c0, .slice b1 S.n5.b e1, .slice (some ⟨g2, 0, none⟩) 3 c2, .slice b3 S.n5.d e3, .slice (some ⟨g4, 0, none⟩) 3 c4] 30)).alloc (.cells (rqA ⟨k, ep, num, o, p, data⟩) 34)).alloc (.cells #[.slice none 0 0, .slice none 0 0, .slice none 0 0, .slice none 0 0, .slice none 0 0] 30) = W := ⟨_, rfl⟩
  have hal : Below w.heap.size w W := by rw [← hW]; exact (((Below.refl _ _).alloc (Nat.le_refl _) _).alloc (by simp) _).alloc (by simp; omega) _
  have A0 : Box5 W w.heap.size (.slice (some ⟨g0, 0, none⟩) 3 c0) (.slice b1 S.n5.b e1) (.slice (some ⟨g2, 0, none⟩) 3 c2) (.slice b3 S.n5.d e3) (.slice (some ⟨g4, 0, none⟩) 3 c4) := by rw [← hW]; exact ((new_box5 w _ _ _ _ _ _).keep ((Below.refl _ _).alloc (Nat.le_refl _) _)).keep ((Below.refl _ _).alloc (Nat.le_refl _) _)
  have B0 : Box6 W (w.heap.size + 1) ⟨k, ep, num, o, p, data⟩ := by
    rw [← hW]
    have := (new_box6 (w.alloc (.cells #[.slice (some ⟨g0, 0, none⟩) 3 c0, .slice b1 S.n5.b e1, .slice (some ⟨g2, 0, none⟩) 3 c2, .slice b3 S.n5.d e3, .slice (some ⟨g4, 0, none⟩) 3 c4] 30)) ⟨k, ep, num, o, p, data⟩ 34).keep ((Below.refl _ _).alloc (Nat.le_refl _) (.cells #[.slice none 0 0, .slice none 0 0, .slice none 0 0, .slice none 0 0, .slice none 0 0] 30))
    simpa using this
  have R0 : Box5W W (w.heap.size + 2) (.slice none 0 0) (.slice none 0 0) (.slice none 0 0) (.slice none 0 0) (.slice none 0 0) := by
    rw [← hW]
    have := new_box5W ((w.alloc (.cells #[.slice (some ⟨g0, 0, none⟩) 3 c0, .slice b1 S.n5.b e1, .slice (some ⟨g2, 0, none⟩) 3 c2, .slice b3 S.n5.d e3, .slice (some ⟨g4, 0, none⟩) 3 c4] 30)).alloc (.cells (rqA ⟨k, ep, num, o, p, data⟩) 34)) (.slice none 0 0) (.slice none 0 0) (.slice none 0 0) (.slice none 0 0) (.slice none 0 0) 30
    simpa using this
  have hl : w.heap.size + 2 < W.heap.size := by rw [← hW]; simp
  have M0 : M5 W lo hi (.slice (some ⟨g0, 0, none⟩) 3 c0) (.slice b1 S.n5.b e1) (.slice (some ⟨g2, 0, none⟩) 3 c2) (.slice b3 S.n5.d e3) (.slice (some ⟨g4, 0, none⟩) 3 c4) S.n5 S.f5 := h.keep hal
  have E_0 := Lib.hid hal
  have S_0 := Lib.hid hl
  have bA_0 := Lib.hid A0
  have bQ_0 := Lib.hid B0
  have bR_0 := Lib.hid R0
  have m_0 := Lib.hid M0
  have HHI := Lib.hid hhi
  clear hal A0 B0 R0 hl M0 h hhi 
  have KQ := l5Req_any ⟨k, ep, num, o, p, data⟩ hd W
  rw [hq] at KQ
  have KQ := Lib.hid KQ
  obtain ⟨x00, x01, x02, x03, x04, x05⟩ := bQ_0.out
  go_enter Tryd.func24, Tryd.ntmps24
  go_wp2_with fail
  clear hW
  refine KQ.out.mono ?_; rintro e w1 ⟨rfl, hb⟩
  have bA_1 := Lib.hid (bA_0.out.keep hb)
  have bQ_2 := Lib.hid (bQ_0.out.keep hb)
  have bR_3 := Lib.hid (bR_0.out.keep hb)
  have m_4 := Lib.hid (m_0.out.keep hb)
  have E_5 := Lib.hid (E_0.out.trans (hb.mono E_0.out.size))
  have S_5 := Lib.hid hb.size
  clear x00 x01 x02 x03 x04 x05
  clear bA_0 bQ_0 bR_0 m_0 E_0 hb
  clear KQ
  clear hq
  obtain ⟨x00, x01, x02, x03, x04⟩ := bA_1.out
  obtain ⟨x10, x11, x12, x13, x14, x15⟩ := bQ_2.out
  have yfr : Row1 w1 g4 3 (intF S.floors) := by
    obtain ⟨g', c', q', hr, -⟩ := m_4.out.e.at (show 0 < S.n5.e by rw [ye]; omega)
    injection q' with q1
    injection q1 with q2
    injection q2 with q3
    rw [ye] at hr
    rw [q3]; exact hr
  have yf : w1.cell? ⟨g4, k, none⟩ = some (.int .i64 Fk) := (yfr k (by omega)).1.trans (by rw [← HFk.out])
  clear yfr
  go_wp2_with fail
  go_quiet (fail)
  rename_i nq
  have hb : Below w1.heap.size w1 (w1.drewN nq) := ⟨rfl, rfl, rfl, Nat.le_refl _, fun _ _ => rfl⟩
  obtain ⟨wq6, hwq⟩ : ∃ X, w1.drewN nq = X := ⟨_, rfl⟩
  rw [hwq] at hb ⊢
  clear hwq yf
  have bA_7 := Lib.hid (bA_1.out.keep hb)
  have bQ_8 := Lib.hid (bQ_2.out.keep hb)
  have bR_9 := Lib.hid (bR_3.out.keep hb)
  have m_10 := Lib.hid (m_4.out.keep hb)
  have E_11 := Lib.hid (E_5.out.trans (hb.mono E_5.out.size))
  have S_11 := Lib.hid hb.size
  clear x00 x01 x02 x03 x04 x10 x11 x12 x13 x14 x15
  clear bA_1 bQ_2 bR_3 m_4 E_5 hb
  obtain ⟨x00, x01, x02, x03, x04⟩ := bA_7.out
  obtain ⟨x10, x11, x12, x13, x14, x15, x16, x17, x18, x19⟩ := bR_9.out
  obtain ⟨Z12, hZ12⟩ : ∃ X, (((((wq6.setCell ⟨w.heap.size + 2, 0, none⟩ (.slice (some ⟨g0, 0, none⟩) 3 c0)).setCell ⟨w.heap.size + 2, 1, none⟩ (.slice b1 S.n5.b e1)).setCell ⟨w.heap.size + 2, 2, none⟩ (.slice (some ⟨g2, 0, none⟩) 3 c2)).setCell ⟨w.heap.size + 2, 3, none⟩ (.slice b3 S.n5.d e3)).setCell ⟨w.heap.size + 2, 4, none⟩ (.slice (some ⟨g4, 0, none⟩) 3 c4)) = X := ⟨_, rfl⟩
  have hz : Box5W Z12 (w.heap.size + 2) (.slice (some ⟨g0, 0, none⟩) 3 c0) (.slice b1 S.n5.b e1) (.slice (some ⟨g2, 0, none⟩) 3 c2) (.slice b3 S.n5.d e3) (.slice (some ⟨g4, 0, none⟩) 3 c4) := by rw [← hZ12]; exact ((((bR_9.out.set0 _).set1 _).set2 _).set3 _).set4 _
  have ht : Btn (w.heap.size + 2) (w.heap.size + 2 + 1) wq6 Z12 := by rw [← hZ12]; exact ((((btn_set _ _ _ _).trans (btn_set _ _ _ _)).trans (btn_set _ _ _ _)).trans (btn_set _ _ _ _)).trans (btn_set _ _ _ _)
  have q0 := S_0.out
  have q1 := S_5.out
  have q2 := S_11.out
  have hhi := HHI.out
  have HZ : Hid (Btn lo hi w Z12) := Btn.of_below (E_11.out.trans (ht.below (by omega) E_11.out.size))
  have HM : Hid (M5 Z12 lo hi (.slice (some ⟨g0, 0, none⟩) 3 c0) (.slice b1 S.n5.b e1) (.slice (some ⟨g2, 0, none⟩) 3 c2) (.slice b3 S.n5.d e3) (.slice (some ⟨g4, 0, none⟩) 3 c4) (S).n5 (S).f5) := m_10.out.btn ht (.inl (by omega))
  clear q0 q1 q2 ht hhi
  go_wp2
  obtain ⟨t0, t1, t2, t3, t4, -, -, -, -, -⟩ := hz
  exact bodyPost_ret (v := .tuple #[.agg #[.slice (some ⟨g0, 0, none⟩) 3 c0, .slice b1 S.n5.b e1, .slice (some ⟨g2, 0, none⟩) 3 c2, .slice b3 S.n5.d e3, .slice (some ⟨g4, 0, none⟩) 3 c4], .int .i64 2]) (by simp [results, Tryd.results24, go_sem, t0, t1, t2, t3, t4]) rfl ⟨rfl, HM, HZ.out⟩

set_option maxRecDepth 100000 in
set_option maxHeartbeats 8000000 in
theorem l5Do_3 (v0 v1 v2 v3 v4 : Value) (S : StT) (who ep num obj pos : Int) (data : List UInt8) (lo hi : Nat) (w : World) (h : M5 w lo hi v0 v1 v2 v3 v4 S.n5 S.f5) (hhi : hi ≤ w.heap.size) (hs : stOkB S = true) (hd : data.length ≤ 9000000) (hq : rqB ⟨who, ep, num, obj, pos, data⟩ = true) (h1 : ¬ ep < S.floors.getD who.toNat 0) (h2 : num ≤ S.last.getD who.toNat 0) :
    Calls Tryd.prog 24 #[.agg #[v0, v1, v2, v3, v4], .agg (rqA ⟨who, ep, num, obj, pos, data⟩)] w (DoSt w lo hi v0 v1 v2 v3 v4 S ⟨who, ep, num, obj, pos, data⟩) := by
  obtain ⟨⟨a1, a2⟩, ⟨p1, p2⟩, ⟨m1, m2⟩, ⟨o1, o2⟩, hwk⟩ := rqB_iff.1 hq
  obtain ⟨w0, wne, wtd, w48⟩ := wokB_iff.1 hwk
  dsimp only at a1 a2 p1 p2 m1 m2 o1 o2 w0 wne wtd w48
  obtain ⟨k, rfl⟩ : ∃ k : Nat, who = k := ⟨who.toNat, by omega⟩
  obtain ⟨o, rfl⟩ : ∃ k : Nat, obj = k := ⟨obj.toNat, by omega⟩
  obtain ⟨p, rfl⟩ : ∃ k : Nat, pos = k := ⟨pos.toNat, by omega⟩
  have hnm := (nmB_iff.1 (stOk_iff.1 hs).2.2).2 k (by omega)
  obtain ⟨hn1, hn2, hn3, hn4, hn5⟩ := numB_iff.1 hnm
  have hC : doC S ⟨k, ep, num, o, p, data⟩ = 3 := doC_3 hq h1 h2
  have hS : doS S ⟨k, ep, num, o, p, data⟩ = S := doS_no (by rw [hC]; decide)
  unfold DoSt
  rw [hC, hS]
  clear hC hS
  obtain ⟨Fk, hFk⟩ : ∃ F, S.floors.getD k 0 = F := ⟨_, rfl⟩
  obtain ⟨Lk, hLk⟩ : ∃ F, S.last.getD k 0 = F := ⟨_, rfl⟩
  have HFk := Lib.hid hFk
  have HLk := Lib.hid hLk
  rw [Int.toNat_natCast] at h1
  rw [Int.toNat_natCast] at h2
  rw [hFk] at hn4 hn5 h1
  rw [hLk] at hn2 hn3 h2
  have k3 : k < 3 := by omega
  have i0 : (0 : Int) ≤ (k : Int) := by omega
  have i1 : (k : Int) < 3 := by omega
  have jw : IntKind.i64.wrap (Lk + 1) = Lk + 1 := IntWalk.i64_in _ (by omega)
  have d1 : decide (ep < Fk) = false := by simp; omega
  have d2 : decide (num ≤ Lk) = true := by simp; omega
  clear hFk hLk hnm hwk
  have ya : S.n5.a = 3 := (stOk_lens hs).1
  obtain ⟨g0, c0, rfl⟩ : ∃ g c, v0 = .slice (some ⟨g, 0, none⟩) 3 c := by
    obtain ⟨g, c, e, -, -⟩ := h.a.at (show 0 < S.n5.a by omega)
    exact ⟨g, c, by rw [e, ya]⟩
  have yc : S.n5.c = 3 := (stOk_lens hs).2.2.1
  obtain ⟨g2, c2, rfl⟩ : ∃ g c, v2 = .slice (some ⟨g, 0, none⟩) 3 c := by
    obtain ⟨g, c, e, -, -⟩ := h.c.at (show 0 < S.n5.c by omega)
    exact ⟨g, c, by rw [e, yc]⟩
  have ye : S.n5.e = 3 := (stOk_lens hs).2.2.2.2
  obtain ⟨g4, c4, rfl⟩ : ∃ g c, v4 = .slice (some ⟨g, 0, none⟩) 3 c := by
    obtain ⟨g, c, e, -, -⟩ := h.e.at (show 0 < S.n5.e by omega)
    exact ⟨g, c, by rw [e, ye]⟩
  obtain ⟨b1, e1, rfl⟩ := h.b.vls.form
  obtain ⟨b3, e3, rfl⟩ := h.d.vls.form
  obtain ⟨W, hW⟩ : ∃ W, ((w.alloc (.cells #[.slice (some ⟨g0, 0, none⟩) 3 c0, .slice b1 S.n5.b e1, .slice (some ⟨g2, 0, none⟩) 3 c2, .slice b3 S.n5.d e3, .slice (some ⟨g4, 0, none⟩) 3 c4] 30)).alloc (.cells (rqA ⟨k, ep, num, o, p, data⟩) 34)).alloc (.cells #[.slice none 0 0, .slice none 0 0, .slice none 0 0, .slice none 0 0, .slice none 0 0] 30) = W := ⟨_, rfl⟩
  have hal : Below w.heap.size w W := by rw [← hW]; exact (((Below.refl _ _).alloc (Nat.le_refl _) _).alloc (by simp) _).alloc (by simp; omega) _
  have A0 : Box5 W w.heap.size (.slice (some ⟨g0, 0, none⟩) 3 c0) (.slice b1 S.n5.b e1) (.slice (some ⟨g2, 0, none⟩) 3 c2) (.slice b3 S.n5.d e3) (.slice (some ⟨g4, 0, none⟩) 3 c4) := by rw [← hW]; exact ((new_box5 w _ _ _ _ _ _).keep ((Below.refl _ _).alloc (Nat.le_refl _) _)).keep ((Below.refl _ _).alloc (Nat.le_refl _) _)
  have B0 : Box6 W (w.heap.size + 1) ⟨k, ep, num, o, p, data⟩ := by
    rw [← hW]
    have := (new_box6 (w.alloc (.cells #[.slice (some ⟨g0, 0, none⟩) 3 c0, .slice b1 S.n5.b e1, .slice (some ⟨g2, 0, none⟩) 3 c2, .slice b3 S.n5.d e3, .slice (some ⟨g4, 0, none⟩) 3 c4] 30)) ⟨k, ep, num, o, p, data⟩ 34).keep ((Below.refl _ _).alloc (Nat.le_refl _) (.cells #[.slice none 0 0, .slice none 0 0, .slice none 0 0, .slice none 0 0, .slice none 0 0] 30))
    simpa using this
  have R0 : Box5W W (w.heap.size + 2) (.slice none 0 0) (.slice none 0 0) (.slice none 0 0) (.slice none 0 0) (.slice none 0 0) := by
    rw [← hW]
    have := new_box5W ((w.alloc (.cells #[.slice (some ⟨g0, 0, none⟩) 3 c0, .slice b1 S.n5.b e1, .slice (some ⟨g2, 0, none⟩) 3 c2, .slice b3 S.n5.d e3, .slice (some ⟨g4, 0, none⟩) 3 c4] 30)).alloc (.cells (rqA ⟨k, ep, num, o, p, data⟩) 34)) (.slice none 0 0) (.slice none 0 0) (.slice none 0 0) (.slice none 0 0) (.slice none 0 0) 30
    simpa using this
  have hl : w.heap.size + 2 < W.heap.size := by rw [← hW]; simp
  have M0 : M5 W lo hi (.slice (some ⟨g0, 0, none⟩) 3 c0) (.slice b1 S.n5.b e1) (.slice (some ⟨g2, 0, none⟩) 3 c2) (.slice b3 S.n5.d e3) (.slice (some ⟨g4, 0, none⟩) 3 c4) S.n5 S.f5 := h.keep hal
  have E_0 := Lib.hid hal
  have S_0 := Lib.hid hl
  have bA_0 := Lib.hid A0
  have bQ_0 := Lib.hid B0
  have bR_0 := Lib.hid R0
  have m_0 := Lib.hid M0
  have HHI := Lib.hid hhi
  clear hal A0 B0 R0 hl M0 h hhi 
  have KQ := l5Req_any ⟨k, ep, num, o, p, data⟩ hd W
  rw [hq] at KQ
  have KQ := Lib.hid KQ
  obtain ⟨x00, x01, x02, x03, x04, x05⟩ := bQ_0.out
  go_enter Tryd.func24, Tryd.ntmps24
  go_wp2_with fail
  clear hW
  refine KQ.out.mono ?_; rintro e w1 ⟨rfl, hb⟩
  have bA_1 := Lib.hid (bA_0.out.keep hb)
  have bQ_2 := Lib.hid (bQ_0.out.keep hb)
  have bR_3 := Lib.hid (bR_0.out.keep hb)
  have m_4 := Lib.hid (m_0.out.keep hb)
  have E_5 := Lib.hid (E_0.out.trans (hb.mono E_0.out.size))
  have S_5 := Lib.hid hb.size
  clear x00 x01 x02 x03 x04 x05
  clear bA_0 bQ_0 bR_0 m_0 E_0 hb
  clear KQ
  clear hq
  obtain ⟨x00, x01, x02, x03, x04⟩ := bA_1.out
  obtain ⟨x10, x11, x12, x13, x14, x15⟩ := bQ_2.out
  have yfr : Row1 w1 g4 3 (intF S.floors) := by
    obtain ⟨g', c', q', hr, -⟩ := m_4.out.e.at (show 0 < S.n5.e by rw [ye]; omega)
    injection q' with q1
    injection q1 with q2
    injection q2 with q3
    rw [ye] at hr
    rw [q3]; exact hr
  have yf : w1.cell? ⟨g4, k, none⟩ = some (.int .i64 Fk) := (yfr k (by omega)).1.trans (by rw [← HFk.out])
  clear yfr
  go_wp2_with fail
  go_quiet (fail)
  rename_i nq
  have hb : Below w1.heap.size w1 (w1.drewN nq) := ⟨rfl, rfl, rfl, Nat.le_refl _, fun _ _ => rfl⟩
  obtain ⟨wq6, hwq⟩ : ∃ X, w1.drewN nq = X := ⟨_, rfl⟩
  rw [hwq] at hb ⊢
  clear hwq yf
  have bA_7 := Lib.hid (bA_1.out.keep hb)
  have bQ_8 := Lib.hid (bQ_2.out.keep hb)
  have bR_9 := Lib.hid (bR_3.out.keep hb)
  have m_10 := Lib.hid (m_4.out.keep hb)
  have E_11 := Lib.hid (E_5.out.trans (hb.mono E_5.out.size))
  have S_11 := Lib.hid hb.size
  clear x00 x01 x02 x03 x04 x10 x11 x12 x13 x14 x15
  clear bA_1 bQ_2 bR_3 m_4 E_5 hb
  obtain ⟨x00, x01, x02, x03, x04⟩ := bA_7.out
  obtain ⟨x10, x11, x12, x13, x14, x15⟩ := bQ_8.out
  have ylr : Row1 wq6 g2 3 (intF S.last) := by
    obtain ⟨g', c', q', hr, -⟩ := m_10.out.c.at (show 0 < S.n5.c by rw [yc]; omega)
    injection q' with q1
    injection q1 with q2
    injection q2 with q3
    rw [yc] at hr
    rw [q3]; exact hr
  have yl : wq6.cell? ⟨g2, k, none⟩ = some (.int .i64 Lk) := (ylr k (by omega)).1.trans (by rw [← HLk.out])
  clear ylr
  go_wp2_with fail
  go_quiet (fail)
  rename_i nq
  have hb : Below wq6.heap.size wq6 (wq6.drewN nq) := ⟨rfl, rfl, rfl, Nat.le_refl _, fun _ _ => rfl⟩
  obtain ⟨wq12, hwq⟩ : ∃ X, wq6.drewN nq = X := ⟨_, rfl⟩
  rw [hwq] at hb ⊢
  clear hwq yl
  have bA_13 := Lib.hid (bA_7.out.keep hb)
  have bQ_14 := Lib.hid (bQ_8.out.keep hb)
  have bR_15 := Lib.hid (bR_9.out.keep hb)
  have m_16 := Lib.hid (m_10.out.keep hb)
  have E_17 := Lib.hid (E_11.out.trans (hb.mono E_11.out.size))
  have S_17 := Lib.hid hb.size
  clear x00 x01 x02 x03 x04 x10 x11 x12 x13 x14 x15
  clear bA_7 bQ_8 bR_9 m_10 E_11 hb
  obtain ⟨x00, x01, x02, x03, x04⟩ := bA_13.out
  obtain ⟨x10, x11, x12, x13, x14, x15, x16, x17, x18, x19⟩ := bR_15.out
  obtain ⟨Z18, hZ18⟩ : ∃ X, (((((wq12.setCell ⟨w.heap.size + 2, 0, none⟩ (.slice (some ⟨g0, 0, none⟩) 3 c0)).setCell ⟨w.heap.size + 2, 1, none⟩ (.slice b1 S.n5.b e1)).setCell ⟨w.heap.size + 2, 2, none⟩ (.slice (some ⟨g2, 0, none⟩) 3 c2)).setCell ⟨w.heap.size + 2, 3, none⟩ (.slice b3 S.n5.d e3)).setCell ⟨w.heap.size + 2, 4, none⟩ (.slice (some ⟨g4, 0, none⟩) 3 c4)) = X := ⟨_, rfl⟩
  have hz : Box5W Z18 (w.heap.size + 2) (.slice (some ⟨g0, 0, none⟩) 3 c0) (.slice b1 S.n5.b e1) (.slice (some ⟨g2, 0, none⟩) 3 c2) (.slice b3 S.n5.d e3) (.slice (some ⟨g4, 0, none⟩) 3 c4) := by rw [← hZ18]; exact ((((bR_15.out.set0 _).set1 _).set2 _).set3 _).set4 _
  have ht : Btn (w.heap.size + 2) (w.heap.size + 2 + 1) wq12 Z18 := by rw [← hZ18]; exact ((((btn_set _ _ _ _).trans (btn_set _ _ _ _)).trans (btn_set _ _ _ _)).trans (btn_set _ _ _ _)).trans (btn_set _ _ _ _)
  have q0 := S_0.out
  have q1 := S_5.out
  have q2 := S_11.out
  have q3 := S_17.out
  have hhi := HHI.out
  have HZ : Hid (Btn lo hi w Z18) := Btn.of_below (E_17.out.trans (ht.below (by omega) E_17.out.size))
  have HM : Hid (M5 Z18 lo hi (.slice (some ⟨g0, 0, none⟩) 3 c0) (.slice b1 S.n5.b e1) (.slice (some ⟨g2, 0, none⟩) 3 c2) (.slice b3 S.n5.d e3) (.slice (some ⟨g4, 0, none⟩) 3 c4) (S).n5 (S).f5) := m_16.out.btn ht (.inl (by omega))
  clear q0 q1 q2 q3 ht hhi
  go_wp2
  obtain ⟨t0, t1, t2, t3, t4, -, -, -, -, -⟩ := hz
  exact bodyPost_ret (v := .tuple #[.agg #[.slice (some ⟨g0, 0, none⟩) 3 c0, .slice b1 S.n5.b e1, .slice (some ⟨g2, 0, none⟩) 3 c2, .slice b3 S.n5.d e3, .slice (some ⟨g4, 0, none⟩) 3 c4], .int .i64 3]) (by simp [results, Tryd.results24, go_sem, t0, t1, t2, t3, t4]) rfl ⟨rfl, HM, HZ.out⟩

set_option maxRecDepth 100000 in
set_option maxHeartbeats 8000000 in
theorem l5Do_4 (v0 v1 v2 v3 v4 : Value) (S : StT) (who ep num obj pos : Int) (data : List UInt8) (lo hi : Nat) (w : World) (h : M5 w lo hi v0 v1 v2 v3 v4 S.n5 S.f5) (hhi : hi ≤ w.heap.size) (hs : stOkB S = true) (hd : data.length ≤ 9000000) (hq : rqB ⟨who, ep, num, obj, pos, data⟩ = true) (h1 : ¬ ep < S.floors.getD who.toNat 0) (h2 : ¬ num ≤ S.last.getD who.toNat 0) (h3 : S.last.getD who.toNat 0 + 1 < num) :
    Calls Tryd.prog 24 #[.agg #[v0, v1, v2, v3, v4], .agg (rqA ⟨who, ep, num, obj, pos, data⟩)] w (DoSt w lo hi v0 v1 v2 v3 v4 S ⟨who, ep, num, obj, pos, data⟩) := by
  obtain ⟨⟨a1, a2⟩, ⟨p1, p2⟩, ⟨m1, m2⟩, ⟨o1, o2⟩, hwk⟩ := rqB_iff.1 hq
  obtain ⟨w0, wne, wtd, w48⟩ := wokB_iff.1 hwk
  dsimp only at a1 a2 p1 p2 m1 m2 o1 o2 w0 wne wtd w48
  obtain ⟨k, rfl⟩ : ∃ k : Nat, who = k := ⟨who.toNat, by omega⟩
  obtain ⟨o, rfl⟩ : ∃ k : Nat, obj = k := ⟨obj.toNat, by omega⟩
  obtain ⟨p, rfl⟩ : ∃ k : Nat, pos = k := ⟨pos.toNat, by omega⟩
  have hnm := (nmB_iff.1 (stOk_iff.1 hs).2.2).2 k (by omega)
  obtain ⟨hn1, hn2, hn3, hn4, hn5⟩ := numB_iff.1 hnm
  have hC : doC S ⟨k, ep, num, o, p, data⟩ = 4 := doC_4 hq h1 h2 h3
  have hS : doS S ⟨k, ep, num, o, p, data⟩ = S := doS_no (by rw [hC]; decide)
  unfold DoSt
  rw [hC, hS]
  clear hC hS
  obtain ⟨Fk, hFk⟩ : ∃ F, S.floors.getD k 0 = F := ⟨_, rfl⟩
  obtain ⟨Lk, hLk⟩ : ∃ F, S.last.getD k 0 = F := ⟨_, rfl⟩
  have HFk := Lib.hid hFk
  have HLk := Lib.hid hLk
  rw [Int.toNat_natCast] at h1
  rw [Int.toNat_natCast] at h2
  rw [Int.toNat_natCast] at h3
  rw [hFk] at hn4 hn5 h1
  rw [hLk] at hn2 hn3 h2 h3
  have k3 : k < 3 := by omega
  have i0 : (0 : Int) ≤ (k : Int) := by omega
  have i1 : (k : Int) < 3 := by omega
  have jw : IntKind.i64.wrap (Lk + 1) = Lk + 1 := IntWalk.i64_in _ (by omega)
  have d1 : decide (ep < Fk) = false := by simp; omega
  have d2 : decide (num ≤ Lk) = false := by simp; omega
  have d3 : decide (Lk + 1 < num) = true := by simp; omega
  clear hFk hLk hnm hwk
  have ya : S.n5.a = 3 := (stOk_lens hs).1
  obtain ⟨g0, c0, rfl⟩ : ∃ g c, v0 = .slice (some ⟨g, 0, none⟩) 3 c := by
    obtain ⟨g, c, e, -, -⟩ := h.a.at (show 0 < S.n5.a by omega)
    exact ⟨g, c, by rw [e, ya]⟩
  have yc : S.n5.c = 3 := (stOk_lens hs).2.2.1
  obtain ⟨g2, c2, rfl⟩ : ∃ g c, v2 = .slice (some ⟨g, 0, none⟩) 3 c := by
    obtain ⟨g, c, e, -, -⟩ := h.c.at (show 0 < S.n5.c by omega)
    exact ⟨g, c, by rw [e, yc]⟩
  have ye : S.n5.e = 3 := (stOk_lens hs).2.2.2.2
  obtain ⟨g4, c4, rfl⟩ : ∃ g c, v4 = .slice (some ⟨g, 0, none⟩) 3 c := by
    obtain ⟨g, c, e, -, -⟩ := h.e.at (show 0 < S.n5.e by omega)
    exact ⟨g, c, by rw [e, ye]⟩
  obtain ⟨b1, e1, rfl⟩ := h.b.vls.form
  obtain ⟨b3, e3, rfl⟩ := h.d.vls.form
  obtain ⟨W, hW⟩ : ∃ W, ((w.alloc (.cells #[.slice (some ⟨g0, 0, none⟩) 3 c0, .slice b1 S.n5.b e1, .slice (some ⟨g2, 0, none⟩) 3 c2, .slice b3 S.n5.d e3, .slice (some ⟨g4, 0, none⟩) 3 c4] 30)).alloc (.cells (rqA ⟨k, ep, num, o, p, data⟩) 34)).alloc (.cells #[.slice none 0 0, .slice none 0 0, .slice none 0 0, .slice none 0 0, .slice none 0 0] 30) = W := ⟨_, rfl⟩
  have hal : Below w.heap.size w W := by rw [← hW]; exact (((Below.refl _ _).alloc (Nat.le_refl _) _).alloc (by simp) _).alloc (by simp; omega) _
  have A0 : Box5 W w.heap.size (.slice (some ⟨g0, 0, none⟩) 3 c0) (.slice b1 S.n5.b e1) (.slice (some ⟨g2, 0, none⟩) 3 c2) (.slice b3 S.n5.d e3) (.slice (some ⟨g4, 0, none⟩) 3 c4) := by rw [← hW]; exact ((new_box5 w _ _ _ _ _ _).keep ((Below.refl _ _).alloc (Nat.le_refl _) _)).keep ((Below.refl _ _).alloc (Nat.le_refl _) _)
  have B0 : Box6 W (w.heap.size + 1) ⟨k, ep, num, o, p, data⟩ := by
    rw [← hW]
    have := (new_box6 (w.alloc (.cells #[.slice (some ⟨g0, 0, none⟩) 3 c0, .slice b1 S.n5.b e1, .slice (some ⟨g2, 0, none⟩) 3 c2, .slice b3 S.n5.d e3, .slice (some ⟨g4, 0, none⟩) 3 c4] 30)) ⟨k, ep, num, o, p, data⟩ 34).keep ((Below.refl _ _).alloc (Nat.le_refl _) (.cells #[.slice none 0 0, .slice none 0 0, .slice none 0 0, .slice none 0 0, .slice none 0 0] 30))
    simpa using this
  have R0 : Box5W W (w.heap.size + 2) (.slice none 0 0) (.slice none 0 0) (.slice none 0 0) (.slice none 0 0) (.slice none 0 0) := by
    rw [← hW]
    have := new_box5W ((w.alloc (.cells #[.slice (some ⟨g0, 0, none⟩) 3 c0, .slice b1 S.n5.b e1, .slice (some ⟨g2, 0, none⟩) 3 c2, .slice b3 S.n5.d e3, .slice (some ⟨g4, 0, none⟩) 3 c4] 30)).alloc (.cells (rqA ⟨k, ep, num, o, p, data⟩) 34)) (.slice none 0 0) (.slice none 0 0) (.slice none 0 0) (.slice none 0 0) (.slice none 0 0) 30
    simpa using this
  have hl : w.heap.size + 2 < W.heap.size := by rw [← hW]; simp
  have M0 : M5 W lo hi (.slice (some ⟨g0, 0, none⟩) 3 c0) (.slice b1 S.n5.b e1) (.slice (some ⟨g2, 0, none⟩) 3 c2) (.slice b3 S.n5.d e3) (.slice (some ⟨g4, 0, none⟩) 3 c4) S.n5 S.f5 := h.keep hal
  have E_0 := Lib.hid hal
  have S_0 := Lib.hid hl
  have bA_0 := Lib.hid A0
  have bQ_0 := Lib.hid B0
  have bR_0 := Lib.hid R0
  have m_0 := Lib.hid M0
  have HHI := Lib.hid hhi
  clear hal A0 B0 R0 hl M0 h hhi 
  have KQ := l5Req_any ⟨k, ep, num, o, p, data⟩ hd W
  rw [hq] at KQ
  have KQ := Lib.hid KQ
  obtain ⟨x00, x01, x02, x03, x04, x05⟩ := bQ_0.out
  go_enter Tryd.func24, Tryd.ntmps24
  go_wp2_with fail
  clear hW
  refine KQ.out.mono ?_; rintro e w1 ⟨rfl, hb⟩
  have bA_1 := Lib.hid (bA_0.out.keep hb)
  have bQ_2 := Lib.hid (bQ_0.out.keep hb)
  have bR_3 := Lib.hid (bR_0.out.keep hb)
  have m_4 := Lib.hid (m_0.out.keep hb)
  have E_5 := Lib.hid (E_0.out.trans (hb.mono E_0.out.size))
  have S_5 := Lib.hid hb.size
  clear x00 x01 x02 x03 x04 x05
  clear bA_0 bQ_0 bR_0 m_0 E_0 hb
  clear KQ
  clear hq
  obtain ⟨x00, x01, x02, x03, x04⟩ := bA_1.out
  obtain ⟨x10, x11, x12, x13, x14, x15⟩ := bQ_2.out
  have yfr : Row1 w1 g4 3 (intF S.floors) := by
    obtain ⟨g', c', q', hr, -⟩ := m_4.out.e.at (show 0 < S.n5.e by rw [ye]; omega)
    injection q' with q1
    injection q1 with q2
    injection q2 with q3
    rw [ye] at hr
    rw [q3]; exact hr
  have yf : w1.cell? ⟨g4, k, none⟩ = some (.int .i64 Fk) := (yfr k (by omega)).1.trans (by rw [← HFk.out])
  clear yfr
  go_wp2_with fail
  go_quiet (fail)
  rename_i nq
  have hb : Below w1.heap.size w1 (w1.drewN nq) := ⟨rfl, rfl, rfl, Nat.le_refl _, fun _ _ => rfl⟩
  obtain ⟨wq6, hwq⟩ : ∃ X, w1.drewN nq = X := ⟨_, rfl⟩
  rw [hwq] at hb ⊢
  clear hwq yf
  have bA_7 := Lib.hid (bA_1.out.keep hb)
  have bQ_8 := Lib.hid (bQ_2.out.keep hb)
  have bR_9 := Lib.hid (bR_3.out.keep hb)
  have m_10 := Lib.hid (m_4.out.keep hb)
  have E_11 := Lib.hid (E_5.out.trans (hb.mono E_5.out.size))
  have S_11 := Lib.hid hb.size
  clear x00 x01 x02 x03 x04 x10 x11 x12 x13 x14 x15
  clear bA_1 bQ_2 bR_3 m_4 E_5 hb
  obtain ⟨x00, x01, x02, x03, x04⟩ := bA_7.out
  obtain ⟨x10, x11, x12, x13, x14, x15⟩ := bQ_8.out
  have ylr : Row1 wq6 g2 3 (intF S.last) := by
    obtain ⟨g', c', q', hr, -⟩ := m_10.out.c.at (show 0 < S.n5.c by rw [yc]; omega)
    injection q' with q1
    injection q1 with q2
    injection q2 with q3
    rw [yc] at hr
    rw [q3]; exact hr
  have yl : wq6.cell? ⟨g2, k, none⟩ = some (.int .i64 Lk) := (ylr k (by omega)).1.trans (by rw [← HLk.out])
  clear ylr
  go_wp2_with fail
  go_quiet (fail)
  rename_i nq
  have hb : Below wq6.heap.size wq6 (wq6.drewN nq) := ⟨rfl, rfl, rfl, Nat.le_refl _, fun _ _ => rfl⟩
  obtain ⟨wq12, hwq⟩ : ∃ X, wq6.drewN nq = X := ⟨_, rfl⟩
  rw [hwq] at hb ⊢
  clear hwq yl
  have bA_13 := Lib.hid (bA_7.out.keep hb)
  have bQ_14 := Lib.hid (bQ_8.out.keep hb)
  have bR_15 := Lib.hid (bR_9.out.keep hb)
  have m_16 := Lib.hid (m_10.out.keep hb)
  have E_17 := Lib.hid (E_11.out.trans (hb.mono E_11.out.size))
  have S_17 := Lib.hid hb.size
  clear x00 x01 x02 x03 x04 x10 x11 x12 x13 x14 x15
  clear bA_7 bQ_8 bR_9 m_10 E_11 hb
  obtain ⟨x00, x01, x02, x03, x04⟩ := bA_13.out
  obtain ⟨x10, x11, x12, x13, x14, x15⟩ := bQ_14.out
  have ylr : Row1 wq12 g2 3 (intF S.last) := by
    obtain ⟨g', c', q', hr, -⟩ := m_16.out.c.at (show 0 < S.n5.c by rw [yc]; omega)
    injection q' with q1
    injection q1 with q2
    injection q2 with q3
    rw [yc] at hr
    rw [q3]; exact hr
  have yl : wq12.cell? ⟨g2, k, none⟩ = some (.int .i64 Lk) := (ylr k (by omega)).1.trans (by rw [← HLk.out])
  clear ylr
  go_wp2_with fail
  go_quiet (fail)
  rename_i nq
  have hb : Below wq12.heap.size wq12 (wq12.drewN nq) := ⟨rfl, rfl, rfl, Nat.le_refl _, fun _ _ => rfl⟩
  obtain ⟨wq18, hwq⟩ : ∃ X, wq12.drewN nq = X := ⟨_, rfl⟩
  rw [hwq] at hb ⊢
  clear hwq yl
  have bA_19 := Lib.hid (bA_13.out.keep hb)
  have bQ_20 := Lib.hid (bQ_14.out.keep hb)
  have bR_21 := Lib.hid (bR_15.out.keep hb)
  have m_22 := Lib.hid (m_16.out.keep hb)
  have E_23 := Lib.hid (E_17.out.trans (hb.mono E_17.out.size))
  have S_23 := Lib.hid hb.size
  clear x00 x01 x02 x03 x04 x10 x11 x12 x13 x14 x15
  clear bA_13 bQ_14 bR_15 m_16 E_17 hb
  obtain ⟨x00, x01, x02, x03, x04⟩ := bA_19.out
  obtain ⟨x10, x11, x12, x13, x14, x15, x16, x17, x18, x19⟩ := bR_21.out
  obtain ⟨Z24, hZ24⟩ : ∃ X, (((((wq18.setCell ⟨w.heap.size + 2, 0, none⟩ (.slice (some ⟨g0, 0, none⟩) 3 c0)).setCell ⟨w.heap.size + 2, 1, none⟩ (.slice b1 S.n5.b e1)).setCell ⟨w.heap.size + 2, 2, none⟩ (.slice (some ⟨g2, 0, none⟩) 3 c2)).setCell ⟨w.heap.size + 2, 3, none⟩ (.slice b3 S.n5.d e3)).setCell ⟨w.heap.size + 2, 4, none⟩ (.slice (some ⟨g4, 0, none⟩) 3 c4)) = X := ⟨_, rfl⟩
  have hz : Box5W Z24 (w.heap.size + 2) (.slice (some ⟨g0, 0, none⟩) 3 c0) (.slice b1 S.n5.b e1) (.slice (some ⟨g2, 0, none⟩) 3 c2) (.slice b3 S.n5.d e3) (.slice (some ⟨g4, 0, none⟩) 3 c4) := by rw [← hZ24]; exact ((((bR_21.out.set0 _).set1 _).set2 _).set3 _).set4 _
  have ht : Btn (w.heap.size + 2) (w.heap.size + 2 + 1) wq18 Z24 := by rw [← hZ24]; exact ((((btn_set _ _ _ _).trans (btn_set _ _ _ _)).trans (btn_set _ _ _ _)).trans (btn_set _ _ _ _)).trans (btn_set _ _ _ _)
  have q0 := S_0.out
  have q1 := S_5.out
  have q2 := S_11.out
  have q3 := S_17.out
  have q4 := S_23.out
  have hhi := HHI.out
  have HZ : Hid (Btn lo hi w Z24) := Btn.of_below (E_23.out.trans (ht.below (by omega) E_23.out.size))
  have HM : Hid (M5 Z24 lo hi (.slice (some ⟨g0, 0, none⟩) 3 c0) (.slice b1 S.n5.b e1) (.slice (some ⟨g2, 0, none⟩) 3 c2) (.slice b3 S.n5.d e3) (.slice (some ⟨g4, 0, none⟩) 3 c4) (S).n5 (S).f5) := m_22.out.btn ht (.inl (by omega))
  clear q0 q1 q2 q3 q4 ht hhi
  go_wp2
  obtain ⟨t0, t1, t2, t3, t4, -, -, -, -, -⟩ := hz
  exact bodyPost_ret (v := .tuple #[.agg #[.slice (some ⟨g0, 0, none⟩) 3 c0, .slice b1 S.n5.b e1, .slice (some ⟨g2, 0, none⟩) 3 c2, .slice b3 S.n5.d e3, .slice (some ⟨g4, 0, none⟩) 3 c4], .int .i64 4]) (by simp [results, Tryd.results24, go_sem, t0, t1, t2, t3, t4]) rfl ⟨rfl, HM, HZ.out⟩

end Go.Proofs.YtadoihddmbbjoaaDoor
