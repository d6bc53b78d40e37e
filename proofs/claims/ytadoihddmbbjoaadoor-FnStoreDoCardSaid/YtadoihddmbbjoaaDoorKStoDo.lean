/-
  The model's l5Do: a request done in a store of one's own.
  The model's l5Do, where the request is done.
  The model's StoreDo.
-/
import Derived.Test.YtadoihddmbbjoaaDoorKStoReq
import Derived.Test.YtadoihddmbbjoaaDoorKStoMark
import Derived.Test.YtadoihddmbbjoaaDoorKSpecWrite
import Derived.Test.YtadoihddmbbjoaaDoorKRegCore
import Derived.Test.YtadoihddmbbjoaaDoorKStoCopy
import Derived.Deep.RegionHeld3
namespace Go.Proofs.YtadoihddmbbjoaaDoor
open Go.RowKit

/-- What l5Do leaves. -/
def DoSt (w : World) (lo hi : Nat) (v0 v1 v2 v3 v4 : Value) (S : StT) (q : ReqT) (e : Ending) (w' : World) : Prop :=
  e = .returned (.tuple #[.agg #[v0, v1, v2, v3, v4], .int .i64 (doC S q)]) ∧ Hid (M5 w' lo hi v0 v1 v2 v3 v4 (doS S q).n5 (doS S q).f5) ∧ Btn lo hi w w'
theorem btn_far {lo hi l h' : Nat} {a b c : World} (h : Btn lo hi a b) (k : Btn l h' b c) (hl : a.heap.size ≤ l) : Btn lo hi a c :=
  ⟨k.os.trans h.os, k.tape.trans h.tape, k.output.trans h.output, Nat.le_trans h.size k.size, fun i hi' hn => (k.block i (Nat.lt_of_lt_of_le hi' h.size) (by omega)).trans (h.block i hi' hn)⟩
theorem doC_no {S : StT} {q : ReqT} (h : rqB q = false) : doC S q = 1 := by unfold doC; rw [if_neg (by rw [h]; simp)]
theorem doC_2 {S : StT} {q : ReqT} (h : rqB q = true) (h1 : q.ep < S.floors.getD q.who.toNat 0) : doC S q = 2 := by unfold doC; rw [if_pos h, if_pos h1]
theorem doC_3 {S : StT} {q : ReqT} (h : rqB q = true) (h1 : ¬ q.ep < S.floors.getD q.who.toNat 0) (h2 : q.num ≤ S.last.getD q.who.toNat 0) : doC S q = 3 := by unfold doC; rw [if_pos h, if_neg h1, if_pos h2]
theorem doC_4 {S : StT} {q : ReqT} (h : rqB q = true) (h1 : ¬ q.ep < S.floors.getD q.who.toNat 0) (h2 : ¬ q.num ≤ S.last.getD q.who.toNat 0) (h3 : S.last.getD q.who.toNat 0 + 1 < q.num) : doC S q = 4 := by unfold doC; rw [if_pos h, if_neg h1, if_neg h2, if_pos h3]
theorem doC_0 {S : StT} {q : ReqT} (h : rqB q = true) (h1 : ¬ q.ep < S.floors.getD q.who.toNat 0) (h2 : ¬ q.num ≤ S.last.getD q.who.toNat 0) (h3 : ¬ S.last.getD q.who.toNat 0 + 1 < q.num) : doC S q = 0 := by unfold doC; rw [if_pos h, if_neg h1, if_neg h2, if_neg h3]
theorem doS_no {S : StT} {q : ReqT} (h : doC S q ≠ 0) : doS S q = S := by unfold doS; rw [if_neg h]
theorem doS_yes {S : StT} {q : ReqT} (h : doC S q = 0) : doS S q = { S with now := S.now.set q.obj.toNat (wrL (S.now.getD q.obj.toNat []) q.pos.toNat q.data), last := S.last.set q.who.toNat q.num } := by unfold doS; rw [if_pos h]
theorem m5_seta {w w1 : World} {lo hi g n cap : Nat} {v1 v2 v3 v4 : Value} {N : N5} {F : F5} {f : Nat → Value} (h : M5 w lo hi (.slice (some ⟨g, 0, none⟩) n cap) v1 v2 v3 v4 N F) (ht : Btn g (g + 1) w w1) (hm : Mk1 w1 lo hi (.slice (some ⟨g, 0, none⟩) n cap) N.a f) :
    M5 w1 lo hi (.slice (some ⟨g, 0, none⟩) n cap) v1 v2 v3 v4 N { F with a := f } := by
  have off : ∀ u, Dis (.slice (some ⟨g, 0, none⟩) n cap) u → ∀ b, u.ownBlock = some b → b < w.heap.size → w1.heap[b]? = w.heap[b]? := fun u hd b hb hlt => ht.block b hlt (fun hh => by
    have e : b = g := by omega
    subst e
    exact hd b rfl hb)
  exact { h with b := h.b.same (off _ h.ab), c := h.c.same (off _ h.ac), d := h.d.same (off _ h.ad), e := h.e.same (off _ h.ae), a := hm }
theorem m5_setc {w w1 : World} {lo hi g n cap : Nat} {v0 v1 v3 v4 : Value} {N : N5} {F : F5} {f : Nat → Value} (h : M5 w lo hi v0 v1 (.slice (some ⟨g, 0, none⟩) n cap) v3 v4 N F) (ht : Btn g (g + 1) w w1) (hm : Mk1 w1 lo hi (.slice (some ⟨g, 0, none⟩) n cap) N.c f) :
    M5 w1 lo hi v0 v1 (.slice (some ⟨g, 0, none⟩) n cap) v3 v4 N { F with c := f } := by
  have off1 : ∀ u, Dis u (.slice (some ⟨g, 0, none⟩) n cap) → ∀ b, u.ownBlock = some b → b < w.heap.size → w1.heap[b]? = w.heap[b]? := fun u hd b hb hlt => ht.block b hlt (fun hh => by
    have e : b = g := by omega
    subst e
    exact hd b hb rfl)
  have off2 : ∀ u, Dis (.slice (some ⟨g, 0, none⟩) n cap) u → ∀ b, u.ownBlock = some b → b < w.heap.size → w1.heap[b]? = w.heap[b]? := fun u hd b hb hlt => ht.block b hlt (fun hh => by
    have e : b = g := by omega
    subst e
    exact hd b rfl hb)
  exact { h with a := h.a.same (off1 _ h.ac), b := h.b.same (off1 _ h.bc), d := h.d.same (off2 _ h.cd), e := h.e.same (off2 _ h.ce), c := hm }

set_option maxRecDepth 100000 in
set_option maxHeartbeats 8000000 in
theorem l5Do_no (v0 v1 v2 v3 v4 : Value) (S : StT) (who ep num obj pos : Int) (data : List UInt8) (lo hi : Nat) (w : World) (h : M5 w lo hi v0 v1 v2 v3 v4 S.n5 S.f5) (hhi : hi ≤ w.heap.size) (hs : stOkB S = true) (hd : data.length ≤ 9000000) (hq : rqB ⟨who, ep, num, obj, pos, data⟩ = false) :
    Calls Tryd.prog 24 #[.agg #[v0, v1, v2, v3, v4], .agg (rqA ⟨who, ep, num, obj, pos, data⟩)] w (DoSt w lo hi v0 v1 v2 v3 v4 S ⟨who, ep, num, obj, pos, data⟩) := by
  have hC : doC S ⟨who, ep, num, obj, pos, data⟩ = 1 := doC_no hq
  have hS : doS S ⟨who, ep, num, obj, pos, data⟩ = S := doS_no (by rw [hC]; decide)
  unfold DoSt
  rw [hC, hS]
  clear hC hS
  have ya : S.n5.a = 3 := (stOk_lens hs).1
  obtain ⟨g0, c0, rfl⟩ : ∃ g c, v0 = .slice (some ⟨g, 0, none⟩) 3 c := by
    obtain ⟨g, c, e, -, -⟩ := h.a.at (show 0 < S.n5.a by omega)
    exact ⟨g, c, by rw [e, ya]⟩
  have yc : S.n5.c = 3 := (stOk_lens hs).2.2.1
  obtain ⟨g2, c2, rfl⟩ : ∃ g c, v2 = .slice (some ⟨g, 0, none⟩) 3 c := by
    obtain ⟨g, c, e, -, -⟩ := h.c.at (show 0 < S.n5.c by omega)
    exact ⟨g, c, by rw [e, yc]⟩
  have ye : S.n5.e = 3 := (stOk_lens hs).2.2.2.2
  obtain ⟨g4, c4, rfl⟩ : ∃ g c, v4 = .slice (some ⟨g, 0, none⟩) 3 c := by
    obtain ⟨g, c, e, -, -⟩ := h.e.at (show 0 < S.n5.e by omega)
    exact ⟨g, c, by rw [e, ye]⟩
  obtain ⟨b1, e1, rfl⟩ := h.b.vls.form
  obtain ⟨b3, e3, rfl⟩ := h.d.vls.form
  obtain ⟨W, hW⟩ : ∃ W, ((w.alloc (.cells #[.slice (some ⟨g0, 0, none⟩) 3 c0, .slice b1 S.n5.b e1, .slice (some ⟨g2, 0, none⟩) 3 c2, .slice b3 S.n5.d e3, .slice (some ⟨g4, 0, none⟩) 3 c4] 30)).alloc (.cells (rqA ⟨who, ep, num, obj, pos, data⟩) 34)).alloc (.cells #[.slice none 0 0, .slice none 0 0, .slice none 0 0, .slice none 0 0, .slice none 0 0] 30) = W := ⟨_, rfl⟩
  have hal : Below w.heap.size w W := by rw [← hW]; exact (((Below.refl _ _).alloc (Nat.le_refl _) _).alloc (by simp) _).alloc (by simp; omega) _
  have A0 : Box5 W w.heap.size (.slice (some ⟨g0, 0, none⟩) 3 c0) (.slice b1 S.n5.b e1) (.slice (some ⟨g2, 0, none⟩) 3 c2) (.slice b3 S.n5.d e3) (.slice (some ⟨g4, 0, none⟩) 3 c4) := by rw [← hW]; exact ((new_box5 w _ _ _ _ _ _).keep ((Below.refl _ _).alloc (Nat.le_refl _) _)).keep ((Below.refl _ _).alloc (Nat.le_refl _) _)
  have B0 : Box6 W (w.heap.size + 1) ⟨who, ep, num, obj, pos, data⟩ := by
    rw [← hW]
    have := (new_box6 (w.alloc (.cells #[.slice (some ⟨g0, 0, none⟩) 3 c0, .slice b1 S.n5.b e1, .slice (some ⟨g2, 0, none⟩) 3 c2, .slice b3 S.n5.d e3, .slice (some ⟨g4, 0, none⟩) 3 c4] 30)) ⟨who, ep, num, obj, pos, data⟩ 34).keep ((Below.refl _ _).alloc (Nat.le_refl _) (.cells #[.slice none 0 0, .slice none 0 0, .slice none 0 0, .slice none 0 0, .slice none 0 0] 30))
    simpa using this
  have R0 : Box5W W (w.heap.size + 2) (.slice none 0 0) (.slice none 0 0) (.slice none 0 0) (.slice none 0 0) (.slice none 0 0) := by
    rw [← hW]
    have := new_box5W ((w.alloc (.cells #[.slice (some ⟨g0, 0, none⟩) 3 c0, .slice b1 S.n5.b e1, .slice (some ⟨g2, 0, none⟩) 3 c2, .slice b3 S.n5.d e3, .slice (some ⟨g4, 0, none⟩) 3 c4] 30)).alloc (.cells (rqA ⟨who, ep, num, obj, pos, data⟩) 34)) (.slice none 0 0) (.slice none 0 0) (.slice none 0 0) (.slice none 0 0) (.slice none 0 0) 30
    simpa using this
  have hl : w.heap.size + 2 < W.heap.size := by rw [← hW]; simp
  have M0 : M5 W lo hi (.slice (some ⟨g0, 0, none⟩) 3 c0) (.slice b1 S.n5.b e1) (.slice (some ⟨g2, 0, none⟩) 3 c2) (.slice b3 S.n5.d e3) (.slice (some ⟨g4, 0, none⟩) 3 c4) S.n5 S.f5 := h.keep hal
  have E_0 := Lib.hid hal
  have S_0 := Lib.hid hl
  have bA_0 := Lib.hid A0
  have bQ_0 := Lib.hid B0
  have bR_0 := Lib.hid R0
  have m_0 := Lib.hid M0
  have HHI := Lib.hid hhi
  clear hal A0 B0 R0 hl M0 h hhi 
  have KQ := l5Req_any ⟨who, ep, num, obj, pos, data⟩ hd W
  rw [hq] at KQ
  have KQ := Lib.hid KQ
  obtain ⟨x00, x01, x02, x03, x04, x05⟩ := bQ_0.out
  go_enter Tryd.func24, Tryd.ntmps24
  go_wp2_with fail
  clear hW
  refine KQ.out.mono ?_; rintro e w1 ⟨rfl, hb⟩
  have bA_1 := Lib.hid (bA_0.out.keep hb)
  have bQ_2 := Lib.hid (bQ_0.out.keep hb)
  have bR_3 := Lib.hid (bR_0.out.keep hb)
  have m_4 := Lib.hid (m_0.out.keep hb)
  have E_5 := Lib.hid (E_0.out.trans (hb.mono E_0.out.size))
  have S_5 := Lib.hid hb.size
  clear x00 x01 x02 x03 x04 x05
  clear bA_0 bQ_0 bR_0 m_0 E_0 hb
  clear KQ
  clear hq
  obtain ⟨x00, x01, x02, x03, x04⟩ := bA_1.out
  obtain ⟨x10, x11, x12, x13, x14, x15, x16, x17, x18, x19⟩ := bR_3.out
  obtain ⟨Z6, hZ6⟩ : ∃ X, (((((w1.setCell ⟨w.heap.size + 2, 0, none⟩ (.slice (some ⟨g0, 0, none⟩) 3 c0)).setCell ⟨w.heap.size + 2, 1, none⟩ (.slice b1 S.n5.b e1)).setCell ⟨w.heap.size + 2, 2, none⟩ (.slice (some ⟨g2, 0, none⟩) 3 c2)).setCell ⟨w.heap.size + 2, 3, none⟩ (.slice b3 S.n5.d e3)).setCell ⟨w.heap.size + 2, 4, none⟩ (.slice (some ⟨g4, 0, none⟩) 3 c4)) = X := ⟨_, rfl⟩
  have hz : Box5W Z6 (w.heap.size + 2) (.slice (some ⟨g0, 0, none⟩) 3 c0) (.slice b1 S.n5.b e1) (.slice (some ⟨g2, 0, none⟩) 3 c2) (.slice b3 S.n5.d e3) (.slice (some ⟨g4, 0, none⟩) 3 c4) := by rw [← hZ6]; exact ((((bR_3.out.set0 _).set1 _).set2 _).set3 _).set4 _
  have ht : Btn (w.heap.size + 2) (w.heap.size + 2 + 1) w1 Z6 := by rw [← hZ6]; exact ((((btn_set _ _ _ _).trans (btn_set _ _ _ _)).trans (btn_set _ _ _ _)).trans (btn_set _ _ _ _)).trans (btn_set _ _ _ _)
  have q0 := S_0.out
  have q1 := S_5.out
  have hhi := HHI.out
  have HZ : Hid (Btn lo hi w Z6) := Btn.of_below (E_5.out.trans (ht.below (by omega) E_5.out.size))
  have HM : Hid (M5 Z6 lo hi (.slice (some ⟨g0, 0, none⟩) 3 c0) (.slice b1 S.n5.b e1) (.slice (some ⟨g2, 0, none⟩) 3 c2) (.slice b3 S.n5.d e3) (.slice (some ⟨g4, 0, none⟩) 3 c4) (S).n5 (S).f5) := m_4.out.btn ht (.inl (by omega))
  clear q0 q1 ht hhi
  go_wp2
  obtain ⟨t0, t1, t2, t3, t4, -, -, -, -, -⟩ := hz
  exact bodyPost_ret (v := .tuple #[.agg #[.slice (some ⟨g0, 0, none⟩) 3 c0, .slice b1 S.n5.b e1, .slice (some ⟨g2, 0, none⟩) 3 c2, .slice b3 S.n5.d e3, .slice (some ⟨g4, 0, none⟩) 3 c4], .int .i64 1]) (by simp [results, Tryd.results24, go_sem, t0, t1, t2, t3, t4]) rfl ⟨rfl, HM, HZ.out⟩

set_option maxRecDepth 100000 in
set_option maxHeartbeats 8000000 in
theorem l5Do_2 (v0 v1 v2 v3 v4 : Value) (S : StT) (who ep num obj pos : Int) (data : List UInt8) (lo hi : Nat) (w : World) (h : M5 w lo hi v0 v1 v2 v3 v4 S.n5 S.f5) (hhi : hi ≤ w.heap.size) (hs : stOkB S = true) (hd : data.length ≤ 9000000) (hq : rqB ⟨who, ep, num, obj, pos, data⟩ = true) (h1 : ep < S.floors.getD who.toNat 0) :
    Calls Tryd.prog 24 #[.agg #[v0, v1, v2, v3, v4], .agg (rqA ⟨who, ep, num, obj, pos, data⟩)] w (DoSt w lo hi v0 v1 v2 v3 v4 S ⟨who, ep, num, obj, pos, data⟩) := by
  obtain ⟨⟨a1, a2⟩, ⟨p1, p2⟩, ⟨m1, m2⟩, ⟨o1, o2⟩, hwk⟩ := rqB_iff.1 hq
  obtain ⟨w0, wne, wtd, w48⟩ := wokB_iff.1 hwk
  dsimp only at a1 a2 p1 p2 m1 m2 o1 o2 w0 wne wtd w48
  obtain ⟨k, rfl⟩ : ∃ k : Nat, who = k := ⟨who.toNat, by omega⟩
  obtain ⟨o, rfl⟩ : ∃ k : Nat, obj = k := ⟨obj.toNat, by omega⟩
  obtain ⟨p, rfl⟩ : ∃ k : Nat, pos = k := ⟨pos.toNat, by omega⟩
  have hnm := (nmB_iff.1 (stOk_iff.1 hs).2.2).2 k (by omega)
  obtain ⟨hn1, hn2, hn3, hn4, hn5⟩ := numB_iff.1 hnm
  have hC : doC S ⟨k, ep, num, o, p, data⟩ = 2 := doC_2 hq h1
  have hS : doS S ⟨k, ep, num, o, p, data⟩ = S := doS_no (by rw [hC]; decide)
  unfold DoSt
  rw [hC, hS]
  clear hC hS
  obtain ⟨Fk, hFk⟩ : ∃ F, S.floors.getD k 0 = F := ⟨_, rfl⟩
  obtain ⟨Lk, hLk⟩ : ∃ F, S.last.getD k 0 = F := ⟨_, rfl⟩
  have HFk := Lib.hid hFk
  have HLk := Lib.hid hLk
  rw [Int.toNat_natCast] at h1
  rw [hFk] at hn4 hn5 h1
  rw [hLk] at hn2 hn3
  have k3 : k < 3 := by omega
  have i0 : (0 : Int) ≤ (k : Int) := by omega
  have i1 : (k : Int) < 3 := by omega
  have jw : IntKind.i64.wrap (Lk + 1) = Lk + 1 := IntWalk.i64_in _ (by omega)
  have d1 : decide (ep < Fk) = true := by simp; omega
  clear hFk hLk hnm hwk
  have ya : S.n5.a = 3 := (stOk_lens hs).1
  obtain ⟨g0, c0, rfl⟩ : ∃ g c, v0 = .slice (some ⟨g, 0, none⟩) 3 c := by
    obtain ⟨g, c, e, -, -⟩ := h.a.at (show 0 < S.n5.a by omega)
    exact ⟨g, c, by rw [e, ya]⟩
  have yc : S.n5.c = 3 := (stOk_lens hs).2.2.1
  obtain ⟨g2, c2, rfl⟩ : ∃ g c, v2 = .slice (some ⟨g, 0, none⟩) 3 c := by
    obtain ⟨g, c, e, -, -⟩ := h.c.at (show 0 < S.n5.c by omega)
    exact ⟨g, c, by rw [e, yc]⟩
  have ye : S.n5.e = 3 := (stOk_lens hs).2.2.2.2
  obtain ⟨g4, c4, rfl⟩ : ∃ g c, v4 = .slice (some ⟨g, 0, none⟩) 3 c := by
    obtain ⟨g, c, e, -, -⟩ := h.e.at (show 0 < S.n5.e by omega)
    exact ⟨g, c, by rw [e, ye]⟩
  obtain ⟨b1, e1, rfl⟩ := h.b.vls.form
  obtain ⟨b3, e3, rfl⟩ := h.d.vls.form
  obtain ⟨W, hW⟩ : ∃ W, ((w.alloc (.cells #[.slice (some ⟨g0, 0, none⟩) 3 c0, .slice b1 S.n5.b e1, .slice (some ⟨g2, 0, none⟩) 3 c2, .slice b3 S.n5.d e3, .slice (some ⟨g4, 0, none⟩) 3 c4] 30)).alloc (.cells (rqA ⟨k, ep, num, o, p, data⟩) 34)).alloc (.cells #[.slice none 0 0, .slice none 0 0, .slice none 0 0, .slice none 0 0, .slice none 0 0] 30) = W := ⟨_, rfl⟩
  have hal : Below w.heap.size w W := by rw [← hW]; exact (((Below.refl _ _).alloc (Nat.le_refl _) _).alloc (by simp) _).alloc (by simp; omega) _
  have A0 : Box5 W w.heap.size (.slice (some ⟨g0, 0, none⟩) 3 c0) (.slice b1 S.n5.b e1) (.slice (some ⟨g2, 0, none⟩) 3 c2) (.slice b3 S.n5.d e3) (.slice (some ⟨g4, 0, none⟩) 3 c4) := by rw [← hW]; exact ((new_box5 w _ _ _ _ _ _).keep ((Below.refl _ _).alloc (Nat.le_refl _) _)).keep ((Below.refl _ _).alloc (Nat.le_refl _) _)
  have B0 : Box6 W (w.heap.size + 1) ⟨k, ep, num, o, p, data⟩ := by
    rw [← hW]
    have := (new_box6 (w.alloc (.cells #[.slice (some ⟨g0, 0, none⟩) 3 c0, .slice b1 S.n5.b e1, .slice (some ⟨g2, 0, none⟩) 3 c2, .slice b3 S.n5.d e3, .slice (some ⟨g4, 0, none⟩) 3 c4] 30)) ⟨k, ep, num, o, p, data⟩ 34).keep ((Below.refl _ _).alloc (Nat.le_refl _) (.cells #[.slice none 0 0, .slice none 0 0, .slice none 0 0, .slice none 0 0, .slice none 0 0] 30))
    simpa using this
  have R0 : Box5W W (w.heap.size + 2) (.slice none 0 0) (.slice none 0 0) (.slice none 0 0) (.slice none 0 0) (.slice none 0 0) := by
    rw [← hW]
    have := new_box5W ((w.alloc (.cells #[.slice (some ⟨g0, 0, none⟩) 3 c0, .slice b1 S.n5.b e1, .slice (some ⟨g2, 0, none⟩) 3 c2, .slice b3 S.n5.d e3, .slice (some ⟨g4, 0, none⟩) 3 c4] 30)).alloc (.cells (rqA ⟨k, ep, num, o, p, data⟩) 34)) (.slice none 0 0) (.slice none 0 0) (.slice none 0 0) (.slice none 0 0) (.slice none 0 0) 30
    simpa using this
  have hl : w.heap.size + 2 < W.heap.size := by rw [← hW]; simp
  have M0 : M5 W lo hi (.slice (some ⟨g0, 0, none⟩) 3 c0) (.slice b1 S.n5.b e1) (.slice (some ⟨g2, 0, none⟩) 3 c2) (.slice b3 S.n5.d e3) (.slice (some ⟨g4, 0, none⟩) 3 c4) S.n5 S.f5 := h.keep hal
  have E_0 := Lib.hid hal
  have S_0 := Lib.hid hl
  have bA_0 := Lib.hid A0
  have bQ_0 := Lib.hid B0
  have bR_0 := Lib.hid R0
  have m_0 := Lib.hid M0
  have HHI := Lib.hid hhi
  clear hal A0 B0 R0 hl M0 h hhi 
  have KQ := l5Req_any ⟨k, ep, num, o, p, data⟩ hd W
  rw [hq] at KQ
  have KQ := Lib.hid KQ
  obtain ⟨x00, x01, x02, x03, x04, x05⟩ := bQ_0.out
  go_enter Tryd.func24, Tryd.ntmps24
  go_wp2_with fail
  clear hW
  refine KQ.out.mono ?_; rintro e w1 ⟨rfl, hb⟩
  have bA_1 := Lib.hid (bA_0.out.keep hb)
  have bQ_2 := Lib.hid (bQ_0.out.keep hb)
  have bR_3 := Lib.hid (bR_0.out.keep hb)
  have m_4 := Lib.hid (m_0.out.keep hb)
  have E_5 := Lib.hid (E_0.out.trans (hb.mono E_0.out.size))
  have S_5 := Lib.hid hb.size
  clear x00 x01 x02 x03 x04 x05
  clear bA_0 bQ_0 bR_0 m_0 E_0 hb
  clear KQ
  clear hq
  obtain ⟨x00, x01, x02, x03, x04⟩ := bA_1.out
  obtain ⟨x10, x11, x12, x13, x14, x15⟩ := bQ_2.out
  have yfr : Row1 w1 g4 3 (intF S.floors) := by
    obtain ⟨g', c', q', hr, -⟩ := m_4.out.e.at (show 0 < S.n5.e by rw [ye]; omega)
    injection q' with q1
    injection q1 with q2
    injection q2 with q3
    rw [ye] at hr
    rw [q3]; exact hr
  have yf : w1.cell? ⟨g4, k, none⟩ = some (.int .i64 Fk) := (yfr k (by omega)).1.trans (by rw [← HFk.out])
  clear yfr
  go_wp2_with fail
  go_quiet (fail)
  rename_i nq
  have hb : Below w1.heap.size w1 (w1.drewN nq) := ⟨rfl, rfl, rfl, Nat.le_refl _, fun _ _ => rfl⟩
  obtain ⟨wq6, hwq⟩ : ∃ X, w1.drewN nq = X := ⟨_, rfl⟩
  rw [hwq] at hb ⊢
  clear hwq yf
  have bA_7 := Lib.hid (bA_1.out.keep hb)
  have bQ_8 := Lib.hid (bQ_2.out.keep hb)
  have bR_9 := Lib.hid (bR_3.out.keep hb)
  have m_10 := Lib.hid (m_4.out.keep hb)
  have E_11 := Lib.hid (E_5.out.trans (hb.mono E_5.out.size))
  have S_11 := Lib.hid hb.size
  clear x00 x01 x02 x03 x04 x10 x11 x12 x13 x14 x15
  clear bA_1 bQ_2 bR_3 m_4 E_5 hb
  obtain ⟨x00, x01, x02, x03, x04⟩ := bA_7.out
  obtain ⟨x10, x11, x12, x13, x14, x15, x16, x17, x18, x19⟩ := bR_9.out
  obtain ⟨Z12, hZ12⟩ : ∃ X, (((((wq6.setCell ⟨w.heap.size + 2, 0, none⟩ (.slice (some ⟨g0, 0, none⟩) 3 c0)).setCell ⟨w.heap.size + 2, 1, none⟩ (.slice b1 S.n5.b e1)).setCell ⟨w.heap.size + 2, 2, none⟩ (.slice (some ⟨g2, 0, none⟩) 3 c2)).setCell ⟨w.heap.size + 2, 3, none⟩ (.slice b3 S.n5.d e3)).setCell ⟨w.heap.size + 2, 4, none⟩ (.slice (some ⟨g4, 0, none⟩) 3 c4)) = X := ⟨_, rfl⟩
  have hz : Box5W Z12 (w.heap.size + 2) (.slice (some ⟨g0, 0, none⟩) 3 c0) (.slice b1 S.n5.b e1) (.slice (some ⟨g2, 0, none⟩) 3 c2) (.slice b3 S.n5.d e3) (.slice (some ⟨g4, 0, none⟩) 3 c4) := by rw [← hZ12]; exact ((((bR_9.out.set0 _).set1 _).set2 _).set3 _).set4 _
  have ht : Btn (w.heap.size + 2) (w.heap.size + 2 + 1) wq6 Z12 := by rw [← hZ12]; exact ((((btn_set _ _ _ _).trans (btn_set _ _ _ _)).trans (btn_set _ _ _ _)).trans (btn_set _ _ _ _)).trans (btn_set _ _ _ _)
  have q0 := S_0.out
  have q1 := S_5.out
  have q2 := S_11.out
  have hhi := HHI.out
  have HZ : Hid (Btn lo hi w Z12) := Btn.of_below (E_11.out.trans (ht.below (by omega) E_11.out.size))
  have HM : Hid (M5 Z12 lo hi (.slice (some ⟨g0, 0, none⟩) 3 c0) (.slice b1 S.n5.b e1) (.slice (some ⟨g2, 0, none⟩) 3 c2) (.slice b3 S.n5.d e3) (.slice (some ⟨g4, 0, none⟩) 3 c4) (S).n5 (S).f5) := m_10.out.btn ht (.inl (by omega))
  clear q0 q1 q2 ht hhi
  go_wp2
  obtain ⟨t0, t1, t2, t3, t4, -, -, -, -, -⟩ := hz
  exact bodyPost_ret (v := .tuple #[.agg #[.slice (some ⟨g0, 0, none⟩) 3 c0, .slice b1 S.n5.b e1, .slice (some ⟨g2, 0, none⟩) 3 c2, .slice b3 S.n5.d e3, .slice (some ⟨g4, 0, none⟩) 3 c4], .int .i64 2]) (by simp [results, Tryd.results24, go_sem, t0, t1, t2, t3, t4]) rfl ⟨rfl, HM, HZ.out⟩

set_option maxRecDepth 100000 in
set_option maxHeartbeats 8000000 in
theorem l5Do_3 (v0 v1 v2 v3 v4 : Value) (S : StT) (who ep num obj pos : Int) (data : List UInt8) (lo hi : Nat) (w : World) (h : M5 w lo hi v0 v1 v2 v3 v4 S.n5 S.f5) (hhi : hi ≤ w.heap.size) (hs : stOkB S = true) (hd : data.length ≤ 9000000) (hq : rqB ⟨who, ep, num, obj, pos, data⟩ = true) (h1 : ¬ ep < S.floors.getD who.toNat 0) (h2 : num ≤ S.last.getD who.toNat 0) :
    Calls Tryd.prog 24 #[.agg #[v0, v1, v2, v3, v4], .agg (rqA ⟨who, ep, num, obj, pos, data⟩)] w (DoSt w lo hi v0 v1 v2 v3 v4 S ⟨who, ep, num, obj, pos, data⟩) := by
  obtain ⟨⟨a1, a2⟩, ⟨p1, p2⟩, ⟨m1, m2⟩, ⟨o1, o2⟩, hwk⟩ := rqB_iff.1 hq
  obtain ⟨w0, wne, wtd, w48⟩ := wokB_iff.1 hwk
  dsimp only at a1 a2 p1 p2 m1 m2 o1 o2 w0 wne wtd w48
  obtain ⟨k, rfl⟩ : ∃ k : Nat, who = k := ⟨who.toNat, by omega⟩
  obtain ⟨o, rfl⟩ : ∃ k : Nat, obj = k := ⟨obj.toNat, by omega⟩
  obtain ⟨p, rfl⟩ : ∃ k : Nat, pos = k := ⟨pos.toNat, by omega⟩
  have hnm := (nmB_iff.1 (stOk_iff.1 hs).2.2).2 k (by omega)
  obtain ⟨hn1, hn2, hn3, hn4, hn5⟩ := numB_iff.1 hnm
  have hC : doC S ⟨k, ep, num, o, p, data⟩ = 3 := doC_3 hq h1 h2
  have hS : doS S ⟨k, ep, num, o, p, data⟩ = S := doS_no (by rw [hC]; decide)
  unfold DoSt
  rw [hC, hS]
  clear hC hS
  obtain ⟨Fk, hFk⟩ : ∃ F, S.floors.getD k 0 = F := ⟨_, rfl⟩
  obtain ⟨Lk, hLk⟩ : ∃ F, S.last.getD k 0 = F := ⟨_, rfl⟩
  have HFk := Lib.hid hFk
  have HLk := Lib.hid hLk
  rw [Int.toNat_natCast] at h1
  rw [Int.toNat_natCast] at h2
  rw [hFk] at hn4 hn5 h1
  rw [hLk] at hn2 hn3 h2
  have k3 : k < 3 := by omega
  have i0 : (0 : Int) ≤ (k : Int) := by omega
  have i1 : (k : Int) < 3 := by omega
  have jw : IntKind.i64.wrap (Lk + 1) = Lk + 1 := IntWalk.i64_in _ (by omega)
  have d1 : decide (ep < Fk) = false := by simp; omega
  have d2 : decide (num ≤ Lk) = true := by simp; omega
  clear hFk hLk hnm hwk
  have ya : S.n5.a = 3 := (stOk_lens hs).1
  obtain ⟨g0, c0, rfl⟩ : ∃ g c, v0 = .slice (some ⟨g, 0, none⟩) 3 c := by
    obtain ⟨g, c, e, -, -⟩ := h.a.at (show 0 < S.n5.a by omega)
    exact ⟨g, c, by rw [e, ya]⟩
  have yc : S.n5.c = 3 := (stOk_lens hs).2.2.1
  obtain ⟨g2, c2, rfl⟩ : ∃ g c, v2 = .slice (some ⟨g, 0, none⟩) 3 c := by
    obtain ⟨g, c, e, -, -⟩ := h.c.at (show 0 < S.n5.c by omega)
    exact ⟨g, c, by rw [e, yc]⟩
  have ye : S.n5.e = 3 := (stOk_lens hs).2.2.2.2
  obtain ⟨g4, c4, rfl⟩ : ∃ g c, v4 = .slice (some ⟨g, 0, none⟩) 3 c := by
    obtain ⟨g, c, e, -, -⟩ := h.e.at (show 0 < S.n5.e by omega)
    exact ⟨g, c, by rw [e, ye]⟩
  obtain ⟨b1, e1, rfl⟩ := h.b.vls.form
  obtain ⟨b3, e3, rfl⟩ := h.d.vls.form
  obtain ⟨W, hW⟩ : ∃ W, ((w.alloc (.cells #[.slice (some ⟨g0, 0, none⟩) 3 c0, .slice b1 S.n5.b e1, .slice (some ⟨g2, 0, none⟩) 3 c2, .slice b3 S.n5.d e3, .slice (some ⟨g4, 0, none⟩) 3 c4] 30)).alloc (.cells (rqA ⟨k, ep, num, o, p, data⟩) 34)).alloc (.cells #[.slice none 0 0, .slice none 0 0, .slice none 0 0, .slice none 0 0, .slice none 0 0] 30) = W := ⟨_, rfl⟩
  have hal : Below w.heap.size w W := by rw [← hW]; exact (((Below.refl _ _).alloc (Nat.le_refl _) _).alloc (by simp) _).alloc (by simp; omega) _
  have A0 : Box5 W w.heap.size (.slice (some ⟨g0, 0, none⟩) 3 c0) (.slice b1 S.n5.b e1) (.slice (some ⟨g2, 0, none⟩) 3 c2) (.slice b3 S.n5.d e3) (.slice (some ⟨g4, 0, none⟩) 3 c4) := by rw [← hW]; exact ((new_box5 w _ _ _ _ _ _).keep ((Below.refl _ _).alloc (Nat.le_refl _) _)).keep ((Below.refl _ _).alloc (Nat.le_refl _) _)
  have B0 : Box6 W (w.heap.size + 1) ⟨k, ep, num, o, p, data⟩ := by
    rw [← hW]
    have := (new_box6 (w.alloc (.cells #[.slice (some ⟨g0, 0, none⟩) 3 c0, .slice b1 S.n5.b e1, .slice (some ⟨g2, 0, none⟩) 3 c2, .slice b3 S.n5.d e3, .slice (some ⟨g4, 0, none⟩) 3 c4] 30)) ⟨k, ep, num, o, p, data⟩ 34).keep ((Below.refl _ _).alloc (Nat.le_refl _) (.cells #[.slice none 0 0, .slice none 0 0, .slice none 0 0, .slice none 0 0, .slice none 0 0] 30))
    simpa using this
  have R0 : Box5W W (w.heap.size + 2) (.slice none 0 0) (.slice none 0 0) (.slice none 0 0) (.slice none 0 0) (.slice none 0 0) := by
    rw [← hW]
    have := new_box5W ((w.alloc (.cells #[.slice (some ⟨g0, 0, none⟩) 3 c0, .slice b1 S.n5.b e1, .slice (some ⟨g2, 0, none⟩) 3 c2, .slice b3 S.n5.d e3, .slice (some ⟨g4, 0, none⟩) 3 c4] 30)).alloc (.cells (rqA ⟨k, ep, num, o, p, data⟩) 34)) (.slice none 0 0) (.slice none 0 0) (.slice none 0 0) (.slice none 0 0) (.slice none 0 0) 30
    simpa using this
  have hl : w.heap.size + 2 < W.heap.size := by rw [← hW]; simp
  have M0 : M5 W lo hi (.slice (some ⟨g0, 0, none⟩) 3 c0) (.slice b1 S.n5.b e1) (.slice (some ⟨g2, 0, none⟩) 3 c2) (.slice b3 S.n5.d e3) (.slice (some ⟨g4, 0, none⟩) 3 c4) S.n5 S.f5 := h.keep hal
  have E_0 := Lib.hid hal
  have S_0 := Lib.hid hl
  have bA_0 := Lib.hid A0
  have bQ_0 := Lib.hid B0
  have bR_0 := Lib.hid R0
  have m_0 := Lib.hid M0
  have HHI := Lib.hid hhi
  clear hal A0 B0 R0 hl M0 h hhi 
  have KQ := l5Req_any ⟨k, ep, num, o, p, data⟩ hd W
  rw [hq] at KQ
  have KQ := Lib.hid KQ
  obtain ⟨x00, x01, x02, x03, x04, x05⟩ := bQ_0.out
  go_enter Tryd.func24, Tryd.ntmps24
  go_wp2_with fail
  clear hW
  refine KQ.out.mono ?_; rintro e w1 ⟨rfl, hb⟩
  have bA_1 := Lib.hid (bA_0.out.keep hb)
  have bQ_2 := Lib.hid (bQ_0.out.keep hb)
  have bR_3 := Lib.hid (bR_0.out.keep hb)
  have m_4 := Lib.hid (m_0.out.keep hb)
  have E_5 := Lib.hid (E_0.out.trans (hb.mono E_0.out.size))
  have S_5 := Lib.hid hb.size
  clear x00 x01 x02 x03 x04 x05
  clear bA_0 bQ_0 bR_0 m_0 E_0 hb
  clear KQ
  clear hq
  obtain ⟨x00, x01, x02, x03, x04⟩ := bA_1.out
  obtain ⟨x10, x11, x12, x13, x14, x15⟩ := bQ_2.out
  have yfr : Row1 w1 g4 3 (intF S.floors) := by
    obtain ⟨g', c', q', hr, -⟩ := m_4.out.e.at (show 0 < S.n5.e by rw [ye]; omega)
    injection q' with q1
    injection q1 with q2
    injection q2 with q3
    rw [ye] at hr
    rw [q3]; exact hr
  have yf : w1.cell? ⟨g4, k, none⟩ = some (.int .i64 Fk) := (yfr k (by omega)).1.trans (by rw [← HFk.out])
  clear yfr
  go_wp2_with fail
  go_quiet (fail)
  rename_i nq
  have hb : Below w1.heap.size w1 (w1.drewN nq) := ⟨rfl, rfl, rfl, Nat.le_refl _, fun _ _ => rfl⟩
  obtain ⟨wq6, hwq⟩ : ∃ X, w1.drewN nq = X := ⟨_, rfl⟩
  rw [hwq] at hb ⊢
  clear hwq yf
  have bA_7 := Lib.hid (bA_1.out.keep hb)
  have bQ_8 := Lib.hid (bQ_2.out.keep hb)
  have bR_9 := Lib.hid (bR_3.out.keep hb)
  have m_10 := Lib.hid (m_4.out.keep hb)
  have E_11 := Lib.hid (E_5.out.trans (hb.mono E_5.out.size))
  have S_11 := Lib.hid hb.size
  clear x00 x01 x02 x03 x04 x10 x11 x12 x13 x14 x15
  clear bA_1 bQ_2 bR_3 m_4 E_5 hb
  obtain ⟨x00, x01, x02, x03, x04⟩ := bA_7.out
  obtain ⟨x10, x11, x12, x13, x14, x15⟩ := bQ_8.out
  have ylr : Row1 wq6 g2 3 (intF S.last) := by
    obtain ⟨g', c', q', hr, -⟩ := m_10.out.c.at (show 0 < S.n5.c by rw [yc]; omega)
    injection q' with q1
    injection q1 with q2
    injection q2 with q3
    rw [yc] at hr
    rw [q3]; exact hr
  have yl : wq6.cell? ⟨g2, k, none⟩ = some (.int .i64 Lk) := (ylr k (by omega)).1.trans (by rw [← HLk.out])
  clear ylr
  go_wp2_with fail
  go_quiet (fail)
  rename_i nq
  have hb : Below wq6.heap.size wq6 (wq6.drewN nq) := ⟨rfl, rfl, rfl, Nat.le_refl _, fun _ _ => rfl⟩
  obtain ⟨wq12, hwq⟩ : ∃ X, wq6.drewN nq = X := ⟨_, rfl⟩
  rw [hwq] at hb ⊢
  clear hwq yl
  have bA_13 := Lib.hid (bA_7.out.keep hb)
  have bQ_14 := Lib.hid (bQ_8.out.keep hb)
  have bR_15 := Lib.hid (bR_9.out.keep hb)
  have m_16 := Lib.hid (m_10.out.keep hb)
  have E_17 := Lib.hid (E_11.out.trans (hb.mono E_11.out.size))
  have S_17 := Lib.hid hb.size
  clear x00 x01 x02 x03 x04 x10 x11 x12 x13 x14 x15
  clear bA_7 bQ_8 bR_9 m_10 E_11 hb
  obtain ⟨x00, x01, x02, x03, x04⟩ := bA_13.out
  obtain ⟨x10, x11, x12, x13, x14, x15, x16, x17, x18, x19⟩ := bR_15.out
  obtain ⟨Z18, hZ18⟩ : ∃ X, (((((wq12.setCell ⟨w.heap.size + 2, 0, none⟩ (.slice (some ⟨g0, 0, none⟩) 3 c0)).setCell ⟨w.heap.size + 2, 1, none⟩ (.slice b1 S.n5.b e1)).setCell ⟨w.heap.size + 2, 2, none⟩ (.slice (some ⟨g2, 0, none⟩) 3 c2)).setCell ⟨w.heap.size + 2, 3, none⟩ (.slice b3 S.n5.d e3)).setCell ⟨w.heap.size + 2, 4, none⟩ (.slice (some ⟨g4, 0, none⟩) 3 c4)) = X := ⟨_, rfl⟩
  have hz : Box5W Z18 (w.heap.size + 2) (.slice (some ⟨g0, 0, none⟩) 3 c0) (.slice b1 S.n5.b e1) (.slice (some ⟨g2, 0, none⟩) 3 c2) (.slice b3 S.n5.d e3) (.slice (some ⟨g4, 0, none⟩) 3 c4) := by rw [← hZ18]; exact ((((bR_15.out.set0 _).set1 _).set2 _).set3 _).set4 _
  have ht : Btn (w.heap.size + 2) (w.heap.size + 2 + 1) wq12 Z18 := by rw [← hZ18]; exact ((((btn_set _ _ _ _).trans (btn_set _ _ _ _)).trans (btn_set _ _ _ _)).trans (btn_set _ _ _ _)).trans (btn_set _ _ _ _)
  have q0 := S_0.out
  have q1 := S_5.out
  have q2 := S_11.out
  have q3 := S_17.out
  have hhi := HHI.out
  have HZ : Hid (Btn lo hi w Z18) := Btn.of_below (E_17.out.trans (ht.below (by omega) E_17.out.size))
  have HM : Hid (M5 Z18 lo hi (.slice (some ⟨g0, 0, none⟩) 3 c0) (.slice b1 S.n5.b e1) (.slice (some ⟨g2, 0, none⟩) 3 c2) (.slice b3 S.n5.d e3) (.slice (some ⟨g4, 0, none⟩) 3 c4) (S).n5 (S).f5) := m_16.out.btn ht (.inl (by omega))
  clear q0 q1 q2 q3 ht hhi
  go_wp2
  obtain ⟨t0, t1, t2, t3, t4, -, -, -, -, -⟩ := hz
  exact bodyPost_ret (v := .tuple #[.agg #[.slice (some ⟨g0, 0, none⟩) 3 c0, .slice b1 S.n5.b e1, .slice (some ⟨g2, 0, none⟩) 3 c2, .slice b3 S.n5.d e3, .slice (some ⟨g4, 0, none⟩) 3 c4], .int .i64 3]) (by simp [results, Tryd.results24, go_sem, t0, t1, t2, t3, t4]) rfl ⟨rfl, HM, HZ.out⟩

set_option maxRecDepth 100000 in
set_option maxHeartbeats 8000000 in
theorem l5Do_4 (v0 v1 v2 v3 v4 : Value) (S : StT) (who ep num obj pos : Int) (data : List UInt8) (lo hi : Nat) (w : World) (h : M5 w lo hi v0 v1 v2 v3 v4 S.n5 S.f5) (hhi : hi ≤ w.heap.size) (hs : stOkB S = true) (hd : data.length ≤ 9000000) (hq : rqB ⟨who, ep, num, obj, pos, data⟩ = true) (h1 : ¬ ep < S.floors.getD who.toNat 0) (h2 : ¬ num ≤ S.last.getD who.toNat 0) (h3 : S.last.getD who.toNat 0 + 1 < num) :
    Calls Tryd.prog 24 #[.agg #[v0, v1, v2, v3, v4], .agg (rqA ⟨who, ep, num, obj, pos, data⟩)] w (DoSt w lo hi v0 v1 v2 v3 v4 S ⟨who, ep, num, obj, pos, data⟩) := by
  obtain ⟨⟨a1, a2⟩, ⟨p1, p2⟩, ⟨m1, m2⟩, ⟨o1, o2⟩, hwk⟩ := rqB_iff.1 hq
  obtain ⟨w0, wne, wtd, w48⟩ := wokB_iff.1 hwk
  dsimp only at a1 a2 p1 p2 m1 m2 o1 o2 w0 wne wtd w48
  obtain ⟨k, rfl⟩ : ∃ k : Nat, who = k := ⟨who.toNat, by omega⟩
  obtain ⟨o, rfl⟩ : ∃ k : Nat, obj = k := ⟨obj.toNat, by omega⟩
  obtain ⟨p, rfl⟩ : ∃ k : Nat, pos = k := ⟨pos.toNat, by omega⟩
  have hnm := (nmB_iff.1 (stOk_iff.1 hs).2.2).2 k (by omega)
  obtain ⟨hn1, hn2, hn3, hn4, hn5⟩ := numB_iff.1 hnm
  have hC : doC S ⟨k, ep, num, o, p, data⟩ = 4 := doC_4 hq h1 h2 h3
  have hS : doS S ⟨k, ep, num, o, p, data⟩ = S := doS_no (by rw [hC]; decide)
  unfold DoSt
  rw [hC, hS]
  clear hC hS
  obtain ⟨Fk, hFk⟩ : ∃ F, S.floors.getD k 0 = F := ⟨_, rfl⟩
  obtain ⟨Lk, hLk⟩ : ∃ F, S.last.getD k 0 = F := ⟨_, rfl⟩
  have HFk := Lib.hid hFk
  have HLk := Lib.hid hLk
  rw [Int.toNat_natCast] at h1
  rw [Int.toNat_natCast] at h2
  rw [Int.toNat_natCast] at h3
  rw [hFk] at hn4 hn5 h1
  rw [hLk] at hn2 hn3 h2 h3
  have k3 : k < 3 := by omega
  have i0 : (0 : Int) ≤ (k : Int) := by omega
  have i1 : (k : Int) < 3 := by omega
  have jw : IntKind.i64.wrap (Lk + 1) = Lk + 1 := IntWalk.i64_in _ (by omega)
  have d1 : decide (ep < Fk) = false := by simp; omega
  have d2 : decide (num ≤ Lk) = false := by simp; omega
  have d3 : decide (Lk + 1 < num) = true := by simp; omega
  clear hFk hLk hnm hwk
  have ya : S.n5.a = 3 := (stOk_lens hs).1
  obtain ⟨g0, c0, rfl⟩ : ∃ g c, v0 = .slice (some ⟨g, 0, none⟩) 3 c := by
    obtain ⟨g, c, e, -, -⟩ := h.a.at (show 0 < S.n5.a by omega)
    exact ⟨g, c, by rw [e, ya]⟩
  have yc : S.n5.c = 3 := (stOk_lens hs).2.2.1
  obtain ⟨g2, c2, rfl⟩ : ∃ g c, v2 = .slice (some ⟨g, 0, none⟩) 3 c := by
    obtain ⟨g, c, e, -, -⟩ := h.c.at (show 0 < S.n5.c by omega)
    exact ⟨g, c, by rw [e, yc]⟩
  have ye : S.n5.e = 3 := (stOk_lens hs).2.2.2.2
  obtain ⟨g4, c4, rfl⟩ : ∃ g c, v4 = .slice (some ⟨g, 0, none⟩) 3 c := by
    obtain ⟨g, c, e, -, -⟩ := h.e.at (show 0 < S.n5.e by omega)
    exact ⟨g, c, by rw [e, ye]⟩
  obtain ⟨b1, e1, rfl⟩ := h.b.vls.form
  obtain ⟨b3, e3, rfl⟩ := h.d.vls.form
  obtain ⟨W, hW⟩ : ∃ W, ((w.alloc (.cells #[.slice (some ⟨g0, 0, none⟩) 3 c0, .slice b1 S.n5.b e1, .slice (some ⟨g2, 0, none⟩) 3 c2, .slice b3 S.n5.d e3, .slice (some ⟨g4, 0, none⟩) 3 c4] 30)).alloc (.cells (rqA ⟨k, ep, num, o, p, data⟩) 34)).alloc (.cells #[.slice none 0 0, .slice none 0 0, .slice none 0 0, .slice none 0 0, .slice none 0 0] 30) = W := ⟨_, rfl⟩
  have hal : Below w.heap.size w W := by rw [← hW]; exact (((Below.refl _ _).alloc (Nat.le_refl _) _).alloc (by simp) _).alloc (by simp; omega) _
  have A0 : Box5 W w.heap.size (.slice (some ⟨g0, 0, none⟩) 3 c0) (.slice b1 S.n5.b e1) (.slice (some ⟨g2, 0, none⟩) 3 c2) (.slice b3 S.n5.d e3) (.slice (some ⟨g4, 0, none⟩) 3 c4) := by rw [← hW]; exact ((new_box5 w _ _ _ _ _ _).keep ((Below.refl _ _).alloc (Nat.le_refl _) _)).keep ((Below.refl _ _).alloc (Nat.le_refl _) _)
  have B0 : Box6 W (w.heap.size + 1) ⟨k, ep, num, o, p, data⟩ := by
    rw [← hW]
    have := (new_box6 (w.alloc (.cells #[.slice (some ⟨g0, 0, none⟩) 3 c0, .slice b1 S.n5.b e1, .slice (some ⟨g2, 0, none⟩) 3 c2, .slice b3 S.n5.d e3, .slice (some ⟨g4, 0, none⟩) 3 c4] 30)) ⟨k, ep, num, o, p, data⟩ 34).keep ((Below.refl _ _).alloc (Nat.le_refl _) (.cells #[.slice none 0 0, .slice none 0 0, .slice none 0 0, .slice none 0 0, .slice none 0 0] 30))
    simpa using this
  have R0 : Box5W W (w.heap.size + 2) (.slice none 0 0) (.slice none 0 0) (.slice none 0 0) (.slice none 0 0) (.slice none 0 0) := by
    rw [← hW]
    have := new_box5W ((w.alloc (.cells #[.slice (some ⟨g0, 0, none⟩) 3 c0, .slice b1 S.n5.b e1, .slice (some ⟨g2, 0, none⟩) 3 c2, .slice b3 S.n5.d e3, .slice (some ⟨g4, 0, none⟩) 3 c4] 30)).alloc (.cells (rqA ⟨k, ep, num, o, p, data⟩) 34)) (.slice none 0 0) (.slice none 0 0) (.slice none 0 0) (.slice none 0 0) (.slice none 0 0) 30
    simpa using this
  have hl : w.heap.size + 2 < W.heap.size := by rw [← hW]; simp
  have M0 : M5 W lo hi (.slice (some ⟨g0, 0, none⟩) 3 c0) (.slice b1 S.n5.b e1) (.slice (some ⟨g2, 0, none⟩) 3 c2) (.slice b3 S.n5.d e3) (.slice (some ⟨g4, 0, none⟩) 3 c4) S.n5 S.f5 := h.keep hal
  have E_0 := Lib.hid hal
  have S_0 := Lib.hid hl
  have bA_0 := Lib.hid A0
  have bQ_0 := Lib.hid B0
  have bR_0 := Lib.hid R0
  have m_0 := Lib.hid M0
  have HHI := Lib.hid hhi
  clear hal A0 B0 R0 hl M0 h hhi 
  have KQ := l5Req_any ⟨k, ep, num, o, p, data⟩ hd W
  rw [hq] at KQ
  have KQ := Lib.hid KQ
  obtain ⟨x00, x01, x02, x03, x04, x05⟩ := bQ_0.out
  go_enter Tryd.func24, Tryd.ntmps24
  go_wp2_with fail
  clear hW
  refine KQ.out.mono ?_; rintro e w1 ⟨rfl, hb⟩
  have bA_1 := Lib.hid (bA_0.out.keep hb)
  have bQ_2 := Lib.hid (bQ_0.out.keep hb)
  have bR_3 := Lib.hid (bR_0.out.keep hb)
  have m_4 := Lib.hid (m_0.out.keep hb)
  have E_5 := Lib.hid (E_0.out.trans (hb.mono E_0.out.size))
  have S_5 := Lib.hid hb.size
  clear x00 x01 x02 x03 x04 x05
  clear bA_0 bQ_0 bR_0 m_0 E_0 hb
  clear KQ
  clear hq
  obtain ⟨x00, x01, x02, x03, x04⟩ := bA_1.out
  obtain ⟨x10, x11, x12, x13, x14, x15⟩ := bQ_2.out
  have yfr : Row1 w1 g4 3 (intF S.floors) := by
    obtain ⟨g', c', q', hr, -⟩ := m_4.out.e.at (show 0 < S.n5.e by rw [ye]; omega)
    injection q' with q1
    injection q1 with q2
    injection q2 with q3
    rw [ye] at hr
    rw [q3]; exact hr
  have yf : w1.cell? ⟨g4, k, none⟩ = some (.int .i64 Fk) := (yfr k (by omega)).1.trans (by rw [← HFk.out])
  clear yfr
  go_wp2_with fail
  go_quiet (fail)
  rename_i nq
  have hb : Below w1.heap.size w1 (w1.drewN nq) := ⟨rfl, rfl, rfl, Nat.le_refl _, fun _ _ => rfl⟩
  obtain ⟨wq6, hwq⟩ : ∃ X, w1.drewN nq = X := ⟨_, rfl⟩
  rw [hwq] at hb ⊢
  clear hwq yf
  have bA_7 := Lib.hid (bA_1.out.keep hb)
  have bQ_8 := Lib.hid (bQ_2.out.keep hb)
  have bR_9 := Lib.hid (bR_3.out.keep hb)
  have m_10 := Lib.hid (m_4.out.keep hb)
  have E_11 := Lib.hid (E_5.out.trans (hb.mono E_5.out.size))
  have S_11 := Lib.hid hb.size
  clear x00 x01 x02 x03 x04 x10 x11 x12 x13 x14 x15
  clear bA_1 bQ_2 bR_3 m_4 E_5 hb
  obtain ⟨x00, x01, x02, x03, x04⟩ := bA_7.out
  obtain ⟨x10, x11, x12, x13, x14, x15⟩ := bQ_8.out
  have ylr : Row1 wq6 g2 3 (intF S.last) := by
    obtain ⟨g', c', q', hr, -⟩ := m_10.out.c.at (show 0 < S.n5.c by rw [yc]; omega)
    injection q' with q1
    injection q1 with q2
    injection q2 with q3
    rw [yc] at hr
    rw [q3]; exact hr
  have yl : wq6.cell? ⟨g2, k, none⟩ = some (.int .i64 Lk) := (ylr k (by omega)).1.trans (by rw [← HLk.out])
  clear ylr
  go_wp2_with fail
  go_quiet (fail)
  rename_i nq
  have hb : Below wq6.heap.size wq6 (wq6.drewN nq) := ⟨rfl, rfl, rfl, Nat.le_refl _, fun _ _ => rfl⟩
  obtain ⟨wq12, hwq⟩ : ∃ X, wq6.drewN nq = X := ⟨_, rfl⟩
  rw [hwq] at hb ⊢
  clear hwq yl
  have bA_13 := Lib.hid (bA_7.out.keep hb)
  have bQ_14 := Lib.hid (bQ_8.out.keep hb)
  have bR_15 := Lib.hid (bR_9.out.keep hb)
  have m_16 := Lib.hid (m_10.out.keep hb)
  have E_17 := Lib.hid (E_11.out.trans (hb.mono E_11.out.size))
  have S_17 := Lib.hid hb.size
  clear x00 x01 x02 x03 x04 x10 x11 x12 x13 x14 x15
  clear bA_7 bQ_8 bR_9 m_10 E_11 hb
  obtain ⟨x00, x01, x02, x03, x04⟩ := bA_13.out
  obtain ⟨x10, x11, x12, x13, x14, x15⟩ := bQ_14.out
  have ylr : Row1 wq12 g2 3 (intF S.last) := by
    obtain ⟨g', c', q', hr, -⟩ := m_16.out.c.at (show 0 < S.n5.c by rw [yc]; omega)
    injection q' with q1
    injection q1 with q2
    injection q2 with q3
    rw [yc] at hr
    rw [q3]; exact hr
  have yl : wq12.cell? ⟨g2, k, none⟩ = some (.int .i64 Lk) := (ylr k (by omega)).1.trans (by rw [← HLk.out])
  clear ylr
  go_wp2_with fail
  go_quiet (fail)
  rename_i nq
  have hb : Below wq12.heap.size wq12 (wq12.drewN nq) := ⟨rfl, rfl, rfl, Nat.le_refl _, fun _ _ => rfl⟩
  obtain ⟨wq18, hwq⟩ : ∃ X, wq12.drewN nq = X := ⟨_, rfl⟩
  rw [hwq] at hb ⊢
  clear hwq yl
  have bA_19 := Lib.hid (bA_13.out.keep hb)
  have bQ_20 := Lib.hid (bQ_14.out.keep hb)
  have bR_21 := Lib.hid (bR_15.out.keep hb)
  have m_22 := Lib.hid (m_16.out.keep hb)
  have E_23 := Lib.hid (E_17.out.trans (hb.mono E_17.out.size))
  have S_23 := Lib.hid hb.size
  clear x00 x01 x02 x03 x04 x10 x11 x12 x13 x14 x15
  clear bA_13 bQ_14 bR_15 m_16 E_17 hb
  obtain ⟨x00, x01, x02, x03, x04⟩ := bA_19.out
  obtain ⟨x10, x11, x12, x13, x14, x15, x16, x17, x18, x19⟩ := bR_21.out
  obtain ⟨Z24, hZ24⟩ : ∃ X, (((((wq18.setCell ⟨w.heap.size + 2, 0, none⟩ (.slice (some ⟨g0, 0, none⟩) 3 c0)).setCell ⟨w.heap.size + 2, 1, none⟩ (.slice b1 S.n5.b e1)).setCell ⟨w.heap.size + 2, 2, none⟩ (.slice (some ⟨g2, 0, none⟩) 3 c2)).setCell ⟨w.heap.size + 2, 3, none⟩ (.slice b3 S.n5.d e3)).setCell ⟨w.heap.size + 2, 4, none⟩ (.slice (some ⟨g4, 0, none⟩) 3 c4)) = X := ⟨_, rfl⟩
  have hz : Box5W Z24 (w.heap.size + 2) (.slice (some ⟨g0, 0, none⟩) 3 c0) (.slice b1 S.n5.b e1) (.slice (some ⟨g2, 0, none⟩) 3 c2) (.slice b3 S.n5.d e3) (.slice (some ⟨g4, 0, none⟩) 3 c4) := by rw [← hZ24]; exact ((((bR_21.out.set0 _).set1 _).set2 _).set3 _).set4 _
  have ht : Btn (w.heap.size + 2) (w.heap.size + 2 + 1) wq18 Z24 := by rw [← hZ24]; exact ((((btn_set _ _ _ _).trans (btn_set _ _ _ _)).trans (btn_set _ _ _ _)).trans (btn_set _ _ _ _)).trans (btn_set _ _ _ _)
  have q0 := S_0.out
  have q1 := S_5.out
  have q2 := S_11.out
  have q3 := S_17.out
  have q4 := S_23.out
  have hhi := HHI.out
  have HZ : Hid (Btn lo hi w Z24) := Btn.of_below (E_23.out.trans (ht.below (by omega) E_23.out.size))
  have HM : Hid (M5 Z24 lo hi (.slice (some ⟨g0, 0, none⟩) 3 c0) (.slice b1 S.n5.b e1) (.slice (some ⟨g2, 0, none⟩) 3 c2) (.slice b3 S.n5.d e3) (.slice (some ⟨g4, 0, none⟩) 3 c4) (S).n5 (S).f5) := m_22.out.btn ht (.inl (by omega))
  clear q0 q1 q2 q3 q4 ht hhi
  go_wp2
  obtain ⟨t0, t1, t2, t3, t4, -, -, -, -, -⟩ := hz
  exact bodyPost_ret (v := .tuple #[.agg #[.slice (some ⟨g0, 0, none⟩) 3 c0, .slice b1 S.n5.b e1, .slice (some ⟨g2, 0, none⟩) 3 c2, .slice b3 S.n5.d e3, .slice (some ⟨g4, 0, none⟩) 3 c4], .int .i64 4]) (by simp [results, Tryd.results24, go_sem, t0, t1, t2, t3, t4]) rfl ⟨rfl, HM, HZ.out⟩

end Go.Proofs.YtadoihddmbbjoaaDoor

namespace Go.Proofs.YtadoihddmbbjoaaDoor
open Go.RowKit

theorem frz_keepD {w w1 : World} {b o : Nat} {v : Value} (hb : Below w.heap.size w w1) (hc : w.cell? ⟨b, o, none⟩ = some v) (hf : w.frozen? ⟨b, o, none⟩ = false) : w1.frozen? ⟨b, o, none⟩ = false :=
  (World.frozen?_of_block (a := ⟨b, o, none⟩) (hb.block b (World.block_lt_of_cell? w _ hc))).trans hf
theorem btn_in {l h' lo hi : Nat} {a b : World} (h : Btn l h' a b) (h1 : lo ≤ l) (h2 : l < hi) (h3 : h' = l + 1 := by rfl) : Btn lo hi a b :=
  ⟨h.os, h.tape, h.output, h.size, fun i hi' hn => h.block i hi' (by omega)⟩

set_option maxRecDepth 100000 in
set_option maxHeartbeats 8000000 in
theorem l5Do_0 (v0 v1 v2 v3 v4 : Value) (S : StT) (who ep num obj pos : Int) (data : List UInt8) (lo hi : Nat) (w : World) (h : M5 w lo hi v0 v1 v2 v3 v4 S.n5 S.f5) (hhi : hi ≤ w.heap.size) (hs : stOkB S = true) (hd : data.length ≤ 9000000) (hq : rqB ⟨who, ep, num, obj, pos, data⟩ = true) (h1 : ¬ ep < S.floors.getD who.toNat 0) (h2 : ¬ num ≤ S.last.getD who.toNat 0) (h3 : ¬ S.last.getD who.toNat 0 + 1 < num) :
    Calls Tryd.prog 24 #[.agg #[v0, v1, v2, v3, v4], .agg (rqA ⟨who, ep, num, obj, pos, data⟩)] w (DoSt w lo hi v0 v1 v2 v3 v4 S ⟨who, ep, num, obj, pos, data⟩) := by
  obtain ⟨⟨a1, a2⟩, ⟨p1, p2⟩, ⟨m1, m2⟩, ⟨o1, o2⟩, hwk⟩ := rqB_iff.1 hq
  obtain ⟨w0, wne, wtd, w48⟩ := wokB_iff.1 hwk
  dsimp only at a1 a2 p1 p2 m1 m2 o1 o2 w0 wne wtd w48
  obtain ⟨k, rfl⟩ : ∃ k : Nat, who = k := ⟨who.toNat, by omega⟩
  obtain ⟨o, rfl⟩ : ∃ k : Nat, obj = k := ⟨obj.toNat, by omega⟩
  obtain ⟨p, rfl⟩ : ∃ k : Nat, pos = k := ⟨pos.toNat, by omega⟩
  have hnm := (nmB_iff.1 (stOk_iff.1 hs).2.2).2 k (by omega)
  obtain ⟨hn1, hn2, hn3, hn4, hn5⟩ := numB_iff.1 hnm
  have hC : doC S ⟨k, ep, num, o, p, data⟩ = 0 := doC_0 hq h1 h2 h3
  have hS : doS S ⟨k, ep, num, o, p, data⟩ = { S with now := S.now.set o (wrL (S.now.getD o []) p data), last := S.last.set k num } := doS_yes hC
  unfold DoSt
  rw [hC, hS]
  clear hC hS
  have hto := txB_at (stOk_iff.1 hs).1 (show o < 3 by omega)
  obtain ⟨So, hSo⟩ : ∃ F, S.now.getD o [] = F := ⟨_, rfl⟩
  have HSo := Lib.hid hSo
  rw [hSo] at hto
  have KL := Lib.hid (fun w => l2Write_any So p data (tokB_len hto) (by omega) w)
  rw [hSo]
  obtain ⟨Nw, hNw⟩ : ∃ N, wrL So p data = N := ⟨_, rfl⟩
  rw [hNw] at KL ⊢
  clear hSo hNw hto
  have o3 : o < 3 := by omega
  have j0 : (0 : Int) ≤ (o : Int) := by omega
  have j1 : (o : Int) < 3 := by omega
  obtain ⟨Fk, hFk⟩ : ∃ F, S.floors.getD k 0 = F := ⟨_, rfl⟩
  obtain ⟨Lk, hLk⟩ : ∃ F, S.last.getD k 0 = F := ⟨_, rfl⟩
  have HFk := Lib.hid hFk
  have HLk := Lib.hid hLk
  rw [Int.toNat_natCast] at h1
  rw [Int.toNat_natCast] at h2
  rw [Int.toNat_natCast] at h3
  rw [hFk] at hn4 hn5 h1
  rw [hLk] at hn2 hn3 h2 h3
  have k3 : k < 3 := by omega
  have i0 : (0 : Int) ≤ (k : Int) := by omega
  have i1 : (k : Int) < 3 := by omega
  have jw : IntKind.i64.wrap (Lk + 1) = Lk + 1 := IntWalk.i64_in _ (by omega)
  have d1 : decide (ep < Fk) = false := by simp; omega
  have d2 : decide (num ≤ Lk) = false := by simp; omega
  have d3 : decide (Lk + 1 < num) = false := by simp; omega
  clear hFk hLk hnm hwk
  have ya : S.n5.a = 3 := (stOk_lens hs).1
  obtain ⟨g0, c0, rfl⟩ : ∃ g c, v0 = .slice (some ⟨g, 0, none⟩) 3 c := by
    obtain ⟨g, c, e, -, -⟩ := h.a.at (show 0 < S.n5.a by omega)
    exact ⟨g, c, by rw [e, ya]⟩
  have yc : S.n5.c = 3 := (stOk_lens hs).2.2.1
  obtain ⟨g2, c2, rfl⟩ : ∃ g c, v2 = .slice (some ⟨g, 0, none⟩) 3 c := by
    obtain ⟨g, c, e, -, -⟩ := h.c.at (show 0 < S.n5.c by omega)
    exact ⟨g, c, by rw [e, yc]⟩
  have ye : S.n5.e = 3 := (stOk_lens hs).2.2.2.2
  obtain ⟨g4, c4, rfl⟩ : ∃ g c, v4 = .slice (some ⟨g, 0, none⟩) 3 c := by
    obtain ⟨g, c, e, -, -⟩ := h.e.at (show 0 < S.n5.e by omega)
    exact ⟨g, c, by rw [e, ye]⟩
  obtain ⟨b1, e1, rfl⟩ := h.b.vls.form
  obtain ⟨b3, e3, rfl⟩ := h.d.vls.form
  obtain ⟨W, hW⟩ : ∃ W, ((w.alloc (.cells #[.slice (some ⟨g0, 0, none⟩) 3 c0, .slice b1 S.n5.b e1, .slice (some ⟨g2, 0, none⟩) 3 c2, .slice b3 S.n5.d e3, .slice (some ⟨g4, 0, none⟩) 3 c4] 30)).alloc (.cells (rqA ⟨k, ep, num, o, p, data⟩) 34)).alloc (.cells #[.slice none 0 0, .slice none 0 0, .slice none 0 0, .slice none 0 0, .slice none 0 0] 30) = W := ⟨_, rfl⟩
  have hal : Below w.heap.size w W := by rw [← hW]; exact (((Below.refl _ _).alloc (Nat.le_refl _) _).alloc (by simp) _).alloc (by simp; omega) _
  have A0 : Box5 W w.heap.size (.slice (some ⟨g0, 0, none⟩) 3 c0) (.slice b1 S.n5.b e1) (.slice (some ⟨g2, 0, none⟩) 3 c2) (.slice b3 S.n5.d e3) (.slice (some ⟨g4, 0, none⟩) 3 c4) := by rw [← hW]; exact ((new_box5 w _ _ _ _ _ _).keep ((Below.refl _ _).alloc (Nat.le_refl _) _)).keep ((Below.refl _ _).alloc (Nat.le_refl _) _)
  have B0 : Box6 W (w.heap.size + 1) ⟨k, ep, num, o, p, data⟩ := by
    rw [← hW]
    have := (new_box6 (w.alloc (.cells #[.slice (some ⟨g0, 0, none⟩) 3 c0, .slice b1 S.n5.b e1, .slice (some ⟨g2, 0, none⟩) 3 c2, .slice b3 S.n5.d e3, .slice (some ⟨g4, 0, none⟩) 3 c4] 30)) ⟨k, ep, num, o, p, data⟩ 34).keep ((Below.refl _ _).alloc (Nat.le_refl _) (.cells #[.slice none 0 0, .slice none 0 0, .slice none 0 0, .slice none 0 0, .slice none 0 0] 30))
    simpa using this
  have R0 : Box5W W (w.heap.size + 2) (.slice none 0 0) (.slice none 0 0) (.slice none 0 0) (.slice none 0 0) (.slice none 0 0) := by
    rw [← hW]
    have := new_box5W ((w.alloc (.cells #[.slice (some ⟨g0, 0, none⟩) 3 c0, .slice b1 S.n5.b e1, .slice (some ⟨g2, 0, none⟩) 3 c2, .slice b3 S.n5.d e3, .slice (some ⟨g4, 0, none⟩) 3 c4] 30)).alloc (.cells (rqA ⟨k, ep, num, o, p, data⟩) 34)) (.slice none 0 0) (.slice none 0 0) (.slice none 0 0) (.slice none 0 0) (.slice none 0 0) 30
    simpa using this
  have hl : w.heap.size + 2 < W.heap.size := by rw [← hW]; simp
  have M0 : M5 W lo hi (.slice (some ⟨g0, 0, none⟩) 3 c0) (.slice b1 S.n5.b e1) (.slice (some ⟨g2, 0, none⟩) 3 c2) (.slice b3 S.n5.d e3) (.slice (some ⟨g4, 0, none⟩) 3 c4) S.n5 S.f5 := h.keep hal
  have E_0 := Lib.hid hal
  have S_0 := Lib.hid hl
  have bA_0 := Lib.hid A0
  have bQ_0 := Lib.hid B0
  have bR_0 := Lib.hid R0
  have m_0 := Lib.hid M0
  have HHI := Lib.hid hhi
  clear hal A0 B0 R0 hl M0 h hhi 
  have KQ := l5Req_any ⟨k, ep, num, o, p, data⟩ hd W
  rw [hq] at KQ
  have KQ := Lib.hid KQ
  obtain ⟨x00, x01, x02, x03, x04, x05⟩ := bQ_0.out
  go_enter Tryd.func24, Tryd.ntmps24
  go_wp2_with fail
  clear hW
  refine KQ.out.mono ?_; rintro e w1 ⟨rfl, hb⟩
  have bA_1 := Lib.hid (bA_0.out.keep hb)
  have bQ_2 := Lib.hid (bQ_0.out.keep hb)
  have bR_3 := Lib.hid (bR_0.out.keep hb)
  have m_4 := Lib.hid (m_0.out.keep hb)
  have E_5 := Lib.hid (E_0.out.trans (hb.mono E_0.out.size))
  have S_5 := Lib.hid hb.size
  clear x00 x01 x02 x03 x04 x05
  clear bA_0 bQ_0 bR_0 m_0 E_0 hb
  clear KQ
  clear hq
  obtain ⟨x00, x01, x02, x03, x04⟩ := bA_1.out
  obtain ⟨x10, x11, x12, x13, x14, x15⟩ := bQ_2.out
  have yfr : Row1 w1 g4 3 (intF S.floors) := by
    obtain ⟨g', c', q', hr, -⟩ := m_4.out.e.at (show 0 < S.n5.e by rw [ye]; omega)
    injection q' with q1
    injection q1 with q2
    injection q2 with q3
    rw [ye] at hr
    rw [q3]; exact hr
  have yf : w1.cell? ⟨g4, k, none⟩ = some (.int .i64 Fk) := (yfr k (by omega)).1.trans (by rw [← HFk.out])
  clear yfr
  go_wp2_with fail
  go_quiet (fail)
  rename_i nq
  have hb : Below w1.heap.size w1 (w1.drewN nq) := ⟨rfl, rfl, rfl, Nat.le_refl _, fun _ _ => rfl⟩
  obtain ⟨wq6, hwq⟩ : ∃ X, w1.drewN nq = X := ⟨_, rfl⟩
  rw [hwq] at hb ⊢
  clear hwq yf
  have bA_7 := Lib.hid (bA_1.out.keep hb)
  have bQ_8 := Lib.hid (bQ_2.out.keep hb)
  have bR_9 := Lib.hid (bR_3.out.keep hb)
  have m_10 := Lib.hid (m_4.out.keep hb)
  have E_11 := Lib.hid (E_5.out.trans (hb.mono E_5.out.size))
  have S_11 := Lib.hid hb.size
  clear x00 x01 x02 x03 x04 x10 x11 x12 x13 x14 x15
  clear bA_1 bQ_2 bR_3 m_4 E_5 hb
  obtain ⟨x00, x01, x02, x03, x04⟩ := bA_7.out
  obtain ⟨x10, x11, x12, x13, x14, x15⟩ := bQ_8.out
  have ylr : Row1 wq6 g2 3 (intF S.last) := by
    obtain ⟨g', c', q', hr, -⟩ := m_10.out.c.at (show 0 < S.n5.c by rw [yc]; omega)
    injection q' with q1
    injection q1 with q2
    injection q2 with q3
    rw [yc] at hr
    rw [q3]; exact hr
  have yl : wq6.cell? ⟨g2, k, none⟩ = some (.int .i64 Lk) := (ylr k (by omega)).1.trans (by rw [← HLk.out])
  clear ylr
  go_wp2_with fail
  go_quiet (fail)
  rename_i nq
  have hb : Below wq6.heap.size wq6 (wq6.drewN nq) := ⟨rfl, rfl, rfl, Nat.le_refl _, fun _ _ => rfl⟩
  obtain ⟨wq12, hwq⟩ : ∃ X, wq6.drewN nq = X := ⟨_, rfl⟩
  rw [hwq] at hb ⊢
  clear hwq yl
  have bA_13 := Lib.hid (bA_7.out.keep hb)
  have bQ_14 := Lib.hid (bQ_8.out.keep hb)
  have bR_15 := Lib.hid (bR_9.out.keep hb)
  have m_16 := Lib.hid (m_10.out.keep hb)
  have E_17 := Lib.hid (E_11.out.trans (hb.mono E_11.out.size))
  have S_17 := Lib.hid hb.size
  clear x00 x01 x02 x03 x04 x10 x11 x12 x13 x14 x15
  clear bA_7 bQ_8 bR_9 m_10 E_11 hb
  obtain ⟨x00, x01, x02, x03, x04⟩ := bA_13.out
  obtain ⟨x10, x11, x12, x13, x14, x15⟩ := bQ_14.out
  have ylr : Row1 wq12 g2 3 (intF S.last) := by
    obtain ⟨g', c', q', hr, -⟩ := m_16.out.c.at (show 0 < S.n5.c by rw [yc]; omega)
    injection q' with q1
    injection q1 with q2
    injection q2 with q3
    rw [yc] at hr
    rw [q3]; exact hr
  have yl : wq12.cell? ⟨g2, k, none⟩ = some (.int .i64 Lk) := (ylr k (by omega)).1.trans (by rw [← HLk.out])
  clear ylr
  go_wp2_with fail
  go_quiet (fail)
  rename_i nq
  have hb : Below wq12.heap.size wq12 (wq12.drewN nq) := ⟨rfl, rfl, rfl, Nat.le_refl _, fun _ _ => rfl⟩
  obtain ⟨wq18, hwq⟩ : ∃ X, wq12.drewN nq = X := ⟨_, rfl⟩
  rw [hwq] at hb ⊢
  clear hwq yl
  have bA_19 := Lib.hid (bA_13.out.keep hb)
  have bQ_20 := Lib.hid (bQ_14.out.keep hb)
  have bR_21 := Lib.hid (bR_15.out.keep hb)
  have m_22 := Lib.hid (m_16.out.keep hb)
  have E_23 := Lib.hid (E_17.out.trans (hb.mono E_17.out.size))
  have S_23 := Lib.hid hb.size
  clear x00 x01 x02 x03 x04 x10 x11 x12 x13 x14 x15
  clear bA_13 bQ_14 bR_15 m_16 E_17 hb
  obtain ⟨x00, x01, x02, x03, x04⟩ := bA_19.out
  obtain ⟨x10, x11, x12, x13, x14, x15⟩ := bQ_20.out
  have hra : Row1 wq18 g0 3 (strF S.now) := by
    obtain ⟨g', c', q', hr, -⟩ := m_22.out.a.at (show 0 < S.n5.a by rw [ya]; omega)
    injection q' with q1
    injection q1 with q2
    injection q2 with q3
    rw [ya] at hr
    rw [q3]; exact hr
  have yn : wq18.cell? ⟨g0, o, none⟩ = some (.string (mkB So)) := (hra o (by omega)).1.trans (by show some (Value.string (mkB (S.now.getD o []))) = _; rw [HSo.out])
  have fn := (hra o (by omega)).2
  clear hra
  go_wp2_with fail
  obtain ⟨V, hV⟩ : ∃ V : Nat → Value, V = fun i => (#[.pointer (some ⟨w.heap.size, 0, none⟩), .slice (some ⟨g0, 0, none⟩) 3 c0, .pointer (some ⟨w.heap.size + 1, 3, none⟩), .int .i64 o, .pointer (some ⟨w.heap.size, 0, none⟩), .slice (some ⟨g0, 0, none⟩) 3 c0, .pointer (some ⟨w.heap.size + 1, 3, none⟩), .int .i64 o, .pointer (some ⟨g0, o, none⟩), .string (mkB So), .pointer (some ⟨w.heap.size + 1, 4, none⟩), .int .i64 p, .pointer (some ⟨w.heap.size + 1, 5, none⟩), .string (mkB data), .string (mkB Nw), .pointer (some ⟨g0, o, none⟩)] : Array Value).getD i undef := ⟨_, rfl⟩
  have V0 : V 0 = .pointer (some ⟨w.heap.size, 0, none⟩) := by rw [hV]; rfl
  have V1 : V 1 = .slice (some ⟨g0, 0, none⟩) 3 c0 := by rw [hV]; rfl
  have V2 : V 2 = .pointer (some ⟨w.heap.size + 1, 3, none⟩) := by rw [hV]; rfl
  have V3 : V 3 = .int .i64 o := by rw [hV]; rfl
  have V4 : V 4 = .pointer (some ⟨w.heap.size, 0, none⟩) := by rw [hV]; rfl
  have V5 : V 5 = .slice (some ⟨g0, 0, none⟩) 3 c0 := by rw [hV]; rfl
  have V6 : V 6 = .pointer (some ⟨w.heap.size + 1, 3, none⟩) := by rw [hV]; rfl
  have V7 : V 7 = .int .i64 o := by rw [hV]; rfl
  have V8 : V 8 = .pointer (some ⟨g0, o, none⟩) := by rw [hV]; rfl
  have V9 : V 9 = .string (mkB So) := by rw [hV]; rfl
  have V10 : V 10 = .pointer (some ⟨w.heap.size + 1, 4, none⟩) := by rw [hV]; rfl
  have V11 : V 11 = .int .i64 p := by rw [hV]; rfl
  have V12 : V 12 = .pointer (some ⟨w.heap.size + 1, 5, none⟩) := by rw [hV]; rfl
  have V13 : V 13 = .string (mkB data) := by rw [hV]; rfl
  have V14 : V 14 = .string (mkB Nw) := by rw [hV]; rfl
  have V15 : V 15 = .pointer (some ⟨g0, o, none⟩) := by rw [hV]; rfl
  have V16 : V 16 = undef := by rw [hV]; rfl
  clear hV
  refine wp_region_fix 16 (fun _ => false) (fun x => ({ tmps := #[Value.agg #[Value.slice (some { block := g0, off := 0 }) 3 c0, Value.slice b1 S.n5.b e1, Value.slice (some { block := g2, off := 0 }) 3 c2, Value.slice b3 S.n5.d e3, Value.slice (some { block := g4, off := 0 }) 3 c4], Value.agg (rqA { who := ↑k, ep := ep, num := num, obj := ↑o, pos := ↑p, data := data }), Value.pointer (some { block := w.heap.size, off := 0 }), Value.pointer (some { block := w.heap.size + 1, off := 0 }), Value.pointer (some { block := w.heap.size + 1 + 1, off := 0 }), Value.int IntKind.i64 0, Value.bool false, Value.agg #[Value.int IntKind.i64 ↑k, Value.int IntKind.i64 ep, Value.int IntKind.i64 num, Value.int IntKind.i64 ↑o, Value.int IntKind.i64 ↑p, Value.string (mkB data)], Value.bool true, Value.bool false, undef, Value.bool false, Value.pointer (some { block := w.heap.size + 1, off := 1 }), Value.int IntKind.i64 ep, Value.pointer (some { block := w.heap.size, off := 4 }), Value.slice (some { block := g4, off := 0 }) 3 c4, Value.pointer (some { block := w.heap.size + 1, off := 0 }), Value.int IntKind.i64 ↑k, Value.pointer (some { block := g4, off := k }), Value.int IntKind.i64 Fk, Value.bool false, undef, Value.bool false, Value.pointer (some { block := w.heap.size + 1, off := 2 }), Value.int IntKind.i64 num, Value.pointer (some { block := w.heap.size, off := 2 }), Value.slice (some { block := g2, off := 0 }) 3 c2, Value.pointer (some { block := w.heap.size + 1, off := 0 }), Value.int IntKind.i64 ↑k, Value.pointer (some { block := g2, off := k }), Value.int IntKind.i64 Lk, Value.bool false, undef, Value.bool false, Value.pointer (some { block := w.heap.size + 1, off := 2 }), Value.int IntKind.i64 num, Value.pointer (some { block := w.heap.size, off := 2 }), Value.slice (some { block := g2, off := 0 }) 3 c2, Value.pointer (some { block := w.heap.size + 1, off := 0 }), Value.int IntKind.i64 ↑k, Value.pointer (some { block := g2, off := k }), Value.int IntKind.i64 Lk, Value.int IntKind.i64 (Lk + 1), Value.bool false, undef, x 0, x 1, x 2, x 3, x 4, x 5, x 6, x 7, x 8, x 9, x 10, x 11, x 12, x 13, x 14, x 15, undef, undef, undef, undef, undef, undef, undef, undef], defers := [] } : Act)) V (fun w' => ∃ w0, Below wq18.heap.size wq18 w0 ∧ w' = w0.setCell ⟨g0, o, none⟩ (.string (mkB Nw))) (x0 := fun i => (#[undef, undef, undef, undef, undef, undef, undef, undef, undef, undef, undef, undef, undef, undef, undef, undef, undef] : Array Value).getD i undef) rfl (by kernel_rfl) (by kernel_rfl) (by kernel_rfl) (by kernel_rfl) (by kernel_rfl) ?_ ?_ ?_ ?_ ?_
  · intro x y h
    simp only [h 0 (by decide), h 1 (by decide), h 2 (by decide), h 3 (by decide), h 4 (by decide), h 5 (by decide), h 6 (by decide), h 7 (by decide), h 8 (by decide), h 9 (by decide), h 10 (by decide), h 11 (by decide), h 12 (by decide), h 13 (by decide), h 14 (by decide), h 15 (by decide)]
  · rintro i oi x w' hi ho hbe hon
    have z0 := cell_keep hbe x00
    have z3 := cell_keep hbe x13
    have z4 := cell_keep hbe x14
    have z5 := cell_keep hbe x15
    have zn := cell_keep hbe yn
    obtain rfl | rfl | rfl | rfl | rfl | rfl | rfl | rfl | rfl | rfl | rfl | rfl | rfl | rfl | rfl | rfl : i = 0 ∨ i = 1 ∨ i = 2 ∨ i = 3 ∨ i = 4 ∨ i = 5 ∨ i = 6 ∨ i = 7 ∨ i = 8 ∨ i = 9 ∨ i = 10 ∨ i = 11 ∨ i = 12 ∨ i = 13 ∨ i = 14 ∨ i = 15 := by omega
    · obtain rfl := Option.some.inj ho
      refine wp_value (v := .pointer (some ⟨w.heap.size, 0, none⟩)) (w' := w') ?_ ⟨by rw [V0]; rfl, Below.refl _ _⟩
      go_simp
    · obtain rfl := Option.some.inj ho
      have e0 : x 0 = .pointer (some ⟨w.heap.size, 0, none⟩) := (hon _ (Array.mem_of_getElem? (i := 0) rfl) rfl).trans V0
      refine wp_value (v := .slice (some ⟨g0, 0, none⟩) 3 c0) (w' := w') ?_ ⟨by rw [V1]; rfl, Below.refl _ _⟩
      go_simp
    · obtain rfl := Option.some.inj ho
      refine wp_value (v := .pointer (some ⟨w.heap.size + 1, 3, none⟩)) (w' := w') ?_ ⟨by rw [V2]; rfl, Below.refl _ _⟩
      go_simp
    · obtain rfl := Option.some.inj ho
      have e2 : x 2 = .pointer (some ⟨w.heap.size + 1, 3, none⟩) := (hon _ (Array.mem_of_getElem? (i := 0) rfl) rfl).trans V2
      refine wp_value (v := .int .i64 o) (w' := w') ?_ ⟨by rw [V3]; rfl, Below.refl _ _⟩
      go_simp
    · obtain rfl := Option.some.inj ho
      refine wp_value (v := .pointer (some ⟨w.heap.size, 0, none⟩)) (w' := w') ?_ ⟨by rw [V4]; rfl, Below.refl _ _⟩
      go_simp
    · obtain rfl := Option.some.inj ho
      have e4 : x 4 = .pointer (some ⟨w.heap.size, 0, none⟩) := (hon _ (Array.mem_of_getElem? (i := 0) rfl) rfl).trans V4
      refine wp_value (v := .slice (some ⟨g0, 0, none⟩) 3 c0) (w' := w') ?_ ⟨by rw [V5]; rfl, Below.refl _ _⟩
      go_simp
    · obtain rfl := Option.some.inj ho
      refine wp_value (v := .pointer (some ⟨w.heap.size + 1, 3, none⟩)) (w' := w') ?_ ⟨by rw [V6]; rfl, Below.refl _ _⟩
      go_simp
    · obtain rfl := Option.some.inj ho
      have e6 : x 6 = .pointer (some ⟨w.heap.size + 1, 3, none⟩) := (hon _ (Array.mem_of_getElem? (i := 0) rfl) rfl).trans V6
      refine wp_value (v := .int .i64 o) (w' := w') ?_ ⟨by rw [V7]; rfl, Below.refl _ _⟩
      go_simp
    · obtain rfl := Option.some.inj ho
      have e5 : x 5 = .slice (some ⟨g0, 0, none⟩) 3 c0 := (hon _ (Array.mem_of_getElem? (i := 0) rfl) rfl).trans V5
      have e7 : x 7 = .int .i64 o := (hon _ (Array.mem_of_getElem? (i := 1) rfl) rfl).trans V7
      refine wp_value (v := .pointer (some ⟨g0, o, none⟩)) (w' := w') ?_ ⟨by rw [V8]; rfl, Below.refl _ _⟩
      go_simp
    · obtain rfl := Option.some.inj ho
      have e8 : x 8 = .pointer (some ⟨g0, o, none⟩) := (hon _ (Array.mem_of_getElem? (i := 0) rfl) rfl).trans V8
      refine wp_value (v := .string (mkB So)) (w' := w') ?_ ⟨by rw [V9]; rfl, Below.refl _ _⟩
      go_simp
    · obtain rfl := Option.some.inj ho
      refine wp_value (v := .pointer (some ⟨w.heap.size + 1, 4, none⟩)) (w' := w') ?_ ⟨by rw [V10]; rfl, Below.refl _ _⟩
      go_simp
    · obtain rfl := Option.some.inj ho
      have e10 : x 10 = .pointer (some ⟨w.heap.size + 1, 4, none⟩) := (hon _ (Array.mem_of_getElem? (i := 0) rfl) rfl).trans V10
      refine wp_value (v := .int .i64 p) (w' := w') ?_ ⟨by rw [V11]; rfl, Below.refl _ _⟩
      go_simp
    · obtain rfl := Option.some.inj ho
      refine wp_value (v := .pointer (some ⟨w.heap.size + 1, 5, none⟩)) (w' := w') ?_ ⟨by rw [V12]; rfl, Below.refl _ _⟩
      go_simp
    · obtain rfl := Option.some.inj ho
      have e12 : x 12 = .pointer (some ⟨w.heap.size + 1, 5, none⟩) := (hon _ (Array.mem_of_getElem? (i := 0) rfl) rfl).trans V12
      refine wp_value (v := .string (mkB data)) (w' := w') ?_ ⟨by rw [V13]; rfl, Below.refl _ _⟩
      go_simp
    · obtain rfl := Option.some.inj ho
      have e9 : x 9 = .string (mkB So) := (hon _ (Array.mem_of_getElem? (i := 0) rfl) rfl).trans V9
      have e11 : x 11 = .int .i64 p := (hon _ (Array.mem_of_getElem? (i := 1) rfl) rfl).trans V11
      have e13 : x 13 = .string (mkB data) := (hon _ (Array.mem_of_getElem? (i := 2) rfl) rfl).trans V13
      refine wp_enter 54 #[.string (mkB So), .int .i64 p, .string (mkB data)] ?_ ((KL.out w').mono fun e w2 ⟨he, hb⟩ => ⟨_, he, by rw [V14]; rfl, hb⟩)
      go_simp
    · obtain rfl := Option.some.inj ho
      have e1 : x 1 = .slice (some ⟨g0, 0, none⟩) 3 c0 := (hon _ (Array.mem_of_getElem? (i := 0) rfl) rfl).trans V1
      have e3 : x 3 = .int .i64 o := (hon _ (Array.mem_of_getElem? (i := 1) rfl) rfl).trans V3
      refine wp_value (v := .pointer (some ⟨g0, o, none⟩)) (w' := w') ?_ ⟨by rw [V15]; rfl, Below.refl _ _⟩
      go_simp
  · intro i oi x w' hi hlt
    cases hlt
  · rintro oi x w' ho hbe hv
    obtain rfl := Option.some.inj ho
    have e14 : x 14 = .string (mkB Nw) := (hv 14 (by omega) rfl).trans V14
    have e15 : x 15 = .pointer (some ⟨g0, o, none⟩) := (hv 15 (by omega) rfl).trans V15
    have zn := cell_keep hbe yn
    have zf := frz_keepD hbe yn fn
    refine wp_skip (w' := w'.setCell ⟨g0, o, none⟩ (.string (mkB Nw))) ?_ ⟨by rw [V16]; rfl, w', hbe, rfl⟩
    go_simp
  rintro w' hR
  simp only [V0, V1, V2, V3, V4, V5, V6, V7, V8, V9, V10, V11, V12, V13, V14, V15]
  clear V0 V1 V2 V3 V4 V5 V6 V7 V8 V9 V10 V11 V12 V13 V14 V15 V16
  obtain ⟨w0, hb, rfl⟩ := hR
  clear yn fn
  have bA_24 := Lib.hid (bA_19.out.keep hb)
  have bQ_25 := Lib.hid (bQ_20.out.keep hb)
  have bR_26 := Lib.hid (bR_21.out.keep hb)
  have m_27 := Lib.hid (m_22.out.keep hb)
  have E_28 := Lib.hid (E_23.out.trans (hb.mono E_23.out.size))
  have S_28 := Lib.hid hb.size
  clear x00 x01 x02 x03 x04 x10 x11 x12 x13 x14 x15
  clear bA_19 bQ_20 bR_21 m_22 E_23 hb
  have hga := m_27.out.a.bnd g0 rfl
  have hgc := m_27.out.c.bnd g2 rfl
  have hra : Row1 w0 g0 3 (strF S.now) := by
    obtain ⟨g', c', q', hr, -⟩ := m_27.out.a.at (show 0 < S.n5.a by rw [ya]; omega)
    injection q' with q1
    injection q1 with q2
    injection q2 with q3
    rw [ya] at hr
    rw [q3]; exact hr
  have q0 := S_0.out
  have q1 := S_5.out
  have q2 := S_11.out
  have q3 := S_17.out
  have q4 := S_23.out
  have q5 := S_28.out
  have hhi := HHI.out
  obtain ⟨X9, hX9⟩ : ∃ X, w0.setCell ⟨g0, o, none⟩ (.string (mkB Nw)) = X := ⟨_, rfl⟩
  rw [hX9]
  have ht : Btn g0 (g0 + 1) w0 X9 := by rw [← hX9]; exact btn_set _ _ _ _
  have hra9 : Row1 X9 g0 3 (strF (S.now.set o Nw)) := by
    rw [← hX9]
    refine (hra.set (k := o) (by omega)).congr (fun i hi => ?_)
    show (if i = o then Value.string (mkB Nw) else Value.string (mkB (S.now.getD i []))) = Value.string (mkB ((S.now.set o Nw).getD i []))
    have hl : S.now.length = 3 := ya
    rw [getD_set]
    by_cases e : i = o
    · subst e; rw [if_pos rfl, if_pos ⟨rfl, by omega⟩]
    · rw [if_neg e, if_neg (by omega)]
  have M9 : M5 X9 lo hi (.slice (some ⟨g0, 0, none⟩) 3 c0) (.slice b1 S.n5.b e1) (.slice (some ⟨g2, 0, none⟩) 3 c2) (.slice b3 S.n5.d e3) (.slice (some ⟨g4, 0, none⟩) 3 c4) S.n5 { S.f5 with a := strF (S.now.set o Nw) } := m5_seta m_27.out ht (by obtain ⟨_, _, q, q2, q3, -⟩ := m_27.out.a.vls; injection q with _ _ q4; rw [ya]; exact Mk1.of_row hra9 hga.1 hga.2 (by rw [q4]; omega) (by rw [q4]; exact q3))
  have T9 : Hid (Btn lo hi w X9) := (Btn.of_below E_28.out).trans (btn_in ht hga.1 hga.2)
  have bA9 := Lib.hid (bA_24.out.btn ht (by omega))
  have bQ9 := Lib.hid (bQ_25.out.btn ht (by omega))
  have bR9 := Lib.hid (bR_26.out.btn ht (by omega))
  have S9 := Lib.hid ht.size
  clear q0 q1 q2 q3 q4 q5 ht hra hra9 hX9 bA_24 bQ_25 bR_26 m_27 E_28
  have hrc : Row1 X9 g2 3 (intF S.last) := by
    obtain ⟨g', c', q', hr, -⟩ := M9.c.at (show 0 < S.n5.c by rw [yc]; omega)
    injection q' with q1
    injection q1 with q2
    injection q2 with q3
    rw [yc] at hr
    rw [q3]; exact hr
  have yl := (hrc k (by omega)).1
  have fl := (hrc k (by omega)).2
  have q0 := S_0.out
  have q1 := S_5.out
  have q2 := S_11.out
  have q3 := S_17.out
  have q4 := S_23.out
  have q5 := S_28.out
  have q6 := S9.out
  obtain ⟨X10, hX10⟩ : ∃ X, X9.setCell ⟨g2, k, none⟩ (.int .i64 num) = X := ⟨_, rfl⟩
  have ht : Btn g2 (g2 + 1) X9 X10 := by rw [← hX10]; exact btn_set _ _ _ _
  have hrc9 : Row1 X10 g2 3 (intF (S.last.set k num)) := by
    rw [← hX10]
    refine (hrc.set (k := k) (by omega)).congr (fun i hi => ?_)
    show (if i = k then Value.int .i64 num else Value.int .i64 (S.last.getD i 0)) = Value.int .i64 ((S.last.set k num).getD i 0)
    have hl : S.last.length = 3 := yc
    rw [getD_set]
    by_cases e : i = k
    · subst e; rw [if_pos rfl, if_pos ⟨rfl, by omega⟩]
    · rw [if_neg e, if_neg (by omega)]
  have M10 : M5 X10 lo hi (.slice (some ⟨g0, 0, none⟩) 3 c0) (.slice b1 S.n5.b e1) (.slice (some ⟨g2, 0, none⟩) 3 c2) (.slice b3 S.n5.d e3) (.slice (some ⟨g4, 0, none⟩) 3 c4) S.n5 { S.f5 with a := strF (S.now.set o Nw), c := intF (S.last.set k num) } := m5_setc M9 ht (by obtain ⟨_, _, q, q2, q3, -⟩ := M9.c.vls; injection q with _ _ q4; rw [yc]; exact Mk1.of_row hrc9 hgc.1 hgc.2 (by rw [q4]; omega) (by rw [q4]; exact q3))
  have M11 : M5 X10 lo hi (.slice (some ⟨g0, 0, none⟩) 3 c0) (.slice b1 S.n5.b e1) (.slice (some ⟨g2, 0, none⟩) 3 c2) (.slice b3 S.n5.d e3) (.slice (some ⟨g4, 0, none⟩) 3 c4) (StT.n5 { S with now := S.now.set o Nw, last := S.last.set k num }) (StT.f5 { S with now := S.now.set o Nw, last := S.last.set k num }) := by
    have e1 : (S.now.set o Nw).length = S.now.length := List.length_set ..
    have e2 : (S.last.set k num).length = S.last.length := List.length_set ..
    unfold StT.n5 StT.f5 at M10 ⊢
    dsimp only at M10 ⊢
    rw [e1, e2]; exact M10
  have T10 : Hid (Btn lo hi w X10) := T9.out.trans (btn_in ht hgc.1 hgc.2)
  have m10 := Lib.hid M11
  have bA10 := Lib.hid (bA9.out.btn ht (by omega))
  have bR10 := Lib.hid (bR9.out.btn ht (by omega))
  have S10 := Lib.hid ht.size
  clear q0 q1 q2 q3 q4 q5 q6 ht hrc hrc9 M9 M10 M11 hhi hga hgc bR9 T9
  obtain ⟨a0', a1', a2', a3', a4'⟩ := bA9.out
  obtain ⟨b0', b1', b2', b3', b4', b5'⟩ := bQ9.out
  clear bA9 bQ9
  obtain ⟨x00, x01, x02, x03, x04⟩ := bA10.out
  obtain ⟨x10, x11, x12, x13, x14, x15, x16, x17, x18, x19⟩ := bR10.out
  obtain ⟨Z29, hZ29⟩ : ∃ X, (((((X10.setCell ⟨w.heap.size + 2, 0, none⟩ (.slice (some ⟨g0, 0, none⟩) 3 c0)).setCell ⟨w.heap.size + 2, 1, none⟩ (.slice b1 S.n5.b e1)).setCell ⟨w.heap.size + 2, 2, none⟩ (.slice (some ⟨g2, 0, none⟩) 3 c2)).setCell ⟨w.heap.size + 2, 3, none⟩ (.slice b3 S.n5.d e3)).setCell ⟨w.heap.size + 2, 4, none⟩ (.slice (some ⟨g4, 0, none⟩) 3 c4)) = X := ⟨_, rfl⟩
  have hz : Box5W Z29 (w.heap.size + 2) (.slice (some ⟨g0, 0, none⟩) 3 c0) (.slice b1 S.n5.b e1) (.slice (some ⟨g2, 0, none⟩) 3 c2) (.slice b3 S.n5.d e3) (.slice (some ⟨g4, 0, none⟩) 3 c4) := by rw [← hZ29]; exact ((((bR10.out.set0 _).set1 _).set2 _).set3 _).set4 _
  have ht : Btn (w.heap.size + 2) (w.heap.size + 2 + 1) X10 Z29 := by rw [← hZ29]; exact ((((btn_set _ _ _ _).trans (btn_set _ _ _ _)).trans (btn_set _ _ _ _)).trans (btn_set _ _ _ _)).trans (btn_set _ _ _ _)
  have q0 := S_0.out
  have q1 := S_5.out
  have q2 := S_11.out
  have q3 := S_17.out
  have q4 := S_23.out
  have q5 := S_28.out
  have q6 := S9.out
  have q7 := S10.out
  have hhi := HHI.out
  have HZ : Hid (Btn lo hi w Z29) := btn_far T10.out ht (by omega)
  have HM : Hid (M5 Z29 lo hi (.slice (some ⟨g0, 0, none⟩) 3 c0) (.slice b1 S.n5.b e1) (.slice (some ⟨g2, 0, none⟩) 3 c2) (.slice b3 S.n5.d e3) (.slice (some ⟨g4, 0, none⟩) 3 c4) ({ S with now := S.now.set o Nw, last := S.last.set k num }).n5 ({ S with now := S.now.set o Nw, last := S.last.set k num }).f5) := m10.out.btn ht (.inl (by omega))
  clear q0 q1 q2 q3 q4 q5 q6 q7 ht hhi
  go_wp2
  obtain ⟨t0, t1, t2, t3, t4, -, -, -, -, -⟩ := hz
  exact bodyPost_ret (v := .tuple #[.agg #[.slice (some ⟨g0, 0, none⟩) 3 c0, .slice b1 S.n5.b e1, .slice (some ⟨g2, 0, none⟩) 3 c2, .slice b3 S.n5.d e3, .slice (some ⟨g4, 0, none⟩) 3 c4], .int .i64 0]) (by simp [results, Tryd.results24, go_sem, t0, t1, t2, t3, t4]) rfl ⟨rfl, HM, HZ.out⟩

theorem l5Do_any (v0 v1 v2 v3 v4 : Value) (S : StT) (q : ReqT) (lo hi : Nat) (w : World) (h : M5 w lo hi v0 v1 v2 v3 v4 S.n5 S.f5) (hhi : hi ≤ w.heap.size) (hs : stOkB S = true) (hd : q.data.length ≤ 9000000) :
    Calls Tryd.prog 24 #[.agg #[v0, v1, v2, v3, v4], .agg (rqA q)] w (DoSt w lo hi v0 v1 v2 v3 v4 S q) := by
  obtain ⟨who, ep, num, obj, pos, data⟩ := q
  by_cases hq : rqB ⟨who, ep, num, obj, pos, data⟩ = true
  · by_cases h1 : ep < S.floors.getD who.toNat 0
    · exact l5Do_2 _ _ _ _ _ S _ _ _ _ _ _ lo hi w h hhi hs hd hq h1
    · by_cases h2 : num ≤ S.last.getD who.toNat 0
      · exact l5Do_3 _ _ _ _ _ S _ _ _ _ _ _ lo hi w h hhi hs hd hq h1 h2
      · by_cases h3 : S.last.getD who.toNat 0 + 1 < num
        · exact l5Do_4 _ _ _ _ _ S _ _ _ _ _ _ lo hi w h hhi hs hd hq h1 h2 h3
        · exact l5Do_0 _ _ _ _ _ S _ _ _ _ _ _ lo hi w h hhi hs hd hq h1 h2 h3
  · exact l5Do_no _ _ _ _ _ S _ _ _ _ _ _ lo hi w h hhi hs hd (by simpa using hq)

end Go.Proofs.YtadoihddmbbjoaaDoor

namespace Go.Proofs.YtadoihddmbbjoaaDoor
open Go.RowKit

theorem cell_far5 {w : World} {b o R : Nat} {v u0 u1 u2 u3 u4 : Value} (h : w.cell? ⟨b, o, none⟩ = some v) (hne : b ≠ R) : (((((w.setCell ⟨R, 0, none⟩ u0).setCell ⟨R, 1, none⟩ u1).setCell ⟨R, 2, none⟩ u2).setCell ⟨R, 3, none⟩ u3).setCell ⟨R, 4, none⟩ u4).cell? ⟨b, o, none⟩ = some v := by
  have ht : Btn R (R + 1) w (((((w.setCell ⟨R, 0, none⟩ u0).setCell ⟨R, 1, none⟩ u1).setCell ⟨R, 2, none⟩ u2).setCell ⟨R, 3, none⟩ u3).setCell ⟨R, 4, none⟩ u4) := ((((btn_set _ _ _ _).trans (btn_set _ _ _ _)).trans (btn_set _ _ _ _)).trans (btn_set _ _ _ _)).trans (btn_set _ _ _ _)
  exact (World.cell?_of_block (a := ⟨b, o, none⟩) (ht.block b (World.block_lt_of_cell? w _ h) (by omega))).trans h
/-- What a function that makes a store and a number leaves. -/
def ToSK (w : World) (S : StT) (c : Int) (e : Ending) (w' : World) : Prop :=
  ∃ v0 v1 v2 v3 v4, e = .returned (.tuple #[.agg #[v0, v1, v2, v3, v4], .int .i64 c]) ∧ Hid (M5 w' w.heap.size w'.heap.size v0 v1 v2 v3 v4 S.n5 S.f5) ∧ Below w.heap.size w w'

set_option maxRecDepth 100000 in
set_option maxHeartbeats 8000000 in
theorem specDo_no (v0 v1 v2 v3 v4 : Value) (S : StT) (q : ReqT) (w : World) (h : Sto w v0 v1 v2 v3 v4 S) (hz : szT S) (hs : stOkB S = false) (hd : q.data.length ≤ 9000000) :
    Calls Tryd.prog 8 #[.agg #[v0, v1, v2, v3, v4], .agg (rqA q)] w (ToSK w (doT S q) (doK S q)) := by
  have hT : doT S q = st0 := by unfold doT; rw [if_neg (by rw [hs]; simp)]
  have hK : doK S q = 1 := by unfold doK; rw [if_neg (by rw [hs]; simp)]
  rw [hT, hK]
  clear hT hK
  obtain ⟨who, ep, num, obj, pos, data⟩ := q
  obtain ⟨a0, c0, rfl⟩ := h.now.form
  obtain ⟨a1, c1, rfl⟩ := h.sure.form
  obtain ⟨a2, c2, rfl⟩ := h.last.form
  obtain ⟨a3, c3, rfl⟩ := h.slast.form
  obtain ⟨a4, c4, rfl⟩ := h.floors.form
  obtain ⟨W, hW⟩ : ∃ W, ((w.alloc (.cells #[.slice a0 S.now.length c0, .slice a1 S.sure.length c1, .slice a2 S.last.length c2, .slice a3 S.slast.length c3, .slice a4 S.floors.length c4] 30)).alloc (.cells (rqA ⟨who, ep, num, obj, pos, data⟩) 34)).alloc (.cells #[.slice none 0 0, .slice none 0 0, .slice none 0 0, .slice none 0 0, .slice none 0 0] 30) = W := ⟨_, rfl⟩
  have hal : Below w.heap.size w W := by rw [← hW]; exact (((Below.refl _ _).alloc (Nat.le_refl _) _).alloc (by simp) _).alloc (by simp; omega) _
  have A0 : Box5 W w.heap.size (.slice a0 S.now.length c0) (.slice a1 S.sure.length c1) (.slice a2 S.last.length c2) (.slice a3 S.slast.length c3) (.slice a4 S.floors.length c4) := by rw [← hW]; exact ((new_box5 w _ _ _ _ _ _).keep ((Below.refl _ _).alloc (Nat.le_refl _) _)).keep ((Below.refl _ _).alloc (Nat.le_refl _) _)
  have B0 : Box6 W (w.heap.size + 1) ⟨who, ep, num, obj, pos, data⟩ := by
    rw [← hW]
    have := (new_box6 (w.alloc (.cells #[.slice a0 S.now.length c0, .slice a1 S.sure.length c1, .slice a2 S.last.length c2, .slice a3 S.slast.length c3, .slice a4 S.floors.length c4] 30)) ⟨who, ep, num, obj, pos, data⟩ 34).keep ((Below.refl _ _).alloc (Nat.le_refl _) (.cells #[.slice none 0 0, .slice none 0 0, .slice none 0 0, .slice none 0 0, .slice none 0 0] 30))
    simpa using this
  have R0 : Box5W W (w.heap.size + 2) (.slice none 0 0) (.slice none 0 0) (.slice none 0 0) (.slice none 0 0) (.slice none 0 0) := by
    rw [← hW]
    have := new_box5W ((w.alloc (.cells #[.slice a0 S.now.length c0, .slice a1 S.sure.length c1, .slice a2 S.last.length c2, .slice a3 S.slast.length c3, .slice a4 S.floors.length c4] 30)).alloc (.cells (rqA ⟨who, ep, num, obj, pos, data⟩) 34)) (.slice none 0 0) (.slice none 0 0) (.slice none 0 0) (.slice none 0 0) (.slice none 0 0) 30
    simpa using this
  have hl : w.heap.size + 2 < W.heap.size := by rw [← hW]; simp
  have E_0 := Lib.hid hal
  have S_0 := Lib.hid hl
  have bA_0 := Lib.hid A0
  have bQ_0 := Lib.hid B0
  have bR_0 := Lib.hid R0
  have HH := Lib.hid h
  have K0 := specStoreOk_any _ _ _ _ _ S W (h.keep hal) hz
  rw [hs] at K0
  have K := Lib.hid K0
  clear hal A0 B0 R0 hl h K0
  obtain ⟨x00, x01, x02, x03, x04⟩ := bA_0.out
  go_enter Tryd.func8, Tryd.ntmps8
  go_wp2_with fail
  clear hW
  refine K.out.mono ?_; rintro e w1 ⟨rfl, hb⟩
  have bA_1 := Lib.hid (bA_0.out.keep hb)
  have bQ_2 := Lib.hid (bQ_0.out.keep hb)
  have bR_3 := Lib.hid (bR_0.out.keep hb)
  have E_4 := Lib.hid (E_0.out.trans (hb.mono E_0.out.size))
  have S_4 := Lib.hid hb.size
  clear x00 x01 x02 x03 x04
  clear bA_0 bQ_0 bR_0 E_0 hb
  clear K
  obtain ⟨x00, x01, x02, x03, x04, x05, x06, x07, x08, x09⟩ := bR_3.out
  obtain ⟨Zn, hZn⟩ : ∃ X, (((((w1.setCell ⟨w.heap.size + 2, 0, none⟩ (.slice none 0 0)).setCell ⟨w.heap.size + 2, 1, none⟩ (.slice none 0 0)).setCell ⟨w.heap.size + 2, 2, none⟩ (.slice none 0 0)).setCell ⟨w.heap.size + 2, 3, none⟩ (.slice none 0 0)).setCell ⟨w.heap.size + 2, 4, none⟩ (.slice none 0 0)) = X := ⟨_, rfl⟩
  have hz : Box5W Zn (w.heap.size + 2) (.slice none 0 0) (.slice none 0 0) (.slice none 0 0) (.slice none 0 0) (.slice none 0 0) := by rw [← hZn]; exact ((((bR_3.out.set0 _).set1 _).set2 _).set3 _).set4 _
  have ht : Btn (w.heap.size + 2) (w.heap.size + 2 + 1) w1 Zn := by rw [← hZn]; exact ((((btn_set _ _ _ _).trans (btn_set _ _ _ _)).trans (btn_set _ _ _ _)).trans (btn_set _ _ _ _)).trans (btn_set _ _ _ _)
  have q0 := S_0.out
  have q1 := S_4.out
  have HZ : Hid (Below w.heap.size w Zn) := E_4.out.trans (ht.below (by omega) E_4.out.size)
  clear q0 q1 ht
  go_wp2
  obtain ⟨t0, t1, t2, t3, t4, -, -, -, -, -⟩ := hz
  exact bodyPost_ret (v := .tuple #[.agg #[.slice none 0 0, .slice none 0 0, .slice none 0 0, .slice none 0 0, .slice none 0 0], .int .i64 1]) (by simp [results, Tryd.results8, go_sem, t0, t1, t2, t3, t4]) rfl ⟨_, _, _, _, _, rfl, M5.none _ _ _, HZ.out⟩

set_option maxRecDepth 100000 in
set_option maxHeartbeats 8000000 in
theorem specDo_yes (v0 v1 v2 v3 v4 : Value) (S : StT) (q : ReqT) (w : World) (h : Sto w v0 v1 v2 v3 v4 S) (hz : szT S) (hn : S.n5.le) (hs : stOkB S = true) (hd : q.data.length ≤ 9000000) :
    Calls Tryd.prog 8 #[.agg #[v0, v1, v2, v3, v4], .agg (rqA q)] w (ToSK w (doT S q) (doK S q)) := by
  have hT : doT S q = doS S q := by unfold doT; rw [if_pos hs]
  have hK : doK S q = doC S q := by unfold doK; rw [if_pos hs]
  rw [hT, hK]
  clear hT hK
  obtain ⟨who, ep, num, obj, pos, data⟩ := q
  obtain ⟨C, hC⟩ : ∃ C, doC S ⟨who, ep, num, obj, pos, data⟩ = C := ⟨_, rfl⟩
  obtain ⟨T, hT⟩ : ∃ C, doS S ⟨who, ep, num, obj, pos, data⟩ = C := ⟨_, rfl⟩
  have KD : Hid (∀ v0 v1 v2 v3 v4 lo hi w, M5 w lo hi v0 v1 v2 v3 v4 S.n5 S.f5 → hi ≤ w.heap.size → Calls Tryd.prog 24 #[.agg #[v0, v1, v2, v3, v4], .agg (rqA ⟨who, ep, num, obj, pos, data⟩)] w fun e w' => e = .returned (.tuple #[.agg #[v0, v1, v2, v3, v4], .int .i64 C]) ∧ Hid (M5 w' lo hi v0 v1 v2 v3 v4 T.n5 T.f5) ∧ Btn lo hi w w') := fun v0 v1 v2 v3 v4 lo hi w h1 h2 => by
    have := l5Do_any v0 v1 v2 v3 v4 S ⟨who, ep, num, obj, pos, data⟩ lo hi w h1 h2 hs hd
    unfold DoSt at this
    rwa [hC, hT] at this
  rw [hC, hT]
  have HN := Lib.hid hn
  clear hC hT hn hd
  obtain ⟨a0, c0, rfl⟩ := h.now.form
  obtain ⟨a1, c1, rfl⟩ := h.sure.form
  obtain ⟨a2, c2, rfl⟩ := h.last.form
  obtain ⟨a3, c3, rfl⟩ := h.slast.form
  obtain ⟨a4, c4, rfl⟩ := h.floors.form
  obtain ⟨W, hW⟩ : ∃ W, ((w.alloc (.cells #[.slice a0 S.now.length c0, .slice a1 S.sure.length c1, .slice a2 S.last.length c2, .slice a3 S.slast.length c3, .slice a4 S.floors.length c4] 30)).alloc (.cells (rqA ⟨who, ep, num, obj, pos, data⟩) 34)).alloc (.cells #[.slice none 0 0, .slice none 0 0, .slice none 0 0, .slice none 0 0, .slice none 0 0] 30) = W := ⟨_, rfl⟩
  have hal : Below w.heap.size w W := by rw [← hW]; exact (((Below.refl _ _).alloc (Nat.le_refl _) _).alloc (by simp) _).alloc (by simp; omega) _
  have A0 : Box5 W w.heap.size (.slice a0 S.now.length c0) (.slice a1 S.sure.length c1) (.slice a2 S.last.length c2) (.slice a3 S.slast.length c3) (.slice a4 S.floors.length c4) := by rw [← hW]; exact ((new_box5 w _ _ _ _ _ _).keep ((Below.refl _ _).alloc (Nat.le_refl _) _)).keep ((Below.refl _ _).alloc (Nat.le_refl _) _)
  have B0 : Box6 W (w.heap.size + 1) ⟨who, ep, num, obj, pos, data⟩ := by
    rw [← hW]
    have := (new_box6 (w.alloc (.cells #[.slice a0 S.now.length c0, .slice a1 S.sure.length c1, .slice a2 S.last.length c2, .slice a3 S.slast.length c3, .slice a4 S.floors.length c4] 30)) ⟨who, ep, num, obj, pos, data⟩ 34).keep ((Below.refl _ _).alloc (Nat.le_refl _) (.cells #[.slice none 0 0, .slice none 0 0, .slice none 0 0, .slice none 0 0, .slice none 0 0] 30))
    simpa using this
  have R0 : Box5W W (w.heap.size + 2) (.slice none 0 0) (.slice none 0 0) (.slice none 0 0) (.slice none 0 0) (.slice none 0 0) := by
    rw [← hW]
    have := new_box5W ((w.alloc (.cells #[.slice a0 S.now.length c0, .slice a1 S.sure.length c1, .slice a2 S.last.length c2, .slice a3 S.slast.length c3, .slice a4 S.floors.length c4] 30)).alloc (.cells (rqA ⟨who, ep, num, obj, pos, data⟩) 34)) (.slice none 0 0) (.slice none 0 0) (.slice none 0 0) (.slice none 0 0) (.slice none 0 0) 30
    simpa using this
  have hl : w.heap.size + 2 < W.heap.size := by rw [← hW]; simp
  have E_0 := Lib.hid hal
  have S_0 := Lib.hid hl
  have bA_0 := Lib.hid A0
  have bQ_0 := Lib.hid B0
  have bR_0 := Lib.hid R0
  have HH := Lib.hid h
  have K0 := specStoreOk_any _ _ _ _ _ S W (h.keep hal) hz
  rw [hs] at K0
  have K := Lib.hid K0
  clear hal A0 B0 R0 hl h K0
  obtain ⟨x00, x01, x02, x03, x04⟩ := bA_0.out
  go_enter Tryd.func8, Tryd.ntmps8
  go_wp2_with fail
  clear hW
  refine K.out.mono ?_; rintro e w1 ⟨rfl, hb⟩
  have bA_1 := Lib.hid (bA_0.out.keep hb)
  have bQ_2 := Lib.hid (bQ_0.out.keep hb)
  have bR_3 := Lib.hid (bR_0.out.keep hb)
  have E_4 := Lib.hid (E_0.out.trans (hb.mono E_0.out.size))
  have S_4 := Lib.hid hb.size
  clear x00 x01 x02 x03 x04
  clear bA_0 bQ_0 bR_0 E_0 hb
  clear K
  clear hs hz
  obtain ⟨x00, x01, x02, x03, x04⟩ := bA_1.out
  obtain ⟨x10, x11, x12, x13, x14, x15⟩ := bQ_2.out
  go_wp2_with fail
  have hD : Below w1.heap.size w1 w1.drew := (Below.refl _ _).drew
  have q0 := S_0.out
  have q1 := S_4.out
  go_region_held3 (fun w' => w'.cell? ⟨w.heap.size, 0, none⟩ = some (.slice a0 S.now.length c0) ∧ w'.cell? ⟨w.heap.size, 1, none⟩ = some (.slice a1 S.sure.length c1) ∧ w'.cell? ⟨w.heap.size, 2, none⟩ = some (.slice a2 S.last.length c2) ∧ w'.cell? ⟨w.heap.size, 3, none⟩ = some (.slice a3 S.slast.length c3) ∧ w'.cell? ⟨w.heap.size, 4, none⟩ = some (.slice a4 S.floors.length c4) ∧ w'.cell? ⟨w.heap.size + 1, 0, none⟩ = some (.int .i64 who) ∧ w'.cell? ⟨w.heap.size + 1, 1, none⟩ = some (.int .i64 ep) ∧ w'.cell? ⟨w.heap.size + 1, 2, none⟩ = some (.int .i64 num) ∧ w'.cell? ⟨w.heap.size + 1, 3, none⟩ = some (.int .i64 obj) ∧ w'.cell? ⟨w.heap.size + 1, 4, none⟩ = some (.int .i64 pos) ∧ w'.cell? ⟨w.heap.size + 1, 5, none⟩ = some (.string (mkB data)))
    (refine ⟨?_, ?_, ?_, ?_, ?_, ?_, ?_, ?_, ?_, ?_, ?_⟩ <;> first | (with_reducible refine cell_far5 ?_ ?_ <;> first | omega | assumption | (refine cell_keep hb ?_; first | assumption | (go_keep; done) | (go_simp; done))) | (go_keep; done) | (refine cell_keep hb ?_; first | (go_keep; done) | (go_simp; done)))
    (first
      | (go_at_call 24; refine (KD.out _ _ _ _ _ _ _ _ M.out (Nat.le_refl _)).mono ?_; rintro e r1 ⟨rfl, M2, hbt⟩; have hm := hb.size; have hr0 := hbt.size; have hd1 : w1.heap.size ≤ w1.drew.heap.size := hD.size; have hb : Below w1.drew.heap.size w1.drew r1 := hb.trans (hbt.below (Nat.le_refl _) hm); have hR1 := hD.trans (hb.mono hD.size); obtain ⟨s0, s1, s2, s3, s4, f0, f1, f2, f3, f4⟩ := bR_3.out.keep hR1)
      | (go_at_call 25; refine (l5Copy_any _ _ _ _ _ S _ (HH.out.keep (E_4.out.trans (hD.mono E_4.out.size))) HN.out).mono ?_; rintro e r0 ⟨y0, y1, y2, y3, y4, rfl, M, hb⟩; have hR0 := hD.trans (hb.mono hD.size); obtain ⟨b0, e0, rfl⟩ := M.out.a.vls.form; obtain ⟨b1, e1, rfl⟩ := M.out.b.vls.form; obtain ⟨b2, e2, rfl⟩ := M.out.c.vls.form; obtain ⟨b3, e3, rfl⟩ := M.out.d.vls.form; obtain ⟨b4, e4, rfl⟩ := M.out.e.vls.form))
  obtain ⟨Z, hZ⟩ : ∃ X, (((((r1.setCell ⟨w.heap.size + 1 + 1, 0, none⟩ (.slice b0 S.n5.a e0)).setCell ⟨w.heap.size + 1 + 1, 1, none⟩ (.slice b1 S.n5.b e1)).setCell ⟨w.heap.size + 1 + 1, 2, none⟩ (.slice b2 S.n5.c e2)).setCell ⟨w.heap.size + 1 + 1, 3, none⟩ (.slice b3 S.n5.d e3)).setCell ⟨w.heap.size + 1 + 1, 4, none⟩ (.slice b4 S.n5.e e4)) = X := ⟨_, rfl⟩
  rw [hZ]
  have hzz : Box5W Z (w.heap.size + 2) (.slice b0 S.n5.a e0) (.slice b1 S.n5.b e1) (.slice b2 S.n5.c e2) (.slice b3 S.n5.d e3) (.slice b4 S.n5.e e4) := by rw [← hZ]; exact (((((bR_3.out.keep hR1).set0 _).set1 _).set2 _).set3 _).set4 _
  have htz : Btn (w.heap.size + 2) (w.heap.size + 2 + 1) r1 Z := by rw [← hZ]; exact ((((btn_set _ _ _ _).trans (btn_set _ _ _ _)).trans (btn_set _ _ _ _)).trans (btn_set _ _ _ _)).trans (btn_set _ _ _ _)
  have hE1 := E_4.out.trans (hR1.mono E_4.out.size)
  have HZ : Hid (Below w.heap.size w Z) := hE1.trans (htz.below (by omega) hE1.size)
  have hsz := htz.size
  have HM : Hid (M5 Z w.heap.size Z.heap.size (.slice b0 S.n5.a e0) (.slice b1 S.n5.b e1) (.slice b2 S.n5.c e2) (.slice b3 S.n5.d e3) (.slice b4 S.n5.e e4) T.n5 T.f5) := (M2.out.btn htz (.inr (by omega))).wide (by omega) (by omega)
  clear htz hE1 M2 hZ s0 s1 s2 s3 s4 f0 f1 f2 f3 f4
  go_wp2
  obtain ⟨t0, t1, t2, t3, t4, -, -, -, -, -⟩ := hzz
  exact bodyPost_ret (v := .tuple #[.agg #[.slice b0 S.n5.a e0, .slice b1 S.n5.b e1, .slice b2 S.n5.c e2, .slice b3 S.n5.d e3, .slice b4 S.n5.e e4], .int .i64 C]) (by simp [results, Tryd.results8, go_sem, t0, t1, t2, t3, t4]) rfl ⟨_, _, _, _, _, rfl, HM, HZ.out⟩

theorem specDo_any (v0 v1 v2 v3 v4 : Value) (S : StT) (q : ReqT) (w : World) (h : Sto w v0 v1 v2 v3 v4 S) (hz : szT S) (hn : S.n5.le) (hd : q.data.length ≤ 9000000) :
    Calls Tryd.prog 8 #[.agg #[v0, v1, v2, v3, v4], .agg (rqA q)] w (ToSK w (doT S q) (doK S q)) := by
  by_cases hs : stOkB S = true
  · exact specDo_yes _ _ _ _ _ S q w h hz hn hs hd
  · exact specDo_no _ _ _ _ _ S q w h hz (by simpa using hs) hd

end Go.Proofs.YtadoihddmbbjoaaDoor
