/-
  The program's (*disk).do at any request, and StoreDo.
-/
import Derived.Test.YtadoihddmbbjoaaDoorKStoIDo
import Derived.Test.YtadoihddmbbjoaaDoorKStoDo
import Derived.Test.YtadoihddmbbjoaaDoorKStoBox
namespace Go.Proofs.YtadoihddmbbjoaaDoor
open Go.RowKit

/-- Block d is a disk that holds the store S. -/
def Dkk (w : World) (d : Nat) (S : StT) : Prop :=
  ∃ s0 s1 s2 t0 t1 t2 : Value, w.heap[d]? = some (.cells #[s0, s1, s2, .int .i64 (S.last.getD 0 0), .int .i64 (S.last.getD 1 0), .int .i64 (S.last.getD 2 0), t0, t1, t2, .int .i64 (S.slast.getD 0 0), .int .i64 (S.slast.getD 1 0), .int .i64 (S.slast.getD 2 0), .int .i64 (S.floors.getD 0 0), .int .i64 (S.floors.getD 1 0), .int .i64 (S.floors.getD 2 0)] 88 (0, 0)) ∧ Sht w s0 (S.now.getD 0 []) ∧ Sht w s1 (S.now.getD 1 []) ∧ Sht w s2 (S.now.getD 2 []) ∧ Sht w t0 (S.sure.getD 0 []) ∧ Sht w t1 (S.sure.getD 1 []) ∧ Sht w t2 (S.sure.getD 2 [])
theorem Dsk.dkk {w : World} {lo d : Nat} {S : StT} (h : Dsk w lo d S) : Dkk w d S := by
  obtain ⟨s0, s1, s2, t0, t1, t2, h0, -, h1, h2, h3, h4, h5, h6, -⟩ := h
  exact ⟨s0, s1, s2, t0, t1, t2, h0, h1.sht, h2.sht, h3.sht, h4.sht, h5.sht, h6.sht⟩
theorem Dkk.keep {w w1 : World} {d : Nat} {S : StT} (h : Dkk w d S) (hb : Below w.heap.size w w1) : Dkk w1 d S := by
  obtain ⟨s0, s1, s2, t0, t1, t2, h0, h1, h2, h3, h4, h5, h6⟩ := h
  exact ⟨s0, s1, s2, t0, t1, t2, row_keep h0 hb, h1.keep hb, h2.keep hb, h3.keep hb, h4.keep hb, h5.keep hb, h6.keep hb⟩
theorem three_eta {α : Type} {L : List α} {x : α} (h : L.length = 3) : L = [L.getD 0 x, L.getD 1 x, L.getD 2 x] := by
  obtain ⟨a, b, c, rfl⟩ := three h; rfl
/-- A disk's store, if there are three of all. -/
theorem diskStore_T (d : Nat) (S : StT) (w : World) (h : Dkk w d S) (h0 : S.now.length = 3) (h1 : S.sure.length = 3) (h2 : S.last.length = 3) (h3 : S.slast.length = 3) (h4 : S.floors.length = 3) :
    Calls Tryd.prog 31 #[.pointer (some ⟨d, 0, none⟩)] w (ToSt w S) := by
  obtain ⟨N, U, L, M, F⟩ := S
  obtain ⟨n0, n1, n2, rfl⟩ := three h0
  obtain ⟨u0, u1, u2, rfl⟩ := three h1
  obtain ⟨l0, l1, l2, rfl⟩ := three h2
  obtain ⟨m0, m1, m2, rfl⟩ := three h3
  obtain ⟨f0, f1, f2, rfl⟩ := three h4
  obtain ⟨s0, s1, s2, t0, t1, t2, g0, g1, g2, g3, g4, g5, g6⟩ := h
  exact diskStore_any d _ _ _ _ _ _ _ _ _ _ _ _ _ _ _ w ⟨s0, s1, s2, t0, t1, t2, g0, g1.shv, g2.shv, g3.shv, g4.shv, g5.shv, g6.shv⟩

theorem sht_grown {w w1 : World} {b : Nat} {C : Array Value} {T : TypeId} (h : w.heap[b]? = some (.cells C T (0, 0))) (s : Value) (hk : C[0]? = some s) (hs : ∃ a n c, s = .slice a n c) {v : Value} {l : List UInt8} (hv : Sht w v l) (hg : w.grownBy w1 (some b)) : Sht w1 v l := by
  obtain ⟨g, cap, rfl, h1, h2, hc⟩ := hv
  refine ⟨g, cap, rfl, h1, Nat.lt_of_lt_of_le h2 hg.size, fun j hj => ?_⟩
  have hne : g ≠ b := by
    rintro rfl
    have e0 := hc 0 (by omega)
    rw [row_cell h 0 _ hk] at e0
    obtain ⟨a, n, c, rfl⟩ := hs
    cases e0
  exact hg.cell (hc j hj) (by simp only; intro e; injection e with e; exact hne e)

/-- What do leaves. -/
def DoP (w : World) (d : Nat) (S : StT) (v : Value) (e : Ending) (w' : World) : Prop := e = .returned v ∧ Hid (Dkk w' d S) ∧ w.grownBy w' (some d)

set_option maxRecDepth 100000 in
set_option maxHeartbeats 4000000 in
theorem do_no (a0 a1 a2 a3 : Addr) (d : Nat) (q : ReqT) (c : Int) (w : World) (hc : 1 ≤ c ∧ c ≤ 4)
    (hR : ∀ W, Below w.heap.size w W → Calls Tryd.prog 57 #[.pointer (some ⟨d, 0, none⟩), .agg (rqA q)] W fun e w' => e = .returned (errV a0 a1 a2 a3 c) ∧ Below W.heap.size W w') :
    Calls Tryd.prog 30 #[.pointer (some ⟨d, 0, none⟩), .agg (rqA q)] w fun e w' => e = .returned (errV a0 a1 a2 a3 c) ∧ Below w.heap.size w w' := by
  obtain ⟨a, ha⟩ : ∃ a, errV a0 a1 a2 a3 c = errI a := by
    obtain rfl | rfl | rfl | rfl : c = 1 ∨ c = 2 ∨ c = 3 ∨ c = 4 := by omega
    · exact ⟨a0, rfl⟩
    · exact ⟨a1, rfl⟩
    · exact ⟨a2, rfl⟩
    · exact ⟨a3, rfl⟩
  rw [ha] at hR ⊢
  obtain ⟨who, ep, num, obj, pos, data⟩ := q
  obtain ⟨W, hW⟩ : ∃ W, w.alloc (.cells (rqA ⟨who, ep, num, obj, pos, data⟩) 34) = W := ⟨_, rfl⟩
  have hal : Below w.heap.size w W := by rw [← hW]; exact (Below.refl _ _).alloc (Nat.le_refl _) _
  have B0 : Box6 W w.heap.size ⟨who, ep, num, obj, pos, data⟩ := by rw [← hW]; exact new_box6 w _ _
  have HK := Lib.hid (hR W hal)
  have E_0 := Lib.hid hal
  obtain ⟨x0, x1, x2, x3, x4, x5⟩ := B0
  clear hR ha hc hal
  go_enter Tryd.func30, Tryd.ntmps30
  go_wp2_with fail
  clear hW
  refine HK.out.mono ?_; rintro e w1 ⟨rfl, hb⟩
  have E_1 := Lib.hid (E_0.out.trans (hb.mono E_0.out.size))
  clear x0 x1 x2 x3 x4 x5 E_0 hb HK
  go_wp2
  go_ret
  exact ⟨rfl, E_1.out⟩

theorem doC_bd (S : StT) (q : ReqT) : 0 ≤ doC S q ∧ doC S q ≤ 4 := by
  unfold doC; split
  · split
    · omega
    · split
      · omega
      · split <;> omega
  · omega
theorem doC_bad {S : StT} {q : ReqT} (h : rqB q = false) : doC S q = 1 := by unfold doC; rw [h]; rfl
theorem doS_bad {S : StT} {q : ReqT} (h : doC S q ≠ 0) : doS S q = S := by unfold doS; rw [if_neg h]

theorem do_any (a0 a1 a2 a3 : Addr) (d : Nat) (S : StT) (q : ReqT) (w : World) (hS : Snt w a0 a1 a2 a3) (hD : Dkk w d S) (hok : stOkB S = true) (hd : q.data.length ≤ 2000000) :
    Calls Tryd.prog 30 #[.pointer (some ⟨d, 0, none⟩), .agg (rqA q)] w (DoP w d (doS S q) (errV a0 a1 a2 a3 (doC S q))) := by
  by_cases hq : rqB q = true
  rotate_left
  · have hq : rqB q = false := by simpa using hq
    have hc : doC S q = 1 := doC_bad hq
    rw [doS_bad (by rw [hc]; decide), hc]
    exact (do_no a0 a1 a2 a3 d q 1 w (by omega) fun W hb => refuse_bad a0 a1 a2 a3 d q W (hS.keep hb) hq hd).mono fun e w' ⟨he, hb⟩ => ⟨he, Lib.hid (hD.keep hb), gr_below hb _⟩
  obtain ⟨z0, z1, z2, z3, z4⟩ := stOk_lens hok
  obtain ⟨k1, k2, k3⟩ := stOk_iff.1 hok
  have kt := fun i (hi : i < 3) => txB_at k1 hi
  have kn := fun i (hi : i < 3) => numB_iff.1 ((nmB_iff.1 k3).2 i hi)
  obtain ⟨hw, -, -, ho, -⟩ := rqB_iff.1 hq
  obtain ⟨N, U, L, M, F⟩ := S
  obtain ⟨n0, n1, n2, rfl⟩ := three z0
  obtain ⟨u0, u1, u2, rfl⟩ := three z1
  obtain ⟨l0, l1, l2, rfl⟩ := three z2
  obtain ⟨m0, m1, m2, rfl⟩ := three z3
  obtain ⟨f0, f1, f2, rfl⟩ := three z4
  obtain ⟨s0, s1, s2, t0, t1, t2, g0, g1, g2, g3, g4, g5, g6⟩ := id hD
  have b0 : 0 ≤ l0 ∧ l0 ≤ 1000 := by have h : 0 ≤ m0 ∧ m0 ≤ l0 ∧ l0 ≤ 1000 ∧ 0 ≤ f0 ∧ f0 ≤ 100 := kn 0 (by omega); omega
  have b1 : 0 ≤ l1 ∧ l1 ≤ 1000 := by have h : 0 ≤ m1 ∧ m1 ≤ l1 ∧ l1 ≤ 1000 ∧ 0 ≤ f1 ∧ f1 ≤ 100 := kn 1 (by omega); omega
  have b2 : 0 ≤ l2 ∧ l2 ≤ 1000 := by have h : 0 ≤ m2 ∧ m2 ≤ l2 ∧ l2 ≤ 1000 ∧ 0 ≤ f2 ∧ f2 ≤ 100 := kn 2 (by omega); omega
  have c0 : tokB n0 = true := kt 0 (by omega)
  have c1 : tokB n1 = true := kt 1 (by omega)
  have c2 : tokB n2 = true := kt 2 (by omega)
  have h0s : ∃ a n c, s0 = .slice a n c := by obtain ⟨g, c, h, -⟩ := g1; exact ⟨_, _, _, h⟩
  by_cases hc : doC ⟨[n0, n1, n2], [u0, u1, u2], [l0, l1, l2], [m0, m1, m2], [f0, f1, f2]⟩ q = 0
  · have hds : doS ⟨[n0, n1, n2], [u0, u1, u2], [l0, l1, l2], [m0, m1, m2], [f0, f1, f2]⟩ q = { (⟨[n0, n1, n2], [u0, u1, u2], [l0, l1, l2], [m0, m1, m2], [f0, f1, f2]⟩ : StT) with now := [n0, n1, n2].set q.obj.toNat (wrL ([n0, n1, n2].getD q.obj.toNat []) q.pos.toNat q.data), last := [l0, l1, l2].set q.who.toNat q.num } := by unfold doS; rw [if_pos hc]
    rw [hds]
    obtain ⟨who, ep, num, obj, pos, data⟩ := q
    rw [hc]
    simp only at hw ho hd
    clear hds k1 k2 k3 kt kn hok z0 z1 z2 z3 z4 hq
    have hgr : ∀ (v : Value) (l : List UInt8) (w' : World), Sht w v l → w.grownBy w' (some d) → Sht w' v l := fun v l w' h hg => sht_grown g0 s0 rfl h0s h hg
    obtain rfl | rfl | rfl : who = 0 ∨ who = 1 ∨ who = 2 := by omega
    all_goals obtain rfl | rfl | rfl : obj = 0 ∨ obj = 1 ∨ obj = 2 := by omega
    · exact (do_00 a0 a1 a2 a3 d s0 s1 s2 t0 t1 t2 n0 n1 n2 u0 u1 u2 l0 l1 l2 m0 m1 m2 f0 f1 f2 ep num pos data w hS g0 b0 hd g1 h0s c0 hc).mono fun e w' ⟨he, v, hr, hs, hg⟩ => ⟨he, Lib.hid ⟨v, s1, s2, t0, t1, t2, hr.out, hs.out, hgr _ _ _ g2 hg, hgr _ _ _ g3 hg, hgr _ _ _ g4 hg, hgr _ _ _ g5 hg, hgr _ _ _ g6 hg⟩, hg⟩
    · exact (do_10 a0 a1 a2 a3 d s0 s1 s2 t0 t1 t2 n0 n1 n2 u0 u1 u2 l0 l1 l2 m0 m1 m2 f0 f1 f2 ep num pos data w hS g0 b0 hd g2 h0s c1 hc).mono fun e w' ⟨he, v, hr, hs, hg⟩ => ⟨he, Lib.hid ⟨s0, v, s2, t0, t1, t2, hr.out, hgr _ _ _ g1 hg, hs.out, hgr _ _ _ g3 hg, hgr _ _ _ g4 hg, hgr _ _ _ g5 hg, hgr _ _ _ g6 hg⟩, hg⟩
    · exact (do_20 a0 a1 a2 a3 d s0 s1 s2 t0 t1 t2 n0 n1 n2 u0 u1 u2 l0 l1 l2 m0 m1 m2 f0 f1 f2 ep num pos data w hS g0 b0 hd g3 h0s c2 hc).mono fun e w' ⟨he, v, hr, hs, hg⟩ => ⟨he, Lib.hid ⟨s0, s1, v, t0, t1, t2, hr.out, hgr _ _ _ g1 hg, hgr _ _ _ g2 hg, hs.out, hgr _ _ _ g4 hg, hgr _ _ _ g5 hg, hgr _ _ _ g6 hg⟩, hg⟩
    · exact (do_01 a0 a1 a2 a3 d s0 s1 s2 t0 t1 t2 n0 n1 n2 u0 u1 u2 l0 l1 l2 m0 m1 m2 f0 f1 f2 ep num pos data w hS g0 b1 hd g1 h0s c0 hc).mono fun e w' ⟨he, v, hr, hs, hg⟩ => ⟨he, Lib.hid ⟨v, s1, s2, t0, t1, t2, hr.out, hs.out, hgr _ _ _ g2 hg, hgr _ _ _ g3 hg, hgr _ _ _ g4 hg, hgr _ _ _ g5 hg, hgr _ _ _ g6 hg⟩, hg⟩
    · exact (do_11 a0 a1 a2 a3 d s0 s1 s2 t0 t1 t2 n0 n1 n2 u0 u1 u2 l0 l1 l2 m0 m1 m2 f0 f1 f2 ep num pos data w hS g0 b1 hd g2 h0s c1 hc).mono fun e w' ⟨he, v, hr, hs, hg⟩ => ⟨he, Lib.hid ⟨s0, v, s2, t0, t1, t2, hr.out, hgr _ _ _ g1 hg, hs.out, hgr _ _ _ g3 hg, hgr _ _ _ g4 hg, hgr _ _ _ g5 hg, hgr _ _ _ g6 hg⟩, hg⟩
    · exact (do_21 a0 a1 a2 a3 d s0 s1 s2 t0 t1 t2 n0 n1 n2 u0 u1 u2 l0 l1 l2 m0 m1 m2 f0 f1 f2 ep num pos data w hS g0 b1 hd g3 h0s c2 hc).mono fun e w' ⟨he, v, hr, hs, hg⟩ => ⟨he, Lib.hid ⟨s0, s1, v, t0, t1, t2, hr.out, hgr _ _ _ g1 hg, hgr _ _ _ g2 hg, hs.out, hgr _ _ _ g4 hg, hgr _ _ _ g5 hg, hgr _ _ _ g6 hg⟩, hg⟩
    · exact (do_02 a0 a1 a2 a3 d s0 s1 s2 t0 t1 t2 n0 n1 n2 u0 u1 u2 l0 l1 l2 m0 m1 m2 f0 f1 f2 ep num pos data w hS g0 b2 hd g1 h0s c0 hc).mono fun e w' ⟨he, v, hr, hs, hg⟩ => ⟨he, Lib.hid ⟨v, s1, s2, t0, t1, t2, hr.out, hs.out, hgr _ _ _ g2 hg, hgr _ _ _ g3 hg, hgr _ _ _ g4 hg, hgr _ _ _ g5 hg, hgr _ _ _ g6 hg⟩, hg⟩
    · exact (do_12 a0 a1 a2 a3 d s0 s1 s2 t0 t1 t2 n0 n1 n2 u0 u1 u2 l0 l1 l2 m0 m1 m2 f0 f1 f2 ep num pos data w hS g0 b2 hd g2 h0s c1 hc).mono fun e w' ⟨he, v, hr, hs, hg⟩ => ⟨he, Lib.hid ⟨s0, v, s2, t0, t1, t2, hr.out, hgr _ _ _ g1 hg, hs.out, hgr _ _ _ g3 hg, hgr _ _ _ g4 hg, hgr _ _ _ g5 hg, hgr _ _ _ g6 hg⟩, hg⟩
    · exact (do_22 a0 a1 a2 a3 d s0 s1 s2 t0 t1 t2 n0 n1 n2 u0 u1 u2 l0 l1 l2 m0 m1 m2 f0 f1 f2 ep num pos data w hS g0 b2 hd g3 h0s c2 hc).mono fun e w' ⟨he, v, hr, hs, hg⟩ => ⟨he, Lib.hid ⟨s0, s1, v, t0, t1, t2, hr.out, hgr _ _ _ g1 hg, hgr _ _ _ g2 hg, hs.out, hgr _ _ _ g4 hg, hgr _ _ _ g5 hg, hgr _ _ _ g6 hg⟩, hg⟩
  · rw [doS_bad hc]
    obtain ⟨q1, q2⟩ := doC_bd ⟨[n0, n1, n2], [u0, u1, u2], [l0, l1, l2], [m0, m1, m2], [f0, f1, f2]⟩ q
    obtain ⟨who, ep, num, obj, pos, data⟩ := q
    simp only at hw hd
    have hK : ∀ W, Below w.heap.size w W → Calls Tryd.prog 57 #[.pointer (some ⟨d, 0, none⟩), .agg (rqA ⟨who, ep, num, obj, pos, data⟩)] W fun e w' => e = .returned (errV a0 a1 a2 a3 (doC ⟨[n0, n1, n2], [u0, u1, u2], [l0, l1, l2], [m0, m1, m2], [f0, f1, f2]⟩ ⟨who, ep, num, obj, pos, data⟩)) ∧ Below W.heap.size W w' := fun W hb => by
      obtain rfl | rfl | rfl : who = 0 ∨ who = 1 ∨ who = 2 := by omega
      · exact refuse_0 a0 a1 a2 a3 d s0 s1 s2 t0 t1 t2 n0 n1 n2 u0 u1 u2 l0 l1 l2 m0 m1 m2 f0 f1 f2 ep num obj pos data W (hS.keep hb) (row_keep g0 hb) b0 hd
      · exact refuse_1 a0 a1 a2 a3 d s0 s1 s2 t0 t1 t2 n0 n1 n2 u0 u1 u2 l0 l1 l2 m0 m1 m2 f0 f1 f2 ep num obj pos data W (hS.keep hb) (row_keep g0 hb) b1 hd
      · exact refuse_2 a0 a1 a2 a3 d s0 s1 s2 t0 t1 t2 n0 n1 n2 u0 u1 u2 l0 l1 l2 m0 m1 m2 f0 f1 f2 ep num obj pos data W (hS.keep hb) (row_keep g0 hb) b2 hd
    exact (do_no a0 a1 a2 a3 d _ _ w (by omega) hK).mono fun e w' ⟨he, hb⟩ => ⟨he, Lib.hid (hD.keep hb), gr_below hb _⟩

set_option maxRecDepth 100000 in
set_option maxHeartbeats 8000000 in
theorem implDo_no (v0 v1 v2 v3 v4 : Value) (S : StT) (q : ReqT) (w : World) (h : Sto w v0 v1 v2 v3 v4 S) (hz : szT S) (hq : stOkB S = false) :
    Calls Tryd.prog 11 #[.agg #[v0, v1, v2, v3, v4], .agg (rqA q)] w (ToSK w (doT S q) (doK S q)) := by
  obtain ⟨a0', c0, rfl⟩ := h.now.form
  obtain ⟨a1', c1, rfl⟩ := h.sure.form
  obtain ⟨a2', c2, rfl⟩ := h.last.form
  obtain ⟨a3', c3, rfl⟩ := h.slast.form
  obtain ⟨a4', c4, rfl⟩ := h.floors.form
  have hst : doT S q = st0 := by unfold doT; rw [if_neg (by rw [hq]; simp)]
  have hk : doK S q = 1 := by unfold doK; rw [if_neg (by rw [hq]; simp)]
  rw [hst, hk]
  obtain ⟨W, hW⟩ : ∃ W, ((w.alloc (.cells #[.slice a0' S.now.length c0, .slice a1' S.sure.length c1, .slice a2' S.last.length c2, .slice a3' S.slast.length c3, .slice a4' S.floors.length c4] 30)).alloc (.cells (rqA q) 34)).alloc (.cells #[.slice none 0 0, .slice none 0 0, .slice none 0 0, .slice none 0 0, .slice none 0 0] 30) = W := ⟨_, rfl⟩
  have hal : Below w.heap.size w W := by rw [← hW]; exact (((Below.refl _ _).alloc (Nat.le_refl _) _).alloc (by simp) _).alloc (by simp <;> omega) _
  have A0 : Box5 W w.heap.size (.slice a0' S.now.length c0) (.slice a1' S.sure.length c1) (.slice a2' S.last.length c2) (.slice a3' S.slast.length c3) (.slice a4' S.floors.length c4) := by rw [← hW]; exact ((new_box5 w _ _ _ _ _ _).keep ((Below.refl _ _).alloc (Nat.le_refl _) _)).keep ((Below.refl _ _).alloc (Nat.le_refl _) _)
  have Q0 : Box6 W (w.heap.size + 1) q := by
    rw [← hW]
    have := (new_box6 (w.alloc (.cells #[.slice a0' S.now.length c0, .slice a1' S.sure.length c1, .slice a2' S.last.length c2, .slice a3' S.slast.length c3, .slice a4' S.floors.length c4] 30)) q 34).keep ((Below.refl _ _).alloc (Nat.le_refl _) (.cells #[.slice none 0 0, .slice none 0 0, .slice none 0 0, .slice none 0 0, .slice none 0 0] 30))
    simpa using this
  have R0 : Box5W W (w.heap.size + 2) (.slice none 0 0) (.slice none 0 0) (.slice none 0 0) (.slice none 0 0) (.slice none 0 0) := by
    rw [← hW]
    have := new_box5W ((w.alloc (.cells #[.slice a0' S.now.length c0, .slice a1' S.sure.length c1, .slice a2' S.last.length c2, .slice a3' S.slast.length c3, .slice a4' S.floors.length c4] 30)).alloc (.cells (rqA q) 34)) (.slice none 0 0) (.slice none 0 0) (.slice none 0 0) (.slice none 0 0) (.slice none 0 0) 30
    simpa using this
  have hl : w.heap.size + 2 < W.heap.size := by rw [← hW]; simp <;> omega
  have E_0 := Lib.hid hal
  have S_0 := Lib.hid hl
  have bA_0 := Lib.hid A0
  have bQ_0 := Lib.hid Q0
  have bR_0 := Lib.hid R0
  have K := Lib.hid (diskOf_no _ _ _ _ _ S W (h.keep hal) hz hq)
  clear h hz hq hal A0 Q0 R0 hl hst hk
  obtain ⟨x00, x01, x02, x03, x04⟩ := bA_0.out
  go_enter Tryd.func11, Tryd.ntmps11
  go_wp2_with fail
  clear hW
  refine K.out.mono ?_; rintro e w1 ⟨rfl, hb⟩
  have bA_1 := Lib.hid (bA_0.out.keep hb)
  have bQ_2 := Lib.hid (bQ_0.out.keep hb)
  have bR_3 := Lib.hid (bR_0.out.keep hb)
  have E_4 := Lib.hid (E_0.out.trans (hb.mono E_0.out.size))
  have S_4 := Lib.hid hb.size
  clear x00 x01 x02 x03 x04
  clear bA_0 bQ_0 bR_0 E_0 hb
  clear K
  obtain ⟨x00, x01, x02, x03, x04, x05, x06, x07, x08, x09⟩ := bR_3.out
  obtain ⟨Z5, hZ5⟩ : ∃ X, (((((w1.setCell ⟨w.heap.size + 2, 0, none⟩ (.slice none 0 0)).setCell ⟨w.heap.size + 2, 1, none⟩ (.slice none 0 0)).setCell ⟨w.heap.size + 2, 2, none⟩ (.slice none 0 0)).setCell ⟨w.heap.size + 2, 3, none⟩ (.slice none 0 0)).setCell ⟨w.heap.size + 2, 4, none⟩ (.slice none 0 0)) = X := ⟨_, rfl⟩
  have hz : Box5W Z5 (w.heap.size + 2) (.slice none 0 0) (.slice none 0 0) (.slice none 0 0) (.slice none 0 0) (.slice none 0 0) := by rw [← hZ5]; exact ((((bR_3.out.set0 _).set1 _).set2 _).set3 _).set4 _
  have ht : Btn (w.heap.size + 2) (w.heap.size + 2 + 1) w1 Z5 := by rw [← hZ5]; exact ((((btn_set _ _ _ _).trans (btn_set _ _ _ _)).trans (btn_set _ _ _ _)).trans (btn_set _ _ _ _)).trans (btn_set _ _ _ _)
  have q0 := S_0.out
  have q1 := S_4.out
  have HZ : Hid (Below w.heap.size w Z5) := E_4.out.trans (ht.below (by omega) E_4.out.size)
  have hs := ht.size
  have HM : Hid (M5 Z5 w.heap.size Z5.heap.size (.slice none 0 0) (.slice none 0 0) (.slice none 0 0) (.slice none 0 0) (.slice none 0 0) (StT.n5 st0) (StT.f5 st0)) := M5.none _ _ _
  clear q0 q1 ht hs
  go_wp2
  obtain ⟨t0, t1, t2, t3, t4, -, -, -, -, -⟩ := hz
  exact bodyPost_ret (v := .tuple #[.agg #[.slice none 0 0, .slice none 0 0, .slice none 0 0, .slice none 0 0, .slice none 0 0], .int .i64 1]) (by simp [results, Tryd.results11, go_sem, t0, t1, t2, t3, t4]) rfl ⟨_, _, _, _, _, rfl, HM, HZ.out⟩

set_option maxRecDepth 100000 in
set_option maxHeartbeats 8000000 in
theorem implDo_yes (a0 a1 a2 a3 : Addr) (v0 v1 v2 v3 v4 : Value) (S : StT) (q : ReqT) (w : World) (hS : Snt w a0 a1 a2 a3) (h : Sto w v0 v1 v2 v3 v4 S) (hz : szT S) (hq : stOkB S = true) (hd : q.data.length ≤ 2000000) :
    Calls Tryd.prog 11 #[.agg #[v0, v1, v2, v3, v4], .agg (rqA q)] w (ToSK w (doT S q) (doK S q)) := by
  obtain ⟨a0', c0, rfl⟩ := h.now.form
  obtain ⟨a1', c1, rfl⟩ := h.sure.form
  obtain ⟨a2', c2, rfl⟩ := h.last.form
  obtain ⟨a3', c3, rfl⟩ := h.slast.form
  obtain ⟨a4', c4, rfl⟩ := h.floors.form
  have hst : doT S q = doS S q := by unfold doT; rw [if_pos hq]
  have hk : doK S q = doC S q := by unfold doK; rw [if_pos hq]
  rw [hst, hk]
  have hbd := doC_bd S q
  have hok2 : stOkB (doS S q) = true := stOkB_doS hq
  obtain ⟨W, hW⟩ : ∃ W, ((w.alloc (.cells #[.slice a0' S.now.length c0, .slice a1' S.sure.length c1, .slice a2' S.last.length c2, .slice a3' S.slast.length c3, .slice a4' S.floors.length c4] 30)).alloc (.cells (rqA q) 34)).alloc (.cells #[.slice none 0 0, .slice none 0 0, .slice none 0 0, .slice none 0 0, .slice none 0 0] 30) = W := ⟨_, rfl⟩
  have hal : Below w.heap.size w W := by rw [← hW]; exact (((Below.refl _ _).alloc (Nat.le_refl _) _).alloc (by simp) _).alloc (by simp <;> omega) _
  have A0 : Box5 W w.heap.size (.slice a0' S.now.length c0) (.slice a1' S.sure.length c1) (.slice a2' S.last.length c2) (.slice a3' S.slast.length c3) (.slice a4' S.floors.length c4) := by rw [← hW]; exact ((new_box5 w _ _ _ _ _ _).keep ((Below.refl _ _).alloc (Nat.le_refl _) _)).keep ((Below.refl _ _).alloc (Nat.le_refl _) _)
  have Q0 : Box6 W (w.heap.size + 1) q := by
    rw [← hW]
    have := (new_box6 (w.alloc (.cells #[.slice a0' S.now.length c0, .slice a1' S.sure.length c1, .slice a2' S.last.length c2, .slice a3' S.slast.length c3, .slice a4' S.floors.length c4] 30)) q 34).keep ((Below.refl _ _).alloc (Nat.le_refl _) (.cells #[.slice none 0 0, .slice none 0 0, .slice none 0 0, .slice none 0 0, .slice none 0 0] 30))
    simpa using this
  have R0 : Box5W W (w.heap.size + 2) (.slice none 0 0) (.slice none 0 0) (.slice none 0 0) (.slice none 0 0) (.slice none 0 0) := by
    rw [← hW]
    have := new_box5W ((w.alloc (.cells #[.slice a0' S.now.length c0, .slice a1' S.sure.length c1, .slice a2' S.last.length c2, .slice a3' S.slast.length c3, .slice a4' S.floors.length c4] 30)).alloc (.cells (rqA q) 34)) (.slice none 0 0) (.slice none 0 0) (.slice none 0 0) (.slice none 0 0) (.slice none 0 0) 30
    simpa using this
  have hl : w.heap.size + 2 < W.heap.size := by rw [← hW]; simp <;> omega
  have E_0 := Lib.hid hal
  have S_0 := Lib.hid hl
  have bA_0 := Lib.hid A0
  have bQ_0 := Lib.hid Q0
  have bR_0 := Lib.hid R0
  have K := Lib.hid (diskOf_yes _ _ _ _ _ S W (h.keep hal) hz hq)
  have HS := Lib.hid hS
  have HQ := Lib.hid hq
  have HDL := Lib.hid hd
  have KD := Lib.hid (fun d W hS hD => do_any a0 a1 a2 a3 d S q W hS hD hq hd)
  have KL := Lib.hid (stOk_lens hok2)
  obtain ⟨C, hC⟩ : ∃ C, doC S q = C := ⟨_, rfl⟩
  obtain ⟨T, hT⟩ : ∃ T, doS S q = T := ⟨_, rfl⟩
  rw [hC] at hbd KD
  rw [hT] at KD KL
  rw [hC, hT]
  have HBD := Lib.hid hbd
  clear h hz hq hal A0 Q0 R0 hl hst hk hS hd hbd hok2 hC hT
  obtain ⟨x00, x01, x02, x03, x04⟩ := bA_0.out
  go_enter Tryd.func11, Tryd.ntmps11
  go_wp2_with fail
  clear hW
  refine K.out.mono ?_; rintro e w1 ⟨d, rfl, HD, hb⟩
  have bA_1 := Lib.hid (bA_0.out.keep hb)
  have bQ_2 := Lib.hid (bQ_0.out.keep hb)
  have bR_3 := Lib.hid (bR_0.out.keep hb)
  have E_4 := Lib.hid (E_0.out.trans (hb.mono E_0.out.size))
  have S_4 := Lib.hid hb.size
  clear x00 x01 x02 x03 x04
  clear bA_0 bQ_0 bR_0 E_0 hb
  clear K
  have hdl : W.heap.size ≤ d := by obtain ⟨-, -, -, -, -, -, -, h, -⟩ := HD.out; exact h
  obtain ⟨x00, x01, x02, x03, x04, x05⟩ := bQ_2.out
  go_wp2_with fail
  refine (KD.out d _ (HS.out.keep E_4.out) HD.out.dkk).mono ?_; rintro e w2 ⟨rfl, HD2, hg⟩
  have ht : Btn d (d + 1) w1 w2 := Btn.of_grown hg (fun b e => by cases e; omega)
  clear hg KD HD
  have q0 := S_0.out
  have q1 := S_4.out
  have bA_5 := Lib.hid (bA_1.out.btn ht (by omega))
  have bQ_6 := Lib.hid (bQ_2.out.btn ht (by omega))
  have bR_7 := Lib.hid (bR_3.out.btn ht (by omega))
  have E_8 := Lib.hid (E_4.out.trans (ht.below (by omega) E_4.out.size))
  have S_8 := Lib.hid ht.size
  clear x00 x01 x02 x03 x04 x05
  clear bA_1 bQ_2 bR_3 E_4 q0 q1 ht
  go_wp2_with fail
  refine (codeOf_any a0 a1 a2 a3 C _ (HS.out.keep E_8.out) HBD.out).mono ?_; rintro e w3 ⟨rfl, hw⟩; subst hw
  go_wp2_with fail
  refine (diskStore_T d T _ HD2.out KL.out.1 KL.out.2.1 KL.out.2.2.1 KL.out.2.2.2.1 KL.out.2.2.2.2).mono ?_; rintro e w4 ⟨r0, r1, r2, r3, r4, rfl, M, hb⟩
  clear HD2
  have bA_9 := Lib.hid (bA_5.out.keep hb)
  have bQ_10 := Lib.hid (bQ_6.out.keep hb)
  have bR_11 := Lib.hid (bR_7.out.keep hb)
  have E_12 := Lib.hid (E_8.out.trans (hb.mono E_8.out.size))
  have S_12 := Lib.hid hb.size
  clear bA_5 bQ_6 bR_7 E_8 hb
  obtain ⟨b0, e0, rfl⟩ := M.out.a.vls.form
  obtain ⟨b1, e1, rfl⟩ := M.out.b.vls.form
  obtain ⟨b2, e2, rfl⟩ := M.out.c.vls.form
  obtain ⟨b3, e3, rfl⟩ := M.out.d.vls.form
  obtain ⟨b4, e4, rfl⟩ := M.out.e.vls.form
  obtain ⟨x00, x01, x02, x03, x04, x05, x06, x07, x08, x09⟩ := bR_11.out
  obtain ⟨Z13, hZ13⟩ : ∃ X, (((((w4.setCell ⟨w.heap.size + 2, 0, none⟩ (.slice b0 (StT.n5 T).a e0)).setCell ⟨w.heap.size + 2, 1, none⟩ (.slice b1 (StT.n5 T).b e1)).setCell ⟨w.heap.size + 2, 2, none⟩ (.slice b2 (StT.n5 T).c e2)).setCell ⟨w.heap.size + 2, 3, none⟩ (.slice b3 (StT.n5 T).d e3)).setCell ⟨w.heap.size + 2, 4, none⟩ (.slice b4 (StT.n5 T).e e4)) = X := ⟨_, rfl⟩
  have hz : Box5W Z13 (w.heap.size + 2) (.slice b0 (StT.n5 T).a e0) (.slice b1 (StT.n5 T).b e1) (.slice b2 (StT.n5 T).c e2) (.slice b3 (StT.n5 T).d e3) (.slice b4 (StT.n5 T).e e4) := by rw [← hZ13]; exact ((((bR_11.out.set0 _).set1 _).set2 _).set3 _).set4 _
  have ht : Btn (w.heap.size + 2) (w.heap.size + 2 + 1) w4 Z13 := by rw [← hZ13]; exact ((((btn_set _ _ _ _).trans (btn_set _ _ _ _)).trans (btn_set _ _ _ _)).trans (btn_set _ _ _ _)).trans (btn_set _ _ _ _)
  have q0 := S_0.out
  have q1 := S_4.out
  have q2 := S_8.out
  have q3 := S_12.out
  have HZ : Hid (Below w.heap.size w Z13) := E_12.out.trans (ht.below (by omega) E_12.out.size)
  have hs := ht.size
  have HM : Hid (M5 Z13 w.heap.size Z13.heap.size (.slice b0 (StT.n5 T).a e0) (.slice b1 (StT.n5 T).b e1) (.slice b2 (StT.n5 T).c e2) (.slice b3 (StT.n5 T).d e3) (.slice b4 (StT.n5 T).e e4) (StT.n5 T) (StT.f5 T)) := (M.out.btn ht (.inr (by omega))).wide (by omega) (by omega)
  clear q0 q1 q2 q3 ht hs
  go_wp2
  obtain ⟨t0, t1, t2, t3, t4, -, -, -, -, -⟩ := hz
  exact bodyPost_ret (v := .tuple #[.agg #[.slice b0 (StT.n5 T).a e0, .slice b1 (StT.n5 T).b e1, .slice b2 (StT.n5 T).c e2, .slice b3 (StT.n5 T).d e3, .slice b4 (StT.n5 T).e e4], .int .i64 C]) (by simp [results, Tryd.results11, go_sem, t0, t1, t2, t3, t4]) rfl ⟨_, _, _, _, _, rfl, HM, HZ.out⟩

theorem implStoreDo_any (a0 a1 a2 a3 : Addr) (v0 v1 v2 v3 v4 : Value) (S : StT) (q : ReqT) (w : World) (hS : Snt w a0 a1 a2 a3) (h : Sto w v0 v1 v2 v3 v4 S) (hz : szT S) (hd : q.data.length ≤ 2000000) :
    Calls Tryd.prog 11 #[.agg #[v0, v1, v2, v3, v4], .agg (rqA q)] w (ToSK w (doT S q) (doK S q)) := by
  by_cases hq : stOkB S = true
  · exact implDo_yes a0 a1 a2 a3 _ _ _ _ _ S q w hS h hz hq hd
  · exact implDo_no _ _ _ _ _ S q w h hz (by simpa using hq)

end Go.Proofs.YtadoihddmbbjoaaDoor
