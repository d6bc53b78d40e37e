/-
  A store, one in twelve bent: spec.l5Bent.
-/
import Derived.Test.YtadoihddmbbjoaaDoorKStoSome
namespace Go.Proofs.YtadoihddmbbjoaaDoor
open Go.RowKit

/-- What is left: a store of some kind in new memory, whatever becomes of the elder blocks. -/
def Bnd (w : World) (rb p k : Nat) (e : Ending) (w' : World) : Prop :=
  ∃ (S : StT) (v0 v1 v2 v3 v4 : Value) (p' : Nat), e = .returned (.agg #[v0, v1, v2, v3, v4]) ∧ szT S ∧ S.n5.le ∧ Hid (∀ w1, Btn 0 w.heap.size w' w1 → Sto w1 v0 v1 v2 v3 v4 S) ∧ Rd w' rb p' ∧ p' ≤ p + k ∧ w.grownBy w' (some rb)
theorem szL_set {L : List (List UInt8)} (h : szL L) (k : Nat) (x : List UInt8) (hx : x.length ≤ 9223372036854775807) : szL (L.set k x) := fun i => by
  rw [getD_set]
  split
  · exact hx
  · exact h i
theorem strF_set {L : List (List UInt8)} {k : Nat} (x : List UInt8) (i : Nat) (hi : i < L.length) : (if i = k then Value.string (mkB x) else strF L i) = strF (L.set k x) i := by
  show (if i = k then Value.string (mkB x) else Value.string (mkB (L.getD i []))) = Value.string (mkB ((L.set k x).getD i []))
  rw [getD_set]
  by_cases e : i = k
  · subst e; rw [if_pos rfl, if_pos ⟨rfl, hi⟩]
  · rw [if_neg e, if_neg (by omega)]
theorem intF_set {L : List Int} {k : Nat} (x : Int) (i : Nat) (hi : i < L.length) : (if i = k then Value.int .i64 x else intF L i) = intF (L.set k x) i := by
  show (if i = k then Value.int .i64 x else Value.int .i64 (L.getD i 0)) = Value.int .i64 ((L.set k x).getD i 0)
  rw [getD_set]
  by_cases e : i = k
  · subst e; rw [if_pos rfl, if_pos ⟨rfl, hi⟩]
  · rw [if_neg e, if_neg (by omega)]
theorem off_l {w w1 : World} {g n cap : Nat} {u : Value} (ht : Btn g (g + 1) w w1) (hd : Dis u (.slice (some ⟨g, 0, none⟩) n cap)) : ∀ b, u.ownBlock = some b → b < w.heap.size → w1.heap[b]? = w.heap[b]? := fun b hb hlt => ht.block b hlt (fun hh => by
  have e : b = g := by omega
  subst e
  exact hd b hb rfl)
theorem off_r {w w1 : World} {g n cap : Nat} {u : Value} (ht : Btn g (g + 1) w w1) (hd : Dis (.slice (some ⟨g, 0, none⟩) n cap) u) : ∀ b, u.ownBlock = some b → b < w.heap.size → w1.heap[b]? = w.heap[b]? := fun b hb hlt => ht.block b hlt (fun hh => by
  have e : b = g := by omega
  subst e
  exact hd b rfl hb)
theorem m5_setb {w w1 : World} {lo hi g n cap : Nat} {v0 v2 v3 v4 : Value} {N : N5} {F : F5} {f : Nat → Value} (h : M5 w lo hi v0 (.slice (some ⟨g, 0, none⟩) n cap) v2 v3 v4 N F) (ht : Btn g (g + 1) w w1) (hm : Mk1 w1 lo hi (.slice (some ⟨g, 0, none⟩) n cap) N.b f) :
    M5 w1 lo hi v0 (.slice (some ⟨g, 0, none⟩) n cap) v2 v3 v4 N { F with b := f } :=
  { h with a := h.a.same (off_l ht h.ab), c := h.c.same (off_r ht h.bc), d := h.d.same (off_r ht h.bd), e := h.e.same (off_r ht h.be), b := hm }
theorem m5_setd {w w1 : World} {lo hi g n cap : Nat} {v0 v1 v2 v4 : Value} {N : N5} {F : F5} {f : Nat → Value} (h : M5 w lo hi v0 v1 v2 (.slice (some ⟨g, 0, none⟩) n cap) v4 N F) (ht : Btn g (g + 1) w w1) (hm : Mk1 w1 lo hi (.slice (some ⟨g, 0, none⟩) n cap) N.d f) :
    M5 w1 lo hi v0 v1 v2 (.slice (some ⟨g, 0, none⟩) n cap) v4 N { F with d := f } :=
  { h with a := h.a.same (off_l ht h.ad), b := h.b.same (off_l ht h.bd), c := h.c.same (off_l ht h.cd), e := h.e.same (off_r ht h.de), d := hm }
theorem vls_tail {w : World} {lo hi g n cap : Nat} {L : List (List UInt8)} (h : Mk1 w lo hi (.slice (some ⟨g, 0, none⟩) n cap) L.length (strF L)) (hp : 0 < n) : Vls w (.slice (some ⟨g, 1, none⟩) (n - 1) (cap - 1)) L.tail.length (strF L.tail) := by
  obtain ⟨a, c, e, hl, hm, ho, hc⟩ := h
  injection e with e1 e2 e3
  subst e1 e2 e3
  obtain ⟨g', hg, hr⟩ := hc hp
  injection hg with hg1
  injection hg1 with hg2
  subst hg2
  refine ⟨_, _, by rw [List.length_tail], by rw [List.length_tail]; omega, by omega, fun hp2 => ⟨g, 1, rfl, fun i hi => ?_⟩⟩
  rw [List.length_tail] at hi
  have := (hr (i + 1) (by omega)).1
  rw [Nat.add_comm] at this
  rw [this]
  show some (Value.string (mkB (L.getD (1 + i) []))) = some (Value.string (mkB (L.tail.getD i [])))
  rw [List.getD_eq_getElem?_getD, List.getD_eq_getElem?_getD, List.getElem?_tail, Nat.add_comm]
theorem vls_tail0 {w : World} {L : List (List UInt8)} (a : Option Addr) (f : Nat → Value) (h : L.length = 1) : Vls w (.slice a 0 0) L.tail.length f := by
  have e : L.tail.length = 0 := by rw [List.length_tail]; omega
  exact ⟨a, 0, by rw [e], by rw [e]; exact Nat.le_refl _, by unfold maxLen; omega, fun hp => by omega⟩
theorem szL_tail {L : List (List UInt8)} (h : szL L) : szL L.tail := fun i => by
  have := h (i + 1)
  rw [List.getD_eq_getElem?_getD] at this ⊢
  rwa [List.getElem?_tail]
theorem m5_nile {w : World} {lo hi : Nat} {v0 v1 v2 v3 v4 : Value} {S : StT} (h : M5 w lo hi v0 v1 v2 v3 v4 S.n5 S.f5) : M5 w lo hi v0 v1 v2 v3 (.slice none 0 0) (StT.n5 { S with floors := [] }) (StT.f5 { S with floors := [] }) :=
  { a := h.a, b := h.b, c := h.c, d := h.d, e := Mk1.nil _ _ _ _, ab := h.ab, ac := h.ac, ad := h.ad, ae := dis_nil _ _, bc := h.bc, bd := h.bd, be := dis_nil _ _, cd := h.cd, ce := dis_nil _ _, de := dis_nil _ _ }

set_option maxRecDepth 100000 in
set_option maxHeartbeats 16000000 in
theorem l5Bent_any (rb p : Nat) (v0 v1 v2 v3 v4 : Value) (S : StT) (w : World) (hr0 : Rd w rb p) (hp : p ≤ 600000000) (h : Sto w v0 v1 v2 v3 v4 S) (hz : szT S) (hn : S.n5.le) :
    Calls Tryd.prog 39 #[.pointer (some ⟨rb, 0, none⟩), .agg #[v0, v1, v2, v3, v4]] w (Bnd w rb p 2) := by
  obtain ⟨a0, c0, rfl⟩ := h.now.form
  obtain ⟨a1, c1, rfl⟩ := h.sure.form
  obtain ⟨a2, c2, rfl⟩ := h.last.form
  obtain ⟨a3, c3, rfl⟩ := h.slast.form
  obtain ⟨a4, c4, rfl⟩ := h.floors.form
  have hrb := hr0.lt'
  obtain ⟨W, hW⟩ : ∃ W, (w.alloc (.cells #[.slice a0 S.now.length c0, .slice a1 S.sure.length c1, .slice a2 S.last.length c2, .slice a3 S.slast.length c3, .slice a4 S.floors.length c4] 30)).alloc (.cells #[.slice none 0 0, .slice none 0 0, .slice none 0 0, .slice none 0 0, .slice none 0 0] 30) = W := ⟨_, rfl⟩
  have hal : Below w.heap.size w W := by rw [← hW]; exact ((Below.refl _ _).alloc (Nat.le_refl _) _).alloc (by simp) _
  have A0 : Box5 W w.heap.size (.slice a0 S.now.length c0) (.slice a1 S.sure.length c1) (.slice a2 S.last.length c2) (.slice a3 S.slast.length c3) (.slice a4 S.floors.length c4) := by rw [← hW]; exact (new_box5 w _ _ _ _ _ _).keep ((Below.refl _ _).alloc (Nat.le_refl _) _)
  have R0 : Box5W W (w.heap.size + 1) (.slice none 0 0) (.slice none 0 0) (.slice none 0 0) (.slice none 0 0) (.slice none 0 0) := by
    rw [← hW]
    have := new_box5W (w.alloc (.cells #[.slice a0 S.now.length c0, .slice a1 S.sure.length c1, .slice a2 S.last.length c2, .slice a3 S.slast.length c3, .slice a4 S.floors.length c4] 30)) (.slice none 0 0) (.slice none 0 0) (.slice none 0 0) (.slice none 0 0) (.slice none 0 0) 30
    simpa using this
  have hl : w.heap.size + 1 < W.heap.size := by rw [← hW]; simp
  have E_0 := Lib.hid (grown_below hal (some rb))
  have R_0 := Lib.hid (hr0.keep hal)
  have S_0 := Lib.hid hl
  have bR_0 := Lib.hid R0
  have KC := Lib.hid (l5Copy_any _ _ _ _ _ S W (h.keep hal) hn)
  have HZ := Lib.hid hz
  have HN := Lib.hid hn
  obtain ⟨x0, x1, x2, x3, x4⟩ := A0
  clear hal R0 hl h hr0 hz hn
  go_enter Tryd.func39, Tryd.ntmps39
  go_wp2_with fail
  clear hW x0 x1 x2 x3 x4
  refine KC.out.mono ?_; rintro e w2 ⟨y0, y1, y2, y3, y4, rfl, M, hb⟩
  clear KC
  have bR_1 := Lib.hid (bR_0.out.keep hb)
  have E_1 := Lib.hid (grown_trans E_0.out (grown_below hb _))
  have R_1 := Lib.hid (R_0.out.keep hb)
  have S_1 := Lib.hid hb.size
  clear bR_0 E_0 R_0 hb
  have m_1 := M
  clear M
  obtain ⟨h0, k0, rfl⟩ := m_1.out.a.vls.form
  obtain ⟨h1, k1, rfl⟩ := m_1.out.b.vls.form
  obtain ⟨h2, k2, rfl⟩ := m_1.out.c.vls.form
  obtain ⟨h3, k3, rfl⟩ := m_1.out.d.vls.form
  obtain ⟨h4, k4, rfl⟩ := m_1.out.e.vls.form
  obtain ⟨n0, hn0⟩ : ∃ n, S.now.length = n := ⟨_, rfl⟩
  obtain ⟨n1, hn1⟩ : ∃ n, S.sure.length = n := ⟨_, rfl⟩
  obtain ⟨n2, hn2⟩ : ∃ n, S.last.length = n := ⟨_, rfl⟩
  obtain ⟨n3, hn3⟩ : ∃ n, S.slast.length = n := ⟨_, rfl⟩
  obtain ⟨n4, hn4⟩ : ∃ n, S.floors.length = n := ⟨_, rfl⟩
  have z0 : S.n5.a = n0 := hn0
  have z1 : S.n5.b = n1 := hn1
  have z2 : S.n5.c = n2 := hn2
  have z3 : S.n5.d = n3 := hn3
  have z4 : S.n5.e = n4 := hn4
  rw [z0]
  rw [z1]
  rw [z2]
  rw [z3]
  rw [z4]
  have hb0 : n0 ≤ 1048576 := by rw [← z0]; exact HN.out.1
  have hb1 : n1 ≤ 1048576 := by rw [← z1]; exact HN.out.2.1
  have hb2 : n2 ≤ 1048576 := by rw [← z2]; exact HN.out.2.2.1
  have hb3 : n3 ≤ 1048576 := by rw [← z3]; exact HN.out.2.2.2.1
  have hb4 : n4 ≤ 1048576 := by rw [← z4]; exact HN.out.2.2.2.2
  have mm : Hid (M5 w2 W.heap.size w2.heap.size (.slice h0 n0 k0) (.slice h1 n1 k1) (.slice h2 n2 k2) (.slice h3 n3 k3) (.slice h4 n4 k4) S.n5 S.f5) := by show M5 _ _ _ _ _ _ _ _ _ _; rw [← z0, ← z1, ← z2, ← z3, ← z4]; exact m_1.out
  clear m_1
  have HL0 := Lib.hid hn0
  have HL1 := Lib.hid hn1
  have HL2 := Lib.hid hn2
  have HL3 := Lib.hid hn3
  have HL4 := Lib.hid hn4
  clear hn0 hn1 hn2 hn3 hn4 z0 z1 z2 z3 z4
  obtain ⟨X3, hX3⟩ : ∃ X, w2.alloc (.cells #[.slice h0 n0 k0, .slice h1 n1 k1, .slice h2 n2 k2, .slice h3 n3 k3, .slice h4 n4 k4] 30) = X := ⟨_, rfl⟩
  have hb : Below w2.heap.size w2 X3 := by rw [← hX3]; exact (Below.refl _ _).alloc (Nat.le_refl _) _
  have hB : Box5W X3 w2.heap.size (.slice h0 n0 k0) (.slice h1 n1 k1) (.slice h2 n2 k2) (.slice h3 n3 k3) (.slice h4 n4 k4) := by rw [← hX3]; exact new_box5W _ _ _ _ _ _ _
  have hl : w2.heap.size < X3.heap.size := by rw [← hX3]; simp
  have bR_2 := Lib.hid (bR_1.out.keep hb)
  have m_2 := Lib.hid (mm.out.keep hb)
  have E_2 := Lib.hid (grown_trans E_1.out (grown_below hb _))
  have R_2 := Lib.hid (R_1.out.keep hb)
  have S_2 := Lib.hid hb.size
  clear bR_1 mm E_1 R_1 hb
  have bX_b := Lib.hid hB
  have S_b := Lib.hid hl
  clear hB hl
  go_wp2_with fail
  refine (pick_any rb (p) 72 _ R_2.out (by omega) (by omega) (by omega)).mono ?_; rintro e w11 ⟨c, rfl, c0, c1, hr, hg⟩
  clear hX3
  have q0_ := S_0.out
  have q1_ := S_1.out
  have q2_ := S_2.out
  have q3_ := S_b.out
  have ht := grown_btn hg
  have bR_3 := Lib.hid (bR_2.out.btn ht (by omega))
  have m_3 := Lib.hid (m_2.out.btn ht (by omega))
  have bX_3 := Lib.hid (bX_b.out.btn ht (by omega))
  have E_3 := Lib.hid (grown_trans E_2.out hg)
  have R_3 := Lib.hid (hr)
  have S_3 := Lib.hid ht.size
  clear bR_2 m_2 bX_b E_2 R_2 hg hr ht q0_ q1_ q2_ q3_
  replace c1 := c1 (by omega)
  by_cases e0 : c = 0
  · subst e0
    by_cases hp : 0 < n0
    · obtain ⟨g, cc, q, hrow, hset⟩ := m_3.out.a.at (show 0 < S.n5.a by show 0 < S.now.length; rw [HL0.out]; omega)
      injection q with q1 q2 q3
      subst q1
      subst q3
      clear q2
      have hg := m_3.out.a.bnd g rfl
      have hrow : Row1 w11 g n0 (S.f5.a) := by have := hrow; rwa [show S.n5.a = n0 from HL0.out] at this
      have hcap : n0 ≤ k0 := by obtain ⟨_, _, q, q2, -⟩ := m_3.out.a.vls; injection q with _ q3 q4; omega
      by_cases hk1 : k0 = 1
      · obtain rfl : k0 = 1 := hk1
        obtain rfl : n0 = 1 := by omega
        obtain ⟨x0_0, x0_1, x0_2, x0_3, x0_4, x0_5, x0_6, x0_7, x0_8, x0_9⟩ := bX_3.out
        have q0_ := S_0.out
        have q1_ := S_1.out
        have q2_ := S_2.out
        have q3_ := S_b.out
        have q4_ := S_3.out
        obtain ⟨X12, hX12⟩ : ∃ X, w11.setCell ⟨w2.heap.size, 0, none⟩ (.slice (some ⟨g, 0, none⟩) 0 0) = X := ⟨_, rfl⟩
        have ht : Btn w2.heap.size (w2.heap.size + 1) w11 X12 := by rw [← hX12]; exact btn_set _ _ _ _
        have hB : Box5W X12 w2.heap.size (.slice (some ⟨g, 0, none⟩) 0 0) (.slice h1 n1 k1) (.slice h2 n2 k2) (.slice h3 n3 k3) (.slice h4 n4 k4) := by rw [← hX12]; exact bX_3.out.set0 _
        have hE := grown_new E_3.out (show w.heap.size ≤ w2.heap.size by omega) (o := 0) (v := .slice (some ⟨g, 0, none⟩) 0 0)
        have hRd := R_3.out.set (show rb < w2.heap.size by omega) (o := 0) (u := .slice (some ⟨g, 0, none⟩) 0 0)
        rw [hX12] at hE hRd
        clear hrow hset hg
        obtain ⟨w00, w01, w02, w03, w04, w05, w06, w07, w08, w09⟩ := bX_3.out
        have bR_4 := Lib.hid (bR_3.out.btn ht (by omega))
        have m_4 := Lib.hid (m_3.out.btn ht (by omega))
        have E_4 := Lib.hid (hE)
        have R_4 := Lib.hid (hRd)
        have S_4 := Lib.hid ht.size
        clear bR_3 m_3 E_3 R_3 ht hE hRd bX_3 q0_ q1_ q2_ q3_ q4_
        have bX_5 := Lib.hid hB
        clear hB
        obtain ⟨x0_0, x0_1, x0_2, x0_3, x0_4, x0_5, x0_6, x0_7, x0_8, x0_9⟩ := bX_5.out
        obtain ⟨x1_0, x1_1, x1_2, x1_3, x1_4, x1_5, x1_6, x1_7, x1_8, x1_9⟩ := bR_4.out
        have q0_ := S_0.out
        have q1_ := S_1.out
        have q2_ := S_2.out
        have q3_ := S_b.out
        have q4_ := S_3.out
        have q5_ := S_4.out
        obtain ⟨Z, hZ⟩ : ∃ X, (((((X12.setCell ⟨w.heap.size + 1, 0, none⟩ (.slice (some ⟨g, 0, none⟩) 0 0)).setCell ⟨w.heap.size + 1, 1, none⟩ (.slice h1 n1 k1)).setCell ⟨w.heap.size + 1, 2, none⟩ (.slice h2 n2 k2)).setCell ⟨w.heap.size + 1, 3, none⟩ (.slice h3 n3 k3)).setCell ⟨w.heap.size + 1, 4, none⟩ (.slice h4 n4 k4)) = X := ⟨_, rfl⟩
        have hzb : Box5W Z (w.heap.size + 1) (.slice (some ⟨g, 0, none⟩) 0 0) (.slice h1 n1 k1) (.slice h2 n2 k2) (.slice h3 n3 k3) (.slice h4 n4 k4) := by rw [← hZ]; exact ((((bR_4.out.set0 _).set1 _).set2 _).set3 _).set4 _
        have ht : Btn (w.heap.size + 1) (w.heap.size + 1 + 1) X12 Z := by rw [← hZ]; exact ((((btn_set _ _ _ _).trans (btn_set _ _ _ _)).trans (btn_set _ _ _ _)).trans (btn_set _ _ _ _)).trans (btn_set _ _ _ _)
        have hE := grown_new (grown_new (grown_new (grown_new (grown_new (E_4.out) (show w.heap.size ≤ w.heap.size + 1 by omega) (o := 0) (v := .slice (some ⟨g, 0, none⟩) 0 0)) (show w.heap.size ≤ w.heap.size + 1 by omega) (o := 1) (v := .slice h1 n1 k1)) (show w.heap.size ≤ w.heap.size + 1 by omega) (o := 2) (v := .slice h2 n2 k2)) (show w.heap.size ≤ w.heap.size + 1 by omega) (o := 3) (v := .slice h3 n3 k3)) (show w.heap.size ≤ w.heap.size + 1 by omega) (o := 4) (v := .slice h4 n4 k4)
        have hRd := (((((R_4.out).set (show rb < w.heap.size + 1 by omega) (o := 0) (u := .slice (some ⟨g, 0, none⟩) 0 0)).set (show rb < w.heap.size + 1 by omega) (o := 1) (u := .slice h1 n1 k1)).set (show rb < w.heap.size + 1 by omega) (o := 2) (u := .slice h2 n2 k2)).set (show rb < w.heap.size + 1 by omega) (o := 3) (u := .slice h3 n3 k3)).set (show rb < w.heap.size + 1 by omega) (o := 4) (u := .slice h4 n4 k4)
        rw [hZ] at hE hRd
        have HE := Lib.hid hE
        have HRd := Lib.hid hRd
        have hlo : w.heap.size ≤ W.heap.size := by omega
        have HM := m_4.out.btn ht (.inr (by omega))
        have HS : Hid (∀ w1, Btn 0 w.heap.size Z w1 → Sto w1 (.slice (some ⟨g, 0, none⟩) 0 0) (.slice h1 n1 k1) (.slice h2 n2 k2) (.slice h3 n3 k3) (.slice h4 n4 k4) ({ S with now := S.now.tail })) := fun w1 hb => by
          have q := HM.btn hb (.inr hlo)
          exact ⟨vls_tail0 _ _ HL0.out, q.b.vls, q.c.vls, q.d.vls, q.e.vls⟩
        clear HM
        have HP : Hid (p + 1 ≤ p + 2) := by show _ ≤ _; omega
        have HZ2 : Hid (szT ({ S with now := S.now.tail })) := ⟨szL_tail HZ.out.1, HZ.out.2⟩
        have HN2 : Hid (StT.n5 ({ S with now := S.now.tail })).le := ⟨by show S.now.tail.length ≤ _; rw [List.length_tail]; have := HN.out.1; show S.now.length - 1 ≤ _; unfold StT.n5 at this; dsimp only at this; omega, HN.out.2.1, HN.out.2.2.1, HN.out.2.2.2.1, HN.out.2.2.2.2⟩
        clear hE hRd ht q0_ q1_ q2_ q3_ q4_ q5_
        go_wp2
        obtain ⟨t0, t1, t2, t3, t4, -, -, -, -, -⟩ := hzb
        exact bodyPost_ret (v := .agg #[.slice (some ⟨g, 0, none⟩) 0 0, .slice h1 n1 k1, .slice h2 n2 k2, .slice h3 n3 k3, .slice h4 n4 k4]) (by simp [results, Tryd.results39, go_sem, t0, t1, t2, t3, t4]) rfl ⟨{ S with now := S.now.tail }, _, _, _, _, _, _, rfl, HZ2.out, HN2.out, HS, HRd.out, HP.out, HE.out⟩
      · obtain ⟨x0_0, x0_1, x0_2, x0_3, x0_4, x0_5, x0_6, x0_7, x0_8, x0_9⟩ := bX_3.out
        have q0_ := S_0.out
        have q1_ := S_1.out
        have q2_ := S_2.out
        have q3_ := S_b.out
        have q4_ := S_3.out
        obtain ⟨X13, hX13⟩ : ∃ X, w11.setCell ⟨w2.heap.size, 0, none⟩ (.slice (some ⟨g, 1, none⟩) (n0 - 1) (k0 - 1)) = X := ⟨_, rfl⟩
        have ht : Btn w2.heap.size (w2.heap.size + 1) w11 X13 := by rw [← hX13]; exact btn_set _ _ _ _
        have hB : Box5W X13 w2.heap.size (.slice (some ⟨g, 1, none⟩) (n0 - 1) (k0 - 1)) (.slice h1 n1 k1) (.slice h2 n2 k2) (.slice h3 n3 k3) (.slice h4 n4 k4) := by rw [← hX13]; exact bX_3.out.set0 _
        have hE := grown_new E_3.out (show w.heap.size ≤ w2.heap.size by omega) (o := 0) (v := .slice (some ⟨g, 1, none⟩) (n0 - 1) (k0 - 1))
        have hRd := R_3.out.set (show rb < w2.heap.size by omega) (o := 0) (u := .slice (some ⟨g, 1, none⟩) (n0 - 1) (k0 - 1))
        rw [hX13] at hE hRd
        clear hrow hset hg
        obtain ⟨w00, w01, w02, w03, w04, w05, w06, w07, w08, w09⟩ := bX_3.out
        have bR_4 := Lib.hid (bR_3.out.btn ht (by omega))
        have m_4 := Lib.hid (m_3.out.btn ht (by omega))
        have E_4 := Lib.hid (hE)
        have R_4 := Lib.hid (hRd)
        have S_4 := Lib.hid ht.size
        clear bR_3 m_3 E_3 R_3 ht hE hRd bX_3 q0_ q1_ q2_ q3_ q4_
        have bX_5 := Lib.hid hB
        clear hB
        obtain ⟨x0_0, x0_1, x0_2, x0_3, x0_4, x0_5, x0_6, x0_7, x0_8, x0_9⟩ := bX_5.out
        obtain ⟨x1_0, x1_1, x1_2, x1_3, x1_4, x1_5, x1_6, x1_7, x1_8, x1_9⟩ := bR_4.out
        have q0_ := S_0.out
        have q1_ := S_1.out
        have q2_ := S_2.out
        have q3_ := S_b.out
        have q4_ := S_3.out
        have q5_ := S_4.out
        obtain ⟨Z, hZ⟩ : ∃ X, (((((X13.setCell ⟨w.heap.size + 1, 0, none⟩ (.slice (some ⟨g, 1, none⟩) (n0 - 1) (k0 - 1))).setCell ⟨w.heap.size + 1, 1, none⟩ (.slice h1 n1 k1)).setCell ⟨w.heap.size + 1, 2, none⟩ (.slice h2 n2 k2)).setCell ⟨w.heap.size + 1, 3, none⟩ (.slice h3 n3 k3)).setCell ⟨w.heap.size + 1, 4, none⟩ (.slice h4 n4 k4)) = X := ⟨_, rfl⟩
        have hzb : Box5W Z (w.heap.size + 1) (.slice (some ⟨g, 1, none⟩) (n0 - 1) (k0 - 1)) (.slice h1 n1 k1) (.slice h2 n2 k2) (.slice h3 n3 k3) (.slice h4 n4 k4) := by rw [← hZ]; exact ((((bR_4.out.set0 _).set1 _).set2 _).set3 _).set4 _
        have ht : Btn (w.heap.size + 1) (w.heap.size + 1 + 1) X13 Z := by rw [← hZ]; exact ((((btn_set _ _ _ _).trans (btn_set _ _ _ _)).trans (btn_set _ _ _ _)).trans (btn_set _ _ _ _)).trans (btn_set _ _ _ _)
        have hE := grown_new (grown_new (grown_new (grown_new (grown_new (E_4.out) (show w.heap.size ≤ w.heap.size + 1 by omega) (o := 0) (v := .slice (some ⟨g, 1, none⟩) (n0 - 1) (k0 - 1))) (show w.heap.size ≤ w.heap.size + 1 by omega) (o := 1) (v := .slice h1 n1 k1)) (show w.heap.size ≤ w.heap.size + 1 by omega) (o := 2) (v := .slice h2 n2 k2)) (show w.heap.size ≤ w.heap.size + 1 by omega) (o := 3) (v := .slice h3 n3 k3)) (show w.heap.size ≤ w.heap.size + 1 by omega) (o := 4) (v := .slice h4 n4 k4)
        have hRd := (((((R_4.out).set (show rb < w.heap.size + 1 by omega) (o := 0) (u := .slice (some ⟨g, 1, none⟩) (n0 - 1) (k0 - 1))).set (show rb < w.heap.size + 1 by omega) (o := 1) (u := .slice h1 n1 k1)).set (show rb < w.heap.size + 1 by omega) (o := 2) (u := .slice h2 n2 k2)).set (show rb < w.heap.size + 1 by omega) (o := 3) (u := .slice h3 n3 k3)).set (show rb < w.heap.size + 1 by omega) (o := 4) (u := .slice h4 n4 k4)
        rw [hZ] at hE hRd
        have HE := Lib.hid hE
        have HRd := Lib.hid hRd
        have hlo : w.heap.size ≤ W.heap.size := by omega
        have HM := m_4.out.btn ht (.inr (by omega))
        have HS : Hid (∀ w1, Btn 0 w.heap.size Z w1 → Sto w1 (.slice (some ⟨g, 1, none⟩) (n0 - 1) (k0 - 1)) (.slice h1 n1 k1) (.slice h2 n2 k2) (.slice h3 n3 k3) (.slice h4 n4 k4) ({ S with now := S.now.tail })) := fun w1 hb => by
          have q := HM.btn hb (.inr hlo)
          exact ⟨vls_tail q.a hp, q.b.vls, q.c.vls, q.d.vls, q.e.vls⟩
        clear HM
        have HP : Hid (p + 1 ≤ p + 2) := by show _ ≤ _; omega
        have HZ2 : Hid (szT ({ S with now := S.now.tail })) := ⟨szL_tail HZ.out.1, HZ.out.2⟩
        have HN2 : Hid (StT.n5 ({ S with now := S.now.tail })).le := ⟨by show S.now.tail.length ≤ _; rw [List.length_tail]; have := HN.out.1; show S.now.length - 1 ≤ _; unfold StT.n5 at this; dsimp only at this; omega, HN.out.2.1, HN.out.2.2.1, HN.out.2.2.2.1, HN.out.2.2.2.2⟩
        clear hE hRd ht q0_ q1_ q2_ q3_ q4_ q5_
        go_wp2
        obtain ⟨t0, t1, t2, t3, t4, -, -, -, -, -⟩ := hzb
        exact bodyPost_ret (v := .agg #[.slice (some ⟨g, 1, none⟩) (n0 - 1) (k0 - 1), .slice h1 n1 k1, .slice h2 n2 k2, .slice h3 n3 k3, .slice h4 n4 k4]) (by simp [results, Tryd.results39, go_sem, t0, t1, t2, t3, t4]) rfl ⟨{ S with now := S.now.tail }, _, _, _, _, _, _, rfl, HZ2.out, HN2.out, HS, HRd.out, HP.out, HE.out⟩
    · obtain ⟨x0_0, x0_1, x0_2, x0_3, x0_4, x0_5, x0_6, x0_7, x0_8, x0_9⟩ := bX_3.out
      clear x0_0 x0_1 x0_2 x0_3 x0_4 x0_5 x0_6 x0_7 x0_8 x0_9
      obtain ⟨x0_0, x0_1, x0_2, x0_3, x0_4, x0_5, x0_6, x0_7, x0_8, x0_9⟩ := bX_3.out
      obtain ⟨x1_0, x1_1, x1_2, x1_3, x1_4, x1_5, x1_6, x1_7, x1_8, x1_9⟩ := bR_3.out
      have q0_ := S_0.out
      have q1_ := S_1.out
      have q2_ := S_2.out
      have q3_ := S_b.out
      have q4_ := S_3.out
      obtain ⟨Z, hZ⟩ : ∃ X, (((((w11.setCell ⟨w.heap.size + 1, 0, none⟩ (.slice h0 n0 k0)).setCell ⟨w.heap.size + 1, 1, none⟩ (.slice h1 n1 k1)).setCell ⟨w.heap.size + 1, 2, none⟩ (.slice h2 n2 k2)).setCell ⟨w.heap.size + 1, 3, none⟩ (.slice h3 n3 k3)).setCell ⟨w.heap.size + 1, 4, none⟩ (.slice h4 n4 k4)) = X := ⟨_, rfl⟩
      have hzb : Box5W Z (w.heap.size + 1) (.slice h0 n0 k0) (.slice h1 n1 k1) (.slice h2 n2 k2) (.slice h3 n3 k3) (.slice h4 n4 k4) := by rw [← hZ]; exact ((((bR_3.out.set0 _).set1 _).set2 _).set3 _).set4 _
      have ht : Btn (w.heap.size + 1) (w.heap.size + 1 + 1) w11 Z := by rw [← hZ]; exact ((((btn_set _ _ _ _).trans (btn_set _ _ _ _)).trans (btn_set _ _ _ _)).trans (btn_set _ _ _ _)).trans (btn_set _ _ _ _)
      have hE := grown_new (grown_new (grown_new (grown_new (grown_new (E_3.out) (show w.heap.size ≤ w.heap.size + 1 by omega) (o := 0) (v := .slice h0 n0 k0)) (show w.heap.size ≤ w.heap.size + 1 by omega) (o := 1) (v := .slice h1 n1 k1)) (show w.heap.size ≤ w.heap.size + 1 by omega) (o := 2) (v := .slice h2 n2 k2)) (show w.heap.size ≤ w.heap.size + 1 by omega) (o := 3) (v := .slice h3 n3 k3)) (show w.heap.size ≤ w.heap.size + 1 by omega) (o := 4) (v := .slice h4 n4 k4)
      have hRd := (((((R_3.out).set (show rb < w.heap.size + 1 by omega) (o := 0) (u := .slice h0 n0 k0)).set (show rb < w.heap.size + 1 by omega) (o := 1) (u := .slice h1 n1 k1)).set (show rb < w.heap.size + 1 by omega) (o := 2) (u := .slice h2 n2 k2)).set (show rb < w.heap.size + 1 by omega) (o := 3) (u := .slice h3 n3 k3)).set (show rb < w.heap.size + 1 by omega) (o := 4) (u := .slice h4 n4 k4)
      rw [hZ] at hE hRd
      have HE := Lib.hid hE
      have HRd := Lib.hid hRd
      have hlo : w.heap.size ≤ W.heap.size := by omega
      have HM := m_3.out.btn ht (.inr (by omega))
      have HS : Hid (∀ w1, Btn 0 w.heap.size Z w1 → Sto w1 (.slice h0 n0 k0) (.slice h1 n1 k1) (.slice h2 n2 k2) (.slice h3 n3 k3) (.slice h4 n4 k4) (S)) := fun w1 hb => (HM.btn hb (.inr hlo)).sto
      clear HM
      have HP : Hid (p + 1 ≤ p + 2) := by show _ ≤ _; omega
      have HZ2 : Hid (szT (S)) := HZ
      have HN2 : Hid (StT.n5 (S)).le := HN
      clear hE hRd ht q0_ q1_ q2_ q3_ q4_
      go_wp2
      obtain ⟨t0, t1, t2, t3, t4, -, -, -, -, -⟩ := hzb
      exact bodyPost_ret (v := .agg #[.slice h0 n0 k0, .slice h1 n1 k1, .slice h2 n2 k2, .slice h3 n3 k3, .slice h4 n4 k4]) (by simp [results, Tryd.results39, go_sem, t0, t1, t2, t3, t4]) rfl ⟨S, _, _, _, _, _, _, rfl, HZ2.out, HN2.out, HS, HRd.out, HP.out, HE.out⟩
  · have d0 : (c == 0) = false := by simpa using e0
    by_cases e1 : c = 1
    · subst e1
      by_cases hp : 0 < n1
      · obtain ⟨g, cc, q, hrow, hset⟩ := m_3.out.b.at (show 0 < S.n5.b by show 0 < S.sure.length; rw [HL1.out]; omega)
        injection q with q1 q2 q3
        subst q1
        subst q3
        clear q2
        have hg := m_3.out.b.bnd g rfl
        have hrow : Row1 w11 g n1 (S.f5.b) := by have := hrow; rwa [show S.n5.b = n1 from HL1.out] at this
        obtain ⟨x0_0, x0_1, x0_2, x0_3, x0_4, x0_5, x0_6, x0_7, x0_8, x0_9⟩ := bX_3.out
        have yc := (hrow 0 (by omega)).1
        have yf := (hrow 0 (by omega)).2
        have q0_ := S_0.out
        have q1_ := S_1.out
        have q2_ := S_2.out
        have q3_ := S_b.out
        have q4_ := S_3.out
        obtain ⟨X14, hX14⟩ : ∃ X, w11.setCell ⟨g, 0, none⟩ (.string ⟨#[65]⟩) = X := ⟨_, rfl⟩
        have ht : Btn g (g + 1) w11 X14 := by rw [← hX14]; exact btn_set _ _ _ _
        have hrow2 : Row1 X14 g n1 (strF (S.sure.set 0 [65])) := by rw [← hX14]; exact (hrow.set (k := 0) (by omega)).congr (fun i hi => strF_set _ i (by rw [HL1.out]; exact hi))
        have hm2 := hset _ X14 (show Row1 X14 g S.n5.b (strF (S.sure.set 0 [65])) by rw [show S.n5.b = n1 from HL1.out]; exact hrow2)
        have hm3 := m5_setb m_3.out ht hm2
        have hlen : (S.sure.set 0 [65]).length = S.sure.length := List.length_set ..
        have hm4 : M5 X14 W.heap.size w2.heap.size (.slice h0 n0 k0) (.slice (some ⟨g, 0, none⟩) n1 k1) (.slice h2 n2 k2) (.slice h3 n3 k3) (.slice h4 n4 k4) (StT.n5 ({ S with sure := S.sure.set 0 [65] })) (StT.f5 ({ S with sure := S.sure.set 0 [65] })) := by
          unfold StT.n5 StT.f5 at hm3 ⊢
          dsimp only at hm3 ⊢
          rw [hlen]; exact hm3
        have hE := grown_new E_3.out (show w.heap.size ≤ g by omega) (o := 0) (v := .string ⟨#[65]⟩)
        have hRd := R_3.out.set (show rb < g by omega) (o := 0) (u := .string ⟨#[65]⟩)
        rw [hX14] at hE hRd
        have bR_4 := Lib.hid (bR_3.out.btn ht (by omega))
        have bX_4 := Lib.hid (bX_3.out.btn ht (by omega))
        have E_4 := Lib.hid (hE)
        have R_4 := Lib.hid (hRd)
        have S_4 := Lib.hid ht.size
        clear bR_3 bX_3 E_3 R_3 ht hE hRd m_3 hrow2 hm2 hm3 hlen hset hrow q0_ q1_ q2_ q3_ q4_
        have m_5 := Lib.hid hm4
        clear hm4
        obtain ⟨x0_0, x0_1, x0_2, x0_3, x0_4, x0_5, x0_6, x0_7, x0_8, x0_9⟩ := bX_4.out
        obtain ⟨x1_0, x1_1, x1_2, x1_3, x1_4, x1_5, x1_6, x1_7, x1_8, x1_9⟩ := bR_4.out
        have q0_ := S_0.out
        have q1_ := S_1.out
        have q2_ := S_2.out
        have q3_ := S_b.out
        have q4_ := S_3.out
        have q5_ := S_4.out
        obtain ⟨Z, hZ⟩ : ∃ X, (((((X14.setCell ⟨w.heap.size + 1, 0, none⟩ (.slice h0 n0 k0)).setCell ⟨w.heap.size + 1, 1, none⟩ (.slice (some ⟨g, 0, none⟩) n1 k1)).setCell ⟨w.heap.size + 1, 2, none⟩ (.slice h2 n2 k2)).setCell ⟨w.heap.size + 1, 3, none⟩ (.slice h3 n3 k3)).setCell ⟨w.heap.size + 1, 4, none⟩ (.slice h4 n4 k4)) = X := ⟨_, rfl⟩
        have hzb : Box5W Z (w.heap.size + 1) (.slice h0 n0 k0) (.slice (some ⟨g, 0, none⟩) n1 k1) (.slice h2 n2 k2) (.slice h3 n3 k3) (.slice h4 n4 k4) := by rw [← hZ]; exact ((((bR_4.out.set0 _).set1 _).set2 _).set3 _).set4 _
        have ht : Btn (w.heap.size + 1) (w.heap.size + 1 + 1) X14 Z := by rw [← hZ]; exact ((((btn_set _ _ _ _).trans (btn_set _ _ _ _)).trans (btn_set _ _ _ _)).trans (btn_set _ _ _ _)).trans (btn_set _ _ _ _)
        have hE := grown_new (grown_new (grown_new (grown_new (grown_new (E_4.out) (show w.heap.size ≤ w.heap.size + 1 by omega) (o := 0) (v := .slice h0 n0 k0)) (show w.heap.size ≤ w.heap.size + 1 by omega) (o := 1) (v := .slice (some ⟨g, 0, none⟩) n1 k1)) (show w.heap.size ≤ w.heap.size + 1 by omega) (o := 2) (v := .slice h2 n2 k2)) (show w.heap.size ≤ w.heap.size + 1 by omega) (o := 3) (v := .slice h3 n3 k3)) (show w.heap.size ≤ w.heap.size + 1 by omega) (o := 4) (v := .slice h4 n4 k4)
        have hRd := (((((R_4.out).set (show rb < w.heap.size + 1 by omega) (o := 0) (u := .slice h0 n0 k0)).set (show rb < w.heap.size + 1 by omega) (o := 1) (u := .slice (some ⟨g, 0, none⟩) n1 k1)).set (show rb < w.heap.size + 1 by omega) (o := 2) (u := .slice h2 n2 k2)).set (show rb < w.heap.size + 1 by omega) (o := 3) (u := .slice h3 n3 k3)).set (show rb < w.heap.size + 1 by omega) (o := 4) (u := .slice h4 n4 k4)
        rw [hZ] at hE hRd
        have HE := Lib.hid hE
        have HRd := Lib.hid hRd
        have hlo : w.heap.size ≤ W.heap.size := by omega
        have HM := m_5.out.btn ht (.inr (by omega))
        have HS : Hid (∀ w1, Btn 0 w.heap.size Z w1 → Sto w1 (.slice h0 n0 k0) (.slice (some ⟨g, 0, none⟩) n1 k1) (.slice h2 n2 k2) (.slice h3 n3 k3) (.slice h4 n4 k4) ({ S with sure := S.sure.set 0 [65] })) := fun w1 hb => (HM.btn hb (.inr hlo)).sto
        clear HM
        have HP : Hid (p + 1 ≤ p + 2) := by show _ ≤ _; omega
        have HZ2 : Hid (szT ({ S with sure := S.sure.set 0 [65] })) := ⟨HZ.out.1, szL_set HZ.out.2 _ _ (by decide)⟩
        have HN2 : Hid (StT.n5 ({ S with sure := S.sure.set 0 [65] })).le := ⟨HN.out.1, (by show (List.set _ _ _).length ≤ _; rw [List.length_set]; exact HN.out.2.1), HN.out.2.2.1, HN.out.2.2.2.1, HN.out.2.2.2.2⟩
        clear hE hRd ht q0_ q1_ q2_ q3_ q4_ q5_
        go_wp2
        obtain ⟨t0, t1, t2, t3, t4, -, -, -, -, -⟩ := hzb
        exact bodyPost_ret (v := .agg #[.slice h0 n0 k0, .slice (some ⟨g, 0, none⟩) n1 k1, .slice h2 n2 k2, .slice h3 n3 k3, .slice h4 n4 k4]) (by simp [results, Tryd.results39, go_sem, t0, t1, t2, t3, t4]) rfl ⟨{ S with sure := S.sure.set 0 [65] }, _, _, _, _, _, _, rfl, HZ2.out, HN2.out, HS, HRd.out, HP.out, HE.out⟩
      · obtain ⟨x0_0, x0_1, x0_2, x0_3, x0_4, x0_5, x0_6, x0_7, x0_8, x0_9⟩ := bX_3.out
        clear x0_0 x0_1 x0_2 x0_3 x0_4 x0_5 x0_6 x0_7 x0_8 x0_9
        obtain ⟨x0_0, x0_1, x0_2, x0_3, x0_4, x0_5, x0_6, x0_7, x0_8, x0_9⟩ := bX_3.out
        obtain ⟨x1_0, x1_1, x1_2, x1_3, x1_4, x1_5, x1_6, x1_7, x1_8, x1_9⟩ := bR_3.out
        have q0_ := S_0.out
        have q1_ := S_1.out
        have q2_ := S_2.out
        have q3_ := S_b.out
        have q4_ := S_3.out
        obtain ⟨Z, hZ⟩ : ∃ X, (((((w11.setCell ⟨w.heap.size + 1, 0, none⟩ (.slice h0 n0 k0)).setCell ⟨w.heap.size + 1, 1, none⟩ (.slice h1 n1 k1)).setCell ⟨w.heap.size + 1, 2, none⟩ (.slice h2 n2 k2)).setCell ⟨w.heap.size + 1, 3, none⟩ (.slice h3 n3 k3)).setCell ⟨w.heap.size + 1, 4, none⟩ (.slice h4 n4 k4)) = X := ⟨_, rfl⟩
        have hzb : Box5W Z (w.heap.size + 1) (.slice h0 n0 k0) (.slice h1 n1 k1) (.slice h2 n2 k2) (.slice h3 n3 k3) (.slice h4 n4 k4) := by rw [← hZ]; exact ((((bR_3.out.set0 _).set1 _).set2 _).set3 _).set4 _
        have ht : Btn (w.heap.size + 1) (w.heap.size + 1 + 1) w11 Z := by rw [← hZ]; exact ((((btn_set _ _ _ _).trans (btn_set _ _ _ _)).trans (btn_set _ _ _ _)).trans (btn_set _ _ _ _)).trans (btn_set _ _ _ _)
        have hE := grown_new (grown_new (grown_new (grown_new (grown_new (E_3.out) (show w.heap.size ≤ w.heap.size + 1 by omega) (o := 0) (v := .slice h0 n0 k0)) (show w.heap.size ≤ w.heap.size + 1 by omega) (o := 1) (v := .slice h1 n1 k1)) (show w.heap.size ≤ w.heap.size + 1 by omega) (o := 2) (v := .slice h2 n2 k2)) (show w.heap.size ≤ w.heap.size + 1 by omega) (o := 3) (v := .slice h3 n3 k3)) (show w.heap.size ≤ w.heap.size + 1 by omega) (o := 4) (v := .slice h4 n4 k4)
        have hRd := (((((R_3.out).set (show rb < w.heap.size + 1 by omega) (o := 0) (u := .slice h0 n0 k0)).set (show rb < w.heap.size + 1 by omega) (o := 1) (u := .slice h1 n1 k1)).set (show rb < w.heap.size + 1 by omega) (o := 2) (u := .slice h2 n2 k2)).set (show rb < w.heap.size + 1 by omega) (o := 3) (u := .slice h3 n3 k3)).set (show rb < w.heap.size + 1 by omega) (o := 4) (u := .slice h4 n4 k4)
        rw [hZ] at hE hRd
        have HE := Lib.hid hE
        have HRd := Lib.hid hRd
        have hlo : w.heap.size ≤ W.heap.size := by omega
        have HM := m_3.out.btn ht (.inr (by omega))
        have HS : Hid (∀ w1, Btn 0 w.heap.size Z w1 → Sto w1 (.slice h0 n0 k0) (.slice h1 n1 k1) (.slice h2 n2 k2) (.slice h3 n3 k3) (.slice h4 n4 k4) (S)) := fun w1 hb => (HM.btn hb (.inr hlo)).sto
        clear HM
        have HP : Hid (p + 1 ≤ p + 2) := by show _ ≤ _; omega
        have HZ2 : Hid (szT (S)) := HZ
        have HN2 : Hid (StT.n5 (S)).le := HN
        clear hE hRd ht q0_ q1_ q2_ q3_ q4_
        go_wp2
        obtain ⟨t0, t1, t2, t3, t4, -, -, -, -, -⟩ := hzb
        exact bodyPost_ret (v := .agg #[.slice h0 n0 k0, .slice h1 n1 k1, .slice h2 n2 k2, .slice h3 n3 k3, .slice h4 n4 k4]) (by simp [results, Tryd.results39, go_sem, t0, t1, t2, t3, t4]) rfl ⟨S, _, _, _, _, _, _, rfl, HZ2.out, HN2.out, HS, HRd.out, HP.out, HE.out⟩
    · have d1 : (c == 1) = false := by simpa using e1
      by_cases e2 : c = 2
      · subst e2
        by_cases hp : 0 < n2
        · obtain ⟨g, cc, q, hrow, hset⟩ := m_3.out.c.at (show 0 < S.n5.c by show 0 < S.last.length; rw [HL2.out]; omega)
          injection q with q1 q2 q3
          subst q1
          subst q3
          clear q2
          have hg := m_3.out.c.bnd g rfl
          have hrow : Row1 w11 g n2 (S.f5.c) := by have := hrow; rwa [show S.n5.c = n2 from HL2.out] at this
          obtain ⟨x0_0, x0_1, x0_2, x0_3, x0_4, x0_5, x0_6, x0_7, x0_8, x0_9⟩ := bX_3.out
          go_wp2_with fail
          have hD : Below w11.heap.size w11 w11.drew := (Below.refl _ _).drew
          have q0_ := S_0.out
          have q1_ := S_1.out
          have q2_ := S_2.out
          have q3_ := S_b.out
          have q4_ := S_3.out
          go_region_held3 (fun w' => w'.cell? ⟨w2.heap.size, 2, none⟩ = some (.slice (some ⟨g, 0, none⟩) n2 k2))
            (first | assumption | (with_reducible refine cell_far1 ?_ ?_ <;> first | omega | assumption) | (go_keep; done))
            (first | (go_at_call 63; refine (numLA_any rb (p + 1) [-1, 1000, 1001] 3 (fun _ => True) _ _ _ _ rfl rfl rfl (R_3.out.keep hD) (by omega) (by omega) (by omega) (by simp)).mono ?_; rintro e r0 ⟨u, p2, rfl, -, hr, hp2, hg0⟩; have hgr := grown_trans (grown_below hD (some rb)) hg0; have ht := grown_btn hgr; have yy2 := (bX_3.out.btn ht (.inr (by omega))).c2; have hrowq : Row1 r0 g n2 (S.f5.c) := hrow.same (ht.block g (by omega) (by omega)); have yg := (hrowq 0 (by omega)).1; have yf := (hrowq 0 (by omega)).2))
          clear q0_ q1_ q2_ q3_ q4_
          clear x0_0 x0_1 x0_2 x0_3 x0_4 x0_5 x0_6 x0_7 x0_8 x0_9
          clear hD ht yg yf hg0 yy2
          have hrow := hrowq
          clear hrowq
          have q0_ := S_0.out
          have q1_ := S_1.out
          have q2_ := S_2.out
          have q3_ := S_b.out
          have q4_ := S_3.out
          have ht := grown_btn hgr
          have bR_4 := Lib.hid (bR_3.out.btn ht (by omega))
          have m_4 := Lib.hid (m_3.out.btn ht (by omega))
          have bX_4 := Lib.hid (bX_3.out.btn ht (by omega))
          have E_4 := Lib.hid (grown_trans E_3.out hgr)
          have R_4 := Lib.hid (hr)
          have S_4 := Lib.hid ht.size
          clear bR_3 m_3 bX_3 E_3 R_3 hgr hr ht q0_ q1_ q2_ q3_ q4_
          have q0_ := S_0.out
          have q1_ := S_1.out
          have q2_ := S_2.out
          have q3_ := S_b.out
          have q4_ := S_3.out
          have q5_ := S_4.out
          obtain ⟨X15, hX15⟩ : ∃ X, r0.setCell ⟨g, 0, none⟩ (.int .i64 u) = X := ⟨_, rfl⟩
          have ht : Btn g (g + 1) r0 X15 := by rw [← hX15]; exact btn_set _ _ _ _
          have hrow2 : Row1 X15 g n2 (intF (S.last.set 0 u)) := by rw [← hX15]; exact (hrow.set (k := 0) (by omega)).congr (fun i hi => intF_set _ i (by rw [HL2.out]; exact hi))
          have hm2 := hset _ X15 (show Row1 X15 g S.n5.c (intF (S.last.set 0 u)) by rw [show S.n5.c = n2 from HL2.out]; exact hrow2)
          have hm3 := m5_setc m_4.out ht hm2
          have hlen : (S.last.set 0 u).length = S.last.length := List.length_set ..
          have hm4 : M5 X15 W.heap.size w2.heap.size (.slice h0 n0 k0) (.slice h1 n1 k1) (.slice (some ⟨g, 0, none⟩) n2 k2) (.slice h3 n3 k3) (.slice h4 n4 k4) (StT.n5 ({ S with last := S.last.set 0 u })) (StT.f5 ({ S with last := S.last.set 0 u })) := by
            unfold StT.n5 StT.f5 at hm3 ⊢
            dsimp only at hm3 ⊢
            rw [hlen]; exact hm3
          have hE := grown_new E_4.out (show w.heap.size ≤ g by omega) (o := 0) (v := .int .i64 u)
          have hRd := R_4.out.set (show rb < g by omega) (o := 0) (u := .int .i64 u)
          rw [hX15] at hE hRd
          rw [hX15]
          have bR_5 := Lib.hid (bR_4.out.btn ht (by omega))
          have bX_5 := Lib.hid (bX_4.out.btn ht (by omega))
          have E_5 := Lib.hid (hE)
          have R_5 := Lib.hid (hRd)
          have S_5 := Lib.hid ht.size
          clear bR_4 bX_4 E_4 R_4 ht hE hRd m_4 hrow2 hm2 hm3 hlen hset hrow q0_ q1_ q2_ q3_ q4_ q5_
          have m_6 := Lib.hid hm4
          clear hm4
          obtain ⟨x0_0, x0_1, x0_2, x0_3, x0_4, x0_5, x0_6, x0_7, x0_8, x0_9⟩ := bX_5.out
          obtain ⟨x1_0, x1_1, x1_2, x1_3, x1_4, x1_5, x1_6, x1_7, x1_8, x1_9⟩ := bR_5.out
          have q0_ := S_0.out
          have q1_ := S_1.out
          have q2_ := S_2.out
          have q3_ := S_b.out
          have q4_ := S_3.out
          have q5_ := S_4.out
          have q6_ := S_5.out
          obtain ⟨Z, hZ⟩ : ∃ X, (((((X15.setCell ⟨w.heap.size + 1, 0, none⟩ (.slice h0 n0 k0)).setCell ⟨w.heap.size + 1, 1, none⟩ (.slice h1 n1 k1)).setCell ⟨w.heap.size + 1, 2, none⟩ (.slice (some ⟨g, 0, none⟩) n2 k2)).setCell ⟨w.heap.size + 1, 3, none⟩ (.slice h3 n3 k3)).setCell ⟨w.heap.size + 1, 4, none⟩ (.slice h4 n4 k4)) = X := ⟨_, rfl⟩
          have hzb : Box5W Z (w.heap.size + 1) (.slice h0 n0 k0) (.slice h1 n1 k1) (.slice (some ⟨g, 0, none⟩) n2 k2) (.slice h3 n3 k3) (.slice h4 n4 k4) := by rw [← hZ]; exact ((((bR_5.out.set0 _).set1 _).set2 _).set3 _).set4 _
          have ht : Btn (w.heap.size + 1) (w.heap.size + 1 + 1) X15 Z := by rw [← hZ]; exact ((((btn_set _ _ _ _).trans (btn_set _ _ _ _)).trans (btn_set _ _ _ _)).trans (btn_set _ _ _ _)).trans (btn_set _ _ _ _)
          have hE := grown_new (grown_new (grown_new (grown_new (grown_new (E_5.out) (show w.heap.size ≤ w.heap.size + 1 by omega) (o := 0) (v := .slice h0 n0 k0)) (show w.heap.size ≤ w.heap.size + 1 by omega) (o := 1) (v := .slice h1 n1 k1)) (show w.heap.size ≤ w.heap.size + 1 by omega) (o := 2) (v := .slice (some ⟨g, 0, none⟩) n2 k2)) (show w.heap.size ≤ w.heap.size + 1 by omega) (o := 3) (v := .slice h3 n3 k3)) (show w.heap.size ≤ w.heap.size + 1 by omega) (o := 4) (v := .slice h4 n4 k4)
          have hRd := (((((R_5.out).set (show rb < w.heap.size + 1 by omega) (o := 0) (u := .slice h0 n0 k0)).set (show rb < w.heap.size + 1 by omega) (o := 1) (u := .slice h1 n1 k1)).set (show rb < w.heap.size + 1 by omega) (o := 2) (u := .slice (some ⟨g, 0, none⟩) n2 k2)).set (show rb < w.heap.size + 1 by omega) (o := 3) (u := .slice h3 n3 k3)).set (show rb < w.heap.size + 1 by omega) (o := 4) (u := .slice h4 n4 k4)
          rw [hZ] at hE hRd
          have HE := Lib.hid hE
          have HRd := Lib.hid hRd
          have hlo : w.heap.size ≤ W.heap.size := by omega
          have HM := m_6.out.btn ht (.inr (by omega))
          have HS : Hid (∀ w1, Btn 0 w.heap.size Z w1 → Sto w1 (.slice h0 n0 k0) (.slice h1 n1 k1) (.slice (some ⟨g, 0, none⟩) n2 k2) (.slice h3 n3 k3) (.slice h4 n4 k4) ({ S with last := S.last.set 0 u })) := fun w1 hb => (HM.btn hb (.inr hlo)).sto
          clear HM
          have HP : Hid (p2 ≤ p + 2) := by show _ ≤ _; omega
          have HZ2 : Hid (szT ({ S with last := S.last.set 0 u })) := ⟨HZ.out.1, HZ.out.2⟩
          have HN2 : Hid (StT.n5 ({ S with last := S.last.set 0 u })).le := ⟨HN.out.1, HN.out.2.1, (by show (List.set _ _ _).length ≤ _; rw [List.length_set]; exact HN.out.2.2.1), HN.out.2.2.2.1, HN.out.2.2.2.2⟩
          clear hE hRd ht q0_ q1_ q2_ q3_ q4_ q5_ q6_
          go_wp2
          obtain ⟨t0, t1, t2, t3, t4, -, -, -, -, -⟩ := hzb
          exact bodyPost_ret (v := .agg #[.slice h0 n0 k0, .slice h1 n1 k1, .slice (some ⟨g, 0, none⟩) n2 k2, .slice h3 n3 k3, .slice h4 n4 k4]) (by simp [results, Tryd.results39, go_sem, t0, t1, t2, t3, t4]) rfl ⟨{ S with last := S.last.set 0 u }, _, _, _, _, _, _, rfl, HZ2.out, HN2.out, HS, HRd.out, HP.out, HE.out⟩
        · obtain ⟨x0_0, x0_1, x0_2, x0_3, x0_4, x0_5, x0_6, x0_7, x0_8, x0_9⟩ := bX_3.out
          clear x0_0 x0_1 x0_2 x0_3 x0_4 x0_5 x0_6 x0_7 x0_8 x0_9
          obtain ⟨x0_0, x0_1, x0_2, x0_3, x0_4, x0_5, x0_6, x0_7, x0_8, x0_9⟩ := bX_3.out
          obtain ⟨x1_0, x1_1, x1_2, x1_3, x1_4, x1_5, x1_6, x1_7, x1_8, x1_9⟩ := bR_3.out
          have q0_ := S_0.out
          have q1_ := S_1.out
          have q2_ := S_2.out
          have q3_ := S_b.out
          have q4_ := S_3.out
          obtain ⟨Z, hZ⟩ : ∃ X, (((((w11.setCell ⟨w.heap.size + 1, 0, none⟩ (.slice h0 n0 k0)).setCell ⟨w.heap.size + 1, 1, none⟩ (.slice h1 n1 k1)).setCell ⟨w.heap.size + 1, 2, none⟩ (.slice h2 n2 k2)).setCell ⟨w.heap.size + 1, 3, none⟩ (.slice h3 n3 k3)).setCell ⟨w.heap.size + 1, 4, none⟩ (.slice h4 n4 k4)) = X := ⟨_, rfl⟩
          have hzb : Box5W Z (w.heap.size + 1) (.slice h0 n0 k0) (.slice h1 n1 k1) (.slice h2 n2 k2) (.slice h3 n3 k3) (.slice h4 n4 k4) := by rw [← hZ]; exact ((((bR_3.out.set0 _).set1 _).set2 _).set3 _).set4 _
          have ht : Btn (w.heap.size + 1) (w.heap.size + 1 + 1) w11 Z := by rw [← hZ]; exact ((((btn_set _ _ _ _).trans (btn_set _ _ _ _)).trans (btn_set _ _ _ _)).trans (btn_set _ _ _ _)).trans (btn_set _ _ _ _)
          have hE := grown_new (grown_new (grown_new (grown_new (grown_new (E_3.out) (show w.heap.size ≤ w.heap.size + 1 by omega) (o := 0) (v := .slice h0 n0 k0)) (show w.heap.size ≤ w.heap.size + 1 by omega) (o := 1) (v := .slice h1 n1 k1)) (show w.heap.size ≤ w.heap.size + 1 by omega) (o := 2) (v := .slice h2 n2 k2)) (show w.heap.size ≤ w.heap.size + 1 by omega) (o := 3) (v := .slice h3 n3 k3)) (show w.heap.size ≤ w.heap.size + 1 by omega) (o := 4) (v := .slice h4 n4 k4)
          have hRd := (((((R_3.out).set (show rb < w.heap.size + 1 by omega) (o := 0) (u := .slice h0 n0 k0)).set (show rb < w.heap.size + 1 by omega) (o := 1) (u := .slice h1 n1 k1)).set (show rb < w.heap.size + 1 by omega) (o := 2) (u := .slice h2 n2 k2)).set (show rb < w.heap.size + 1 by omega) (o := 3) (u := .slice h3 n3 k3)).set (show rb < w.heap.size + 1 by omega) (o := 4) (u := .slice h4 n4 k4)
          rw [hZ] at hE hRd
          have HE := Lib.hid hE
          have HRd := Lib.hid hRd
          have hlo : w.heap.size ≤ W.heap.size := by omega
          have HM := m_3.out.btn ht (.inr (by omega))
          have HS : Hid (∀ w1, Btn 0 w.heap.size Z w1 → Sto w1 (.slice h0 n0 k0) (.slice h1 n1 k1) (.slice h2 n2 k2) (.slice h3 n3 k3) (.slice h4 n4 k4) (S)) := fun w1 hb => (HM.btn hb (.inr hlo)).sto
          clear HM
          have HP : Hid (p + 1 ≤ p + 2) := by show _ ≤ _; omega
          have HZ2 : Hid (szT (S)) := HZ
          have HN2 : Hid (StT.n5 (S)).le := HN
          clear hE hRd ht q0_ q1_ q2_ q3_ q4_
          go_wp2
          obtain ⟨t0, t1, t2, t3, t4, -, -, -, -, -⟩ := hzb
          exact bodyPost_ret (v := .agg #[.slice h0 n0 k0, .slice h1 n1 k1, .slice h2 n2 k2, .slice h3 n3 k3, .slice h4 n4 k4]) (by simp [results, Tryd.results39, go_sem, t0, t1, t2, t3, t4]) rfl ⟨S, _, _, _, _, _, _, rfl, HZ2.out, HN2.out, HS, HRd.out, HP.out, HE.out⟩
      · have d2 : (c == 2) = false := by simpa using e2
        by_cases e3 : c = 3
        · subst e3
          by_cases hp : 1 < n3
          · by_cases hq : 1 < n2
            · obtain ⟨g, cc, q, hrow, hset⟩ := m_3.out.d.at (show 0 < S.n5.d by show 0 < S.slast.length; rw [HL3.out]; omega)
              injection q with q1 q2 q3
              subst q1
              subst q3
              clear q2
              have hg := m_3.out.d.bnd g rfl
              have hrow : Row1 w11 g n3 (S.f5.d) := by have := hrow; rwa [show S.n5.d = n3 from HL3.out] at this
              obtain ⟨g2, cc2, q, hrow2q, -⟩ := m_3.out.c.at (show 0 < S.n5.c by show 0 < S.last.length; rw [HL2.out]; omega)
              injection q with q1 q2 q3
              subst q1
              clear q2 q3
              have hg2 := m_3.out.c.bnd g2 rfl
              have hne : g2 ≠ g := fun e => by subst e; exact m_3.out.cd g2 rfl rfl
              obtain ⟨Lx, hLx⟩ : ∃ m, S.last.getD 1 0 = m := ⟨_, rfl⟩
              have y2 : w11.cell? ⟨g2, 1, none⟩ = some (.int .i64 Lx) := (hrow2q 1 (by rw [show S.n5.c = n2 from HL2.out]; omega)).1.trans (by show some (Value.int .i64 (S.last.getD 1 0)) = some (Value.int .i64 Lx); rw [hLx])
              clear hrow2q hLx
              obtain ⟨x0_0, x0_1, x0_2, x0_3, x0_4, x0_5, x0_6, x0_7, x0_8, x0_9⟩ := bX_3.out
              go_wp2_with fail
              have hD : Below w11.heap.size w11 w11.drew := (Below.refl _ _).drew
              have q0_ := S_0.out
              have q1_ := S_1.out
              have q2_ := S_2.out
              have q3_ := S_b.out
              have q4_ := S_3.out
              go_region_held3 (fun w' => w'.cell? ⟨w2.heap.size, 2, none⟩ = some (.slice (some ⟨g2, 0, none⟩) n2 k2) ∧ w'.cell? ⟨w2.heap.size, 3, none⟩ = some (.slice (some ⟨g, 0, none⟩) n3 k3) ∧ w'.cell? ⟨g2, 1, none⟩ = some (.int .i64 Lx))
                (refine ⟨?_, ?_, ?_⟩ <;> first | assumption | (with_reducible refine cell_far1 ?_ ?_ <;> first | omega | assumption) | (go_keep; done))
                (first | (go_at_call 63; refine (numLA_any rb (p + 1) [1, -1] 2 (fun _ => True) _ _ _ _ rfl rfl rfl (R_3.out.keep hD) (by omega) (by omega) (by omega) (by simp)).mono ?_; rintro e r0 ⟨u, p2, rfl, -, hr, hp2, hg0⟩; have hgr := grown_trans (grown_below hD (some rb)) hg0; have ht := grown_btn hgr; have yy2 := (bX_3.out.btn ht (.inr (by omega))).c2; have yy3 := (bX_3.out.btn ht (.inr (by omega))).c3; have hrowq : Row1 r0 g n3 (S.f5.d) := hrow.same (ht.block g (by omega) (by omega)); have yg := (hrowq 1 (by omega)).1; have yf := (hrowq 1 (by omega)).2; have y2 := cell_btn ht (by omega) y2; obtain ⟨mz, hmz⟩ : ∃ m, IntKind.i64.wrap (Lx + u) = m := ⟨_, rfl⟩))
              clear q0_ q1_ q2_ q3_ q4_
              clear x0_0 x0_1 x0_2 x0_3 x0_4 x0_5 x0_6 x0_7 x0_8 x0_9
              clear hD ht yg yf hg0 yy2 yy3 y2
              have hrow := hrowq
              clear hrowq
              have q0_ := S_0.out
              have q1_ := S_1.out
              have q2_ := S_2.out
              have q3_ := S_b.out
              have q4_ := S_3.out
              have ht := grown_btn hgr
              have bR_4 := Lib.hid (bR_3.out.btn ht (by omega))
              have m_4 := Lib.hid (m_3.out.btn ht (by omega))
              have bX_4 := Lib.hid (bX_3.out.btn ht (by omega))
              have E_4 := Lib.hid (grown_trans E_3.out hgr)
              have R_4 := Lib.hid (hr)
              have S_4 := Lib.hid ht.size
              clear bR_3 m_3 bX_3 E_3 R_3 hgr hr ht q0_ q1_ q2_ q3_ q4_
              have q0_ := S_0.out
              have q1_ := S_1.out
              have q2_ := S_2.out
              have q3_ := S_b.out
              have q4_ := S_3.out
              have q5_ := S_4.out
              obtain ⟨X16, hX16⟩ : ∃ X, r0.setCell ⟨g, 1, none⟩ (.int .i64 mz) = X := ⟨_, rfl⟩
              have ht : Btn g (g + 1) r0 X16 := by rw [← hX16]; exact btn_set _ _ _ _
              have hrow2 : Row1 X16 g n3 (intF (S.slast.set 1 mz)) := by rw [← hX16]; exact (hrow.set (k := 1) (by omega)).congr (fun i hi => intF_set _ i (by rw [HL3.out]; exact hi))
              have hm2 := hset _ X16 (show Row1 X16 g S.n5.d (intF (S.slast.set 1 mz)) by rw [show S.n5.d = n3 from HL3.out]; exact hrow2)
              have hm3 := m5_setd m_4.out ht hm2
              have hlen : (S.slast.set 1 mz).length = S.slast.length := List.length_set ..
              have hm4 : M5 X16 W.heap.size w2.heap.size (.slice h0 n0 k0) (.slice h1 n1 k1) (.slice (some ⟨g2, 0, none⟩) n2 k2) (.slice (some ⟨g, 0, none⟩) n3 k3) (.slice h4 n4 k4) (StT.n5 ({ S with slast := S.slast.set 1 mz })) (StT.f5 ({ S with slast := S.slast.set 1 mz })) := by
                unfold StT.n5 StT.f5 at hm3 ⊢
                dsimp only at hm3 ⊢
                rw [hlen]; exact hm3
              have hE := grown_new E_4.out (show w.heap.size ≤ g by omega) (o := 1) (v := .int .i64 mz)
              have hRd := R_4.out.set (show rb < g by omega) (o := 1) (u := .int .i64 mz)
              rw [hX16] at hE hRd
              rw [hX16]
              have bR_5 := Lib.hid (bR_4.out.btn ht (by omega))
              have bX_5 := Lib.hid (bX_4.out.btn ht (by omega))
              have E_5 := Lib.hid (hE)
              have R_5 := Lib.hid (hRd)
              have S_5 := Lib.hid ht.size
              clear bR_4 bX_4 E_4 R_4 ht hE hRd m_4 hrow2 hm2 hm3 hlen hset hrow q0_ q1_ q2_ q3_ q4_ q5_
              have m_6 := Lib.hid hm4
              clear hm4
              obtain ⟨x0_0, x0_1, x0_2, x0_3, x0_4, x0_5, x0_6, x0_7, x0_8, x0_9⟩ := bX_5.out
              obtain ⟨x1_0, x1_1, x1_2, x1_3, x1_4, x1_5, x1_6, x1_7, x1_8, x1_9⟩ := bR_5.out
              have q0_ := S_0.out
              have q1_ := S_1.out
              have q2_ := S_2.out
              have q3_ := S_b.out
              have q4_ := S_3.out
              have q5_ := S_4.out
              have q6_ := S_5.out
              obtain ⟨Z, hZ⟩ : ∃ X, (((((X16.setCell ⟨w.heap.size + 1, 0, none⟩ (.slice h0 n0 k0)).setCell ⟨w.heap.size + 1, 1, none⟩ (.slice h1 n1 k1)).setCell ⟨w.heap.size + 1, 2, none⟩ (.slice (some ⟨g2, 0, none⟩) n2 k2)).setCell ⟨w.heap.size + 1, 3, none⟩ (.slice (some ⟨g, 0, none⟩) n3 k3)).setCell ⟨w.heap.size + 1, 4, none⟩ (.slice h4 n4 k4)) = X := ⟨_, rfl⟩
              have hzb : Box5W Z (w.heap.size + 1) (.slice h0 n0 k0) (.slice h1 n1 k1) (.slice (some ⟨g2, 0, none⟩) n2 k2) (.slice (some ⟨g, 0, none⟩) n3 k3) (.slice h4 n4 k4) := by rw [← hZ]; exact ((((bR_5.out.set0 _).set1 _).set2 _).set3 _).set4 _
              have ht : Btn (w.heap.size + 1) (w.heap.size + 1 + 1) X16 Z := by rw [← hZ]; exact ((((btn_set _ _ _ _).trans (btn_set _ _ _ _)).trans (btn_set _ _ _ _)).trans (btn_set _ _ _ _)).trans (btn_set _ _ _ _)
              have hE := grown_new (grown_new (grown_new (grown_new (grown_new (E_5.out) (show w.heap.size ≤ w.heap.size + 1 by omega) (o := 0) (v := .slice h0 n0 k0)) (show w.heap.size ≤ w.heap.size + 1 by omega) (o := 1) (v := .slice h1 n1 k1)) (show w.heap.size ≤ w.heap.size + 1 by omega) (o := 2) (v := .slice (some ⟨g2, 0, none⟩) n2 k2)) (show w.heap.size ≤ w.heap.size + 1 by omega) (o := 3) (v := .slice (some ⟨g, 0, none⟩) n3 k3)) (show w.heap.size ≤ w.heap.size + 1 by omega) (o := 4) (v := .slice h4 n4 k4)
              have hRd := (((((R_5.out).set (show rb < w.heap.size + 1 by omega) (o := 0) (u := .slice h0 n0 k0)).set (show rb < w.heap.size + 1 by omega) (o := 1) (u := .slice h1 n1 k1)).set (show rb < w.heap.size + 1 by omega) (o := 2) (u := .slice (some ⟨g2, 0, none⟩) n2 k2)).set (show rb < w.heap.size + 1 by omega) (o := 3) (u := .slice (some ⟨g, 0, none⟩) n3 k3)).set (show rb < w.heap.size + 1 by omega) (o := 4) (u := .slice h4 n4 k4)
              rw [hZ] at hE hRd
              have HE := Lib.hid hE
              have HRd := Lib.hid hRd
              have hlo : w.heap.size ≤ W.heap.size := by omega
              have HM := m_6.out.btn ht (.inr (by omega))
              have HS : Hid (∀ w1, Btn 0 w.heap.size Z w1 → Sto w1 (.slice h0 n0 k0) (.slice h1 n1 k1) (.slice (some ⟨g2, 0, none⟩) n2 k2) (.slice (some ⟨g, 0, none⟩) n3 k3) (.slice h4 n4 k4) ({ S with slast := S.slast.set 1 mz })) := fun w1 hb => (HM.btn hb (.inr hlo)).sto
              clear HM
              have HP : Hid (p2 ≤ p + 2) := by show _ ≤ _; omega
              have HZ2 : Hid (szT ({ S with slast := S.slast.set 1 mz })) := ⟨HZ.out.1, HZ.out.2⟩
              have HN2 : Hid (StT.n5 ({ S with slast := S.slast.set 1 mz })).le := ⟨HN.out.1, HN.out.2.1, HN.out.2.2.1, (by show (List.set _ _ _).length ≤ _; rw [List.length_set]; exact HN.out.2.2.2.1), HN.out.2.2.2.2⟩
              clear hE hRd ht q0_ q1_ q2_ q3_ q4_ q5_ q6_
              go_wp2
              obtain ⟨t0, t1, t2, t3, t4, -, -, -, -, -⟩ := hzb
              exact bodyPost_ret (v := .agg #[.slice h0 n0 k0, .slice h1 n1 k1, .slice (some ⟨g2, 0, none⟩) n2 k2, .slice (some ⟨g, 0, none⟩) n3 k3, .slice h4 n4 k4]) (by simp [results, Tryd.results39, go_sem, t0, t1, t2, t3, t4]) rfl ⟨{ S with slast := S.slast.set 1 mz }, _, _, _, _, _, _, rfl, HZ2.out, HN2.out, HS, HRd.out, HP.out, HE.out⟩
            · obtain ⟨x0_0, x0_1, x0_2, x0_3, x0_4, x0_5, x0_6, x0_7, x0_8, x0_9⟩ := bX_3.out
              clear x0_0 x0_1 x0_2 x0_3 x0_4 x0_5 x0_6 x0_7 x0_8 x0_9
              obtain ⟨x0_0, x0_1, x0_2, x0_3, x0_4, x0_5, x0_6, x0_7, x0_8, x0_9⟩ := bX_3.out
              obtain ⟨x1_0, x1_1, x1_2, x1_3, x1_4, x1_5, x1_6, x1_7, x1_8, x1_9⟩ := bR_3.out
              have q0_ := S_0.out
              have q1_ := S_1.out
              have q2_ := S_2.out
              have q3_ := S_b.out
              have q4_ := S_3.out
              obtain ⟨Z, hZ⟩ : ∃ X, (((((w11.setCell ⟨w.heap.size + 1, 0, none⟩ (.slice h0 n0 k0)).setCell ⟨w.heap.size + 1, 1, none⟩ (.slice h1 n1 k1)).setCell ⟨w.heap.size + 1, 2, none⟩ (.slice h2 n2 k2)).setCell ⟨w.heap.size + 1, 3, none⟩ (.slice h3 n3 k3)).setCell ⟨w.heap.size + 1, 4, none⟩ (.slice h4 n4 k4)) = X := ⟨_, rfl⟩
              have hzb : Box5W Z (w.heap.size + 1) (.slice h0 n0 k0) (.slice h1 n1 k1) (.slice h2 n2 k2) (.slice h3 n3 k3) (.slice h4 n4 k4) := by rw [← hZ]; exact ((((bR_3.out.set0 _).set1 _).set2 _).set3 _).set4 _
              have ht : Btn (w.heap.size + 1) (w.heap.size + 1 + 1) w11 Z := by rw [← hZ]; exact ((((btn_set _ _ _ _).trans (btn_set _ _ _ _)).trans (btn_set _ _ _ _)).trans (btn_set _ _ _ _)).trans (btn_set _ _ _ _)
              have hE := grown_new (grown_new (grown_new (grown_new (grown_new (E_3.out) (show w.heap.size ≤ w.heap.size + 1 by omega) (o := 0) (v := .slice h0 n0 k0)) (show w.heap.size ≤ w.heap.size + 1 by omega) (o := 1) (v := .slice h1 n1 k1)) (show w.heap.size ≤ w.heap.size + 1 by omega) (o := 2) (v := .slice h2 n2 k2)) (show w.heap.size ≤ w.heap.size + 1 by omega) (o := 3) (v := .slice h3 n3 k3)) (show w.heap.size ≤ w.heap.size + 1 by omega) (o := 4) (v := .slice h4 n4 k4)
              have hRd := (((((R_3.out).set (show rb < w.heap.size + 1 by omega) (o := 0) (u := .slice h0 n0 k0)).set (show rb < w.heap.size + 1 by omega) (o := 1) (u := .slice h1 n1 k1)).set (show rb < w.heap.size + 1 by omega) (o := 2) (u := .slice h2 n2 k2)).set (show rb < w.heap.size + 1 by omega) (o := 3) (u := .slice h3 n3 k3)).set (show rb < w.heap.size + 1 by omega) (o := 4) (u := .slice h4 n4 k4)
              rw [hZ] at hE hRd
              have HE := Lib.hid hE
              have HRd := Lib.hid hRd
              have hlo : w.heap.size ≤ W.heap.size := by omega
              have HM := m_3.out.btn ht (.inr (by omega))
              have HS : Hid (∀ w1, Btn 0 w.heap.size Z w1 → Sto w1 (.slice h0 n0 k0) (.slice h1 n1 k1) (.slice h2 n2 k2) (.slice h3 n3 k3) (.slice h4 n4 k4) (S)) := fun w1 hb => (HM.btn hb (.inr hlo)).sto
              clear HM
              have HP : Hid (p + 1 ≤ p + 2) := by show _ ≤ _; omega
              have HZ2 : Hid (szT (S)) := HZ
              have HN2 : Hid (StT.n5 (S)).le := HN
              clear hE hRd ht q0_ q1_ q2_ q3_ q4_
              go_wp2
              obtain ⟨t0, t1, t2, t3, t4, -, -, -, -, -⟩ := hzb
              exact bodyPost_ret (v := .agg #[.slice h0 n0 k0, .slice h1 n1 k1, .slice h2 n2 k2, .slice h3 n3 k3, .slice h4 n4 k4]) (by simp [results, Tryd.results39, go_sem, t0, t1, t2, t3, t4]) rfl ⟨S, _, _, _, _, _, _, rfl, HZ2.out, HN2.out, HS, HRd.out, HP.out, HE.out⟩
          · obtain ⟨x0_0, x0_1, x0_2, x0_3, x0_4, x0_5, x0_6, x0_7, x0_8, x0_9⟩ := bX_3.out
            clear x0_0 x0_1 x0_2 x0_3 x0_4 x0_5 x0_6 x0_7 x0_8 x0_9
            obtain ⟨x0_0, x0_1, x0_2, x0_3, x0_4, x0_5, x0_6, x0_7, x0_8, x0_9⟩ := bX_3.out
            obtain ⟨x1_0, x1_1, x1_2, x1_3, x1_4, x1_5, x1_6, x1_7, x1_8, x1_9⟩ := bR_3.out
            have q0_ := S_0.out
            have q1_ := S_1.out
            have q2_ := S_2.out
            have q3_ := S_b.out
            have q4_ := S_3.out
            obtain ⟨Z, hZ⟩ : ∃ X, (((((w11.setCell ⟨w.heap.size + 1, 0, none⟩ (.slice h0 n0 k0)).setCell ⟨w.heap.size + 1, 1, none⟩ (.slice h1 n1 k1)).setCell ⟨w.heap.size + 1, 2, none⟩ (.slice h2 n2 k2)).setCell ⟨w.heap.size + 1, 3, none⟩ (.slice h3 n3 k3)).setCell ⟨w.heap.size + 1, 4, none⟩ (.slice h4 n4 k4)) = X := ⟨_, rfl⟩
            have hzb : Box5W Z (w.heap.size + 1) (.slice h0 n0 k0) (.slice h1 n1 k1) (.slice h2 n2 k2) (.slice h3 n3 k3) (.slice h4 n4 k4) := by rw [← hZ]; exact ((((bR_3.out.set0 _).set1 _).set2 _).set3 _).set4 _
            have ht : Btn (w.heap.size + 1) (w.heap.size + 1 + 1) w11 Z := by rw [← hZ]; exact ((((btn_set _ _ _ _).trans (btn_set _ _ _ _)).trans (btn_set _ _ _ _)).trans (btn_set _ _ _ _)).trans (btn_set _ _ _ _)
            have hE := grown_new (grown_new (grown_new (grown_new (grown_new (E_3.out) (show w.heap.size ≤ w.heap.size + 1 by omega) (o := 0) (v := .slice h0 n0 k0)) (show w.heap.size ≤ w.heap.size + 1 by omega) (o := 1) (v := .slice h1 n1 k1)) (show w.heap.size ≤ w.heap.size + 1 by omega) (o := 2) (v := .slice h2 n2 k2)) (show w.heap.size ≤ w.heap.size + 1 by omega) (o := 3) (v := .slice h3 n3 k3)) (show w.heap.size ≤ w.heap.size + 1 by omega) (o := 4) (v := .slice h4 n4 k4)
            have hRd := (((((R_3.out).set (show rb < w.heap.size + 1 by omega) (o := 0) (u := .slice h0 n0 k0)).set (show rb < w.heap.size + 1 by omega) (o := 1) (u := .slice h1 n1 k1)).set (show rb < w.heap.size + 1 by omega) (o := 2) (u := .slice h2 n2 k2)).set (show rb < w.heap.size + 1 by omega) (o := 3) (u := .slice h3 n3 k3)).set (show rb < w.heap.size + 1 by omega) (o := 4) (u := .slice h4 n4 k4)
            rw [hZ] at hE hRd
            have HE := Lib.hid hE
            have HRd := Lib.hid hRd
            have hlo : w.heap.size ≤ W.heap.size := by omega
            have HM := m_3.out.btn ht (.inr (by omega))
            have HS : Hid (∀ w1, Btn 0 w.heap.size Z w1 → Sto w1 (.slice h0 n0 k0) (.slice h1 n1 k1) (.slice h2 n2 k2) (.slice h3 n3 k3) (.slice h4 n4 k4) (S)) := fun w1 hb => (HM.btn hb (.inr hlo)).sto
            clear HM
            have HP : Hid (p + 1 ≤ p + 2) := by show _ ≤ _; omega
            have HZ2 : Hid (szT (S)) := HZ
            have HN2 : Hid (StT.n5 (S)).le := HN
            clear hE hRd ht q0_ q1_ q2_ q3_ q4_
            go_wp2
            obtain ⟨t0, t1, t2, t3, t4, -, -, -, -, -⟩ := hzb
            exact bodyPost_ret (v := .agg #[.slice h0 n0 k0, .slice h1 n1 k1, .slice h2 n2 k2, .slice h3 n3 k3, .slice h4 n4 k4]) (by simp [results, Tryd.results39, go_sem, t0, t1, t2, t3, t4]) rfl ⟨S, _, _, _, _, _, _, rfl, HZ2.out, HN2.out, HS, HRd.out, HP.out, HE.out⟩
        · have d3 : (c == 3) = false := by simpa using e3
          by_cases e4 : c = 4
          · subst e4
            by_cases hp : 0 < n4
            · obtain ⟨g, cc, q, hrow, hset⟩ := m_3.out.e.at (show 0 < S.n5.e by show 0 < S.floors.length; rw [HL4.out]; omega)
              injection q with q1 q2 q3
              subst q1
              subst q3
              clear q2
              have hg := m_3.out.e.bnd g rfl
              have hrow : Row1 w11 g n4 (S.f5.e) := by have := hrow; rwa [show S.n5.e = n4 from HL4.out] at this
              obtain ⟨x0_0, x0_1, x0_2, x0_3, x0_4, x0_5, x0_6, x0_7, x0_8, x0_9⟩ := bX_3.out
              go_wp2_with fail
              have hD : Below w11.heap.size w11 w11.drew := (Below.refl _ _).drew
              have q0_ := S_0.out
              have q1_ := S_1.out
              have q2_ := S_2.out
              have q3_ := S_b.out
              have q4_ := S_3.out
              go_region_held3 (fun w' => w'.cell? ⟨w2.heap.size, 4, none⟩ = some (.slice (some ⟨g, 0, none⟩) n4 k4))
                (first | assumption | (with_reducible refine cell_far1 ?_ ?_ <;> first | omega | assumption) | (go_keep; done))
                (first | (go_at_call 63; refine (numLA_any rb (p + 1) [-1, 100, 101] 3 (fun _ => True) _ _ _ _ rfl rfl rfl (R_3.out.keep hD) (by omega) (by omega) (by omega) (by simp)).mono ?_; rintro e r0 ⟨u, p2, rfl, -, hr, hp2, hg0⟩; have hgr := grown_trans (grown_below hD (some rb)) hg0; have ht := grown_btn hgr; have yy4 := (bX_3.out.btn ht (.inr (by omega))).c4; have hrowq : Row1 r0 g n4 (S.f5.e) := hrow.same (ht.block g (by omega) (by omega)); have yg := (hrowq 0 (by omega)).1; have yf := (hrowq 0 (by omega)).2))
              clear q0_ q1_ q2_ q3_ q4_
              clear x0_0 x0_1 x0_2 x0_3 x0_4 x0_5 x0_6 x0_7 x0_8 x0_9
              clear hD ht yg yf hg0 yy4
              have hrow := hrowq
              clear hrowq
              have q0_ := S_0.out
              have q1_ := S_1.out
              have q2_ := S_2.out
              have q3_ := S_b.out
              have q4_ := S_3.out
              have ht := grown_btn hgr
              have bR_4 := Lib.hid (bR_3.out.btn ht (by omega))
              have m_4 := Lib.hid (m_3.out.btn ht (by omega))
              have bX_4 := Lib.hid (bX_3.out.btn ht (by omega))
              have E_4 := Lib.hid (grown_trans E_3.out hgr)
              have R_4 := Lib.hid (hr)
              have S_4 := Lib.hid ht.size
              clear bR_3 m_3 bX_3 E_3 R_3 hgr hr ht q0_ q1_ q2_ q3_ q4_
              have q0_ := S_0.out
              have q1_ := S_1.out
              have q2_ := S_2.out
              have q3_ := S_b.out
              have q4_ := S_3.out
              have q5_ := S_4.out
              obtain ⟨X17, hX17⟩ : ∃ X, r0.setCell ⟨g, 0, none⟩ (.int .i64 u) = X := ⟨_, rfl⟩
              have ht : Btn g (g + 1) r0 X17 := by rw [← hX17]; exact btn_set _ _ _ _
              have hrow2 : Row1 X17 g n4 (intF (S.floors.set 0 u)) := by rw [← hX17]; exact (hrow.set (k := 0) (by omega)).congr (fun i hi => intF_set _ i (by rw [HL4.out]; exact hi))
              have hm2 := hset _ X17 (show Row1 X17 g S.n5.e (intF (S.floors.set 0 u)) by rw [show S.n5.e = n4 from HL4.out]; exact hrow2)
              have hm3 := m5_sete m_4.out ht hm2
              have hlen : (S.floors.set 0 u).length = S.floors.length := List.length_set ..
              have hm4 : M5 X17 W.heap.size w2.heap.size (.slice h0 n0 k0) (.slice h1 n1 k1) (.slice h2 n2 k2) (.slice h3 n3 k3) (.slice (some ⟨g, 0, none⟩) n4 k4) (StT.n5 ({ S with floors := S.floors.set 0 u })) (StT.f5 ({ S with floors := S.floors.set 0 u })) := by
                unfold StT.n5 StT.f5 at hm3 ⊢
                dsimp only at hm3 ⊢
                rw [hlen]; exact hm3
              have hE := grown_new E_4.out (show w.heap.size ≤ g by omega) (o := 0) (v := .int .i64 u)
              have hRd := R_4.out.set (show rb < g by omega) (o := 0) (u := .int .i64 u)
              rw [hX17] at hE hRd
              rw [hX17]
              have bR_5 := Lib.hid (bR_4.out.btn ht (by omega))
              have bX_5 := Lib.hid (bX_4.out.btn ht (by omega))
              have E_5 := Lib.hid (hE)
              have R_5 := Lib.hid (hRd)
              have S_5 := Lib.hid ht.size
              clear bR_4 bX_4 E_4 R_4 ht hE hRd m_4 hrow2 hm2 hm3 hlen hset hrow q0_ q1_ q2_ q3_ q4_ q5_
              have m_6 := Lib.hid hm4
              clear hm4
              obtain ⟨x0_0, x0_1, x0_2, x0_3, x0_4, x0_5, x0_6, x0_7, x0_8, x0_9⟩ := bX_5.out
              obtain ⟨x1_0, x1_1, x1_2, x1_3, x1_4, x1_5, x1_6, x1_7, x1_8, x1_9⟩ := bR_5.out
              have q0_ := S_0.out
              have q1_ := S_1.out
              have q2_ := S_2.out
              have q3_ := S_b.out
              have q4_ := S_3.out
              have q5_ := S_4.out
              have q6_ := S_5.out
              obtain ⟨Z, hZ⟩ : ∃ X, (((((X17.setCell ⟨w.heap.size + 1, 0, none⟩ (.slice h0 n0 k0)).setCell ⟨w.heap.size + 1, 1, none⟩ (.slice h1 n1 k1)).setCell ⟨w.heap.size + 1, 2, none⟩ (.slice h2 n2 k2)).setCell ⟨w.heap.size + 1, 3, none⟩ (.slice h3 n3 k3)).setCell ⟨w.heap.size + 1, 4, none⟩ (.slice (some ⟨g, 0, none⟩) n4 k4)) = X := ⟨_, rfl⟩
              have hzb : Box5W Z (w.heap.size + 1) (.slice h0 n0 k0) (.slice h1 n1 k1) (.slice h2 n2 k2) (.slice h3 n3 k3) (.slice (some ⟨g, 0, none⟩) n4 k4) := by rw [← hZ]; exact ((((bR_5.out.set0 _).set1 _).set2 _).set3 _).set4 _
              have ht : Btn (w.heap.size + 1) (w.heap.size + 1 + 1) X17 Z := by rw [← hZ]; exact ((((btn_set _ _ _ _).trans (btn_set _ _ _ _)).trans (btn_set _ _ _ _)).trans (btn_set _ _ _ _)).trans (btn_set _ _ _ _)
              have hE := grown_new (grown_new (grown_new (grown_new (grown_new (E_5.out) (show w.heap.size ≤ w.heap.size + 1 by omega) (o := 0) (v := .slice h0 n0 k0)) (show w.heap.size ≤ w.heap.size + 1 by omega) (o := 1) (v := .slice h1 n1 k1)) (show w.heap.size ≤ w.heap.size + 1 by omega) (o := 2) (v := .slice h2 n2 k2)) (show w.heap.size ≤ w.heap.size + 1 by omega) (o := 3) (v := .slice h3 n3 k3)) (show w.heap.size ≤ w.heap.size + 1 by omega) (o := 4) (v := .slice (some ⟨g, 0, none⟩) n4 k4)
              have hRd := (((((R_5.out).set (show rb < w.heap.size + 1 by omega) (o := 0) (u := .slice h0 n0 k0)).set (show rb < w.heap.size + 1 by omega) (o := 1) (u := .slice h1 n1 k1)).set (show rb < w.heap.size + 1 by omega) (o := 2) (u := .slice h2 n2 k2)).set (show rb < w.heap.size + 1 by omega) (o := 3) (u := .slice h3 n3 k3)).set (show rb < w.heap.size + 1 by omega) (o := 4) (u := .slice (some ⟨g, 0, none⟩) n4 k4)
              rw [hZ] at hE hRd
              have HE := Lib.hid hE
              have HRd := Lib.hid hRd
              have hlo : w.heap.size ≤ W.heap.size := by omega
              have HM := m_6.out.btn ht (.inr (by omega))
              have HS : Hid (∀ w1, Btn 0 w.heap.size Z w1 → Sto w1 (.slice h0 n0 k0) (.slice h1 n1 k1) (.slice h2 n2 k2) (.slice h3 n3 k3) (.slice (some ⟨g, 0, none⟩) n4 k4) ({ S with floors := S.floors.set 0 u })) := fun w1 hb => (HM.btn hb (.inr hlo)).sto
              clear HM
              have HP : Hid (p2 ≤ p + 2) := by show _ ≤ _; omega
              have HZ2 : Hid (szT ({ S with floors := S.floors.set 0 u })) := ⟨HZ.out.1, HZ.out.2⟩
              have HN2 : Hid (StT.n5 ({ S with floors := S.floors.set 0 u })).le := ⟨HN.out.1, HN.out.2.1, HN.out.2.2.1, HN.out.2.2.2.1, (by show (List.set _ _ _).length ≤ _; rw [List.length_set]; exact HN.out.2.2.2.2)⟩
              clear hE hRd ht q0_ q1_ q2_ q3_ q4_ q5_ q6_
              go_wp2
              obtain ⟨t0, t1, t2, t3, t4, -, -, -, -, -⟩ := hzb
              exact bodyPost_ret (v := .agg #[.slice h0 n0 k0, .slice h1 n1 k1, .slice h2 n2 k2, .slice h3 n3 k3, .slice (some ⟨g, 0, none⟩) n4 k4]) (by simp [results, Tryd.results39, go_sem, t0, t1, t2, t3, t4]) rfl ⟨{ S with floors := S.floors.set 0 u }, _, _, _, _, _, _, rfl, HZ2.out, HN2.out, HS, HRd.out, HP.out, HE.out⟩
            · obtain ⟨x0_0, x0_1, x0_2, x0_3, x0_4, x0_5, x0_6, x0_7, x0_8, x0_9⟩ := bX_3.out
              clear x0_0 x0_1 x0_2 x0_3 x0_4 x0_5 x0_6 x0_7 x0_8 x0_9
              obtain ⟨x0_0, x0_1, x0_2, x0_3, x0_4, x0_5, x0_6, x0_7, x0_8, x0_9⟩ := bX_3.out
              obtain ⟨x1_0, x1_1, x1_2, x1_3, x1_4, x1_5, x1_6, x1_7, x1_8, x1_9⟩ := bR_3.out
              have q0_ := S_0.out
              have q1_ := S_1.out
              have q2_ := S_2.out
              have q3_ := S_b.out
              have q4_ := S_3.out
              obtain ⟨Z, hZ⟩ : ∃ X, (((((w11.setCell ⟨w.heap.size + 1, 0, none⟩ (.slice h0 n0 k0)).setCell ⟨w.heap.size + 1, 1, none⟩ (.slice h1 n1 k1)).setCell ⟨w.heap.size + 1, 2, none⟩ (.slice h2 n2 k2)).setCell ⟨w.heap.size + 1, 3, none⟩ (.slice h3 n3 k3)).setCell ⟨w.heap.size + 1, 4, none⟩ (.slice h4 n4 k4)) = X := ⟨_, rfl⟩
              have hzb : Box5W Z (w.heap.size + 1) (.slice h0 n0 k0) (.slice h1 n1 k1) (.slice h2 n2 k2) (.slice h3 n3 k3) (.slice h4 n4 k4) := by rw [← hZ]; exact ((((bR_3.out.set0 _).set1 _).set2 _).set3 _).set4 _
              have ht : Btn (w.heap.size + 1) (w.heap.size + 1 + 1) w11 Z := by rw [← hZ]; exact ((((btn_set _ _ _ _).trans (btn_set _ _ _ _)).trans (btn_set _ _ _ _)).trans (btn_set _ _ _ _)).trans (btn_set _ _ _ _)
              have hE := grown_new (grown_new (grown_new (grown_new (grown_new (E_3.out) (show w.heap.size ≤ w.heap.size + 1 by omega) (o := 0) (v := .slice h0 n0 k0)) (show w.heap.size ≤ w.heap.size + 1 by omega) (o := 1) (v := .slice h1 n1 k1)) (show w.heap.size ≤ w.heap.size + 1 by omega) (o := 2) (v := .slice h2 n2 k2)) (show w.heap.size ≤ w.heap.size + 1 by omega) (o := 3) (v := .slice h3 n3 k3)) (show w.heap.size ≤ w.heap.size + 1 by omega) (o := 4) (v := .slice h4 n4 k4)
              have hRd := (((((R_3.out).set (show rb < w.heap.size + 1 by omega) (o := 0) (u := .slice h0 n0 k0)).set (show rb < w.heap.size + 1 by omega) (o := 1) (u := .slice h1 n1 k1)).set (show rb < w.heap.size + 1 by omega) (o := 2) (u := .slice h2 n2 k2)).set (show rb < w.heap.size + 1 by omega) (o := 3) (u := .slice h3 n3 k3)).set (show rb < w.heap.size + 1 by omega) (o := 4) (u := .slice h4 n4 k4)
              rw [hZ] at hE hRd
              have HE := Lib.hid hE
              have HRd := Lib.hid hRd
              have hlo : w.heap.size ≤ W.heap.size := by omega
              have HM := m_3.out.btn ht (.inr (by omega))
              have HS : Hid (∀ w1, Btn 0 w.heap.size Z w1 → Sto w1 (.slice h0 n0 k0) (.slice h1 n1 k1) (.slice h2 n2 k2) (.slice h3 n3 k3) (.slice h4 n4 k4) (S)) := fun w1 hb => (HM.btn hb (.inr hlo)).sto
              clear HM
              have HP : Hid (p + 1 ≤ p + 2) := by show _ ≤ _; omega
              have HZ2 : Hid (szT (S)) := HZ
              have HN2 : Hid (StT.n5 (S)).le := HN
              clear hE hRd ht q0_ q1_ q2_ q3_ q4_
              go_wp2
              obtain ⟨t0, t1, t2, t3, t4, -, -, -, -, -⟩ := hzb
              exact bodyPost_ret (v := .agg #[.slice h0 n0 k0, .slice h1 n1 k1, .slice h2 n2 k2, .slice h3 n3 k3, .slice h4 n4 k4]) (by simp [results, Tryd.results39, go_sem, t0, t1, t2, t3, t4]) rfl ⟨S, _, _, _, _, _, _, rfl, HZ2.out, HN2.out, HS, HRd.out, HP.out, HE.out⟩
          · have d4 : (c == 4) = false := by simpa using e4
            by_cases e5 : c = 5
            · subst e5
              obtain ⟨x0_0, x0_1, x0_2, x0_3, x0_4, x0_5, x0_6, x0_7, x0_8, x0_9⟩ := bX_3.out
              have q0_ := S_0.out
              have q1_ := S_1.out
              have q2_ := S_2.out
              have q3_ := S_b.out
              have q4_ := S_3.out
              obtain ⟨X18, hX18⟩ : ∃ X, w11.setCell ⟨w2.heap.size, 4, none⟩ (.slice none 0 0) = X := ⟨_, rfl⟩
              have ht : Btn w2.heap.size (w2.heap.size + 1) w11 X18 := by rw [← hX18]; exact btn_set _ _ _ _
              have hB : Box5W X18 w2.heap.size (.slice h0 n0 k0) (.slice h1 n1 k1) (.slice h2 n2 k2) (.slice h3 n3 k3) (.slice none 0 0) := by rw [← hX18]; exact bX_3.out.set4 _
              have hE := grown_new E_3.out (show w.heap.size ≤ w2.heap.size by omega) (o := 4) (v := .slice none 0 0)
              have hRd := R_3.out.set (show rb < w2.heap.size by omega) (o := 4) (u := .slice none 0 0)
              rw [hX18] at hE hRd
              have bR_4 := Lib.hid (bR_3.out.btn ht (by omega))
              have m_4 := Lib.hid (m_3.out.btn ht (by omega))
              have E_4 := Lib.hid (hE)
              have R_4 := Lib.hid (hRd)
              have S_4 := Lib.hid ht.size
              clear bR_3 m_3 E_3 R_3 ht hE hRd bX_3 q0_ q1_ q2_ q3_ q4_
              have bX_5 := Lib.hid hB
              clear hB
              have mn := Lib.hid (m5_nile m_4.out)
              clear m_4
              obtain ⟨x0_0, x0_1, x0_2, x0_3, x0_4, x0_5, x0_6, x0_7, x0_8, x0_9⟩ := bX_5.out
              obtain ⟨x1_0, x1_1, x1_2, x1_3, x1_4, x1_5, x1_6, x1_7, x1_8, x1_9⟩ := bR_4.out
              have q0_ := S_0.out
              have q1_ := S_1.out
              have q2_ := S_2.out
              have q3_ := S_b.out
              have q4_ := S_3.out
              have q5_ := S_4.out
              obtain ⟨Z, hZ⟩ : ∃ X, (((((X18.setCell ⟨w.heap.size + 1, 0, none⟩ (.slice h0 n0 k0)).setCell ⟨w.heap.size + 1, 1, none⟩ (.slice h1 n1 k1)).setCell ⟨w.heap.size + 1, 2, none⟩ (.slice h2 n2 k2)).setCell ⟨w.heap.size + 1, 3, none⟩ (.slice h3 n3 k3)).setCell ⟨w.heap.size + 1, 4, none⟩ (.slice none 0 0)) = X := ⟨_, rfl⟩
              have hzb : Box5W Z (w.heap.size + 1) (.slice h0 n0 k0) (.slice h1 n1 k1) (.slice h2 n2 k2) (.slice h3 n3 k3) (.slice none 0 0) := by rw [← hZ]; exact ((((bR_4.out.set0 _).set1 _).set2 _).set3 _).set4 _
              have ht : Btn (w.heap.size + 1) (w.heap.size + 1 + 1) X18 Z := by rw [← hZ]; exact ((((btn_set _ _ _ _).trans (btn_set _ _ _ _)).trans (btn_set _ _ _ _)).trans (btn_set _ _ _ _)).trans (btn_set _ _ _ _)
              have hE := grown_new (grown_new (grown_new (grown_new (grown_new (E_4.out) (show w.heap.size ≤ w.heap.size + 1 by omega) (o := 0) (v := .slice h0 n0 k0)) (show w.heap.size ≤ w.heap.size + 1 by omega) (o := 1) (v := .slice h1 n1 k1)) (show w.heap.size ≤ w.heap.size + 1 by omega) (o := 2) (v := .slice h2 n2 k2)) (show w.heap.size ≤ w.heap.size + 1 by omega) (o := 3) (v := .slice h3 n3 k3)) (show w.heap.size ≤ w.heap.size + 1 by omega) (o := 4) (v := .slice none 0 0)
              have hRd := (((((R_4.out).set (show rb < w.heap.size + 1 by omega) (o := 0) (u := .slice h0 n0 k0)).set (show rb < w.heap.size + 1 by omega) (o := 1) (u := .slice h1 n1 k1)).set (show rb < w.heap.size + 1 by omega) (o := 2) (u := .slice h2 n2 k2)).set (show rb < w.heap.size + 1 by omega) (o := 3) (u := .slice h3 n3 k3)).set (show rb < w.heap.size + 1 by omega) (o := 4) (u := .slice none 0 0)
              rw [hZ] at hE hRd
              have HE := Lib.hid hE
              have HRd := Lib.hid hRd
              have hlo : w.heap.size ≤ W.heap.size := by omega
              have HM := mn.out.btn ht (.inr (by omega))
              have HS : Hid (∀ w1, Btn 0 w.heap.size Z w1 → Sto w1 (.slice h0 n0 k0) (.slice h1 n1 k1) (.slice h2 n2 k2) (.slice h3 n3 k3) (.slice none 0 0) ({ S with floors := [] })) := fun w1 hb => (HM.btn hb (.inr hlo)).sto
              clear HM
              have HP : Hid (p + 1 ≤ p + 2) := by show _ ≤ _; omega
              have HZ2 : Hid (szT ({ S with floors := [] })) := ⟨HZ.out.1, HZ.out.2⟩
              have HN2 : Hid (StT.n5 ({ S with floors := [] })).le := ⟨HN.out.1, HN.out.2.1, HN.out.2.2.1, HN.out.2.2.2.1, Nat.zero_le _⟩
              clear hE hRd ht q0_ q1_ q2_ q3_ q4_ q5_
              go_wp2
              obtain ⟨t0, t1, t2, t3, t4, -, -, -, -, -⟩ := hzb
              exact bodyPost_ret (v := .agg #[.slice h0 n0 k0, .slice h1 n1 k1, .slice h2 n2 k2, .slice h3 n3 k3, .slice none 0 0]) (by simp [results, Tryd.results39, go_sem, t0, t1, t2, t3, t4]) rfl ⟨{ S with floors := [] }, _, _, _, _, _, _, rfl, HZ2.out, HN2.out, HS, HRd.out, HP.out, HE.out⟩
            · have d5 : (c == 5) = false := by simpa using e5
              obtain ⟨x0_0, x0_1, x0_2, x0_3, x0_4, x0_5, x0_6, x0_7, x0_8, x0_9⟩ := bX_3.out
              obtain ⟨x1_0, x1_1, x1_2, x1_3, x1_4, x1_5, x1_6, x1_7, x1_8, x1_9⟩ := bR_3.out
              have q0_ := S_0.out
              have q1_ := S_1.out
              have q2_ := S_2.out
              have q3_ := S_b.out
              have q4_ := S_3.out
              obtain ⟨Z, hZ⟩ : ∃ X, (((((w11.setCell ⟨w.heap.size + 1, 0, none⟩ (.slice h0 n0 k0)).setCell ⟨w.heap.size + 1, 1, none⟩ (.slice h1 n1 k1)).setCell ⟨w.heap.size + 1, 2, none⟩ (.slice h2 n2 k2)).setCell ⟨w.heap.size + 1, 3, none⟩ (.slice h3 n3 k3)).setCell ⟨w.heap.size + 1, 4, none⟩ (.slice h4 n4 k4)) = X := ⟨_, rfl⟩
              have hzb : Box5W Z (w.heap.size + 1) (.slice h0 n0 k0) (.slice h1 n1 k1) (.slice h2 n2 k2) (.slice h3 n3 k3) (.slice h4 n4 k4) := by rw [← hZ]; exact ((((bR_3.out.set0 _).set1 _).set2 _).set3 _).set4 _
              have ht : Btn (w.heap.size + 1) (w.heap.size + 1 + 1) w11 Z := by rw [← hZ]; exact ((((btn_set _ _ _ _).trans (btn_set _ _ _ _)).trans (btn_set _ _ _ _)).trans (btn_set _ _ _ _)).trans (btn_set _ _ _ _)
              have hE := grown_new (grown_new (grown_new (grown_new (grown_new (E_3.out) (show w.heap.size ≤ w.heap.size + 1 by omega) (o := 0) (v := .slice h0 n0 k0)) (show w.heap.size ≤ w.heap.size + 1 by omega) (o := 1) (v := .slice h1 n1 k1)) (show w.heap.size ≤ w.heap.size + 1 by omega) (o := 2) (v := .slice h2 n2 k2)) (show w.heap.size ≤ w.heap.size + 1 by omega) (o := 3) (v := .slice h3 n3 k3)) (show w.heap.size ≤ w.heap.size + 1 by omega) (o := 4) (v := .slice h4 n4 k4)
              have hRd := (((((R_3.out).set (show rb < w.heap.size + 1 by omega) (o := 0) (u := .slice h0 n0 k0)).set (show rb < w.heap.size + 1 by omega) (o := 1) (u := .slice h1 n1 k1)).set (show rb < w.heap.size + 1 by omega) (o := 2) (u := .slice h2 n2 k2)).set (show rb < w.heap.size + 1 by omega) (o := 3) (u := .slice h3 n3 k3)).set (show rb < w.heap.size + 1 by omega) (o := 4) (u := .slice h4 n4 k4)
              rw [hZ] at hE hRd
              have HE := Lib.hid hE
              have HRd := Lib.hid hRd
              have hlo : w.heap.size ≤ W.heap.size := by omega
              have HM := m_3.out.btn ht (.inr (by omega))
              have HS : Hid (∀ w1, Btn 0 w.heap.size Z w1 → Sto w1 (.slice h0 n0 k0) (.slice h1 n1 k1) (.slice h2 n2 k2) (.slice h3 n3 k3) (.slice h4 n4 k4) (S)) := fun w1 hb => (HM.btn hb (.inr hlo)).sto
              clear HM
              have HP : Hid (p + 1 ≤ p + 2) := by show _ ≤ _; omega
              have HZ2 : Hid (szT (S)) := HZ
              have HN2 : Hid (StT.n5 (S)).le := HN
              clear hE hRd ht q0_ q1_ q2_ q3_ q4_
              go_wp2
              obtain ⟨t0, t1, t2, t3, t4, -, -, -, -, -⟩ := hzb
              exact bodyPost_ret (v := .agg #[.slice h0 n0 k0, .slice h1 n1 k1, .slice h2 n2 k2, .slice h3 n3 k3, .slice h4 n4 k4]) (by simp [results, Tryd.results39, go_sem, t0, t1, t2, t3, t4]) rfl ⟨S, _, _, _, _, _, _, rfl, HZ2.out, HN2.out, HS, HRd.out, HP.out, HE.out⟩

end Go.Proofs.YtadoihddmbbjoaaDoor
