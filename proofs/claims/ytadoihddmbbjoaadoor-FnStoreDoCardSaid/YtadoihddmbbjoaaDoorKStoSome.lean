/-
  A store drawn: spec.l5Some.
-/
import Derived.Test.YtadoihddmbbjoaaDoorKStoAsk
import Derived.Test.YtadoihddmbbjoaaDoorKStoKeepOk
import Derived.Test.YtadoihddmbbjoaaDoorKStoNew
import Derived.Test.YtadoihddmbbjoaaDoorKStoFenY
import Derived.Test.YtadoihddmbbjoaaDoorKRegChain
namespace Go.Proofs.YtadoihddmbbjoaaDoor
open Go.RowKit

/-- What a draw of a valid store leaves. -/
def Ssd (w : World) (rb p k : Nat) (e : Ending) (w' : World) : Prop :=
  ∃ (S : StT) (v0 v1 v2 v3 v4 : Value) (lo hi p' : Nat), e = .returned (.agg #[v0, v1, v2, v3, v4]) ∧ stOkB S = true ∧ w.heap.size ≤ lo ∧ hi ≤ w'.heap.size ∧ Hid (M5 w' lo hi v0 v1 v2 v3 v4 S.n5 S.f5) ∧ Rd w' rb p' ∧ p' ≤ p + k ∧ w.grownBy w' (some rb)

set_option maxRecDepth 100000 in
set_option maxHeartbeats 16000000 in
theorem l5Some_any (rb p : Nat) (w : World) (h : Rd w rb p) (hp : p ≤ 500000000) :
    Calls Tryd.prog 40 #[.pointer (some ⟨rb, 0, none⟩)] w (Ssd w rb p 500) := by
  have hrb := h.lt'
  obtain ⟨W, hW⟩ : ∃ W, w.alloc (.cells #[.slice none 0 0, .slice none 0 0, .slice none 0 0, .slice none 0 0, .slice none 0 0] 30) = W := ⟨_, rfl⟩
  have hal : Below w.heap.size w W := by rw [← hW]; exact (Below.refl _ _).alloc (Nat.le_refl _) _
  have R0 : Box5W W (w.heap.size) (.slice none 0 0) (.slice none 0 0) (.slice none 0 0) (.slice none 0 0) (.slice none 0 0) := by rw [← hW]; exact new_box5W _ _ _ _ _ _ _
  have hl : w.heap.size < W.heap.size := by rw [← hW]; simp
  have E_0 := Lib.hid (grown_below hal (some rb))
  have R_0 := Lib.hid (h.keep hal)
  have S_0 := Lib.hid hl
  have bR_0 := Lib.hid R0
  clear hal R0 hl h
  go_enter Tryd.func40, Tryd.ntmps40
  go_wp2_with fail
  clear hW
  refine (specNew_any W).mono ?_; rintro e ws ⟨v0, v1, v2, v3, v4, rfl, M, hb⟩
  obtain ⟨S0, hS⟩ : ∃ S : StT, ⟨[[], [], []], [[], [], []], [0, 0, 0], [0, 0, 0], [0, 0, 0]⟩ = S := ⟨_, rfl⟩
  rw [hS] at M
  have HOK : Hid (stOkB S0 = true) := by show _ = _; rw [← hS]; exact stOkB_new
  clear hS
  have bR_1 := Lib.hid (bR_0.out.keep hb)
  have E_1 := Lib.hid (grown_trans E_0.out (grown_below hb _))
  have R_1 := Lib.hid (R_0.out.keep hb)
  have S_1 := Lib.hid hb.size
  clear bR_0 E_0 R_0 hb
  have m_1 := M
  clear M
  obtain ⟨ia0, ic0, rfl⟩ := m_1.out.a.vls.form
  obtain ⟨ia1, ic1, rfl⟩ := m_1.out.b.vls.form
  obtain ⟨ia2, ic2, rfl⟩ := m_1.out.c.vls.form
  obtain ⟨ia3, ic3, rfl⟩ := m_1.out.d.vls.form
  obtain ⟨ia4, ic4, rfl⟩ := m_1.out.e.vls.form
  obtain ⟨X2, hX2⟩ : ∃ X, ws.alloc (.cells #[.slice ia0 (S0).n5.a ic0, .slice ia1 (S0).n5.b ic1, .slice ia2 (S0).n5.c ic2, .slice ia3 (S0).n5.d ic3, .slice ia4 (S0).n5.e ic4] 30) = X := ⟨_, rfl⟩
  have hb : Below ws.heap.size ws X2 := by rw [← hX2]; exact (Below.refl _ _).alloc (Nat.le_refl _) _
  have hB : Box5W X2 ws.heap.size (.slice ia0 (S0).n5.a ic0) (.slice ia1 (S0).n5.b ic1) (.slice ia2 (S0).n5.c ic2) (.slice ia3 (S0).n5.d ic3) (.slice ia4 (S0).n5.e ic4) := by rw [← hX2]; exact new_box5W _ _ _ _ _ _ _
  have hl : ws.heap.size < X2.heap.size := by rw [← hX2]; simp
  have bR_2 := Lib.hid (bR_1.out.keep hb)
  have m_2 := Lib.hid (m_1.out.keep hb)
  have E_2 := Lib.hid (grown_trans E_1.out (grown_below hb _))
  have R_2 := Lib.hid (R_1.out.keep hb)
  have S_2 := Lib.hid hb.size
  clear bR_1 m_1 E_1 R_1 hb
  have bS_b := Lib.hid hB
  have S_b := Lib.hid hl
  clear hB hl
  go_wp2_with fail
  refine (numLA_any rb p [5, 9, 3, 0, 14] 5 (fun v => 0 ≤ v ∧ v ≤ 14) X2 X2.heap.size _ _ rfl rfl rfl R_2.out (by omega) (by omega) (by omega) (by simp)).mono ?_; rintro e w1 ⟨i, p1, rfl, hi, hr, hp1, hg⟩
  clear hX2
  have q0_ := S_0.out
  have q1_ := S_1.out
  have q2_ := S_2.out
  have q3_ := S_b.out
  have ht := grown_btn hg
  have bR_4 := Lib.hid (bR_2.out.btn ht (by omega))
  have m_4 := Lib.hid (m_2.out.btn ht (by omega))
  have bS_4 := Lib.hid (bS_b.out.btn ht (by omega))
  have E_4 := Lib.hid (grown_trans E_2.out hg)
  have R_4 := Lib.hid (hr)
  have S_4 := Lib.hid ht.size
  clear bR_2 m_2 bS_b E_2 R_2 hg hr ht q0_ q1_ q2_ q3_
  obtain ⟨n0, rfl⟩ : ∃ m : Nat, i = m := ⟨i.toNat, by omega⟩
  have hn140 : n0 ≤ 14 := by omega
  clear hi
  have q0_ := S_0.out
  have q1_ := S_1.out
  have q2_ := S_2.out
  have q3_ := S_b.out
  have q4_ := S_4.out
  have hsb : w.heap.size < ws.heap.size := by omega
  have hlo0 : w.heap.size < W.heap.size := by omega
  have hhi0 : ws.heap.size ≤ w1.heap.size := by omega
  have hB0 : ws.heap.size < w1.heap.size := by omega
  clear q0_ q1_ q2_ q3_ q4_
  go_wp2_with fail
  go_loopg [4] n0 (fun g s4 wr => ∃ (n P : Nat) (S : StT) (v0 v1 v2 v3 v4 : Value) (lo hi : Nat), g = n ∧ s4 = .int .i64 n ∧ n ≤ 14 ∧ Hid (stOkB S = true) ∧ Hid (Box5W wr ws.heap.size v0 v1 v2 v3 v4) ∧ Hid (M5 wr lo hi v0 v1 v2 v3 v4 S.n5 S.f5) ∧ w.heap.size < lo ∧ hi ≤ wr.heap.size ∧ Hid (Rd wr rb P) ∧ P ≤ p + 1 + (14 - n) * 30 ∧ Hid (w.grownBy wr (some rb)) ∧ Hid (Box5W wr (w.heap.size) (.slice none 0 0) (.slice none 0 0) (.slice none 0 0) (.slice none 0 0) (.slice none 0 0)) ∧ ws.heap.size < wr.heap.size)
  case atStart => exact ⟨n0, p1, S0, _, _, _, _, _, _, _, rfl, rfl, hn140, HOK, bS_4, m_4, hlo0, hhi0, R_4, by omega, E_4, bR_4, hB0⟩
  case round =>
    obtain ⟨n, P, S, v0, v1, v2, v3, v4, lo, hi, hgk, rfl, hn14, HOK, bS_0, m_0, hlo, hhi, R_0, hP, E_0, bR_0, hB⟩ := hrel
    obtain rfl := hgk.symm
    have hpb : P ≤ p + 421 := by omega
    obtain ⟨fa0, fc0, rfl⟩ := m_0.out.a.vls.form
    obtain ⟨fa1, fc1, rfl⟩ := m_0.out.b.vls.form
    obtain ⟨fa2, fc2, rfl⟩ := m_0.out.c.vls.form
    obtain ⟨fa3, fc3, rfl⟩ := m_0.out.d.vls.form
    obtain ⟨fa4, fc4, rfl⟩ := m_0.out.e.vls.form
    by_cases hz : 0 < n
    · go_wp2_with fail
      refine (pick_any rb (P) 9 _ R_0.out (by omega) (by omega) (by omega)).mono ?_; rintro e w2 ⟨c, rfl, c0, c1, hr, hg⟩
      have ht := grown_btn hg
      have bS_901 := Lib.hid (bS_0.out.btn ht (by omega))
      have bR_901 := Lib.hid (bR_0.out.btn ht (by omega))
      have m_901 := Lib.hid (m_0.out.btn ht (by omega))
      have E_901 := Lib.hid (grown_trans E_0.out hg)
      have R_901 := Lib.hid (hr)
      have S_901 := Lib.hid ht.size
      clear bS_0 bR_0 m_0 E_0 R_0 hg hr ht
      replace c1 := c1 (by omega)
      by_cases e0 : c = 0
      · subst e0
        obtain ⟨x0_0, x0_1, x0_2, x0_3, x0_4, x0_5, x0_6, x0_7, x0_8, x0_9⟩ := bS_901.out
        go_wp2_with fail
        refine (specSync_any _ _ _ _ _ S w2 m_901.out.sto (szT_of HOK.out) (le_of HOK.out)).mono ?_; rintro e w3 ⟨u0, u1, u2, u3, u4, rfl, M, hb⟩
        have bS_902 := Lib.hid (bS_901.out.keep hb)
        have bR_902 := Lib.hid (bR_901.out.keep hb)
        have E_902 := Lib.hid (grown_trans E_901.out (grown_below hb _))
        have R_902 := Lib.hid (R_901.out.keep hb)
        have S_902 := Lib.hid hb.size
        clear x0_0 x0_1 x0_2 x0_3 x0_4 x0_5 x0_6 x0_7 x0_8 x0_9
        clear bS_901 bR_901 E_901 R_901 hb
        have m_903 := M
        clear M
        obtain ⟨h0, k0, rfl⟩ := m_903.out.a.vls.form
        obtain ⟨h1, k1, rfl⟩ := m_903.out.b.vls.form
        obtain ⟨h2, k2, rfl⟩ := m_903.out.c.vls.form
        obtain ⟨h3, k3, rfl⟩ := m_903.out.d.vls.form
        obtain ⟨h4, k4, rfl⟩ := m_903.out.e.vls.form
        obtain ⟨x0_0, x0_1, x0_2, x0_3, x0_4, x0_5, x0_6, x0_7, x0_8, x0_9⟩ := bS_902.out
        have hbx := bS_902.out
        have q0_ := S_901.out
        have q1_ := S_902.out
        obtain ⟨X4, hX4⟩ : ∃ X, (((((w3.setCell ⟨ws.heap.size, 0, none⟩ (.slice h0 (syncT S).n5.a k0)).setCell ⟨ws.heap.size, 1, none⟩ (.slice h1 (syncT S).n5.b k1)).setCell ⟨ws.heap.size, 2, none⟩ (.slice h2 (syncT S).n5.c k2)).setCell ⟨ws.heap.size, 3, none⟩ (.slice h3 (syncT S).n5.d k3)).setCell ⟨ws.heap.size, 4, none⟩ (.slice h4 (syncT S).n5.e k4)) = X := ⟨_, rfl⟩
        have ht : Btn (ws.heap.size) (ws.heap.size + 1) w3 X4 := by rw [← hX4]; exact ((((btn_set _ _ _ _).trans (btn_set _ _ _ _)).trans (btn_set _ _ _ _)).trans (btn_set _ _ _ _)).trans (btn_set _ _ _ _)
        have hB : Box5W X4 (ws.heap.size) (.slice h0 (syncT S).n5.a k0) (.slice h1 (syncT S).n5.b k1) (.slice h2 (syncT S).n5.c k2) (.slice h3 (syncT S).n5.d k3) (.slice h4 (syncT S).n5.e k4) := by rw [← hX4]; exact ((((bS_902.out.set0 _).set1 _).set2 _).set3 _).set4 _
        have hE := grown_new (grown_new (grown_new (grown_new (grown_new (E_902.out) (show w.heap.size ≤ ws.heap.size by omega) (o := 0) (v := .slice h0 (syncT S).n5.a k0)) (show w.heap.size ≤ ws.heap.size by omega) (o := 1) (v := .slice h1 (syncT S).n5.b k1)) (show w.heap.size ≤ ws.heap.size by omega) (o := 2) (v := .slice h2 (syncT S).n5.c k2)) (show w.heap.size ≤ ws.heap.size by omega) (o := 3) (v := .slice h3 (syncT S).n5.d k3)) (show w.heap.size ≤ ws.heap.size by omega) (o := 4) (v := .slice h4 (syncT S).n5.e k4)
        have hRd := (((((R_902.out).set (show rb < ws.heap.size by omega) (o := 0) (u := .slice h0 (syncT S).n5.a k0)).set (show rb < ws.heap.size by omega) (o := 1) (u := .slice h1 (syncT S).n5.b k1)).set (show rb < ws.heap.size by omega) (o := 2) (u := .slice h2 (syncT S).n5.c k2)).set (show rb < ws.heap.size by omega) (o := 3) (u := .slice h3 (syncT S).n5.d k3)).set (show rb < ws.heap.size by omega) (o := 4) (u := .slice h4 (syncT S).n5.e k4)
        rw [hX4] at hE hRd
        have bR_904 := Lib.hid (bR_902.out.btn ht (by omega))
        have m_904 := Lib.hid (m_903.out.btn ht (by omega))
        have E_904 := Lib.hid (hE)
        have R_904 := Lib.hid (hRd)
        have S_904 := Lib.hid ht.size
        clear bR_902 m_903 E_902 R_902 ht hE hRd bS_902 q0_ q1_
        have bS_905 := Lib.hid hB
        clear hB
        have q0_ := S_901.out
        have q1_ := S_902.out
        have q2_ := S_904.out
        have hlo2 : w.heap.size < w2.heap.size := by omega
        have hhi2 : w3.heap.size ≤ X4.heap.size := by omega
        have hB2 : ws.heap.size < X4.heap.size := by omega
        have HOK2 : Hid (stOkB (syncT S) = true) := stOkB_sync HOK.out
        have hp2 : P + 1 ≤ p + 1 + (14 - (n - 1)) * 30 := by omega
        have jn : IntKind.i64.wrap ((n : Int) - 1) = ((n - 1 : Nat) : Int) := by rw [IntWalk.i64_in _ (by omega)]; omega
        clear q0_ q1_ q2_
        go_wp2
        go_roundg (n - 1)
        case measure => omega
        case rel => exact ⟨n - 1, P + 1, syncT S, _, _, _, _, _, w2.heap.size, w3.heap.size, rfl, rfl, by omega, HOK2, bS_905, m_904, hlo2, hhi2, R_904, hp2, E_904, bR_904, hB2⟩
      · have d0 : (c == 0) = false := by simpa using e0
        by_cases e1 : c = 1
        · subst e1
          obtain ⟨x0_0, x0_1, x0_2, x0_3, x0_4, x0_5, x0_6, x0_7, x0_8, x0_9⟩ := bS_901.out
          go_wp2_with fail
          refine (specFall_any _ _ _ _ _ S w2 m_901.out.sto (szT_of HOK.out) (le_of HOK.out)).mono ?_; rintro e w5 ⟨u0, u1, u2, u3, u4, rfl, M, hb⟩
          have bS_902 := Lib.hid (bS_901.out.keep hb)
          have bR_902 := Lib.hid (bR_901.out.keep hb)
          have E_902 := Lib.hid (grown_trans E_901.out (grown_below hb _))
          have R_902 := Lib.hid (R_901.out.keep hb)
          have S_902 := Lib.hid hb.size
          clear x0_0 x0_1 x0_2 x0_3 x0_4 x0_5 x0_6 x0_7 x0_8 x0_9
          clear bS_901 bR_901 E_901 R_901 hb
          have m_903 := M
          clear M
          obtain ⟨h0, k0, rfl⟩ := m_903.out.a.vls.form
          obtain ⟨h1, k1, rfl⟩ := m_903.out.b.vls.form
          obtain ⟨h2, k2, rfl⟩ := m_903.out.c.vls.form
          obtain ⟨h3, k3, rfl⟩ := m_903.out.d.vls.form
          obtain ⟨h4, k4, rfl⟩ := m_903.out.e.vls.form
          obtain ⟨x0_0, x0_1, x0_2, x0_3, x0_4, x0_5, x0_6, x0_7, x0_8, x0_9⟩ := bS_902.out
          have hbx := bS_902.out
          have q0_ := S_901.out
          have q1_ := S_902.out
          obtain ⟨X6, hX6⟩ : ∃ X, (((((w5.setCell ⟨ws.heap.size, 0, none⟩ (.slice h0 (fallT S).n5.a k0)).setCell ⟨ws.heap.size, 1, none⟩ (.slice h1 (fallT S).n5.b k1)).setCell ⟨ws.heap.size, 2, none⟩ (.slice h2 (fallT S).n5.c k2)).setCell ⟨ws.heap.size, 3, none⟩ (.slice h3 (fallT S).n5.d k3)).setCell ⟨ws.heap.size, 4, none⟩ (.slice h4 (fallT S).n5.e k4)) = X := ⟨_, rfl⟩
          have ht : Btn (ws.heap.size) (ws.heap.size + 1) w5 X6 := by rw [← hX6]; exact ((((btn_set _ _ _ _).trans (btn_set _ _ _ _)).trans (btn_set _ _ _ _)).trans (btn_set _ _ _ _)).trans (btn_set _ _ _ _)
          have hB : Box5W X6 (ws.heap.size) (.slice h0 (fallT S).n5.a k0) (.slice h1 (fallT S).n5.b k1) (.slice h2 (fallT S).n5.c k2) (.slice h3 (fallT S).n5.d k3) (.slice h4 (fallT S).n5.e k4) := by rw [← hX6]; exact ((((bS_902.out.set0 _).set1 _).set2 _).set3 _).set4 _
          have hE := grown_new (grown_new (grown_new (grown_new (grown_new (E_902.out) (show w.heap.size ≤ ws.heap.size by omega) (o := 0) (v := .slice h0 (fallT S).n5.a k0)) (show w.heap.size ≤ ws.heap.size by omega) (o := 1) (v := .slice h1 (fallT S).n5.b k1)) (show w.heap.size ≤ ws.heap.size by omega) (o := 2) (v := .slice h2 (fallT S).n5.c k2)) (show w.heap.size ≤ ws.heap.size by omega) (o := 3) (v := .slice h3 (fallT S).n5.d k3)) (show w.heap.size ≤ ws.heap.size by omega) (o := 4) (v := .slice h4 (fallT S).n5.e k4)
          have hRd := (((((R_902.out).set (show rb < ws.heap.size by omega) (o := 0) (u := .slice h0 (fallT S).n5.a k0)).set (show rb < ws.heap.size by omega) (o := 1) (u := .slice h1 (fallT S).n5.b k1)).set (show rb < ws.heap.size by omega) (o := 2) (u := .slice h2 (fallT S).n5.c k2)).set (show rb < ws.heap.size by omega) (o := 3) (u := .slice h3 (fallT S).n5.d k3)).set (show rb < ws.heap.size by omega) (o := 4) (u := .slice h4 (fallT S).n5.e k4)
          rw [hX6] at hE hRd
          have bR_904 := Lib.hid (bR_902.out.btn ht (by omega))
          have m_904 := Lib.hid (m_903.out.btn ht (by omega))
          have E_904 := Lib.hid (hE)
          have R_904 := Lib.hid (hRd)
          have S_904 := Lib.hid ht.size
          clear bR_902 m_903 E_902 R_902 ht hE hRd bS_902 q0_ q1_
          have bS_905 := Lib.hid hB
          clear hB
          have q0_ := S_901.out
          have q1_ := S_902.out
          have q2_ := S_904.out
          have hlo2 : w.heap.size < w2.heap.size := by omega
          have hhi2 : w5.heap.size ≤ X6.heap.size := by omega
          have hB2 : ws.heap.size < X6.heap.size := by omega
          have HOK2 : Hid (stOkB (fallT S) = true) := stOkB_fall HOK.out
          have hp2 : P + 1 ≤ p + 1 + (14 - (n - 1)) * 30 := by omega
          have jn : IntKind.i64.wrap ((n : Int) - 1) = ((n - 1 : Nat) : Int) := by rw [IntWalk.i64_in _ (by omega)]; omega
          clear q0_ q1_ q2_
          go_wp2
          go_roundg (n - 1)
          case measure => omega
          case rel => exact ⟨n - 1, P + 1, fallT S, _, _, _, _, _, w2.heap.size, w5.heap.size, rfl, rfl, by omega, HOK2, bS_905, m_904, hlo2, hhi2, R_904, hp2, E_904, bR_904, hB2⟩
        · have d1 : (c == 1) = false := by simpa using e1
          by_cases e2 : c = 2
          · subst e2
            obtain ⟨x0_0, x0_1, x0_2, x0_3, x0_4, x0_5, x0_6, x0_7, x0_8, x0_9⟩ := bS_901.out
            go_wp2_with fail
            clear x0_0 x0_1 x0_2 x0_3 x0_4 x0_5 x0_6 x0_7 x0_8 x0_9
            have q0_ := S_901.out
            have hbr : rb + 1 ≤ ws.heap.size := by omega
            have hlr : rb + 1 ≤ lo := by omega
            have hhw : hi ≤ w2.heap.size := by omega
            clear q0_
            refine wp_region_chain 9 3 (fun j => j == 8) (fun j => (#[none, none, some 0, none, some 1, some 2, none, none, none, some 3] : Array (Option Nat)).getD j none) (fun j => (#[0, 0, 0, 0, 0, 0, 3, 3, 3] : Array Nat).getD j 0) (fun x => ({ tmps := #[Value.pointer (some { block := rb, off := 0 }), undef, Value.pointer (some { block := w.heap.size, off := 0 }), Value.pointer (some { block := ws.heap.size, off := 0 }), Value.int IntKind.i64 ↑n, Value.agg #[Value.slice ia0 S0.n5.a ic0, Value.slice ia1 S0.n5.b ic1, Value.slice ia2 S0.n5.c ic2, Value.slice ia3 S0.n5.d ic3, Value.slice ia4 S0.n5.e ic4], Value.pointer (some { block := rb, off := 0 }), Value.slice (some { block := X2.heap.size, off := 0 }) 5 5, Value.int IntKind.i64 ↑n0, Value.int IntKind.i64 ↑n, Value.bool true, u11, u12, Value.pointer (some { block := rb, off := 0 }), Value.int IntKind.i64 2, u15, u16, u17, u18, u19, u20, u21, u22, Value.bool false, Value.bool false, u25, u26, Value.bool false, Value.bool false, u29, u30, Value.bool true, Value.bool true, x 6, x 0, x 1, x 2, x 3, x 4, x 5, x 7, x 8, undef], defers := [] } : Act)) (fun j e => (#[.agg #[.slice fa0 (S).n5.a fc0, .slice fa1 (S).n5.b fc1, .slice fa2 (S).n5.c fc2, .slice fa3 (S).n5.d fc3, .slice fa4 (S).n5.e fc4], .pointer (some ⟨rb, 0, none⟩), undef, .pointer (some ⟨rb, 0, none⟩), undef, undef, e 2, tupAt (e 2) 0, tupAt (e 2) 1] : Array Value).getD j undef) (fun t e w' => match t with | 0 => w2.grownBy w' (some rb) ∧ Rd w' rb (P + 1) | 1 => w2.grownBy w' (some rb) ∧ ∃ k : Int, e 0 = .int .i64 k ∧ 0 ≤ k ∧ k < 3 ∧ Rd w' rb (P + 1 + 1) | 2 => w2.grownBy w' (some rb) ∧ ∃ k ep : Int, e 0 = .int .i64 k ∧ e 1 = .int .i64 ep ∧ Rd w' rb (P + 1 + 1 + 1) | _ => w2.grownBy w' (some rb) ∧ ∃ (k ep : Int) (lo hi : Nat) (u0 u1 u2 u3 u4 : Value), e 2 = .tuple #[.agg #[u0, u1, u2, u3, u4], .bool (fenB S k ep)] ∧ w2.heap.size ≤ lo ∧ hi ≤ w'.heap.size ∧ Hid (M5 w' lo hi u0 u1 u2 u3 u4 (fenT S k ep).n5 (fenT S k ep).f5) ∧ Rd w' rb (P + 1 + 1 + 1)) (fun e w' => ∃ w0 : World, (w2.grownBy w0 (some rb) ∧ ∃ (k ep : Int) (lo hi : Nat) (u0 u1 u2 u3 u4 : Value), e 2 = .tuple #[.agg #[u0, u1, u2, u3, u4], .bool (fenB S k ep)] ∧ w2.heap.size ≤ lo ∧ hi ≤ w0.heap.size ∧ Hid (M5 w0 lo hi u0 u1 u2 u3 u4 (fenT S k ep).n5 (fenT S k ep).f5) ∧ Rd w0 rb (P + 1 + 1 + 1)) ∧ ∃ u0 u1 u2 u3 u4 : Value, tupAt (e 2) 0 = .agg #[u0, u1, u2, u3, u4] ∧ (∃ z, e 2 = .tuple #[.agg #[u0, u1, u2, u3, u4], z]) ∧ w' = (((((w0.setCell ⟨ws.heap.size, 0, none⟩ (u0)).setCell ⟨ws.heap.size, 1, none⟩ (u1)).setCell ⟨ws.heap.size, 2, none⟩ (u2)).setCell ⟨ws.heap.size, 3, none⟩ (u3)).setCell ⟨ws.heap.size, 4, none⟩ (u4))) (x0 := fun i => (#[u34, u35, u36, u37, u38, u39, u33, u40, u41] : Array Value).getD i undef) rfl (by kernel_rfl) (by kernel_rfl) (by kernel_rfl) (by kernel_rfl) (by kernel_rfl) (by kernel_rfl) (by kernel_rfl) (by kernel_rfl) ?_ ?_ ?_ ?_ ?_ ?_ ?_ ?_
            · intro x y h
              simp only [h 0 (by decide), h 1 (by decide), h 2 (by decide), h 3 (by decide), h 4 (by decide), h 5 (by decide), h 6 (by decide), h 7 (by decide), h 8 (by decide)]
            · intro i hi hr e e' h
              obtain rfl | rfl | rfl | rfl | rfl | rfl | rfl | rfl | rfl : i = 0 ∨ i = 1 ∨ i = 2 ∨ i = 3 ∨ i = 4 ∨ i = 5 ∨ i = 6 ∨ i = 7 ∨ i = 8 := by omega
              · rfl
              · rfl
              · exact absurd hr (by decide)
              · rfl
              · exact absurd hr (by decide)
              · exact absurd hr (by decide)
              · show e 2 = e' 2; rw [h 2 (by decide)]
              · show tupAt (e 2) 0 = tupAt (e' 2) 0; rw [h 2 (by decide)]
              · show tupAt (e 2) 1 = tupAt (e' 2) 1; rw [h 2 (by decide)]
            · exact ⟨grown_below (Below.refl _ _).drew (some rb), R_901.out.keep (Below.refl _ _).drew⟩
            · rintro i oi x e t w' hi hr ho hlv htm hC hon
              obtain rfl | rfl | rfl | rfl | rfl | rfl | rfl | rfl | rfl : i = 0 ∨ i = 1 ∨ i = 2 ∨ i = 3 ∨ i = 4 ∨ i = 5 ∨ i = 6 ∨ i = 7 ∨ i = 8 := by omega
              · obtain rfl := Option.some.inj ho
                have hG : w2.grownBy w' (some rb) := by
                  match t, htm, hC with
                  | 0, _, hC => exact hC.1
                  | 1, _, hC => exact hC.1
                  | 2, _, hC => exact hC.1
                  | 3, _, hC => exact hC.1
                  | n + 4, h, _ => exact absurd h (by omega)
                obtain ⟨l0, l1, l2, l3, l4, -, -, -, -, -⟩ := bS_901.out.btn (grown_btn hG) (.inr hbr)
                refine wp_value (v := .agg #[.slice fa0 (S).n5.a fc0, .slice fa1 (S).n5.b fc1, .slice fa2 (S).n5.c fc2, .slice fa3 (S).n5.d fc3, .slice fa4 (S).n5.e fc4]) (w' := w') ?_ ⟨rfl, rfl⟩
                go_simp
              · obtain rfl := Option.some.inj ho
                refine wp_value (v := .pointer (some ⟨rb, 0, none⟩)) (w' := w') ?_ ⟨rfl, rfl⟩
                go_simp
              · exact absurd hr (by decide)
              · obtain rfl := Option.some.inj ho
                refine wp_value (v := .pointer (some ⟨rb, 0, none⟩)) (w' := w') ?_ ⟨rfl, rfl⟩
                go_simp
              · exact absurd hr (by decide)
              · exact absurd hr (by decide)
              · obtain rfl := Option.some.inj ho
                have e5 : x 5 = e 2 := hon _ (Array.mem_of_getElem? (i := 0) rfl) rfl
                refine wp_value (v := e 2) (w' := w') ?_ ⟨rfl, rfl⟩
                go_simp
              · obtain rfl := Option.some.inj ho
                have e6 : x 6 = e 2 := hon _ (Array.mem_of_getElem? (i := 0) rfl) rfl
                obtain rfl : t = 3 := by have h1 : 3 ≤ t := hlv; have h2 : t ≤ 3 := htm; omega
                have hC' : w2.grownBy w' (some rb) ∧ ∃ (k ep : Int) (lo hi : Nat) (u0 u1 u2 u3 u4 : Value), e 2 = .tuple #[.agg #[u0, u1, u2, u3, u4], .bool (fenB S k ep)] ∧ w2.heap.size ≤ lo ∧ hi ≤ w'.heap.size ∧ Hid (M5 w' lo hi u0 u1 u2 u3 u4 (fenT S k ep).n5 (fenT S k ep).f5) ∧ Rd w' rb (P + 1 + 1 + 1) := hC
                obtain ⟨-, k, ep, lo2, hi2, u0, u1, u2, u3, u4, he, -⟩ := hC'
                rw [he] at e6
                have hv : tupAt (e 2) 0 = .agg #[u0, u1, u2, u3, u4] := by rw [he]; rfl
                refine wp_value (v := tupAt (e 2) 0) (w' := w') ?_ ⟨rfl, rfl⟩
                rw [hv]
                go_simp
              · obtain rfl := Option.some.inj ho
                have e6 : x 6 = e 2 := hon _ (Array.mem_of_getElem? (i := 0) rfl) rfl
                obtain rfl : t = 3 := by have h1 : 3 ≤ t := hlv; have h2 : t ≤ 3 := htm; omega
                have hC' : w2.grownBy w' (some rb) ∧ ∃ (k ep : Int) (lo hi : Nat) (u0 u1 u2 u3 u4 : Value), e 2 = .tuple #[.agg #[u0, u1, u2, u3, u4], .bool (fenB S k ep)] ∧ w2.heap.size ≤ lo ∧ hi ≤ w'.heap.size ∧ Hid (M5 w' lo hi u0 u1 u2 u3 u4 (fenT S k ep).n5 (fenT S k ep).f5) ∧ Rd w' rb (P + 1 + 1 + 1) := hC
                obtain ⟨-, k, ep, lo2, hi2, u0, u1, u2, u3, u4, he, -⟩ := hC'
                rw [he] at e6
                have hv : tupAt (e 2) 1 = .bool (fenB S k ep) := by rw [he]; rfl
                refine wp_value (v := tupAt (e 2) 1) (w' := w') ?_ ⟨rfl, rfl⟩
                rw [hv]
                go_simp
            · rintro i oi x e t w' hi hr ho hC hon
              obtain rfl | rfl | rfl | rfl | rfl | rfl | rfl | rfl | rfl : i = 0 ∨ i = 1 ∨ i = 2 ∨ i = 3 ∨ i = 4 ∨ i = 5 ∨ i = 6 ∨ i = 7 ∨ i = 8 := by omega
              · exact absurd hr (by intro h; cases h)
              · exact absurd hr (by intro h; cases h)
              · obtain rfl : 0 = t := Option.some.inj hr
                obtain rfl := Option.some.inj ho
                have e1 : x 1 = .pointer (some ⟨rb, 0, none⟩) := hon _ (Array.mem_of_getElem? (i := 0) rfl) rfl
                have hC' : w2.grownBy w' (some rb) ∧ Rd w' rb (P + 1) := hC
                refine wp_enter 62 #[.pointer (some ⟨rb, 0, none⟩), .int .i64 3] ?_ ((pick_any rb (P + 1) 3 w' hC'.2 (by omega) (by omega) (by omega)).mono fun e' wz ⟨kz, he, k0, k1, hr, hg⟩ => ⟨_, he, _, rfl, show w2.grownBy wz (some rb) ∧ ∃ k : Int, (upd e 0 (.int .i64 kz)) 0 = .int .i64 k ∧ 0 ≤ k ∧ k < 3 ∧ Rd wz rb (P + 1 + 1) from ⟨grown_trans hC'.1 hg, kz, upd_eq _ _ _, k0, k1 (by omega), hr⟩⟩)
                go_simp
              · exact absurd hr (by intro h; cases h)
              · obtain rfl : 1 = t := Option.some.inj hr
                obtain rfl := Option.some.inj ho
                have e3 : x 3 = .pointer (some ⟨rb, 0, none⟩) := hon _ (Array.mem_of_getElem? (i := 0) rfl) rfl
                have hC' : w2.grownBy w' (some rb) ∧ ∃ k : Int, e 0 = .int .i64 k ∧ 0 ≤ k ∧ k < 3 ∧ Rd w' rb (P + 1 + 1) := hC
                obtain ⟨hG, kc, hk, -, -, hrd⟩ := hC'
                refine wp_enter 62 #[.pointer (some ⟨rb, 0, none⟩), .int .i64 4] ?_ ((pick_any rb (P + 1 + 1) 4 w' hrd (by omega) (by omega) (by omega)).mono fun e' wz ⟨ez, he, k0, k1, hr, hg⟩ => ⟨_, he, _, rfl, show w2.grownBy wz (some rb) ∧ ∃ k ep : Int, (upd e 1 (.int .i64 ez)) 0 = .int .i64 k ∧ (upd e 1 (.int .i64 ez)) 1 = .int .i64 ep ∧ Rd wz rb (P + 1 + 1 + 1) from ⟨grown_trans hG hg, kc, ez, (upd_ne (by decide)).trans hk, upd_eq _ _ _, hr⟩⟩)
                go_simp
              · obtain rfl : 2 = t := Option.some.inj hr
                obtain rfl := Option.some.inj ho
                have e0 : x 0 = .agg #[.slice fa0 (S).n5.a fc0, .slice fa1 (S).n5.b fc1, .slice fa2 (S).n5.c fc2, .slice fa3 (S).n5.d fc3, .slice fa4 (S).n5.e fc4] := hon _ (Array.mem_of_getElem? (i := 0) rfl) rfl
                have e2 : x 2 = e 0 := hon _ (Array.mem_of_getElem? (i := 1) rfl) rfl
                have e4 : x 4 = e 1 := hon _ (Array.mem_of_getElem? (i := 2) rfl) rfl
                have hC' : w2.grownBy w' (some rb) ∧ ∃ k ep : Int, e 0 = .int .i64 k ∧ e 1 = .int .i64 ep ∧ Rd w' rb (P + 1 + 1 + 1) := hC
                obtain ⟨hG, kc, ec, hk, hep, hrd⟩ := hC'
                rw [hk] at e2
                rw [hep] at e4
                refine wp_enter 67 #[.agg #[.slice fa0 (S).n5.a fc0, .slice fa1 (S).n5.b fc1, .slice fa2 (S).n5.c fc2, .slice fa3 (S).n5.d fc3, .slice fa4 (S).n5.e fc4], .int .i64 kc, .int .i64 ec] ?_ ((specFence_any _ _ _ _ _ S kc ec w' (m_901.out.btn (grown_btn hG) (.inr hlr)).sto (szT_of HOK.out) (le_of HOK.out)).mono fun e' wz ⟨z0, z1, z2, z3, z4, he, hM, hb⟩ => ⟨_, he, _, rfl, show w2.grownBy wz (some rb) ∧ ∃ (k ep : Int) (lo hi : Nat) (u0 u1 u2 u3 u4 : Value), (upd e 2 (.tuple #[.agg #[z0, z1, z2, z3, z4], .bool (fenB S kc ec)])) 2 = .tuple #[.agg #[u0, u1, u2, u3, u4], .bool (fenB S k ep)] ∧ w2.heap.size ≤ lo ∧ hi ≤ wz.heap.size ∧ Hid (M5 wz lo hi u0 u1 u2 u3 u4 (fenT S k ep).n5 (fenT S k ep).f5) ∧ Rd wz rb (P + 1 + 1 + 1) from ⟨grown_trans hG (grown_below hb _), kc, ec, _, _, z0, z1, z2, z3, z4, upd_eq _ _ _, hG.size, Nat.le_refl _, hM, hrd.keep hb⟩⟩)
                go_simp
              · exact absurd hr (by intro h; cases h)
              · exact absurd hr (by intro h; cases h)
              · exact absurd hr (by intro h; cases h)
            · rintro oi x e w' ho hC hon
              obtain rfl := Option.some.inj ho
              have e7 : x 7 = tupAt (e 2) 0 := hon _ (Array.mem_of_getElem? (i := 0) rfl) rfl
              have hC' : w2.grownBy w' (some rb) ∧ ∃ (k ep : Int) (lo hi : Nat) (u0 u1 u2 u3 u4 : Value), e 2 = .tuple #[.agg #[u0, u1, u2, u3, u4], .bool (fenB S k ep)] ∧ w2.heap.size ≤ lo ∧ hi ≤ w'.heap.size ∧ Hid (M5 w' lo hi u0 u1 u2 u3 u4 (fenT S k ep).n5 (fenT S k ep).f5) ∧ Rd w' rb (P + 1 + 1 + 1) := hC
              obtain ⟨hG, k, ep, lo2, hi2, u0, u1, u2, u3, u4, he, hlo2, hhi2, hM, hrd⟩ := hC'
              have hv : tupAt (e 2) 0 = .agg #[u0, u1, u2, u3, u4] := by rw [he]; rfl
              rw [hv] at e7
              obtain ⟨l0, l1, l2, l3, l4, g0, g1, g2, g3, g4⟩ := bS_901.out.btn (grown_btn hG) (.inr hbr)
              obtain ⟨r0, s0, rfl⟩ := hM.out.a.vls.form
              obtain ⟨r1, s1, rfl⟩ := hM.out.b.vls.form
              obtain ⟨r2, s2, rfl⟩ := hM.out.c.vls.form
              obtain ⟨r3, s3, rfl⟩ := hM.out.d.vls.form
              obtain ⟨r4, s4, rfl⟩ := hM.out.e.vls.form
              refine wp_skip (w' := (((((w'.setCell ⟨ws.heap.size, 0, none⟩ (.slice r0 (fenT S k ep).n5.a s0)).setCell ⟨ws.heap.size, 1, none⟩ (.slice r1 (fenT S k ep).n5.b s1)).setCell ⟨ws.heap.size, 2, none⟩ (.slice r2 (fenT S k ep).n5.c s2)).setCell ⟨ws.heap.size, 3, none⟩ (.slice r3 (fenT S k ep).n5.d s3)).setCell ⟨ws.heap.size, 4, none⟩ (.slice r4 (fenT S k ep).n5.e s4))) ?_ ⟨rfl, w', ⟨hG, k, ep, lo2, hi2, _, _, _, _, _, he, hlo2, hhi2, hM, hrd⟩, _, _, _, _, _, hv, ⟨_, he⟩, rfl⟩
              go_simp
            · rintro i oi x e w' hi hlt hr ho hR hon
              obtain rfl : i = 8 := by simpa using hlt
              obtain rfl := Option.some.inj ho
              have e6 : x 6 = e 2 := hon _ (Array.mem_of_getElem? (i := 0) rfl) rfl
              obtain ⟨w0, -, u0, u1, u2, u3, u4, -, ⟨zz, he⟩, -⟩ := hR
              rw [he] at e6
              have hv : tupAt (e 2) 1 = zz := by rw [he]; rfl
              refine wp_value (v := tupAt (e 2) 1) (w' := w') ?_ ⟨rfl, rfl⟩
              rw [hv]
              go_simp
            rintro e w' F hF hR
            obtain rfl : F = ({ tmps := #[Value.pointer (some { block := rb, off := 0 }), undef, Value.pointer (some { block := w.heap.size, off := 0 }), Value.pointer (some { block := ws.heap.size, off := 0 }), Value.int IntKind.i64 ↑n, Value.agg #[Value.slice ia0 S0.n5.a ic0, Value.slice ia1 S0.n5.b ic1, Value.slice ia2 S0.n5.c ic2, Value.slice ia3 S0.n5.d ic3, Value.slice ia4 S0.n5.e ic4], Value.pointer (some { block := rb, off := 0 }), Value.slice (some { block := X2.heap.size, off := 0 }) 5 5, Value.int IntKind.i64 ↑n0, Value.int IntKind.i64 ↑n, Value.bool true, u11, u12, Value.pointer (some { block := rb, off := 0 }), Value.int IntKind.i64 2, u15, u16, u17, u18, u19, u20, u21, u22, Value.bool false, Value.bool false, u25, u26, Value.bool false, Value.bool false, u29, u30, Value.bool true, Value.bool true, e 2, .agg #[.slice fa0 (S).n5.a fc0, .slice fa1 (S).n5.b fc1, .slice fa2 (S).n5.c fc2, .slice fa3 (S).n5.d fc3, .slice fa4 (S).n5.e fc4], .pointer (some ⟨rb, 0, none⟩), e 0, .pointer (some ⟨rb, 0, none⟩), e 1, e 2, tupAt (e 2) 0, tupAt (e 2) 1, undef], defers := [] } : Act) := hF
            obtain ⟨w0, ⟨hg, k, ep, lo2, hi2, u0, u1, u2, u3, u4, he, hlo3, hhi3, hM, hr⟩, y0, y1, y2, y3, y4, hy, -, rfl⟩ := hR
            have hv : tupAt (e 2) 0 = .agg #[u0, u1, u2, u3, u4] := by rw [he]; rfl
            rw [hv] at hy
            injection hy with hy1
            injection hy1 with hy2
            simp only [List.cons.injEq, and_true] at hy2
            obtain ⟨rfl, rfl, rfl, rfl, rfl⟩ := hy2
            clear hv he
            have q0_ := S_901.out
            have ht := grown_btn hg
            have bS_902 := Lib.hid (bS_901.out.btn ht (by omega))
            have bR_902 := Lib.hid (bR_901.out.btn ht (by omega))
            have E_902 := Lib.hid (grown_trans E_901.out hg)
            have R_902 := Lib.hid (hr)
            have S_902 := Lib.hid ht.size
            clear bS_901 bR_901 E_901 R_901 hg hr ht q0_
            have m_903 := hM
            clear hM
            obtain ⟨h0, k0, rfl⟩ := m_903.out.a.vls.form
            obtain ⟨h1, k1, rfl⟩ := m_903.out.b.vls.form
            obtain ⟨h2, k2, rfl⟩ := m_903.out.c.vls.form
            obtain ⟨h3, k3, rfl⟩ := m_903.out.d.vls.form
            obtain ⟨h4, k4, rfl⟩ := m_903.out.e.vls.form
            have q0_ := S_901.out
            have q1_ := S_902.out
            obtain ⟨X7, hX7⟩ : ∃ X, (((((w0.setCell ⟨ws.heap.size, 0, none⟩ (.slice h0 (fenT S k ep).n5.a k0)).setCell ⟨ws.heap.size, 1, none⟩ (.slice h1 (fenT S k ep).n5.b k1)).setCell ⟨ws.heap.size, 2, none⟩ (.slice h2 (fenT S k ep).n5.c k2)).setCell ⟨ws.heap.size, 3, none⟩ (.slice h3 (fenT S k ep).n5.d k3)).setCell ⟨ws.heap.size, 4, none⟩ (.slice h4 (fenT S k ep).n5.e k4)) = X := ⟨_, rfl⟩
            have ht : Btn (ws.heap.size) (ws.heap.size + 1) w0 X7 := by rw [← hX7]; exact ((((btn_set _ _ _ _).trans (btn_set _ _ _ _)).trans (btn_set _ _ _ _)).trans (btn_set _ _ _ _)).trans (btn_set _ _ _ _)
            have hB : Box5W X7 (ws.heap.size) (.slice h0 (fenT S k ep).n5.a k0) (.slice h1 (fenT S k ep).n5.b k1) (.slice h2 (fenT S k ep).n5.c k2) (.slice h3 (fenT S k ep).n5.d k3) (.slice h4 (fenT S k ep).n5.e k4) := by rw [← hX7]; exact ((((bS_902.out.set0 _).set1 _).set2 _).set3 _).set4 _
            have hE := grown_new (grown_new (grown_new (grown_new (grown_new (E_902.out) (show w.heap.size ≤ ws.heap.size by omega) (o := 0) (v := .slice h0 (fenT S k ep).n5.a k0)) (show w.heap.size ≤ ws.heap.size by omega) (o := 1) (v := .slice h1 (fenT S k ep).n5.b k1)) (show w.heap.size ≤ ws.heap.size by omega) (o := 2) (v := .slice h2 (fenT S k ep).n5.c k2)) (show w.heap.size ≤ ws.heap.size by omega) (o := 3) (v := .slice h3 (fenT S k ep).n5.d k3)) (show w.heap.size ≤ ws.heap.size by omega) (o := 4) (v := .slice h4 (fenT S k ep).n5.e k4)
            have hRd := (((((R_902.out).set (show rb < ws.heap.size by omega) (o := 0) (u := .slice h0 (fenT S k ep).n5.a k0)).set (show rb < ws.heap.size by omega) (o := 1) (u := .slice h1 (fenT S k ep).n5.b k1)).set (show rb < ws.heap.size by omega) (o := 2) (u := .slice h2 (fenT S k ep).n5.c k2)).set (show rb < ws.heap.size by omega) (o := 3) (u := .slice h3 (fenT S k ep).n5.d k3)).set (show rb < ws.heap.size by omega) (o := 4) (u := .slice h4 (fenT S k ep).n5.e k4)
            rw [hX7] at hE hRd
            have bR_904 := Lib.hid (bR_902.out.btn ht (by omega))
            have m_904 := Lib.hid (m_903.out.btn ht (by omega))
            have E_904 := Lib.hid (hE)
            have R_904 := Lib.hid (hRd)
            have S_904 := Lib.hid ht.size
            clear bR_902 m_903 E_902 R_902 ht hE hRd bS_902 q0_ q1_
            have bS_905 := Lib.hid hB
            clear hB
            rw [hX7]
            have q0_ := S_901.out
            have q1_ := S_902.out
            have q2_ := S_904.out
            have hlo2 : w.heap.size < lo2 := by omega
            have hhi2 : hi2 ≤ X7.heap.size := by omega
            have hB2 : ws.heap.size < X7.heap.size := by omega
            have HOK2 : Hid (stOkB (fenT S k ep) = true) := stOkB_fen k ep HOK.out
            have hp2 : P + 1 + 1 + 1 ≤ p + 1 + (14 - (n - 1)) * 30 := by omega
            have jn : IntKind.i64.wrap ((n : Int) - 1) = ((n - 1 : Nat) : Int) := by rw [IntWalk.i64_in _ (by omega)]; omega
            clear q0_ q1_ q2_
            go_wp2
            go_roundg (n - 1)
            case measure => omega
            case rel => exact ⟨n - 1, P + 1 + 1 + 1, fenT S k ep, _, _, _, _, _, lo2, hi2, rfl, rfl, by omega, HOK2, bS_905, m_904, hlo2, hhi2, R_904, hp2, E_904, bR_904, hB2⟩
          · have d2 : (c == 2) = false := by simpa using e2
            obtain ⟨x0_0, x0_1, x0_2, x0_3, x0_4, x0_5, x0_6, x0_7, x0_8, x0_9⟩ := bS_901.out
            go_wp2_with fail
            clear x0_0 x0_1 x0_2 x0_3 x0_4 x0_5 x0_6 x0_7 x0_8 x0_9
            have q0_ := S_901.out
            have hbr : rb + 1 ≤ ws.heap.size := by omega
            have hlr : rb + 1 ≤ lo := by omega
            have hhw : hi ≤ w2.heap.size := by omega
            clear q0_
            refine wp_region_chain 8 2 (fun j => j == 7) (fun j => (#[none, none, none, some 0, some 1, none, none, none, some 2] : Array (Option Nat)).getD j none) (fun j => (#[0, 0, 0, 0, 0, 2, 2, 2] : Array Nat).getD j 0) (fun x => ({ tmps := #[Value.pointer (some { block := rb, off := 0 }), undef, Value.pointer (some { block := w.heap.size, off := 0 }), Value.pointer (some { block := ws.heap.size, off := 0 }), Value.int IntKind.i64 ↑n, Value.agg #[Value.slice ia0 S0.n5.a ic0, Value.slice ia1 S0.n5.b ic1, Value.slice ia2 S0.n5.c ic2, Value.slice ia3 S0.n5.d ic3, Value.slice ia4 S0.n5.e ic4], Value.pointer (some { block := rb, off := 0 }), Value.slice (some { block := X2.heap.size, off := 0 }) 5 5, Value.int IntKind.i64 ↑n0, Value.int IntKind.i64 ↑n, Value.bool true, u11, u12, Value.pointer (some { block := rb, off := 0 }), Value.int IntKind.i64 c, x 5, x 0, x 1, x 2, x 3, x 4, x 6, x 7, Value.bool false, Value.bool false, u25, u26, Value.bool false, Value.bool false, u29, u30, Value.bool false, Value.bool false, u33, u34, u35, u36, u37, u38, u39, u40, u41, undef], defers := [] } : Act)) (fun j e => (#[.agg #[.slice fa0 (S).n5.a fc0, .slice fa1 (S).n5.b fc1, .slice fa2 (S).n5.c fc2, .slice fa3 (S).n5.d fc3, .slice fa4 (S).n5.e fc4], .pointer (some ⟨rb, 0, none⟩), .agg #[.slice fa0 (S).n5.a fc0, .slice fa1 (S).n5.b fc1, .slice fa2 (S).n5.c fc2, .slice fa3 (S).n5.d fc3, .slice fa4 (S).n5.e fc4], undef, undef, e 1, tupAt (e 1) 0, tupAt (e 1) 1] : Array Value).getD j undef) (fun t e w' => match t with | 0 => w2.grownBy w' (some rb) ∧ Rd w' rb (P + 1) | 1 => w2.grownBy w' (some rb) ∧ ∃ (q : ReqT) (P' : Nat), e 0 = .agg (rqA q) ∧ q.data.length ≤ 49 ∧ Rd w' rb P' ∧ P' ≤ P + 1 + 20 | _ => w2.grownBy w' (some rb) ∧ ∃ (q : ReqT) (P' lo hi : Nat) (u0 u1 u2 u3 u4 : Value), e 1 = .tuple #[.agg #[u0, u1, u2, u3, u4], .int .i64 (doK S q)] ∧ w2.heap.size ≤ lo ∧ hi ≤ w'.heap.size ∧ Hid (M5 w' lo hi u0 u1 u2 u3 u4 (doT S q).n5 (doT S q).f5) ∧ Rd w' rb P' ∧ P' ≤ P + 1 + 20) (fun e w' => ∃ w0 : World, (w2.grownBy w0 (some rb) ∧ ∃ (q : ReqT) (P' lo hi : Nat) (u0 u1 u2 u3 u4 : Value), e 1 = .tuple #[.agg #[u0, u1, u2, u3, u4], .int .i64 (doK S q)] ∧ w2.heap.size ≤ lo ∧ hi ≤ w0.heap.size ∧ Hid (M5 w0 lo hi u0 u1 u2 u3 u4 (doT S q).n5 (doT S q).f5) ∧ Rd w0 rb P' ∧ P' ≤ P + 1 + 20) ∧ ∃ u0 u1 u2 u3 u4 : Value, tupAt (e 1) 0 = .agg #[u0, u1, u2, u3, u4] ∧ (∃ z, e 1 = .tuple #[.agg #[u0, u1, u2, u3, u4], z]) ∧ w' = (((((w0.setCell ⟨ws.heap.size, 0, none⟩ (u0)).setCell ⟨ws.heap.size, 1, none⟩ (u1)).setCell ⟨ws.heap.size, 2, none⟩ (u2)).setCell ⟨ws.heap.size, 3, none⟩ (u3)).setCell ⟨ws.heap.size, 4, none⟩ (u4))) (x0 := fun i => (#[u16, u17, u18, u19, u20, u15, u21, u22] : Array Value).getD i undef) rfl (by kernel_rfl) (by kernel_rfl) (by kernel_rfl) (by kernel_rfl) (by kernel_rfl) (by kernel_rfl) (by kernel_rfl) (by kernel_rfl) ?_ ?_ ?_ ?_ ?_ ?_ ?_ ?_
            · intro x y h
              simp only [h 0 (by decide), h 1 (by decide), h 2 (by decide), h 3 (by decide), h 4 (by decide), h 5 (by decide), h 6 (by decide), h 7 (by decide)]
            · intro i hi hr e e' h
              obtain rfl | rfl | rfl | rfl | rfl | rfl | rfl | rfl : i = 0 ∨ i = 1 ∨ i = 2 ∨ i = 3 ∨ i = 4 ∨ i = 5 ∨ i = 6 ∨ i = 7 := by omega
              · rfl
              · rfl
              · rfl
              · exact absurd hr (by decide)
              · exact absurd hr (by decide)
              · show e 1 = e' 1; rw [h 1 (by decide)]
              · show tupAt (e 1) 0 = tupAt (e' 1) 0; rw [h 1 (by decide)]
              · show tupAt (e 1) 1 = tupAt (e' 1) 1; rw [h 1 (by decide)]
            · exact ⟨grown_below (Below.refl _ _).drew (some rb), R_901.out.keep (Below.refl _ _).drew⟩
            · rintro i oi x e t w' hi hr ho hlv htm hC hon
              obtain rfl | rfl | rfl | rfl | rfl | rfl | rfl | rfl : i = 0 ∨ i = 1 ∨ i = 2 ∨ i = 3 ∨ i = 4 ∨ i = 5 ∨ i = 6 ∨ i = 7 := by omega
              · obtain rfl := Option.some.inj ho
                have hG : w2.grownBy w' (some rb) := by
                  match t, htm, hC with
                  | 0, _, hC => exact hC.1
                  | 1, _, hC => exact hC.1
                  | 2, _, hC => exact hC.1
                  | n + 3, h, _ => exact absurd h (by omega)
                obtain ⟨l0, l1, l2, l3, l4, -, -, -, -, -⟩ := bS_901.out.btn (grown_btn hG) (.inr hbr)
                refine wp_value (v := .agg #[.slice fa0 (S).n5.a fc0, .slice fa1 (S).n5.b fc1, .slice fa2 (S).n5.c fc2, .slice fa3 (S).n5.d fc3, .slice fa4 (S).n5.e fc4]) (w' := w') ?_ ⟨rfl, rfl⟩
                go_simp
              · obtain rfl := Option.some.inj ho
                refine wp_value (v := .pointer (some ⟨rb, 0, none⟩)) (w' := w') ?_ ⟨rfl, rfl⟩
                go_simp
              · obtain rfl := Option.some.inj ho
                have hG : w2.grownBy w' (some rb) := by
                  match t, htm, hC with
                  | 0, _, hC => exact hC.1
                  | 1, _, hC => exact hC.1
                  | 2, _, hC => exact hC.1
                  | n + 3, h, _ => exact absurd h (by omega)
                obtain ⟨l0, l1, l2, l3, l4, -, -, -, -, -⟩ := bS_901.out.btn (grown_btn hG) (.inr hbr)
                refine wp_value (v := .agg #[.slice fa0 (S).n5.a fc0, .slice fa1 (S).n5.b fc1, .slice fa2 (S).n5.c fc2, .slice fa3 (S).n5.d fc3, .slice fa4 (S).n5.e fc4]) (w' := w') ?_ ⟨rfl, rfl⟩
                go_simp
              · exact absurd hr (by decide)
              · exact absurd hr (by decide)
              · obtain rfl := Option.some.inj ho
                have e4 : x 4 = e 1 := hon _ (Array.mem_of_getElem? (i := 0) rfl) rfl
                refine wp_value (v := e 1) (w' := w') ?_ ⟨rfl, rfl⟩
                go_simp
              · obtain rfl := Option.some.inj ho
                have e5 : x 5 = e 1 := hon _ (Array.mem_of_getElem? (i := 0) rfl) rfl
                obtain rfl : t = 2 := by have h1 : 2 ≤ t := hlv; have h2 : t ≤ 2 := htm; omega
                have hC' : w2.grownBy w' (some rb) ∧ ∃ (q : ReqT) (P' lo hi : Nat) (u0 u1 u2 u3 u4 : Value), e 1 = .tuple #[.agg #[u0, u1, u2, u3, u4], .int .i64 (doK S q)] ∧ w2.heap.size ≤ lo ∧ hi ≤ w'.heap.size ∧ Hid (M5 w' lo hi u0 u1 u2 u3 u4 (doT S q).n5 (doT S q).f5) ∧ Rd w' rb P' ∧ P' ≤ P + 1 + 20 := hC
                obtain ⟨-, q, P', lo2, hi2, u0, u1, u2, u3, u4, he, -⟩ := hC'
                rw [he] at e5
                have hv : tupAt (e 1) 0 = .agg #[u0, u1, u2, u3, u4] := by rw [he]; rfl
                refine wp_value (v := tupAt (e 1) 0) (w' := w') ?_ ⟨rfl, rfl⟩
                rw [hv]
                go_simp
              · obtain rfl := Option.some.inj ho
                have e5 : x 5 = e 1 := hon _ (Array.mem_of_getElem? (i := 0) rfl) rfl
                obtain rfl : t = 2 := by have h1 : 2 ≤ t := hlv; have h2 : t ≤ 2 := htm; omega
                have hC' : w2.grownBy w' (some rb) ∧ ∃ (q : ReqT) (P' lo hi : Nat) (u0 u1 u2 u3 u4 : Value), e 1 = .tuple #[.agg #[u0, u1, u2, u3, u4], .int .i64 (doK S q)] ∧ w2.heap.size ≤ lo ∧ hi ≤ w'.heap.size ∧ Hid (M5 w' lo hi u0 u1 u2 u3 u4 (doT S q).n5 (doT S q).f5) ∧ Rd w' rb P' ∧ P' ≤ P + 1 + 20 := hC
                obtain ⟨-, q, P', lo2, hi2, u0, u1, u2, u3, u4, he, -⟩ := hC'
                rw [he] at e5
                have hv : tupAt (e 1) 1 = .int .i64 (doK S q) := by rw [he]; rfl
                refine wp_value (v := tupAt (e 1) 1) (w' := w') ?_ ⟨rfl, rfl⟩
                rw [hv]
                go_simp
            · rintro i oi x e t w' hi hr ho hC hon
              obtain rfl | rfl | rfl | rfl | rfl | rfl | rfl | rfl : i = 0 ∨ i = 1 ∨ i = 2 ∨ i = 3 ∨ i = 4 ∨ i = 5 ∨ i = 6 ∨ i = 7 := by omega
              · exact absurd hr (by intro h; cases h)
              · exact absurd hr (by intro h; cases h)
              · exact absurd hr (by intro h; cases h)
              · obtain rfl : 0 = t := Option.some.inj hr
                obtain rfl := Option.some.inj ho
                have e1 : x 1 = .pointer (some ⟨rb, 0, none⟩) := hon _ (Array.mem_of_getElem? (i := 0) rfl) rfl
                have e2 : x 2 = .agg #[.slice fa0 (S).n5.a fc0, .slice fa1 (S).n5.b fc1, .slice fa2 (S).n5.c fc2, .slice fa3 (S).n5.d fc3, .slice fa4 (S).n5.e fc4] := hon _ (Array.mem_of_getElem? (i := 1) rfl) rfl
                have hC' : w2.grownBy w' (some rb) ∧ Rd w' rb (P + 1) := hC
                refine wp_enter 41 #[.pointer (some ⟨rb, 0, none⟩), .agg #[.slice fa0 (S).n5.a fc0, .slice fa1 (S).n5.b fc1, .slice fa2 (S).n5.c fc2, .slice fa3 (S).n5.d fc3, .slice fa4 (S).n5.e fc4]] ?_ ((l5Ask_3 rb (P + 1) _ _ _ _ _ S w' hC'.2 (by omega) (fun w1 hg => (m_901.out.btn (grown_btn (grown_trans hC'.1 hg)) (.inr hlr)).sto) (stOk_lens HOK.out).2.2.1 (stOk_lens HOK.out).2.2.2.2).mono fun e' wz ⟨qz, pz, he, hd, hr, hP', hg⟩ => ⟨_, he, _, rfl, show w2.grownBy wz (some rb) ∧ ∃ (q : ReqT) (P' : Nat), (upd e 0 (.agg (rqA qz))) 0 = .agg (rqA q) ∧ q.data.length ≤ 49 ∧ Rd wz rb P' ∧ P' ≤ P + 1 + 20 from ⟨grown_trans hC'.1 hg, qz, pz, upd_eq _ _ _, hd, hr, hP'⟩⟩)
                go_simp
              · obtain rfl : 1 = t := Option.some.inj hr
                obtain rfl := Option.some.inj ho
                have e0 : x 0 = .agg #[.slice fa0 (S).n5.a fc0, .slice fa1 (S).n5.b fc1, .slice fa2 (S).n5.c fc2, .slice fa3 (S).n5.d fc3, .slice fa4 (S).n5.e fc4] := hon _ (Array.mem_of_getElem? (i := 0) rfl) rfl
                have e3 : x 3 = e 0 := hon _ (Array.mem_of_getElem? (i := 1) rfl) rfl
                have hC' : w2.grownBy w' (some rb) ∧ ∃ (q : ReqT) (P' : Nat), e 0 = .agg (rqA q) ∧ q.data.length ≤ 49 ∧ Rd w' rb P' ∧ P' ≤ P + 1 + 20 := hC
                obtain ⟨hG, qc, pc, hq, hd, hrd, hP'⟩ := hC'
                rw [hq] at e3
                refine wp_enter 8 #[.agg #[.slice fa0 (S).n5.a fc0, .slice fa1 (S).n5.b fc1, .slice fa2 (S).n5.c fc2, .slice fa3 (S).n5.d fc3, .slice fa4 (S).n5.e fc4], .agg (rqA qc)] ?_ ((specDo_any _ _ _ _ _ S qc w' (m_901.out.btn (grown_btn hG) (.inr hlr)).sto (szT_of HOK.out) (le_of HOK.out) (by omega)).mono fun e' wz ⟨z0, z1, z2, z3, z4, he, hM, hb⟩ => ⟨_, he, _, rfl, show w2.grownBy wz (some rb) ∧ ∃ (q : ReqT) (P' lo hi : Nat) (u0 u1 u2 u3 u4 : Value), (upd e 1 (.tuple #[.agg #[z0, z1, z2, z3, z4], .int .i64 (doK S qc)])) 1 = .tuple #[.agg #[u0, u1, u2, u3, u4], .int .i64 (doK S q)] ∧ w2.heap.size ≤ lo ∧ hi ≤ wz.heap.size ∧ Hid (M5 wz lo hi u0 u1 u2 u3 u4 (doT S q).n5 (doT S q).f5) ∧ Rd wz rb P' ∧ P' ≤ P + 1 + 20 from ⟨grown_trans hG (grown_below hb _), qc, pc, _, _, z0, z1, z2, z3, z4, upd_eq _ _ _, hG.size, Nat.le_refl _, hM, hrd.keep hb, hP'⟩⟩)
                go_simp
              · exact absurd hr (by intro h; cases h)
              · exact absurd hr (by intro h; cases h)
              · exact absurd hr (by intro h; cases h)
            · rintro oi x e w' ho hC hon
              obtain rfl := Option.some.inj ho
              have e6 : x 6 = tupAt (e 1) 0 := hon _ (Array.mem_of_getElem? (i := 0) rfl) rfl
              have hC' : w2.grownBy w' (some rb) ∧ ∃ (q : ReqT) (P' lo hi : Nat) (u0 u1 u2 u3 u4 : Value), e 1 = .tuple #[.agg #[u0, u1, u2, u3, u4], .int .i64 (doK S q)] ∧ w2.heap.size ≤ lo ∧ hi ≤ w'.heap.size ∧ Hid (M5 w' lo hi u0 u1 u2 u3 u4 (doT S q).n5 (doT S q).f5) ∧ Rd w' rb P' ∧ P' ≤ P + 1 + 20 := hC
              obtain ⟨hG, q, P', lo2, hi2, u0, u1, u2, u3, u4, he, hlo2, hhi2, hM, hrd, hP'⟩ := hC'
              have hv : tupAt (e 1) 0 = .agg #[u0, u1, u2, u3, u4] := by rw [he]; rfl
              rw [hv] at e6
              obtain ⟨l0, l1, l2, l3, l4, g0, g1, g2, g3, g4⟩ := bS_901.out.btn (grown_btn hG) (.inr hbr)
              obtain ⟨r0, s0, rfl⟩ := hM.out.a.vls.form
              obtain ⟨r1, s1, rfl⟩ := hM.out.b.vls.form
              obtain ⟨r2, s2, rfl⟩ := hM.out.c.vls.form
              obtain ⟨r3, s3, rfl⟩ := hM.out.d.vls.form
              obtain ⟨r4, s4, rfl⟩ := hM.out.e.vls.form
              refine wp_skip (w' := (((((w'.setCell ⟨ws.heap.size, 0, none⟩ (.slice r0 (doT S q).n5.a s0)).setCell ⟨ws.heap.size, 1, none⟩ (.slice r1 (doT S q).n5.b s1)).setCell ⟨ws.heap.size, 2, none⟩ (.slice r2 (doT S q).n5.c s2)).setCell ⟨ws.heap.size, 3, none⟩ (.slice r3 (doT S q).n5.d s3)).setCell ⟨ws.heap.size, 4, none⟩ (.slice r4 (doT S q).n5.e s4))) ?_ ⟨rfl, w', ⟨hG, q, P', lo2, hi2, _, _, _, _, _, he, hlo2, hhi2, hM, hrd, hP'⟩, _, _, _, _, _, hv, ⟨_, he⟩, rfl⟩
              go_simp
            · rintro i oi x e w' hi hlt hr ho hR hon
              obtain rfl : i = 7 := by simpa using hlt
              obtain rfl := Option.some.inj ho
              have e5 : x 5 = e 1 := hon _ (Array.mem_of_getElem? (i := 0) rfl) rfl
              obtain ⟨w0, -, u0, u1, u2, u3, u4, -, ⟨zz, he⟩, -⟩ := hR
              rw [he] at e5
              have hv : tupAt (e 1) 1 = zz := by rw [he]; rfl
              refine wp_value (v := tupAt (e 1) 1) (w' := w') ?_ ⟨rfl, rfl⟩
              rw [hv]
              go_simp
            rintro e w' F hF hR
            obtain rfl : F = ({ tmps := #[Value.pointer (some { block := rb, off := 0 }), undef, Value.pointer (some { block := w.heap.size, off := 0 }), Value.pointer (some { block := ws.heap.size, off := 0 }), Value.int IntKind.i64 ↑n, Value.agg #[Value.slice ia0 S0.n5.a ic0, Value.slice ia1 S0.n5.b ic1, Value.slice ia2 S0.n5.c ic2, Value.slice ia3 S0.n5.d ic3, Value.slice ia4 S0.n5.e ic4], Value.pointer (some { block := rb, off := 0 }), Value.slice (some { block := X2.heap.size, off := 0 }) 5 5, Value.int IntKind.i64 ↑n0, Value.int IntKind.i64 ↑n, Value.bool true, u11, u12, Value.pointer (some { block := rb, off := 0 }), Value.int IntKind.i64 c, e 1, .agg #[.slice fa0 (S).n5.a fc0, .slice fa1 (S).n5.b fc1, .slice fa2 (S).n5.c fc2, .slice fa3 (S).n5.d fc3, .slice fa4 (S).n5.e fc4], .pointer (some ⟨rb, 0, none⟩), .agg #[.slice fa0 (S).n5.a fc0, .slice fa1 (S).n5.b fc1, .slice fa2 (S).n5.c fc2, .slice fa3 (S).n5.d fc3, .slice fa4 (S).n5.e fc4], e 0, e 1, tupAt (e 1) 0, tupAt (e 1) 1, Value.bool false, Value.bool false, u25, u26, Value.bool false, Value.bool false, u29, u30, Value.bool false, Value.bool false, u33, u34, u35, u36, u37, u38, u39, u40, u41, undef], defers := [] } : Act) := hF
            obtain ⟨w0, ⟨hg, q, P', lo2, hi2, u0, u1, u2, u3, u4, he, hlo3, hhi3, hM, hr, hP'⟩, y0, y1, y2, y3, y4, hy, -, rfl⟩ := hR
            have hv : tupAt (e 1) 0 = .agg #[u0, u1, u2, u3, u4] := by rw [he]; rfl
            rw [hv] at hy
            injection hy with hy1
            injection hy1 with hy2
            simp only [List.cons.injEq, and_true] at hy2
            obtain ⟨rfl, rfl, rfl, rfl, rfl⟩ := hy2
            clear hv he
            have q0_ := S_901.out
            have ht := grown_btn hg
            have bS_902 := Lib.hid (bS_901.out.btn ht (by omega))
            have bR_902 := Lib.hid (bR_901.out.btn ht (by omega))
            have E_902 := Lib.hid (grown_trans E_901.out hg)
            have R_902 := Lib.hid (hr)
            have S_902 := Lib.hid ht.size
            clear bS_901 bR_901 E_901 R_901 hg hr ht q0_
            have m_903 := hM
            clear hM
            obtain ⟨h0, k0, rfl⟩ := m_903.out.a.vls.form
            obtain ⟨h1, k1, rfl⟩ := m_903.out.b.vls.form
            obtain ⟨h2, k2, rfl⟩ := m_903.out.c.vls.form
            obtain ⟨h3, k3, rfl⟩ := m_903.out.d.vls.form
            obtain ⟨h4, k4, rfl⟩ := m_903.out.e.vls.form
            have q0_ := S_901.out
            have q1_ := S_902.out
            obtain ⟨X8, hX8⟩ : ∃ X, (((((w0.setCell ⟨ws.heap.size, 0, none⟩ (.slice h0 (doT S q).n5.a k0)).setCell ⟨ws.heap.size, 1, none⟩ (.slice h1 (doT S q).n5.b k1)).setCell ⟨ws.heap.size, 2, none⟩ (.slice h2 (doT S q).n5.c k2)).setCell ⟨ws.heap.size, 3, none⟩ (.slice h3 (doT S q).n5.d k3)).setCell ⟨ws.heap.size, 4, none⟩ (.slice h4 (doT S q).n5.e k4)) = X := ⟨_, rfl⟩
            have ht : Btn (ws.heap.size) (ws.heap.size + 1) w0 X8 := by rw [← hX8]; exact ((((btn_set _ _ _ _).trans (btn_set _ _ _ _)).trans (btn_set _ _ _ _)).trans (btn_set _ _ _ _)).trans (btn_set _ _ _ _)
            have hB : Box5W X8 (ws.heap.size) (.slice h0 (doT S q).n5.a k0) (.slice h1 (doT S q).n5.b k1) (.slice h2 (doT S q).n5.c k2) (.slice h3 (doT S q).n5.d k3) (.slice h4 (doT S q).n5.e k4) := by rw [← hX8]; exact ((((bS_902.out.set0 _).set1 _).set2 _).set3 _).set4 _
            have hE := grown_new (grown_new (grown_new (grown_new (grown_new (E_902.out) (show w.heap.size ≤ ws.heap.size by omega) (o := 0) (v := .slice h0 (doT S q).n5.a k0)) (show w.heap.size ≤ ws.heap.size by omega) (o := 1) (v := .slice h1 (doT S q).n5.b k1)) (show w.heap.size ≤ ws.heap.size by omega) (o := 2) (v := .slice h2 (doT S q).n5.c k2)) (show w.heap.size ≤ ws.heap.size by omega) (o := 3) (v := .slice h3 (doT S q).n5.d k3)) (show w.heap.size ≤ ws.heap.size by omega) (o := 4) (v := .slice h4 (doT S q).n5.e k4)
            have hRd := (((((R_902.out).set (show rb < ws.heap.size by omega) (o := 0) (u := .slice h0 (doT S q).n5.a k0)).set (show rb < ws.heap.size by omega) (o := 1) (u := .slice h1 (doT S q).n5.b k1)).set (show rb < ws.heap.size by omega) (o := 2) (u := .slice h2 (doT S q).n5.c k2)).set (show rb < ws.heap.size by omega) (o := 3) (u := .slice h3 (doT S q).n5.d k3)).set (show rb < ws.heap.size by omega) (o := 4) (u := .slice h4 (doT S q).n5.e k4)
            rw [hX8] at hE hRd
            have bR_904 := Lib.hid (bR_902.out.btn ht (by omega))
            have m_904 := Lib.hid (m_903.out.btn ht (by omega))
            have E_904 := Lib.hid (hE)
            have R_904 := Lib.hid (hRd)
            have S_904 := Lib.hid ht.size
            clear bR_902 m_903 E_902 R_902 ht hE hRd bS_902 q0_ q1_
            have bS_905 := Lib.hid hB
            clear hB
            rw [hX8]
            have q0_ := S_901.out
            have q1_ := S_902.out
            have q2_ := S_904.out
            have hlo2 : w.heap.size < lo2 := by omega
            have hhi2 : hi2 ≤ X8.heap.size := by omega
            have hB2 : ws.heap.size < X8.heap.size := by omega
            have HOK2 : Hid (stOkB (doT S q) = true) := stOkB_doT HOK.out
            have hp2 : P' ≤ p + 1 + (14 - (n - 1)) * 30 := by omega
            have jn : IntKind.i64.wrap ((n : Int) - 1) = ((n - 1 : Nat) : Int) := by rw [IntWalk.i64_in _ (by omega)]; omega
            clear q0_ q1_ q2_
            go_wp2
            go_roundg (n - 1)
            case measure => omega
            case rel => exact ⟨n - 1, P', doT S q, _, _, _, _, _, lo2, hi2, rfl, rfl, by omega, HOK2, bS_905, m_904, hlo2, hhi2, R_904, hp2, E_904, bR_904, hB2⟩
    · obtain ⟨x0_0, x0_1, x0_2, x0_3, x0_4, x0_5, x0_6, x0_7, x0_8, x0_9⟩ := bS_0.out
      obtain ⟨x1_0, x1_1, x1_2, x1_3, x1_4, x1_5, x1_6, x1_7, x1_8, x1_9⟩ := bR_0.out
      obtain ⟨Z, hZ⟩ : ∃ X, (((((wr.setCell ⟨w.heap.size, 0, none⟩ (.slice fa0 (S).n5.a fc0)).setCell ⟨w.heap.size, 1, none⟩ (.slice fa1 (S).n5.b fc1)).setCell ⟨w.heap.size, 2, none⟩ (.slice fa2 (S).n5.c fc2)).setCell ⟨w.heap.size, 3, none⟩ (.slice fa3 (S).n5.d fc3)).setCell ⟨w.heap.size, 4, none⟩ (.slice fa4 (S).n5.e fc4)) = X := ⟨_, rfl⟩
      have hzb : Box5W Z (w.heap.size) (.slice fa0 (S).n5.a fc0) (.slice fa1 (S).n5.b fc1) (.slice fa2 (S).n5.c fc2) (.slice fa3 (S).n5.d fc3) (.slice fa4 (S).n5.e fc4) := by rw [← hZ]; exact ((((bR_0.out.set0 _).set1 _).set2 _).set3 _).set4 _
      have ht : Btn (w.heap.size) (w.heap.size + 1) wr Z := by rw [← hZ]; exact ((((btn_set _ _ _ _).trans (btn_set _ _ _ _)).trans (btn_set _ _ _ _)).trans (btn_set _ _ _ _)).trans (btn_set _ _ _ _)
      have hE := grown_new (grown_new (grown_new (grown_new (grown_new (E_0.out) (show w.heap.size ≤ w.heap.size by omega) (o := 0) (v := .slice fa0 (S).n5.a fc0)) (show w.heap.size ≤ w.heap.size by omega) (o := 1) (v := .slice fa1 (S).n5.b fc1)) (show w.heap.size ≤ w.heap.size by omega) (o := 2) (v := .slice fa2 (S).n5.c fc2)) (show w.heap.size ≤ w.heap.size by omega) (o := 3) (v := .slice fa3 (S).n5.d fc3)) (show w.heap.size ≤ w.heap.size by omega) (o := 4) (v := .slice fa4 (S).n5.e fc4)
      have hRd := (((((R_0.out).set (show rb < w.heap.size by omega) (o := 0) (u := .slice fa0 (S).n5.a fc0)).set (show rb < w.heap.size by omega) (o := 1) (u := .slice fa1 (S).n5.b fc1)).set (show rb < w.heap.size by omega) (o := 2) (u := .slice fa2 (S).n5.c fc2)).set (show rb < w.heap.size by omega) (o := 3) (u := .slice fa3 (S).n5.d fc3)).set (show rb < w.heap.size by omega) (o := 4) (u := .slice fa4 (S).n5.e fc4)
      rw [hZ] at hE hRd
      have HE := Lib.hid hE
      have HRd := Lib.hid hRd
      have hsz := ht.size
      have HM := Lib.hid (m_0.out.btn ht (.inr (by omega)))
      have hpf : P ≤ p + 500 := by omega
      have HPF := Lib.hid hpf
      have hzh : hi ≤ Z.heap.size := by omega
      have HZH := Lib.hid hzh
      have HLO := Lib.hid (Nat.le_of_lt hlo)
      clear hE hRd ht hpf hsz hzh 
      go_wp2
      obtain ⟨t0, t1, t2, t3, t4, -, -, -, -, -⟩ := hzb
      exact bodyPost_ret (v := .agg #[.slice fa0 (S).n5.a fc0, .slice fa1 (S).n5.b fc1, .slice fa2 (S).n5.c fc2, .slice fa3 (S).n5.d fc3, .slice fa4 (S).n5.e fc4]) (by simp [results, Tryd.results40, go_sem, t0, t1, t2, t3, t4]) rfl ⟨S, _, _, _, _, _, lo, hi, P, rfl, HOK.out, HLO.out, HZH.out, HM, HRd.out, HPF.out, HE.out⟩

end Go.Proofs.YtadoihddmbbjoaaDoor
