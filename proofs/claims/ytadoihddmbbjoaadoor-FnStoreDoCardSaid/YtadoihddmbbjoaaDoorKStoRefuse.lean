/-
  The program's Req.patch and Req.ok.
  The program's (*disk).refuse: why a request is not executed.
-/
import Derived.Test.YtadoihddmbbjoaaDoorKStoReq
import Derived.Test.YtadoihddmbbjoaaDoorKStoOk
import Derived.Test.YtadoihddmbbjoaaDoorKImplWrite
import Derived.Test.YtadoihddmbbjoaaDoorKErrIs
import Derived.Test.YtadoihddmbbjoaaDoorKStoDisk
import Derived.Deep.QuietTactic
import Derived.BigQuiet
namespace Go.Proofs.YtadoihddmbbjoaaDoor
open Go.RowKit

set_option maxHeartbeats 1000000 in
theorem reqPatch_any (q : ReqT) (w : World) :
    Calls Tryd.prog 58 #[.agg (rqA q)] w fun e w' => e = .returned (.agg #[.int .i64 q.pos, .string (mkB q.data)]) ∧ Below w.heap.size w w' := by
  obtain ⟨who, ep, num, obj, pos, data⟩ := q
  go_enter Tryd.func58, Tryd.ntmps58
  go_wp2
  exact bodyPost_ret (v := .agg #[.int .i64 pos, .string (mkB data)]) (by simp [results, Tryd.results58, go_sem]) rfl ⟨rfl, ((Below.refl _ _).alloc (Nat.le_refl _) _).alloc (by simp) _⟩

set_option maxRecDepth 100000 in
set_option maxHeartbeats 8000000 in
theorem implReqOk_any (q : ReqT) (hd : q.data.length ≤ 2000000) (w : World) :
    Calls Tryd.prog 81 #[.agg (rqA q)] w fun e w' => e = .returned (.bool (rqB q)) ∧ Below w.heap.size w w' := by
  obtain ⟨who, ep, num, obj, pos, data⟩ := q
  obtain ⟨W, hW⟩ : ∃ W, w.alloc (.cells (rqA ⟨who, ep, num, obj, pos, data⟩) 34) = W := ⟨_, rfl⟩
  have hal : Below w.heap.size w W := by rw [← hW]; exact (Below.refl _ _).alloc (Nat.le_refl _) _
  have B0 : Box6 W w.heap.size ⟨who, ep, num, obj, pos, data⟩ := by rw [← hW]; exact new_box6 w _ _
  have E_0 := Lib.hid hal
  have b_0 := Lib.hid B0
  have KW := Lib.hid (fun w => clientOkV_any who w)
  have KE := Lib.hid (fun w => epochOk_any ep w)
  have KO := Lib.hid (fun w => objectOk_any obj w)
  have KP := Lib.hid (fun w => reqPatch_any ⟨who, ep, num, obj, pos, data⟩ w)
  have KT := Lib.hid (fun w => patchOk_any pos data hd w)
  have HQ : Hid (rqB ⟨who, ep, num, obj, pos, data⟩ = (cliB who && (epoB ep && (decide (1 ≤ num ∧ num ≤ 1000) && (cliB obj && wokB pos data))))) := rfl
  clear hal B0 hd
  generalize cliB who = k0 at *
  generalize epoB ep = k1 at *
  generalize cliB obj = k3 at *
  generalize wokB pos data = k4 at *
  obtain ⟨x0, x1, x2, x3, x4, x5⟩ := b_0.out
  cases k0
  · have HN : Hid (rqB ⟨who, ep, num, obj, pos, data⟩ = false) := by show _ = _; rw [HQ.out]; rfl
    clear HQ
    go_enter Tryd.func81, Tryd.ntmps81
    go_wp2_with fail
    clear hW
    refine (KW.out _).mono ?_; rintro e w' ⟨rfl, hw⟩; subst hw
    go_wp2
    go_ret
    exact ⟨ret_bool (by rw [HN.out]), E_0.out⟩
  · cases k1
    · have HN : Hid (rqB ⟨who, ep, num, obj, pos, data⟩ = false) := by show _ = _; rw [HQ.out]; rfl
      clear HQ
      go_enter Tryd.func81, Tryd.ntmps81
      go_wp2_with fail
      clear hW
      refine (KW.out _).mono ?_; rintro e w' ⟨rfl, hw⟩; subst hw
      go_wp2_with fail
      refine (KE.out _).mono ?_; rintro e w' ⟨rfl, hw⟩; subst hw
      go_wp2
      go_ret
      exact ⟨ret_bool (by rw [HN.out]), E_0.out⟩
    · by_cases c1 : 1 ≤ num
      · by_cases c2 : num ≤ 1000
        · have HD : Hid (decide (1 ≤ num ∧ num ≤ 1000) = true) := decide_eq_true ⟨c1, c2⟩
          cases k3
          · have HN : Hid (rqB ⟨who, ep, num, obj, pos, data⟩ = false) := by show _ = _; rw [HQ.out, HD.out]; rfl
            clear HQ HD
            go_enter Tryd.func81, Tryd.ntmps81
            go_wp2_with fail
            clear hW
            refine (KW.out _).mono ?_; rintro e w' ⟨rfl, hw⟩; subst hw
            go_wp2_with fail
            refine (KE.out _).mono ?_; rintro e w' ⟨rfl, hw⟩; subst hw
            go_wp2_with fail
            refine (KO.out _).mono ?_; rintro e w' ⟨rfl, hw⟩; subst hw
            go_wp2
            go_ret
            exact ⟨ret_bool (by rw [HN.out]), E_0.out⟩
          · have HN : Hid (rqB ⟨who, ep, num, obj, pos, data⟩ = k4) := by show _ = _; rw [HQ.out, HD.out]; rfl
            clear HQ HD
            go_enter Tryd.func81, Tryd.ntmps81
            go_wp2_with fail
            clear hW
            refine (KW.out _).mono ?_; rintro e w' ⟨rfl, hw⟩; subst hw
            go_wp2_with fail
            refine (KE.out _).mono ?_; rintro e w' ⟨rfl, hw⟩; subst hw
            go_wp2_with fail
            refine (KO.out _).mono ?_; rintro e w' ⟨rfl, hw⟩; subst hw
            go_wp2_with fail
            refine (KP.out _).mono ?_; rintro e w1 ⟨rfl, hb⟩
            have E_1 := Lib.hid (E_0.out.trans (hb.mono E_0.out.size))
            clear hb x0 x1 x2 x3 x4 x5
            go_wp2_with fail
            refine (KT.out _).mono ?_; rintro e w2 ⟨rfl, hb⟩
            have E_2 := Lib.hid (E_1.out.trans (hb.mono E_1.out.size))
            clear hb
            go_wp2
            go_ret
            exact ⟨ret_bool (by rw [HN.out]), E_2.out⟩
        · have HD : Hid (decide (1 ≤ num ∧ num ≤ 1000) = false) := decide_eq_false (fun c => c2 c.2)
          have HN : Hid (rqB ⟨who, ep, num, obj, pos, data⟩ = false) := by show _ = _; rw [HQ.out, HD.out]; rfl
          clear HQ HD
          go_enter Tryd.func81, Tryd.ntmps81
          go_wp2_with fail
          clear hW
          refine (KW.out _).mono ?_; rintro e w' ⟨rfl, hw⟩; subst hw
          go_wp2_with fail
          refine (KE.out _).mono ?_; rintro e w' ⟨rfl, hw⟩; subst hw
          go_wp2
          go_ret
          exact ⟨ret_bool (by rw [HN.out]), E_0.out⟩
      · have HD : Hid (decide (1 ≤ num ∧ num ≤ 1000) = false) := decide_eq_false (fun c => c1 c.1)
        have HN : Hid (rqB ⟨who, ep, num, obj, pos, data⟩ = false) := by show _ = _; rw [HQ.out, HD.out]; rfl
        clear HQ HD
        go_enter Tryd.func81, Tryd.ntmps81
        go_wp2_with fail
        clear hW
        refine (KW.out _).mono ?_; rintro e w' ⟨rfl, hw⟩; subst hw
        go_wp2_with fail
        refine (KE.out _).mono ?_; rintro e w' ⟨rfl, hw⟩; subst hw
        go_wp2
        go_ret
        exact ⟨ret_bool (by rw [HN.out]), E_0.out⟩

end Go.Proofs.YtadoihddmbbjoaaDoor

namespace Go.Proofs.YtadoihddmbbjoaaDoor
open Go.RowKit

theorem belowN {B : Nat} {a w : World} (h : Below B a w) (n : Nat) : Below B a (w.drewN n) := ⟨h.os, h.tape, h.output, h.size, h.block⟩

set_option maxHeartbeats 4000000 in
theorem refuse_bad (a0 a1 a2 a3 : Addr) (d : Nat) (q : ReqT) (w : World) (hS : Snt w a0 a1 a2 a3) (hq : rqB q = false) (hd : q.data.length ≤ 2000000) :
    Calls Tryd.prog 57 #[.pointer (some ⟨d, 0, none⟩), .agg (rqA q)] w fun e w' => e = .returned (errV a0 a1 a2 a3 1) ∧ Below w.heap.size w w' := by
  have KQ := Lib.hid (fun w => implReqOk_any q hd w)
  rw [hq] at KQ
  obtain ⟨who, ep, num, obj, pos, data⟩ := q
  obtain ⟨W, hW⟩ : ∃ W, w.alloc (.cells (rqA ⟨who, ep, num, obj, pos, data⟩) 34) = W := ⟨_, rfl⟩
  have hal : Below w.heap.size w W := by rw [← hW]; exact (Below.refl _ _).alloc (Nat.le_refl _) _
  have B0 : Box6 W w.heap.size ⟨who, ep, num, obj, pos, data⟩ := by rw [← hW]; exact new_box6 w _ _
  have E_0 := Lib.hid hal
  have s_0 := Lib.hid (hS.keep hal)
  obtain ⟨x0, x1, x2, x3, x4, x5⟩ := B0
  clear hal hS hd hq
  go_enter Tryd.func57, Tryd.ntmps57
  go_wp2_with fail
  clear hW
  refine (KQ.out _).mono ?_; rintro e w1 ⟨rfl, hb⟩
  have E_1 := Lib.hid (E_0.out.trans (hb.mono E_0.out.size))
  have g0 := (s_0.out.keep hb).c0
  clear x0 x1 x2 x3 x4 x5 E_0 s_0 hb KQ
  go_wp2
  go_ret
  exact ⟨rfl, E_1.out⟩

set_option maxRecDepth 100000 in
set_option maxHeartbeats 8000000 in
theorem refuse_0 (a0 a1 a2 a3 : Addr) (d : Nat) (s0 s1 s2 t0 t1 t2 : Value) (n0 n1 n2 u0 u1 u2 : List UInt8) (l0 l1 l2 m0 m1 m2 f0 f1 f2 : Int) (ep num obj pos : Int) (data : List UInt8) (w : World)
    (hS : Snt w a0 a1 a2 a3) (hD : w.heap[d]? = some (.cells #[s0, s1, s2, .int .i64 l0, .int .i64 l1, .int .i64 l2, t0, t1, t2, .int .i64 m0, .int .i64 m1, .int .i64 m2, .int .i64 f0, .int .i64 f1, .int .i64 f2] 88 (0, 0))) (hl : 0 ≤ l0 ∧ l0 ≤ 1000) (hd : data.length ≤ 2000000) :
    Calls Tryd.prog 57 #[.pointer (some ⟨d, 0, none⟩), .agg (rqA ⟨0, ep, num, obj, pos, data⟩)] w fun e w' => e = .returned (errV a0 a1 a2 a3 (doC ⟨[n0, n1, n2], [u0, u1, u2], [l0, l1, l2], [m0, m1, m2], [f0, f1, f2]⟩ ⟨0, ep, num, obj, pos, data⟩)) ∧ Below w.heap.size w w' := by
  have HC : Hid (doC ⟨[n0, n1, n2], [u0, u1, u2], [l0, l1, l2], [m0, m1, m2], [f0, f1, f2]⟩ ⟨0, ep, num, obj, pos, data⟩ = if rqB ⟨0, ep, num, obj, pos, data⟩ = true then (if ep < f0 then 2 else if num ≤ l0 then 3 else if l0 + 1 < num then 4 else 0) else 1) := rfl
  generalize doC ⟨[n0, n1, n2], [u0, u1, u2], [l0, l1, l2], [m0, m1, m2], [f0, f1, f2]⟩ ⟨0, ep, num, obj, pos, data⟩ = dc at *
  have KQ := Lib.hid (fun w => implReqOk_any ⟨0, ep, num, obj, pos, data⟩ hd w)
  generalize rqB ⟨0, ep, num, obj, pos, data⟩ = k at *
  obtain ⟨hl0, hl1⟩ := hl
  obtain ⟨W, hW⟩ : ∃ W, w.alloc (.cells (rqA ⟨0, ep, num, obj, pos, data⟩) 34) = W := ⟨_, rfl⟩
  have hal : Below w.heap.size w W := by rw [← hW]; exact (Below.refl _ _).alloc (Nat.le_refl _) _
  have B0 : Box6 W w.heap.size ⟨0, ep, num, obj, pos, data⟩ := by rw [← hW]; exact new_box6 w _ _
  have E_0 := Lib.hid hal
  have b_0 := Lib.hid B0
  have s_0 := Lib.hid (hS.keep hal)
  have d_0 := Lib.hid (row_keep hD hal)
  clear hal B0 hS hD hd
  obtain ⟨x0, x1, x2, x3, x4, x5⟩ := b_0.out
  go_enter Tryd.func57, Tryd.ntmps57
  go_wp2_with fail
  clear hW
  refine (KQ.out _).mono ?_; rintro e w1 ⟨rfl, hb⟩
  have E_1 := Lib.hid (E_0.out.trans (hb.mono E_0.out.size))
  have b_1 := Lib.hid (b_0.out.keep hb)
  have s_1 := Lib.hid (s_0.out.keep hb)
  have d_1 := Lib.hid (row_keep d_0.out hb)
  clear x0 x1 x2 x3 x4 x5 E_0 b_0 s_0 d_0 hb KQ
  obtain ⟨x0, x1, x2, x3, x4, x5⟩ := b_1.out
  have y0 : w1.cell? ⟨d, 3 + 0, none⟩ = some (.int .i64 l0) := row_cell d_1.out _ _ rfl
  have y1 : w1.cell? ⟨d, 12 + 0, none⟩ = some (.int .i64 f0) := row_cell d_1.out _ _ rfl
  have g0 := s_1.out.c0
  have g1 := s_1.out.c1
  have g2 := s_1.out.c2
  have g3 := s_1.out.c3
  simp only [Nat.reduceAdd] at y0 y1
  cases k
  · have HN : Hid (dc = 1) := by show _ = _; rw [HC.out]; rfl
    go_wp2
    go_ret
    exact ⟨by rw [HN.out]; rfl, E_1.out⟩
  · by_cases c1 : ep < f0
    · have HN : Hid (dc = 2) := by show _ = _; rw [HC.out, if_pos rfl, if_pos c1]
      clear HC
      go_wp2_with fail
      go_quiet (fail)
      go_wp2_with fail
      go_quiet (fail)
      go_wp2_with fail
      go_ret
      exact ⟨by rw [HN.out]; rfl, belowN E_1.out _⟩
    · have c1' : f0 ≤ ep := by omega
      by_cases c2 : num ≤ l0
      · have HN : Hid (dc = 3) := by show _ = _; rw [HC.out, if_pos rfl, if_neg c1, if_pos c2]
        clear c1
        clear HC
        go_wp2_with fail
        go_quiet (fail)
        go_wp2_with fail
        go_quiet (fail)
        go_wp2_with fail
        go_ret
        exact ⟨by rw [HN.out]; rfl, belowN E_1.out _⟩
      · have c2' : l0 < num := by omega
        by_cases c3 : l0 + 1 < num
        · have HN : Hid (dc = 4) := by show _ = _; rw [HC.out, if_pos rfl, if_neg c1, if_neg c2, if_pos c3]
          clear c1 c2
          clear HC
          go_wp2_with fail
          go_quiet (fail)
          go_wp2_with fail
          go_quiet (fail)
          go_wp2_with fail
          go_ret
          exact ⟨by rw [HN.out]; rfl, belowN E_1.out _⟩
        · have c3' : num ≤ l0 + 1 := by omega
          have HN : Hid (dc = 0) := by show _ = _; rw [HC.out, if_pos rfl, if_neg c1, if_neg c2, if_neg c3]
          clear c1 c2 c3
          clear HC
          go_wp2_with fail
          go_quiet (fail)
          go_wp2_with fail
          go_quiet (fail)
          go_wp2_with fail
          go_ret
          exact ⟨by rw [HN.out]; rfl, belowN E_1.out _⟩

set_option maxRecDepth 100000 in
set_option maxHeartbeats 8000000 in
theorem refuse_1 (a0 a1 a2 a3 : Addr) (d : Nat) (s0 s1 s2 t0 t1 t2 : Value) (n0 n1 n2 u0 u1 u2 : List UInt8) (l0 l1 l2 m0 m1 m2 f0 f1 f2 : Int) (ep num obj pos : Int) (data : List UInt8) (w : World)
    (hS : Snt w a0 a1 a2 a3) (hD : w.heap[d]? = some (.cells #[s0, s1, s2, .int .i64 l0, .int .i64 l1, .int .i64 l2, t0, t1, t2, .int .i64 m0, .int .i64 m1, .int .i64 m2, .int .i64 f0, .int .i64 f1, .int .i64 f2] 88 (0, 0))) (hl : 0 ≤ l1 ∧ l1 ≤ 1000) (hd : data.length ≤ 2000000) :
    Calls Tryd.prog 57 #[.pointer (some ⟨d, 0, none⟩), .agg (rqA ⟨1, ep, num, obj, pos, data⟩)] w fun e w' => e = .returned (errV a0 a1 a2 a3 (doC ⟨[n0, n1, n2], [u0, u1, u2], [l0, l1, l2], [m0, m1, m2], [f0, f1, f2]⟩ ⟨1, ep, num, obj, pos, data⟩)) ∧ Below w.heap.size w w' := by
  have HC : Hid (doC ⟨[n0, n1, n2], [u0, u1, u2], [l0, l1, l2], [m0, m1, m2], [f0, f1, f2]⟩ ⟨1, ep, num, obj, pos, data⟩ = if rqB ⟨1, ep, num, obj, pos, data⟩ = true then (if ep < f1 then 2 else if num ≤ l1 then 3 else if l1 + 1 < num then 4 else 0) else 1) := rfl
  generalize doC ⟨[n0, n1, n2], [u0, u1, u2], [l0, l1, l2], [m0, m1, m2], [f0, f1, f2]⟩ ⟨1, ep, num, obj, pos, data⟩ = dc at *
  have KQ := Lib.hid (fun w => implReqOk_any ⟨1, ep, num, obj, pos, data⟩ hd w)
  generalize rqB ⟨1, ep, num, obj, pos, data⟩ = k at *
  obtain ⟨hl0, hl1⟩ := hl
  obtain ⟨W, hW⟩ : ∃ W, w.alloc (.cells (rqA ⟨1, ep, num, obj, pos, data⟩) 34) = W := ⟨_, rfl⟩
  have hal : Below w.heap.size w W := by rw [← hW]; exact (Below.refl _ _).alloc (Nat.le_refl _) _
  have B0 : Box6 W w.heap.size ⟨1, ep, num, obj, pos, data⟩ := by rw [← hW]; exact new_box6 w _ _
  have E_0 := Lib.hid hal
  have b_0 := Lib.hid B0
  have s_0 := Lib.hid (hS.keep hal)
  have d_0 := Lib.hid (row_keep hD hal)
  clear hal B0 hS hD hd
  obtain ⟨x0, x1, x2, x3, x4, x5⟩ := b_0.out
  go_enter Tryd.func57, Tryd.ntmps57
  go_wp2_with fail
  clear hW
  refine (KQ.out _).mono ?_; rintro e w1 ⟨rfl, hb⟩
  have E_1 := Lib.hid (E_0.out.trans (hb.mono E_0.out.size))
  have b_1 := Lib.hid (b_0.out.keep hb)
  have s_1 := Lib.hid (s_0.out.keep hb)
  have d_1 := Lib.hid (row_keep d_0.out hb)
  clear x0 x1 x2 x3 x4 x5 E_0 b_0 s_0 d_0 hb KQ
  obtain ⟨x0, x1, x2, x3, x4, x5⟩ := b_1.out
  have y0 : w1.cell? ⟨d, 3 + 1, none⟩ = some (.int .i64 l1) := row_cell d_1.out _ _ rfl
  have y1 : w1.cell? ⟨d, 12 + 1, none⟩ = some (.int .i64 f1) := row_cell d_1.out _ _ rfl
  have g0 := s_1.out.c0
  have g1 := s_1.out.c1
  have g2 := s_1.out.c2
  have g3 := s_1.out.c3
  simp only [Nat.reduceAdd] at y0 y1
  cases k
  · have HN : Hid (dc = 1) := by show _ = _; rw [HC.out]; rfl
    go_wp2
    go_ret
    exact ⟨by rw [HN.out]; rfl, E_1.out⟩
  · by_cases c1 : ep < f1
    · have HN : Hid (dc = 2) := by show _ = _; rw [HC.out, if_pos rfl, if_pos c1]
      clear HC
      go_wp2_with fail
      go_quiet (fail)
      go_wp2_with fail
      go_quiet (fail)
      go_wp2_with fail
      go_ret
      exact ⟨by rw [HN.out]; rfl, belowN E_1.out _⟩
    · have c1' : f1 ≤ ep := by omega
      by_cases c2 : num ≤ l1
      · have HN : Hid (dc = 3) := by show _ = _; rw [HC.out, if_pos rfl, if_neg c1, if_pos c2]
        clear c1
        clear HC
        go_wp2_with fail
        go_quiet (fail)
        go_wp2_with fail
        go_quiet (fail)
        go_wp2_with fail
        go_ret
        exact ⟨by rw [HN.out]; rfl, belowN E_1.out _⟩
      · have c2' : l1 < num := by omega
        by_cases c3 : l1 + 1 < num
        · have HN : Hid (dc = 4) := by show _ = _; rw [HC.out, if_pos rfl, if_neg c1, if_neg c2, if_pos c3]
          clear c1 c2
          clear HC
          go_wp2_with fail
          go_quiet (fail)
          go_wp2_with fail
          go_quiet (fail)
          go_wp2_with fail
          go_ret
          exact ⟨by rw [HN.out]; rfl, belowN E_1.out _⟩
        · have c3' : num ≤ l1 + 1 := by omega
          have HN : Hid (dc = 0) := by show _ = _; rw [HC.out, if_pos rfl, if_neg c1, if_neg c2, if_neg c3]
          clear c1 c2 c3
          clear HC
          go_wp2_with fail
          go_quiet (fail)
          go_wp2_with fail
          go_quiet (fail)
          go_wp2_with fail
          go_ret
          exact ⟨by rw [HN.out]; rfl, belowN E_1.out _⟩

set_option maxRecDepth 100000 in
set_option maxHeartbeats 8000000 in
theorem refuse_2 (a0 a1 a2 a3 : Addr) (d : Nat) (s0 s1 s2 t0 t1 t2 : Value) (n0 n1 n2 u0 u1 u2 : List UInt8) (l0 l1 l2 m0 m1 m2 f0 f1 f2 : Int) (ep num obj pos : Int) (data : List UInt8) (w : World)
    (hS : Snt w a0 a1 a2 a3) (hD : w.heap[d]? = some (.cells #[s0, s1, s2, .int .i64 l0, .int .i64 l1, .int .i64 l2, t0, t1, t2, .int .i64 m0, .int .i64 m1, .int .i64 m2, .int .i64 f0, .int .i64 f1, .int .i64 f2] 88 (0, 0))) (hl : 0 ≤ l2 ∧ l2 ≤ 1000) (hd : data.length ≤ 2000000) :
    Calls Tryd.prog 57 #[.pointer (some ⟨d, 0, none⟩), .agg (rqA ⟨2, ep, num, obj, pos, data⟩)] w fun e w' => e = .returned (errV a0 a1 a2 a3 (doC ⟨[n0, n1, n2], [u0, u1, u2], [l0, l1, l2], [m0, m1, m2], [f0, f1, f2]⟩ ⟨2, ep, num, obj, pos, data⟩)) ∧ Below w.heap.size w w' := by
  have HC : Hid (doC ⟨[n0, n1, n2], [u0, u1, u2], [l0, l1, l2], [m0, m1, m2], [f0, f1, f2]⟩ ⟨2, ep, num, obj, pos, data⟩ = if rqB ⟨2, ep, num, obj, pos, data⟩ = true then (if ep < f2 then 2 else if num ≤ l2 then 3 else if l2 + 1 < num then 4 else 0) else 1) := rfl
  generalize doC ⟨[n0, n1, n2], [u0, u1, u2], [l0, l1, l2], [m0, m1, m2], [f0, f1, f2]⟩ ⟨2, ep, num, obj, pos, data⟩ = dc at *
  have KQ := Lib.hid (fun w => implReqOk_any ⟨2, ep, num, obj, pos, data⟩ hd w)
  generalize rqB ⟨2, ep, num, obj, pos, data⟩ = k at *
  obtain ⟨hl0, hl1⟩ := hl
  obtain ⟨W, hW⟩ : ∃ W, w.alloc (.cells (rqA ⟨2, ep, num, obj, pos, data⟩) 34) = W := ⟨_, rfl⟩
  have hal : Below w.heap.size w W := by rw [← hW]; exact (Below.refl _ _).alloc (Nat.le_refl _) _
  have B0 : Box6 W w.heap.size ⟨2, ep, num, obj, pos, data⟩ := by rw [← hW]; exact new_box6 w _ _
  have E_0 := Lib.hid hal
  have b_0 := Lib.hid B0
  have s_0 := Lib.hid (hS.keep hal)
  have d_0 := Lib.hid (row_keep hD hal)
  clear hal B0 hS hD hd
  obtain ⟨x0, x1, x2, x3, x4, x5⟩ := b_0.out
  go_enter Tryd.func57, Tryd.ntmps57
  go_wp2_with fail
  clear hW
  refine (KQ.out _).mono ?_; rintro e w1 ⟨rfl, hb⟩
  have E_1 := Lib.hid (E_0.out.trans (hb.mono E_0.out.size))
  have b_1 := Lib.hid (b_0.out.keep hb)
  have s_1 := Lib.hid (s_0.out.keep hb)
  have d_1 := Lib.hid (row_keep d_0.out hb)
  clear x0 x1 x2 x3 x4 x5 E_0 b_0 s_0 d_0 hb KQ
  obtain ⟨x0, x1, x2, x3, x4, x5⟩ := b_1.out
  have y0 : w1.cell? ⟨d, 3 + 2, none⟩ = some (.int .i64 l2) := row_cell d_1.out _ _ rfl
  have y1 : w1.cell? ⟨d, 12 + 2, none⟩ = some (.int .i64 f2) := row_cell d_1.out _ _ rfl
  have g0 := s_1.out.c0
  have g1 := s_1.out.c1
  have g2 := s_1.out.c2
  have g3 := s_1.out.c3
  simp only [Nat.reduceAdd] at y0 y1
  cases k
  · have HN : Hid (dc = 1) := by show _ = _; rw [HC.out]; rfl
    go_wp2
    go_ret
    exact ⟨by rw [HN.out]; rfl, E_1.out⟩
  · by_cases c1 : ep < f2
    · have HN : Hid (dc = 2) := by show _ = _; rw [HC.out, if_pos rfl, if_pos c1]
      clear HC
      go_wp2_with fail
      go_quiet (fail)
      go_wp2_with fail
      go_quiet (fail)
      go_wp2_with fail
      go_ret
      exact ⟨by rw [HN.out]; rfl, belowN E_1.out _⟩
    · have c1' : f2 ≤ ep := by omega
      by_cases c2 : num ≤ l2
      · have HN : Hid (dc = 3) := by show _ = _; rw [HC.out, if_pos rfl, if_neg c1, if_pos c2]
        clear c1
        clear HC
        go_wp2_with fail
        go_quiet (fail)
        go_wp2_with fail
        go_quiet (fail)
        go_wp2_with fail
        go_ret
        exact ⟨by rw [HN.out]; rfl, belowN E_1.out _⟩
      · have c2' : l2 < num := by omega
        by_cases c3 : l2 + 1 < num
        · have HN : Hid (dc = 4) := by show _ = _; rw [HC.out, if_pos rfl, if_neg c1, if_neg c2, if_pos c3]
          clear c1 c2
          clear HC
          go_wp2_with fail
          go_quiet (fail)
          go_wp2_with fail
          go_quiet (fail)
          go_wp2_with fail
          go_ret
          exact ⟨by rw [HN.out]; rfl, belowN E_1.out _⟩
        · have c3' : num ≤ l2 + 1 := by omega
          have HN : Hid (dc = 0) := by show _ = _; rw [HC.out, if_pos rfl, if_neg c1, if_neg c2, if_neg c3]
          clear c1 c2 c3
          clear HC
          go_wp2_with fail
          go_quiet (fail)
          go_wp2_with fail
          go_quiet (fail)
          go_wp2_with fail
          go_ret
          exact ⟨by rw [HN.out]; rfl, belowN E_1.out _⟩

end Go.Proofs.YtadoihddmbbjoaaDoor
