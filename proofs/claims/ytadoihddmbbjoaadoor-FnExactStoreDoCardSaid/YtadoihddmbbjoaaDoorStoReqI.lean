/-
  The program's Req.patch and Req.ok.
-/
import Derived.Test.YtadoihddmbbjoaaDoorStoReq
import Derived.Test.YtadoihddmbbjoaaDoorStoOk
import Derived.Test.YtadoihddmbbjoaaDoorImplWrite
namespace Go.Proofs.YtadoihddmbbjoaaDoor
open Go.RowKit

set_option maxHeartbeats 1000000 in
theorem reqPatch_any (q : ReqT) (w : World) :
    Calls Tryd.prog 58 #[.agg (rqA q)] w fun e w' => e = .returned (.agg #[.int .i64 q.pos, .string (mkB q.data)]) ∧ Below w.heap.size w w' := by
  obtain ⟨who, ep, num, obj, pos, data⟩ := q
  go_enter Tryd.func58, Tryd.ntmps58
  go_wp2
  exact bodyPost_ret (v := .agg #[.int .i64 pos, .string (mkB data)]) (by simp [results, Tryd.results58, go_sem]) rfl ⟨rfl, ((Below.refl _ _).alloc (Nat.le_refl _) _).alloc (by simp) _⟩

set_option maxRecDepth 100000 in
set_option maxHeartbeats 8000000 in
theorem implReqOk_any (q : ReqT) (hd : q.data.length ≤ 2000000) (w : World) :
    Calls Tryd.prog 81 #[.agg (rqA q)] w fun e w' => e = .returned (.bool (rqB q)) ∧ Below w.heap.size w w' := by
  obtain ⟨who, ep, num, obj, pos, data⟩ := q
  obtain ⟨W, hW⟩ : ∃ W, w.alloc (.cells (rqA ⟨who, ep, num, obj, pos, data⟩) 34) = W := ⟨_, rfl⟩
  have hal : Below w.heap.size w W := by rw [← hW]; exact (Below.refl _ _).alloc (Nat.le_refl _) _
  have B0 : Box6 W w.heap.size ⟨who, ep, num, obj, pos, data⟩ := by rw [← hW]; exact new_box6 w _ _
  have E_0 := Lib.hid hal
  have b_0 := Lib.hid B0
  have KW := Lib.hid (fun w => clientOkV_any who w)
  have KE := Lib.hid (fun w => epochOk_any ep w)
  have KO := Lib.hid (fun w => objectOk_any obj w)
  have KP := Lib.hid (fun w => reqPatch_any ⟨who, ep, num, obj, pos, data⟩ w)
  have KT := Lib.hid (fun w => patchOk_any pos data hd w)
  have HQ : Hid (rqB ⟨who, ep, num, obj, pos, data⟩ = (cliB who && (epoB ep && (decide (1 ≤ num ∧ num ≤ 1000) && (cliB obj && wokB pos data))))) := rfl
  clear hal B0 hd
  generalize cliB who = k0 at *
  generalize epoB ep = k1 at *
  generalize cliB obj = k3 at *
  generalize wokB pos data = k4 at *
  obtain ⟨x0, x1, x2, x3, x4, x5⟩ := b_0.out
  cases k0
  · have HN : Hid (rqB ⟨who, ep, num, obj, pos, data⟩ = false) := by show _ = _; rw [HQ.out]; rfl
    clear HQ
    go_enter Tryd.func81, Tryd.ntmps81
    go_wp2_with fail
    clear hW
    refine (KW.out _).mono ?_; rintro e w' ⟨rfl, hw⟩; subst hw
    go_wp2
    go_ret
    exact ⟨ret_bool (by rw [HN.out]), E_0.out⟩
  · cases k1
    · have HN : Hid (rqB ⟨who, ep, num, obj, pos, data⟩ = false) := by show _ = _; rw [HQ.out]; rfl
      clear HQ
      go_enter Tryd.func81, Tryd.ntmps81
      go_wp2_with fail
      clear hW
      refine (KW.out _).mono ?_; rintro e w' ⟨rfl, hw⟩; subst hw
      go_wp2_with fail
      refine (KE.out _).mono ?_; rintro e w' ⟨rfl, hw⟩; subst hw
      go_wp2
      go_ret
      exact ⟨ret_bool (by rw [HN.out]), E_0.out⟩
    · by_cases c1 : 1 ≤ num
      · by_cases c2 : num ≤ 1000
        · have HD : Hid (decide (1 ≤ num ∧ num ≤ 1000) = true) := decide_eq_true ⟨c1, c2⟩
          cases k3
          · have HN : Hid (rqB ⟨who, ep, num, obj, pos, data⟩ = false) := by show _ = _; rw [HQ.out, HD.out]; rfl
            clear HQ HD
            go_enter Tryd.func81, Tryd.ntmps81
            go_wp2_with fail
            clear hW
            refine (KW.out _).mono ?_; rintro e w' ⟨rfl, hw⟩; subst hw
            go_wp2_with fail
            refine (KE.out _).mono ?_; rintro e w' ⟨rfl, hw⟩; subst hw
            go_wp2_with fail
            refine (KO.out _).mono ?_; rintro e w' ⟨rfl, hw⟩; subst hw
            go_wp2
            go_ret
            exact ⟨ret_bool (by rw [HN.out]), E_0.out⟩
          · have HN : Hid (rqB ⟨who, ep, num, obj, pos, data⟩ = k4) := by show _ = _; rw [HQ.out, HD.out]; rfl
            clear HQ HD
            go_enter Tryd.func81, Tryd.ntmps81
            go_wp2_with fail
            clear hW
            refine (KW.out _).mono ?_; rintro e w' ⟨rfl, hw⟩; subst hw
            go_wp2_with fail
            refine (KE.out _).mono ?_; rintro e w' ⟨rfl, hw⟩; subst hw
            go_wp2_with fail
            refine (KO.out _).mono ?_; rintro e w' ⟨rfl, hw⟩; subst hw
            go_wp2_with fail
            refine (KP.out _).mono ?_; rintro e w1 ⟨rfl, hb⟩
            have E_1 := Lib.hid (E_0.out.trans (hb.mono E_0.out.size))
            clear hb x0 x1 x2 x3 x4 x5
            go_wp2_with fail
            refine (KT.out _).mono ?_; rintro e w2 ⟨rfl, hb⟩
            have E_2 := Lib.hid (E_1.out.trans (hb.mono E_1.out.size))
            clear hb
            go_wp2
            go_ret
            exact ⟨ret_bool (by rw [HN.out]), E_2.out⟩
        · have HD : Hid (decide (1 ≤ num ∧ num ≤ 1000) = false) := decide_eq_false (fun c => c2 c.2)
          have HN : Hid (rqB ⟨who, ep, num, obj, pos, data⟩ = false) := by show _ = _; rw [HQ.out, HD.out]; rfl
          clear HQ HD
          go_enter Tryd.func81, Tryd.ntmps81
          go_wp2_with fail
          clear hW
          refine (KW.out _).mono ?_; rintro e w' ⟨rfl, hw⟩; subst hw
          go_wp2_with fail
          refine (KE.out _).mono ?_; rintro e w' ⟨rfl, hw⟩; subst hw
          go_wp2
          go_ret
          exact ⟨ret_bool (by rw [HN.out]), E_0.out⟩
      · have HD : Hid (decide (1 ≤ num ∧ num ≤ 1000) = false) := decide_eq_false (fun c => c1 c.1)
        have HN : Hid (rqB ⟨who, ep, num, obj, pos, data⟩ = false) := by show _ = _; rw [HQ.out, HD.out]; rfl
        clear HQ HD
        go_enter Tryd.func81, Tryd.ntmps81
        go_wp2_with fail
        clear hW
        refine (KW.out _).mono ?_; rintro e w' ⟨rfl, hw⟩; subst hw
        go_wp2_with fail
        refine (KE.out _).mono ?_; rintro e w' ⟨rfl, hw⟩; subst hw
        go_wp2
        go_ret
        exact ⟨ret_bool (by rw [HN.out]), E_0.out⟩

end Go.Proofs.YtadoihddmbbjoaaDoor
