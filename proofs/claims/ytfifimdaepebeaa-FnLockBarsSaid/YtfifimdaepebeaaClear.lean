/-
  l4Clear and LockOk of the model.
-/
import Derived.Test.YtfifimdaepebeaaLockMath
import Derived.Test.YtfifimdaepebeaaToHold
import Derived.Deep.RegionHeld3
import Derived.Deep.DeepCutAuto
namespace Go.Proofs.Ytfifimdaepebeaa
open Go.RowKit

def clr1 (a : Rng) (B : List Rng) : Bool := B.all fun b => !mtB a.1 a.2 b.1 b.2
theorem clr1_step (a : Rng) (B : List Rng) (k : Nat) (h : k < B.length) : clr1 a (B.drop k) = (!mtB a.1 a.2 (B.getD k (0, 0)).1 (B.getD k (0, 0)).2 && clr1 a (B.drop (k + 1))) := by
  rw [drop_cons B k h]; rfl
theorem clrB_step (A B : List Rng) (k : Nat) (h : k < A.length) : clrB (A.drop k) B = (clr1 (A.getD k (0, 0)) B && clrB (A.drop (k + 1)) B) := by
  rw [drop_cons A k h]; rfl

set_option maxHeartbeats 4000000 in
theorem l4Clear_any (v u : Value) (A B : List Rng) (w : World) (h : Spn w v A) (h' : Spn w u B) :
    Calls Try.prog 58 #[v, u] w fun e w' => e = .returned (.bool (clrB A B)) ∧ Below w.heap.size w w' := by
  obtain ⟨a, cap, rfl, hl, hm, hc⟩ := h
  obtain ⟨a', cap', rfl, hl', hm', hc'⟩ := h'
  unfold maxLen at hm hm'
  have HC := Lib.hid hc
  have HC' := Lib.hid hc'
  have HE : Hid (clrB A B = clrB (A.drop 0) B) := rfl
  clear hc hc'
  go_enter Try.func58, Try.ntmps58
  go_wp2
  go_loopg [5] A.length (fun g s5 wr => ∃ k : Nat, g = A.length - k ∧ k ≤ A.length ∧ s5 = .int .i64 k ∧ Hid (clrB A B = clrB (A.drop k) B) ∧ Below w.heap.size w wr)
  case atStart => exact ⟨0, rfl, Nat.zero_le _, rfl, HE, Below.refl _ _⟩
  case round =>
    obtain ⟨k, rfl, hk, rfl, HK, hb⟩ := hrel
    by_cases hlt : k < A.length
    · obtain ⟨b, off, rfl, hcc⟩ := HC.out (fun e => by subst e; simp at hlt)
      have HCk := Lib.hid (hcc k hlt)
      have HS := Lib.hid (clrB_step A B k hlt)
      clear hcc
      generalize A.getD k (0, 0) = s at *
      obtain ⟨sa, sb⟩ := s
      have HE0 : Hid (clr1 (sa, sb) B = clr1 (sa, sb) (B.drop 0)) := rfl
      go_wp2
      go_loopg [6] B.length (fun g s6 wx => ∃ j : Nat, g = B.length - j ∧ j ≤ B.length ∧ s6 = .int .i64 j ∧ Hid (clr1 (sa, sb) B = clr1 (sa, sb) (B.drop j)) ∧ Below w.heap.size w wx)
      case atStart => exact ⟨0, rfl, Nat.zero_le _, rfl, HE0, hb⟩
      case round =>
        obtain ⟨j, rfl, hj, rfl, HJ, hbx⟩ := hrel
        by_cases hjl : j < B.length
        · obtain ⟨b', off', rfl, hcc'⟩ := HC'.out (fun e => by subst e; simp at hjl)
          have c1 := cell_keep hbx HCk.out.1
          have c2 := cell_keep hbx HCk.out.2
          have c3 := cell_keep hbx (hcc' j hjl).1
          have c4 := cell_keep hbx (hcc' j hjl).2
          have HT := Lib.hid (clr1_step (sa, sb) B j hjl)
          clear hcc'
          generalize B.getD j (0, 0) = t at *
          obtain ⟨lo, hi⟩ := t
          simp only at c1 c2 c3 c4
          have lb := World.block_lt_of_cell? _ _ c1
          have lw := World.block_lt_of_cell? _ _ c3
          simp only at lb lw
          go_wp2_with fail
          go_cut [8] (fun s8 wx => s8 = .bool (mtB sa sb lo hi) ∧ Below wr.heap.size wr wx)
          case first =>
            go_region_held3 (fun w' => w'.cell? ⟨b, off + k * 2, none⟩ = some (.int .i64 sa) ∧ w'.cell? ⟨b, off + k * 2 + 1, none⟩ = some (.int .i64 sb) ∧ w'.cell? ⟨b', off' + j * 2, none⟩ = some (.int .i64 lo) ∧ w'.cell? ⟨b', off' + j * 2 + 1, none⟩ = some (.int .i64 hi))
              (refine ⟨?_, ?_, ?_, ?_⟩ <;> first | (go_keep; done) | (refine cell_keep hb ?_; first | (go_keep; done) | (go_simp; done)) | (go_split_ands; exact alloc_swap (by omega) (by assumption)) | (go_split_ands; exact set2_far (by omega) (by assumption)))
              (first
                | (go_at_call 82; refine (l1Meet_any sa sb lo hi _).mono ?_; rintro e w' ⟨rfl, hb⟩; have hn : b < w'.heap.size ∧ b' < w'.heap.size := (by have hs := hb.size; (try simp at hs); omega); have hl : Below wr.heap.size wr w' := (by exact Below.trans (by (repeat (first | exact hl | exact Below.refl _ _ | refine Below.alloc ?_ (by first | omega | (simp; done) | (simp; omega)) _ | refine Below.drew ?_))) (hb.mono (by first | omega | (simp; done) | (simp; omega)))); (first | (have hx : Box2 w' _ 0 0 := box_alloc hb; obtain ⟨x1, x2, x3, x4⟩ := id hx) | (have hx : Box2 w' _ 0 0 := box_alloc_drew hb; (try simp at hx); obtain ⟨x1, x2, x3, x4⟩ := id hx) | (have hx : Box2 w' _ 0 0 := Box2.keep hx hb; obtain ⟨x1, x2, x3, x4⟩ := id hx) | skip)))
            all_goals
              go_wp2_with fail
              go_meet
              first
                | exact ⟨rfl, hl.alloc hl.size _⟩
                | exact ⟨rfl, (hl.setCell (by simp only; omega) _).setCell (by simp only; omega) _⟩
          case rest =>
            obtain ⟨rfl, hlx⟩ := hcut
            have hb2 := hbx.trans (hlx.mono hbx.size)
            clear c1 c2 c3 c4
            generalize mtB sa sb lo hi = q at *
            cases q
            · have HJ2 : Hid (clr1 (sa, sb) B = clr1 (sa, sb) (B.drop (j + 1))) := by show _ = _; rw [HJ.out, HT.out]; rfl
              go_wp2
              go_roundg (B.length - (j + 1))
              case measure => omega
              case rel => exact ⟨j + 1, rfl, by omega, by go_num, HJ2, hb2⟩
            · have HF : Hid (clrB A B = false) := by show _ = _; rw [HK.out, HS.out, HJ.out, HT.out]; rfl
              go_wp2
              go_ret
              exact ⟨ret_bool HF.out.symm, hb2⟩
        · have HF : Hid (clrB A B = clrB (A.drop (k + 1)) B) := by
            show _ = _
            rw [HK.out, HS.out, HJ.out, List.drop_of_length_le (by omega)]; rfl
          go_wp2
          go_roundg (A.length - (k + 1))
          case measure => omega
          case rel => exact ⟨k + 1, rfl, by omega, by go_num, HF, hbx⟩
    · have HF : Hid (clrB A B = true) := by show _ = _; rw [HK.out, List.drop_of_length_le (by omega)]; rfl
      go_wp2
      go_ret
      exact ⟨ret_bool HF.out.symm, hb⟩

set_option maxRecDepth 100000 in
set_option maxHeartbeats 8000000 in
theorem specLockOk_any (v : Value) (T : List HoldT) (w : World) (h : Hds w v T) :
    Calls Try.prog 19 #[v] w fun e w' => e = .returned (.bool (lockOkB T)) ∧ Below w.heap.size w w' := by
  obtain ⟨a, cap, rfl, hl, hm, hc⟩ := h
  unfold maxLen at hm
  by_cases hT : T.length = 3
  · have HC := Lib.hid hc
    have HD : Hid (lockOkB T = allN (fun i => ownB T i && allN (crsB T i) 3) 3) := by show _ = _; unfold lockOkB; simp [hT]
    rw [hT] at hl ⊢
    have HT3 := Lib.hid hT
    clear hc hT
    go_enter Try.func19, Try.ntmps19
    go_wp2
    go_loopg [3] 3 (fun g s3 wr => ∃ i : Nat, g = 3 - i ∧ i ≤ 3 ∧ s3 = .int .i64 i ∧ Hid (allN (fun i => ownB T i && allN (crsB T i) 3) i = true) ∧ Below w.heap.size w wr)
    case atStart => exact ⟨0, rfl, by omega, rfl, Lib.hid rfl, Below.refl _ _⟩
    case round =>
      obtain ⟨i, rfl, hi, rfl, HK, hb⟩ := hrel
      by_cases hlt : i < 3
      · obtain ⟨b, off, rfl, hcc⟩ := HC.out (fun e => by have := HT3.out; subst e; simp at this)
        have HCC := Lib.hid hcc
        obtain ⟨r, s, e1, e2, p1, p2⟩ := hcc i (by rw [HT3.out]; exact hlt)
        have P1 := Lib.hid (p1.keep hb)
        have P2 := Lib.hid (p2.keep hb)
        have PW2 := Lib.hid p2
        have C2 : Hid (w.cell? ⟨b, off + i * 2 + 1, none⟩ = some s) := e2
        have K1 : Hid (∀ x : BelowOf wr, Calls Try.prog 57 #[r] x.w fun e w' => e = .returned (.bool (spansOkB (T.getD i hd0).1)) ∧ Below x.w.heap.size x.w w') := fun x => specSpansOk_any _ _ _ (P1.out.keep x.below)
        have K2 : Hid (∀ x : BelowOf wr, Calls Try.prog 57 #[s] x.w fun e w' => e = .returned (.bool (spansOkB (T.getD i hd0).2)) ∧ Below x.w.heap.size x.w w') := fun x => specSpansOk_any _ _ _ (P2.out.keep x.below)
        have K3 : Hid (∀ x : BelowOf wr, Calls Try.prog 58 #[r, s] x.w fun e w' => e = .returned (.bool (clrB (T.getD i hd0).1 (T.getD i hd0).2)) ∧ Below x.w.heap.size x.w w') := fun x => l4Clear_any _ _ _ _ _ (P1.out.keep x.below) (P2.out.keep x.below)
        have j1 : (0 : Int) ≤ (i : Int) := Int.natCast_nonneg _
        have j2 : (i : Int) < 3 := by omega
        have d1 : ∀ x : BelowOf wr, x.w.cell? ⟨b, off + i * 2, none⟩ = some r := fun x => x.cell (cell_keep hb e1)
        have d2 : ∀ x : BelowOf wr, x.w.cell? ⟨b, off + i * 2 + 1, none⟩ = some s := fun x => x.cell (cell_keep hb e2)
        have HQ : Hid (ownB T i = (spansOkB (T.getD i hd0).1 && (spansOkB (T.getD i hd0).2 && clrB (T.getD i hd0).1 (T.getD i hd0).2))) := rfl
        have HN : Hid ((ownB T i && allN (crsB T i) 3) = false → lockOkB T = false) := fun h => by rw [HD.out]; exact allN_false hlt h
        have HY : Hid ((ownB T i && allN (crsB T i) 3) = true → allN (fun i => ownB T i && allN (crsB T i) 3) (i + 1) = true) := fun h => by
          show (allN (fun i => ownB T i && allN (crsB T i) 3) i && (ownB T i && allN (crsB T i) 3)) = true
          rw [HK.out, h]; rfl
        clear p1 p2 P1 P2 e1 e2 hcc
        generalize hq1 : spansOkB (T.getD i hd0).1 = q1 at *
        generalize hq2 : spansOkB (T.getD i hd0).2 = q2 at *
        generalize hq3 : clrB (T.getD i hd0).1 (T.getD i hd0).2 = q3 at *
        clear hq1 hq2 hq3
        by_cases hall : q1 = true ∧ q2 = true ∧ q3 = true
        · obtain ⟨rfl, rfl, rfl⟩ := hall
          have HO : Hid (ownB T i = true) := by show _ = _; rw [HQ.out]; rfl
          go_wp2_with fail
          refine wp_region_calm (by kernel_rfl) (by kernel_rfl) ?_
          repeat (go_big_quiet_step ((first | (go_at_call 57; with_reducible first | exact Calls.calm (K1.out _) | exact Calls.calm (K2.out _)) | (go_at_call 58; exact Calls.calm (K3.out _)))))
          refine wpQuiet_nil ?_
          rintro _ ⟨x, rfl⟩
          have hb2 := hb.trans (x.below.mono hb.size)
          clear d1 d2 K1 K2 K3 HQ
          go_wp2
          go_loopg [4] 3 (fun g s4 wx => ∃ k : Nat, g = 3 - k ∧ k ≤ 3 ∧ s4 = .int .i64 k ∧ Hid (allN (crsB T i) k = true) ∧ Below w.heap.size w wx)
          case atStart => exact ⟨0, rfl, by omega, rfl, Lib.hid rfl, hb2⟩
          case round =>
            obtain ⟨k, rfl, hk, rfl, HKk, hbx⟩ := hrel
            by_cases hkl : k < 3
            · obtain ⟨rk, sk, e3, e4, p3, p4⟩ := HCC.out k (by rw [HT3.out]; exact hkl)
              have P3 := Lib.hid (p3.keep hbx)
              have P4 := Lib.hid (p4.keep hbx)
              have P2 := Lib.hid (PW2.out.keep hbx)
              have K4 : Hid (∀ x : BelowOf wr, Calls Try.prog 58 #[s, sk] x.w fun e w' => e = .returned (.bool (clrB (T.getD i hd0).2 (T.getD k hd0).2)) ∧ Below x.w.heap.size x.w w') := fun x => l4Clear_any _ _ _ _ _ (P2.out.keep x.below) (P4.out.keep x.below)
              have K5 : Hid (∀ x : BelowOf wr, Calls Try.prog 58 #[s, rk] x.w fun e w' => e = .returned (.bool (clrB (T.getD i hd0).2 (T.getD k hd0).1)) ∧ Below x.w.heap.size x.w w') := fun x => l4Clear_any _ _ _ _ _ (P2.out.keep x.below) (P3.out.keep x.below)
              have j3 : (0 : Int) ≤ (k : Int) := Int.natCast_nonneg _
              have j4 : (k : Int) < 3 := by omega
              have d2 : ∀ x : BelowOf wr, x.w.cell? ⟨b, off + i * 2 + 1, none⟩ = some s := fun x => x.cell (cell_keep hbx C2.out)
              have d3 : ∀ x : BelowOf wr, x.w.cell? ⟨b, off + k * 2, none⟩ = some rk := fun x => x.cell (cell_keep hbx e3)
              have d4 : ∀ x : BelowOf wr, x.w.cell? ⟨b, off + k * 2 + 1, none⟩ = some sk := fun x => x.cell (cell_keep hbx e4)
              have HQk : Hid (crsB T i k = (decide (k = i) || (clrB (T.getD i hd0).2 (T.getD k hd0).2 && clrB (T.getD i hd0).2 (T.getD k hd0).1))) := rfl
              have HNk : Hid (crsB T i k = false → lockOkB T = false) := fun h => HN.out (by rw [allN_false hkl h]; simp)
              have HYk : Hid (crsB T i k = true → allN (crsB T i) (k + 1) = true) := fun h => by
                show (allN (crsB T i) k && crsB T i k) = true
                rw [HKk.out, h]; rfl
              clear p3 p4 P3 P4 P2 e3 e4
              generalize hq4 : clrB (T.getD i hd0).2 (T.getD k hd0).2 = q4 at *
              generalize hq5 : clrB (T.getD i hd0).2 (T.getD k hd0).1 = q5 at *
              clear hq4 hq5
              by_cases hki : k = i
              · have hd : ((k : Int) != (i : Int)) = false := by simp [hki]
                have HF := Lib.hid (HYk.out (by rw [HQk.out, decide_eq_true hki]; rfl))
                clear hki K4 K5 HQk
                go_wp2_with fail
                refine wp_region_calm (by kernel_rfl) (by kernel_rfl) ?_
                repeat (go_big_quiet_step (fail))
                refine wpQuiet_nil ?_
                rintro _ ⟨x, rfl⟩
                have hb3 := hbx.trans (x.below.mono hbx.size)
                clear d2 d3 d4
                go_wp2
                go_roundg (3 - (k + 1))
                case measure => omega
                case rel => exact ⟨k + 1, rfl, by omega, by go_num, HF, hb3⟩
              · have hd : ((k : Int) != (i : Int)) = true := by simp; omega
                have HQ2 : Hid (crsB T i k = (q4 && q5)) := by show _ = _; rw [HQk.out, decide_eq_false hki]; rfl
                clear hki HQk
                cases q4
                · have HF := Lib.hid (HNk.out (by rw [HQ2.out]; rfl))
                  go_wp2_with fail
                  refine wp_region_calm (by kernel_rfl) (by kernel_rfl) ?_
                  repeat (go_big_quiet_step ((go_at_call 58; with_reducible first | exact Calls.calm (K4.out _) | exact Calls.calm (K5.out _))))
                  refine wpQuiet_nil ?_
                  rintro _ ⟨x, rfl⟩
                  have hb3 := hbx.trans (x.below.mono hbx.size)
                  clear d2 d3 d4
                  go_wp2
                  go_ret
                  exact ⟨ret_bool HF.out.symm, hb3⟩
                · cases q5
                  · have HF := Lib.hid (HNk.out (by rw [HQ2.out]; rfl))
                    go_wp2_with fail
                    refine wp_region_calm (by kernel_rfl) (by kernel_rfl) ?_
                    repeat (go_big_quiet_step ((go_at_call 58; with_reducible first | exact Calls.calm (K4.out _) | exact Calls.calm (K5.out _))))
                    refine wpQuiet_nil ?_
                    rintro _ ⟨x, rfl⟩
                    have hb3 := hbx.trans (x.below.mono hbx.size)
                    clear d2 d3 d4
                    go_wp2
                    go_ret
                    exact ⟨ret_bool HF.out.symm, hb3⟩
                  · have HF := Lib.hid (HYk.out (by rw [HQ2.out]; rfl))
                    go_wp2_with fail
                    refine wp_region_calm (by kernel_rfl) (by kernel_rfl) ?_
                    repeat (go_big_quiet_step ((go_at_call 58; with_reducible first | exact Calls.calm (K4.out _) | exact Calls.calm (K5.out _))))
                    refine wpQuiet_nil ?_
                    rintro _ ⟨x, rfl⟩
                    have hb3 := hbx.trans (x.below.mono hbx.size)
                    clear d2 d3 d4
                    go_wp2
                    go_roundg (3 - (k + 1))
                    case measure => omega
                    case rel => exact ⟨k + 1, rfl, by omega, by go_num, HF, hb3⟩
            · obtain rfl : k = 3 := by omega
              have HF := Lib.hid (HY.out (by rw [HO.out, HKk.out]; rfl))
              go_wp2
              go_roundg (3 - (i + 1))
              case measure => omega
              case rel => exact ⟨i + 1, rfl, by omega, by go_num, HF, hbx⟩
        · have HO : Hid (ownB T i = false) := by
            show _ = _
            rw [HQ.out]
            cases q1 <;> cases q2 <;> cases q3 <;> first | rfl | exact absurd ⟨rfl, rfl, rfl⟩ hall
          have HF := Lib.hid (HN.out (by rw [HO.out]; rfl))
          clear HQ HY
          cases q1
          · go_wp2_with fail
            refine wp_region_calm (by kernel_rfl) (by kernel_rfl) ?_
            repeat (go_big_quiet_step ((first | (go_at_call 57; with_reducible first | exact Calls.calm (K1.out _) | exact Calls.calm (K2.out _)))))
            refine wpQuiet_nil ?_
            rintro _ ⟨x, rfl⟩
            have hb2 := hb.trans (x.below.mono hb.size)
            clear d1 d2
            go_wp2
            go_ret
            exact ⟨ret_bool HF.out.symm, hb2⟩
          · cases q2
            · go_wp2_with fail
              refine wp_region_calm (by kernel_rfl) (by kernel_rfl) ?_
              repeat (go_big_quiet_step ((first | (go_at_call 57; with_reducible first | exact Calls.calm (K1.out _) | exact Calls.calm (K2.out _)))))
              refine wpQuiet_nil ?_
              rintro _ ⟨x, rfl⟩
              have hb2 := hb.trans (x.below.mono hb.size)
              clear d1 d2
              go_wp2
              go_ret
              exact ⟨ret_bool HF.out.symm, hb2⟩
            · cases q3
              · go_wp2_with fail
                refine wp_region_calm (by kernel_rfl) (by kernel_rfl) ?_
                repeat (go_big_quiet_step ((first | (go_at_call 57; with_reducible first | exact Calls.calm (K1.out _) | exact Calls.calm (K2.out _)) | (go_at_call 58; exact Calls.calm (K3.out _)))))
                refine wpQuiet_nil ?_
                rintro _ ⟨x, rfl⟩
                have hb2 := hb.trans (x.below.mono hb.size)
                clear d1 d2
                go_wp2
                go_ret
                exact ⟨ret_bool HF.out.symm, hb2⟩
              · exact absurd ⟨rfl, rfl, rfl⟩ hall
      · obtain rfl : i = 3 := by omega
        have HF : Hid (lockOkB T = true) := by show _ = _; rw [HD.out]; exact HK.out
        go_wp2
        go_ret
        exact ⟨ret_bool HF.out.symm, hb⟩
  · have HF : Hid (lockOkB T = false) := by show _ = _; unfold lockOkB; simp [hT]
    have hd : ((T.length : Int) != 3) = true := by simp; omega
    go_enter Try.func19, Try.ntmps19
    go_wp2
    go_ret
    exact ⟨ret_bool HF.out.symm, Below.refl _ _⟩

end Go.Proofs.Ytfifimdaepebeaa
