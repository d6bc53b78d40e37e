/-
  Contracts: LayAt and LayBack of both sides, at every argument; laws.toLay.
-/
import Derived.Test.YtjbkahfbaploaaaLayAt
namespace Go.Proofs.Ytjbkahfbaploaaa
open Go.RowKit

theorem laObj_yes {size many p : Int} (h : layOkB size many = true) (h0 : 0 ≤ p) (h1 : p < 48) : laObj size many p = objF size many p := if_pos ⟨h, h0, h1⟩
theorem laAt_yes {size many p : Int} (h : layOkB size many = true) (h0 : 0 ≤ p) (h1 : p < 48) : laAt size many p = atF size many p := if_pos ⟨h, h0, h1⟩
theorem laObj_no {size many p : Int} (h : ¬ (layOkB size many = true ∧ 0 ≤ p ∧ p < 48)) : laObj size many p = -1 := if_neg h
theorem laAt_no {size many p : Int} (h : ¬ (layOkB size many = true ∧ 0 ≤ p ∧ p < 48)) : laAt size many p = -1 := if_neg h
theorem lbF_yes {size many obj a : Int} (h : layOkB size many = true) (h0 : 0 ≤ obj) (h1 : obj < many) (ha : 0 ≤ a) (ha1 : a < 48) (hb : backF size many obj a < 48) : lbF size many obj a = backF size many obj a := if_pos ⟨h, h0, h1, ha, ha1, hb⟩
theorem lbF_no {size many obj a : Int} (h : ¬ (layOkB size many = true ∧ 0 ≤ obj ∧ obj < many ∧ 0 ≤ a ∧ a < 48 ∧ backF size many obj a < 48)) : lbF size many obj a = -1 := if_neg h




set_option maxHeartbeats 1000000 in
theorem implLayAt_any (size many p : Int) (w : World) :
    Calls Try.prog 8 #[.agg #[.int .i64 size, .int .i64 many], .int .i64 p] w fun e w' => e = .returned (.tuple #[.int .i64 (laObj size many p), .int .i64 (laAt size many p)]) ∧ Below w.heap.size w w' := by
  have k := new_box w size many 24
  have hal : Below w.heap.size w (w.alloc (.cells #[.int .i64 size, .int .i64 many] 24)) := (Below.refl _ _).alloc (Nat.le_refl _) _
  have hok := fun W => implLayOk_any size many W
  by_cases h : layOkB size many = true
  · rw [h] at hok
    have HO := Lib.hid hok
    have HH := Lib.hid h
    clear hok
    by_cases hp : 0 ≤ p ∧ p < 48
    · rw [laObj_yes h hp.1 hp.2, laAt_yes h hp.1 hp.2]
      obtain ⟨p1, p2⟩ := hp
      clear h
      go_enter Try.func8, Try.ntmps8
      go_wp2_with fail
      refine (HO.out _).mono ?_; rintro e w1 ⟨rfl, hb1⟩
      have e1 := hal.trans (hb1.mono hal.size)
      obtain ⟨x1, x2, -, -⟩ := k.keep hb1
      go_wp2_with fail
      refine (layAt_any size many p _ HH.out p1 (by omega)).mono ?_; rintro e w2 ⟨rfl, hb2⟩
      go_wp2
      go_ret2
      exact ⟨rfl, e1.trans (hb2.mono e1.size)⟩
    · rw [laObj_no (fun c => hp ⟨c.2.1, c.2.2⟩), laAt_no (fun c => hp ⟨c.2.1, c.2.2⟩)]
      clear h
      by_cases p1 : 0 ≤ p
      · have p2 : 48 ≤ p := by omega
        clear hp
        go_enter Try.func8, Try.ntmps8
        go_wp2_with fail
        refine (HO.out _).mono ?_; rintro e w1 ⟨rfl, hb1⟩
        have e1 := hal.trans (hb1.mono hal.size)
        go_wp2
        go_ret2
        exact ⟨rfl, e1⟩
      · have p2 : p < 0 := by omega
        clear hp p1
        go_enter Try.func8, Try.ntmps8
        go_wp2_with fail
        refine (HO.out _).mono ?_; rintro e w1 ⟨rfl, hb1⟩
        have e1 := hal.trans (hb1.mono hal.size)
        go_wp2
        go_ret2
        exact ⟨rfl, e1⟩
  · rw [laObj_no (fun c => h c.1), laAt_no (fun c => h c.1)]
    replace h : layOkB size many = false := by simpa using h
    rw [h] at hok
    have HO := Lib.hid hok
    clear hok h
    go_enter Try.func8, Try.ntmps8
    go_wp2_with fail
    refine (HO.out _).mono ?_; rintro e w1 ⟨rfl, hb1⟩
    have e1 := hal.trans (hb1.mono hal.size)
    go_wp2
    go_ret2
    exact ⟨rfl, e1⟩

set_option maxHeartbeats 2000000 in
theorem implLayBack_any (size many obj a : Int) (w : World) :
    Calls Try.prog 10 #[.agg #[.int .i64 size, .int .i64 many], .int .i64 obj, .int .i64 a] w fun e w' => e = .returned (.int .i64 (lbF size many obj a)) ∧ Below w.heap.size w w' := by
  have k := new_box w size many 24
  have hal : Below w.heap.size w (w.alloc (.cells #[.int .i64 size, .int .i64 many] 24)) := (Below.refl _ _).alloc (Nat.le_refl _) _
  have hok := fun W => implLayOk_any size many W
  by_cases h : layOkB size many = true
  · rw [h] at hok
    have HO := Lib.hid hok
    have HH := Lib.hid h
    clear hok
    by_cases hp : 0 ≤ obj ∧ obj < many ∧ 0 ≤ a ∧ a < 48
    · obtain ⟨p1, p2, p3, p4⟩ := hp
      have hbd := back_bd h p1 p2 p3
      by_cases hs : backF size many obj a < 48
      · rw [lbF_yes h p1 p2 p3 p4 hs]
        clear h
        have HB := fun W => layBack_any size many obj a W HH.out p1 p2 p3 (by omega)
        generalize backF size many obj a = B at *
        go_enter Try.func10, Try.ntmps10
        go_wp2_with fail
        refine (HO.out _).mono ?_; rintro e w1 ⟨rfl, hb1⟩
        have e1 := hal.trans (hb1.mono hal.size)
        obtain ⟨x1, x2, -, -⟩ := k.keep hb1
        go_wp2_with fail
        refine (HB _).mono ?_; rintro e w2 ⟨rfl, hb2⟩
        go_wp2
        go_ret
        exact ⟨rfl, e1.trans (hb2.mono e1.size)⟩
      · rw [lbF_no (fun c => hs c.2.2.2.2.2)]
        clear h
        have HB := fun W => layBack_any size many obj a W HH.out p1 p2 p3 (by omega)
        generalize backF size many obj a = B at *
        go_enter Try.func10, Try.ntmps10
        go_wp2_with fail
        refine (HO.out _).mono ?_; rintro e w1 ⟨rfl, hb1⟩
        have e1 := hal.trans (hb1.mono hal.size)
        obtain ⟨x1, x2, -, -⟩ := k.keep hb1
        go_wp2_with fail
        refine (HB _).mono ?_; rintro e w2 ⟨rfl, hb2⟩
        go_wp2
        go_ret
        exact ⟨rfl, e1.trans (hb2.mono e1.size)⟩
    · rw [lbF_no (fun c => hp ⟨c.2.1, c.2.2.1, c.2.2.2.1, c.2.2.2.2.1⟩)]
      clear h
      by_cases p1 : 0 ≤ obj <;> by_cases p2 : obj < many <;> by_cases p3 : 0 ≤ a <;> by_cases p4 : a < 48 <;> first | (exfalso; omega) | skip
      all_goals
        clear hp
        go_enter Try.func10, Try.ntmps10
        go_wp2_with fail
        refine (HO.out _).mono ?_; rintro e w1 ⟨rfl, hb1⟩
        have e1 := hal.trans (hb1.mono hal.size)
        obtain ⟨x1, x2, -, -⟩ := k.keep hb1
        go_wp2
        go_ret
        exact ⟨rfl, e1⟩
  · rw [lbF_no (fun c => h c.1)]
    replace h : layOkB size many = false := by simpa using h
    rw [h] at hok
    have HO := Lib.hid hok
    clear hok h
    go_enter Try.func10, Try.ntmps10
    go_wp2_with fail
    refine (HO.out _).mono ?_; rintro e w1 ⟨rfl, hb1⟩
    have e1 := hal.trans (hb1.mono hal.size)
    go_wp2
    go_ret
    exact ⟨rfl, e1⟩

end Go.Proofs.Ytjbkahfbaploaaa
