/-
  laws.FnLayAt returns true at every code: the walk of the law. No condition.
-/
import Derived.Test.YteglfdcoeogilaaDrawLayAt
import Derived.Test.YteglfdcoeogilaaLayFn
import Derived.Test.YteglfdcoeogilaaLayLaws
namespace Go.Proofs.Yteglfdcoeogilaa.fnLayAt
open Go.RowKit

set_option maxRecDepth 100000 in
set_option maxHeartbeats 8000000 in
theorem walk (v : Value) (len : Nat) (w : World) (h : Byt w v len) :
    Calls Try.prog 3 #[v] w fun e w' => e = .returned (.bool true) ∧ Below w.heap.size w w' := by
  have HB := Lib.hid h
  have hlen : len ≤ 9223372036854775807 := by obtain ⟨z, a, cap, -, h1, h2, -⟩ := h; unfold maxLen at h2; omega
  obtain ⟨z, a, cap, rfl, -, -, -⟩ := h
  by_cases hL : len ≤ 1048576
  · go_enter Try.func3, Try.ntmps3
    go_wp2_with fail
    refine (drawLayAt_any _ len _ HB.out).mono ?_; rintro e w1 ⟨size, many, p, rfl, hb1⟩
    have kb := new_box w1 size many 24
    have hal1 : Below w1.heap.size w1 (w1.alloc (.cells #[.int .i64 size, .int .i64 many] 24)) := (Below.refl _ _).alloc (Nat.le_refl _) _
    have e1 := hb1.trans (hal1.mono hb1.size)
    have H1 := Lib.hid (fun W => implLayAt_any size many p W)
    have H2 := Lib.hid (fun W => specLayAt_any size many p W)
    have H3 := Lib.hid (fun W => implLayOk_any size many W)
    have H4 := Lib.hid (fun W => specLayOk_any size many W)
    by_cases hv : layOkB size many = true ∧ 0 ≤ p ∧ p < 48
    · obtain ⟨hok, p0, p1⟩ := hv
      obtain ⟨c1, c2, c3, c4⟩ := layOkB_iff.1 hok
      have bd := at_bd hok p0
      have hlb := lbF_at hok p0 p1
      have hnx := Lib.hid (fun (hm : 0 < (p + 1) % size) (hp : p + 1 < 48) => (⟨(laObj_yes hok (by omega) hp).trans (next_in hok hm).1, (laAt_yes hok (by omega) hp).trans (next_in hok hm).2⟩ : laObj size many (p + 1) = objF size many p ∧ laAt size many (p + 1) = atF size many p + 1))
      rw [laObj_yes hok p0 p1, laAt_yes hok p0 p1] at H1 H2
      rw [hok] at H3 H4
      have H5 := Lib.hid (fun W => implLayBack_any size many (objF size many p) (atF size many p) W)
      rw [hlb] at H5
      have H6 := Lib.hid (fun W => implLayAt_any size many (p + 1) W)
      clear hlb hok
      generalize objF size many p = O at *
      generalize atF size many p = A at *
      obtain ⟨b1, b2, b3, b4⟩ := bd
      obtain ⟨x1, x2, -, -⟩ := id kb
      go_wp2_with fail
      refine (H1.out _).mono ?_; rintro e w2 ⟨rfl, hb2⟩
      have e2 := e1.trans (hb2.mono e1.size)
      clear x1 x2
      obtain ⟨x1, x2, -, -⟩ := kb.keep hb2
      go_wp2_with fail
      refine (H2.out _).mono ?_; rintro e w3 ⟨rfl, hb3⟩
      have e3 := e2.trans (hb3.mono e2.size)
      clear x1 x2
      have k3 := (kb.keep hb2).keep hb3
      obtain ⟨x1, x2, -, -⟩ := id k3
      go_wp2_with fail
      generalize w1.heap.size = g at *
      have d0 : ∀ x : BelowOf w3, x.w.cell? ⟨g, 0, none⟩ = some (.int .i64 size) := fun x => x.cell k3.1
      have d1 : ∀ x : BelowOf w3, x.w.cell? ⟨g, 1, none⟩ = some (.int .i64 many) := fun x => x.cell k3.2.1
      refine wp_region_calm (by kernel_rfl) (by kernel_rfl) ?_
      repeat (go_big_quiet_step (first | (go_at_call 16; exact Calls.calm (H3.out _)) | (go_at_call 17; exact Calls.calm (H4.out _))))
      refine wpQuiet_nil ?_
      rintro _ ⟨x, rfl⟩
      have hb4 := x.below
      have e4 := e3.trans (hb4.mono e3.size)
      have k4 := k3.keep hb4
      clear d0 d1 x1 x2
      obtain ⟨x1, x2, -, -⟩ := id k4
      generalize x.w = w4 at *
      go_wp2_with fail
      refine (H5.out _).mono ?_; rintro e w5 ⟨rfl, hb5⟩
      have e5 := e4.trans (hb5.mono e4.size)
      have k5 := k4.keep hb5
      clear x1 x2
      obtain ⟨x1, x2, -, -⟩ := id k5
      have i1 : IntKind.i64.wrap (p + 1) = p + 1 := IntWalk.i64_in _ (by omega)
      by_cases hp : p + 1 < 48
      · have z1 : (size == 0) = false := by simp; omega
        have z2 : size ≠ 0 := by omega
        have t2 : (p + 1).tmod size = (p + 1) % size := Int.tmod_eq_emod_of_nonneg (by omega)
        have rb := rem_bd (n := p + 1) c1
        have b2 : IntKind.i64.wrap ((p + 1) % size) = (p + 1) % size := IntWalk.i64_in _ (by omega)
        by_cases hm : 0 < (p + 1) % size
        · obtain ⟨q1, q2⟩ := hnx.out hm hp
          rw [q1, q2] at H6
          clear hnx q1 q2
          go_wp2_with fail
          refine (H6.out _).mono ?_; rintro e w6 ⟨rfl, hb6⟩
          have e6 := e5.trans (hb6.mono e5.size)
          go_wp2
          go_ret
          exact ⟨rfl, e6⟩
        · clear hnx
          go_wp2
          go_ret
          exact ⟨rfl, e5⟩
      · clear hnx
        go_wp2
        go_ret
        exact ⟨rfl, e5⟩
    · rw [laObj_no hv, laAt_no hv] at H1 H2
      obtain ⟨x1, x2, -, -⟩ := id kb
      have HV := Lib.hid hv
      clear hv
      go_wp2_with fail
      refine (H1.out _).mono ?_; rintro e w2 ⟨rfl, hb2⟩
      have e2 := e1.trans (hb2.mono e1.size)
      clear x1 x2
      obtain ⟨x1, x2, -, -⟩ := kb.keep hb2
      go_wp2_with fail
      refine (H2.out _).mono ?_; rintro e w3 ⟨rfl, hb3⟩
      have e3 := e2.trans (hb3.mono e2.size)
      clear x1 x2
      have k3 := (kb.keep hb2).keep hb3
      obtain ⟨x1, x2, -, -⟩ := id k3
      obtain ⟨B, hB⟩ : ∃ B, layOkB size many = B := ⟨_, rfl⟩
      rw [hB] at H3 H4
      have HB2 := Lib.hid hB
      clear hB
      go_wp2_with fail
      generalize w1.heap.size = g at *
      have d0 : ∀ x : BelowOf w3, x.w.cell? ⟨g, 0, none⟩ = some (.int .i64 size) := fun x => x.cell k3.1
      have d1 : ∀ x : BelowOf w3, x.w.cell? ⟨g, 1, none⟩ = some (.int .i64 many) := fun x => x.cell k3.2.1
      refine wp_region_calm (by kernel_rfl) (by kernel_rfl) ?_
      repeat (go_big_quiet_step (first | (go_at_call 16; exact Calls.calm (H3.out _)) | (go_at_call 17; exact Calls.calm (H4.out _))))
      refine wpQuiet_nil ?_
      rintro _ ⟨x, rfl⟩
      have hb4 := x.below
      have e4 := e3.trans (hb4.mono e3.size)
      have k4 := k3.keep hb4
      clear d0 d1 x1 x2
      obtain ⟨x1, x2, -, -⟩ := id k4
      generalize x.w = w4 at *
      have hv := HV.out
      rw [HB2.out] at hv
      cases B with
      | false =>
        clear hv
        go_wp2_with fail
        refine (H4.out _).mono ?_; rintro e w5 ⟨rfl, hb5⟩
        have e5 := e4.trans (hb5.mono e4.size)
        go_wp2
        go_ret
        exact ⟨rfl, e5⟩
      | true =>
        by_cases p0 : 0 ≤ p
        · have p1 : 48 ≤ p := by simp only [true_and] at hv; omega
          clear hv
          go_wp2_with fail
          refine (H4.out _).mono ?_; rintro e w5 ⟨rfl, hb5⟩
          have e5 := e4.trans (hb5.mono e4.size)
          go_wp2
          go_ret
          exact ⟨rfl, e5⟩
        · have p1 : p < 0 := by omega
          clear hv
          go_wp2_with fail
          refine (H4.out _).mono ?_; rintro e w5 ⟨rfl, hb5⟩
          have e5 := e4.trans (hb5.mono e4.size)
          go_wp2
          go_ret
          exact ⟨rfl, e5⟩
  · go_enter Try.func3, Try.ntmps3
    go_wp2
    go_ret
    exact ⟨rfl, Below.refl _ _⟩

end Go.Proofs.Yteglfdcoeogilaa.fnLayAt
