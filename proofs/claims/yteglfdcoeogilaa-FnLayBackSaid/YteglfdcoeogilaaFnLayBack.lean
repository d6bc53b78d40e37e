/-
  laws.FnLayBack returns true at every code: the walk of the law. No condition.
-/
import Derived.Test.YteglfdcoeogilaaDrawLayBack
import Derived.Test.YteglfdcoeogilaaLayFn
import Derived.Test.YteglfdcoeogilaaLayLaws
namespace Go.Proofs.Yteglfdcoeogilaa.fnLayBack
open Go.RowKit

set_option maxRecDepth 100000 in
set_option maxHeartbeats 8000000 in
theorem walk (v : Value) (len : Nat) (w : World) (h : Byt w v len) :
    Calls Try.prog 4 #[v] w fun e w' => e = .returned (.bool true) ∧ Below w.heap.size w w' := by
  have HB := Lib.hid h
  have hlen : len ≤ 9223372036854775807 := by obtain ⟨z, a, cap, -, h1, h2, -⟩ := h; unfold maxLen at h2; omega
  obtain ⟨z, a, cap, rfl, -, -, -⟩ := h
  by_cases hL : len ≤ 1048576
  · go_enter Try.func4, Try.ntmps4
    go_wp2_with fail
    refine (drawLayBack_any _ len _ HB.out).mono ?_; rintro e w1 ⟨size, many, ob, p, rfl, hb1⟩
    have kb := new_box w1 size many 24
    have hal1 : Below w1.heap.size w1 (w1.alloc (.cells #[.int .i64 size, .int .i64 many] 24)) := (Below.refl _ _).alloc (Nat.le_refl _) _
    have e1 := hb1.trans (hal1.mono hb1.size)
    have H1 := Lib.hid (fun W => implLayBack_any size many ob p W)
    have H2 := Lib.hid (fun W => specLayBack_any size many ob p W)
    have H3 := Lib.hid (fun W => implLayAt_any size many (lbF size many ob p) W)
    have hF := Lib.hid (lbF_back (size := size) (many := many) (obj := ob) (a := p))
    generalize lbF size many ob p = B at *
    obtain ⟨x1, x2, -, -⟩ := id kb
    go_wp2_with fail
    refine (H1.out _).mono ?_; rintro e w2 ⟨rfl, hb2⟩
    have e2 := e1.trans (hb2.mono e1.size)
    clear x1 x2
    have k2 := kb.keep hb2
    obtain ⟨x1, x2, -, -⟩ := id k2
    go_wp2_with fail
    refine (H2.out _).mono ?_; rintro e w3 ⟨rfl, hb3⟩
    have e3 := e2.trans (hb3.mono e2.size)
    clear x1 x2
    have k3 := k2.keep hb3
    obtain ⟨x1, x2, -, -⟩ := id k3
    by_cases hB : B = -1
    · subst hB
      clear hF
      go_wp2
      go_ret
      exact ⟨rfl, e3⟩
    · obtain ⟨f1, f2, f3, f4⟩ := hF.out hB
      rw [f1, f2] at H3
      clear hF f1 f2 hB
      go_wp2_with fail
      refine (H3.out _).mono ?_; rintro e w4 ⟨rfl, hb4⟩
      have e4 := e3.trans (hb4.mono e3.size)
      go_wp2
      go_ret
      exact ⟨rfl, e4⟩
  · go_enter Try.func4, Try.ntmps4
    go_wp2
    go_ret
    exact ⟨rfl, Below.refl _ _⟩

end Go.Proofs.Yteglfdcoeogilaa.fnLayBack
