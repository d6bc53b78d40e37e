/-
  laws.FnLayOne returns true at every code: the walk of the law. No condition.
-/
import Derived.Test.YteglfdcoeogilaaDrawLayOf
import Derived.Test.YteglfdcoeogilaaImplLof
import Derived.Test.YteglfdcoeogilaaStrEq
import Derived.Test.YteglfdcoeogilaaLofLaws
namespace Go.Proofs.Yteglfdcoeogilaa.fnLayOne
open Go.RowKit

set_option maxRecDepth 100000 in
set_option maxHeartbeats 8000000 in
theorem walk (v : Value) (len : Nat) (w : World) (h : Byt w v len) :
    Calls Try.prog 10 #[v] w fun e w' => e = .returned (.bool true) ∧ Below w.heap.size w w' := by
  have HB := Lib.hid h
  have hlen : len ≤ 9223372036854775807 := by obtain ⟨z, a, cap, -, h1, h2, -⟩ := h; unfold maxLen at h2; omega
  obtain ⟨z, a, cap, rfl, -, -, -⟩ := h
  by_cases hL : len ≤ 1048576
  · go_enter Try.func10, Try.ntmps10
    go_wp2_with fail
    refine (drawLayOf_any _ len _ HB.out).mono ?_; rintro e w1 ⟨size, many, l, rfl, hl, hb1⟩
    have kl := new_box w1 size many 24
    have hal1 : Below w1.heap.size w1 (w1.alloc (.cells #[.int .i64 size, .int .i64 many] 24)) := (Below.refl _ _).alloc (Nat.le_refl _) _
    have e1 := hb1.trans (hal1.mono hb1.size)
    have HW1 : Hid (w.heap.size ≤ w1.heap.size) := hb1.size
    obtain ⟨L, hLl⟩ : ∃ L, loL size many l = L := ⟨_, rfl⟩
    have H1 : Hid (∀ X, Calls Try.prog 26 #[.agg #[.int .i64 size, .int .i64 many], .string (mkB l)] X (RgS X L)) := fun X => by rw [← hLl]; exact implLayOf_any size many l (by omega) X
    have H2 : Hid (∀ X, Calls Try.prog 27 #[.agg #[.int .i64 size, .int .i64 many], .string (mkB l)] X (RgS X L)) := fun X => by rw [← hLl]; exact specLayOf_any size many l (by omega) X
    have H3 := Lib.hid (fun W => specLayOk_any size many W)
    have htk := fun W => specTextOk_any (mkB l) (by rw [mkB_size]; omega) W
    rw [mkB_toList] at htk
    have H4 := Lib.hid htk
    have H5 := Lib.hid (fun W => implLayOf_any size 1 l (by omega) W)
    clear htk hLl
    obtain ⟨x1, x2, -, -⟩ := id kl
    go_wp2_with fail
    refine (H1.out _).mono ?_; rintro e w2 ⟨v1, rfl, ho2, hb2⟩
    have e2 := e1.trans (hb2.mono e1.size)
    have P2 := Lib.hid (own_strs rfl ho2.out)
    have kl2 := kl.keep hb2
    clear x1 x2 ho2 hb2 kl hal1 hb1 e1
    obtain ⟨x1, x2, -, -⟩ := id kl2
    go_wp2_with fail
    refine (H2.out _).mono ?_; rintro e w3 ⟨v2, rfl, ho3, hb3⟩
    have e3 := e2.trans (hb3.mono e2.size)
    have P3 := Lib.hid (P2.out.keep hb3)
    have Q3 := Lib.hid (own_strs rfl ho3.out)
    have kl3 := kl2.keep hb3
    clear x1 x2 ho3 hb3 kl2 P2 e2
    go_wp2_with fail
    refine (wpTexts3_same v1 v2 _ _ _ P3.out Q3.out).mono ?_; rintro e w4 ⟨rfl, hb4⟩
    have e4 := e3.trans (hb4.mono e3.size)
    have P4 := Lib.hid (P3.out.keep hb4)
    have Q4 := Lib.hid (Q3.out.keep hb4)
    have kl4 := kl3.keep hb4
    clear hb4 kl3 P3 Q3 e3
    obtain ⟨x1, x2, x3, x4⟩ := id kl4
    by_cases hy : layOkB size many = true
    · rw [hy] at H3
      go_wp2_with fail
      refine (H3.out _).mono ?_; rintro e w5 ⟨rfl, hb5⟩
      have e5 := e4.trans (hb5.mono e4.size)
      have P5 := Lib.hid (P4.out.keep hb5)
      have Q5 := Lib.hid (Q4.out.keep hb5)
      have kl5 := kl4.keep hb5
      clear x1 x2 x3 x4 hb5 kl4 P4 Q4 e4
      obtain ⟨x1, x2, x3, x4⟩ := id kl5
      by_cases ht : tokB l = true
      · rw [ht] at H4
        have hy1 : layOkB size 1 = true := by rw [layOkB_iff] at hy ⊢; omega
        rw [loL_one hy1 ht] at H5
        have hk6 : Box2 (w5.setCell ⟨w1.heap.size, 1, none⟩ (.int .i64 1)) w1.heap.size size 1 := ⟨by go_simp, by go_simp, by go_simp, by go_simp⟩
        have hlw : w.heap.size ≤ w1.heap.size := HW1.out
        have e6 : Below w.heap.size w (w5.setCell ⟨w1.heap.size, 1, none⟩ (.int .i64 1)) := e5.setCell (p := ⟨w1.heap.size, 1, none⟩) hlw _
        clear hy hy1 ht
        go_wp2_with fail
        refine (H4.out _).mono ?_; rintro e w6 ⟨rfl, rfl⟩
        go_wp2_with fail
        clear x1 x2 x3 x4
        obtain ⟨x1, x2, -, -⟩ := id hk6
        refine (H5.out _).mono ?_; rintro e w7 ⟨v3, rfl, ho7, hb7⟩
        have e7 := e6.trans (hb7.mono e6.size)
        obtain ⟨a3, cap3, rfl, -, -, hc3⟩ := own_strs (n := 1) rfl ho7.out
        obtain ⟨b3, off3, rfl, hcc3⟩ := hc3 (by omega)
        have z0 : w7.cell? ⟨b3, off3, none⟩ = some (.string (mkB l)) := hcc3 0 (by omega)
        have q1 : ((mkB l).toList == (mkB l).toList) = true := by simp
        clear hcc3 ho7
        go_wp2
        go_ret
        exact ⟨rfl, e7⟩
      · replace ht : tokB l = false := by simpa using ht
        rw [ht] at H4
        go_wp2_with fail
        refine (H4.out _).mono ?_; rintro e w6 ⟨rfl, rfl⟩
        go_wp2_with fail
        refine (wpTexts3_same v1 v2 _ _ _ P5.out Q5.out).mono ?_; rintro e w7 ⟨rfl, hb7⟩
        have e7 := e5.trans (hb7.mono e5.size)
        go_wp2
        go_ret
        exact ⟨rfl, e7⟩
    · replace hy : layOkB size many = false := by simpa using hy
      rw [hy] at H3
      go_wp2_with fail
      refine (H3.out _).mono ?_; rintro e w5 ⟨rfl, hb5⟩
      have e5 := e4.trans (hb5.mono e4.size)
      have P5 := Lib.hid (P4.out.keep hb5)
      have Q5 := Lib.hid (Q4.out.keep hb5)
      go_wp2_with fail
      refine (wpTexts3_same v1 v2 _ _ _ P5.out Q5.out).mono ?_; rintro e w7 ⟨rfl, hb7⟩
      have e7 := e5.trans (hb7.mono e5.size)
      go_wp2
      go_ret
      exact ⟨rfl, e7⟩
  · go_enter Try.func10, Try.ntmps10
    go_wp2
    go_ret
    exact ⟨rfl, Below.refl _ _⟩

end Go.Proofs.Yteglfdcoeogilaa.fnLayOne
