/-
  laws.FnLayBent returns true at every code: the walk of the law. No condition.
-/
import Derived.Test.YtjbkahfbaploaaaDrawLayOk
import Derived.Test.YtjbkahfbaploaaaImplLof
import Derived.Test.YtjbkahfbaploaaaPartCollect
import Derived.Test.YtjbkahfbaploaaaImplLt
import Derived.Deep.RegionHeld3
namespace Go.Proofs.Ytjbkahfbaploaaa.fnLayBent
open Go.RowKit

set_option maxHeartbeats 2000000 in
theorem parts_bad (size many lo hi : Int) (hy : layOkB size many = false) (w : World) :
    Calls Try.prog 11 #[.agg #[.int .i64 size, .int .i64 many], .agg #[.int .i64 lo, .int .i64 hi]] w fun e w' => e = .returned (.slice none 0 0) ∧ Below w.heap.size w w' := by
  have hok := fun W => implLayOk_any size many W
  have hal : Below w.heap.size w ((w.alloc (.cells #[.int .i64 size, .int .i64 many] 24)).alloc (.cells #[.int .i64 lo, .int .i64 hi] 36)) := ((Below.refl _ _).alloc (Nat.le_refl _) _).alloc (by simp) _
  rw [hy] at hok
  have HO := Lib.hid hok
  clear hok hy
  go_enter Try.func11, Try.ntmps11
  go_wp2_with fail
  refine (HO.out _).mono ?_; rintro e w1 ⟨rfl, hb1⟩
  have e1 := hal.trans (hb1.mono hal.size)
  go_wp2
  go_ret
  exact ⟨rfl, e1⟩

set_option maxHeartbeats 2000000 in
theorem of_bad (size many : Int) (s : ByteArray) (hy : layOkB size many = false) (w : World) :
    Calls Try.prog 12 #[.agg #[.int .i64 size, .int .i64 many], .string s] w fun e w' => e = .returned (.slice none 0 0) ∧ Below w.heap.size w w' := by
  have hok := fun W => implLayOk_any size many W
  have hal : Below w.heap.size w (w.alloc (.cells #[.int .i64 size, .int .i64 many] 24)) := (Below.refl _ _).alloc (Nat.le_refl _) _
  rw [hy] at hok
  have HO := Lib.hid hok
  clear hok hy
  go_enter Try.func12, Try.ntmps12
  go_wp2_with fail
  refine (HO.out _).mono ?_; rintro e w1 ⟨rfl, hb1⟩
  have e1 := hal.trans (hb1.mono hal.size)
  go_wp2
  go_ret
  exact ⟨rfl, e1⟩

set_option maxHeartbeats 2000000 in
theorem long_bad (size many : Int) (v : Value) (hy : layOkB size many = false) (w : World) :
    Calls Try.prog 13 #[.agg #[.int .i64 size, .int .i64 many], v] w fun e w' => e = .returned (.int .i64 (-1)) ∧ Below w.heap.size w w' := by
  have hok := fun W => implLayOk_any size many W
  have hal : Below w.heap.size w (w.alloc (.cells #[.int .i64 size, .int .i64 many] 24)) := (Below.refl _ _).alloc (Nat.le_refl _) _
  rw [hy] at hok
  have HO := Lib.hid hok
  clear hok hy
  go_enter Try.func13, Try.ntmps13
  go_wp2_with fail
  refine (HO.out _).mono ?_; rintro e w1 ⟨rfl, hb1⟩
  have e1 := hal.trans (hb1.mono hal.size)
  go_wp2
  go_ret
  exact ⟨rfl, e1⟩

theorem text_bad (size many : Int) (b off cap : Nat) (w : World) (hcap : 1 ≤ cap) (hmx : cap ≤ maxLen) (hy : layOkB size many = false) (hc : w.cell? ⟨b, off, none⟩ = some (.string (mkB [97]))) :
    Calls Try.prog 9 #[.agg #[.int .i64 size, .int .i64 many], .slice (some ⟨b, off, none⟩) 1 cap] w fun e w' => e = .returned (.tuple #[.string (mkB []), .bool false]) ∧ Below w.heap.size w w' := by
  have hb : ltB size many (fun _ => [97]) 1 = false := ltB_neg (by unfold ltN; rw [llF_form (fun c => by rw [hy] at c; exact absurd c.1 (by simp))]; omega)
  have hv : Vls w (.slice (some ⟨b, off, none⟩) 1 cap) 1 (sF fun _ => [97]) := ⟨_, _, rfl, hcap, hmx, fun _ => ⟨b, off, rfl, fun i hi => (show i = 0 by omega) ▸ hc⟩⟩
  have := implLayText_any size many _ 1 (fun _ => [97]) w hv (fun _ _ => by simp) (by omega)
  rwa [ltS_no hb, hb] at this

set_option maxRecDepth 100000 in
set_option maxHeartbeats 8000000 in
theorem walk (v : Value) (len : Nat) (w : World) (h : Byt w v len) :
    Calls Try.prog 3 #[v] w fun e w' => e = .returned (.bool true) ∧ Below w.heap.size w w' := by
  have HB := Lib.hid h
  have hlen : len ≤ 9223372036854775807 := by obtain ⟨z, a, cap, -, h1, h2, -⟩ := h; unfold maxLen at h2; omega
  obtain ⟨z, a, cap, rfl, -, -, -⟩ := h
  by_cases hL : len ≤ 1048576
  · go_enter Try.func3, Try.ntmps3
    go_wp2_with fail
    refine (drawLayOk_any _ len _ HB.out).mono ?_; rintro e w1 ⟨size, many, rfl, hb1⟩
    have H1 := Lib.hid (fun W => implLayOk_any size many W)
    have H2 := Lib.hid (fun W => specLayOk_any size many W)
    have kl := new_box w1 size many 24
    have hal1 : Below w1.heap.size w1 (w1.alloc (.cells #[.int .i64 size, .int .i64 many] 24)) := (Below.refl _ _).alloc (Nat.le_refl _) _
    have e1 := hb1.trans (hal1.mono hb1.size)
    obtain ⟨x1, x2, -, -⟩ := id kl
    by_cases hy : layOkB size many = true
    · rw [hy] at H1 H2
      go_wp2_with fail
      refine (H1.out _).mono ?_; rintro e w2 ⟨rfl, hb2⟩
      have e2 := e1.trans (hb2.mono e1.size)
      have k2 := kl.keep hb2
      clear x1 x2
      obtain ⟨x1, x2, -, -⟩ := id k2
      go_wp2_with fail
      refine (H2.out _).mono ?_; rintro e w3 ⟨rfl, hb3⟩
      have e3 := e2.trans (hb3.mono e2.size)
      have k3 := k2.keep hb3
      clear x1 x2
      obtain ⟨x1, x2, -, -⟩ := id k3
      go_wp2_with fail
      refine (H2.out _).mono ?_; rintro e w4 ⟨rfl, hb4⟩
      have e4 := e3.trans (hb4.mono e3.size)
      go_wp2
      go_ret
      exact ⟨rfl, e4⟩
    · replace hy : layOkB size many = false := by simpa using hy
      have HA := Lib.hid (fun W => implLayAt_any size many 0 W)
      have hA1 : laObj size many 0 = -1 := if_neg (fun c => by rw [hy] at c; exact absurd c.1 (by simp))
      have hA2 : laAt size many 0 = -1 := if_neg (fun c => by rw [hy] at c; exact absurd c.1 (by simp))
      rw [hA1, hA2] at HA
      have HBk := Lib.hid (fun W => implLayBack_any size many 0 0 W)
      have hB1 : lbF size many 0 0 = -1 := if_neg (fun c => by rw [hy] at c; exact absurd c.1 (by simp))
      rw [hB1] at HBk
      have HP := Lib.hid (fun W => parts_bad size many 0 1 hy W)
      have HO := Lib.hid (fun s W => of_bad size many s hy W)
      have HLg := Lib.hid (fun v W => long_bad size many v hy W)
      have HT := Lib.hid (fun b off cap W h1 h2 hc => text_bad size many b off cap W h1 h2 hy hc)
      rw [hy] at H1 H2
      clear hy hA1 hA2 hB1
      go_wp2_with fail
      refine (H1.out _).mono ?_; rintro e w2 ⟨rfl, hb2⟩
      have e2 := e1.trans (hb2.mono e1.size)
      have k2 := kl.keep hb2
      clear x1 x2
      obtain ⟨x1, x2, -, -⟩ := id k2
      go_wp2_with fail
      refine (H2.out _).mono ?_; rintro e w3 ⟨rfl, hb3⟩
      have e3 := e2.trans (hb3.mono e2.size)
      have k3 := k2.keep hb3
      clear x1 x2
      obtain ⟨x1, x2, -, -⟩ := id k3
      go_wp2_with fail
      refine (HA.out _).mono ?_; rintro e w4 ⟨rfl, hb4⟩
      have e4 := e3.trans (hb4.mono e3.size)
      have k4 := k3.keep hb4
      clear x1 x2 kl k2 k3 e1 e2 e3 hb2 hb3 hb4 hal1
      obtain ⟨x1, x2, -, -⟩ := id k4
      go_wp2_with fail
      have hal5 : Below w4.heap.size w4 (w4.alloc (.cells #[.string ⟨#[97]⟩] 9)) := (Below.refl _ _).alloc (Nat.le_refl _) _
      have hc5 : (w4.alloc (.cells #[.string ⟨#[97]⟩] 9)).cell? ⟨w4.heap.size, 0, none⟩ = some (.string (mkB [97])) := by go_simp; rfl
      refine (HT.out w4.heap.size 0 1 _ (by omega) (by unfold maxLen; omega) hc5).mono ?_; rintro e w6 ⟨rfl, hb6⟩
      have hb46 := hal5.trans (hb6.mono hal5.size)
      have e6 := e4.trans (hb46.mono e4.size)
      have k6 := k4.keep hb46
      clear x1 x2 hc5 hal5 hb6 hb46
      obtain ⟨x1, x2, -, -⟩ := id k6
      go_wp2_with fail
      refine (HBk.out _).mono ?_; rintro e w7 ⟨rfl, hb7⟩
      have e7 := e6.trans (hb7.mono e6.size)
      have k7 := k6.keep hb7
      clear x1 x2 hb7
      obtain ⟨x1, x2, -, -⟩ := id k7
      go_wp2_with fail
      refine (HP.out _).mono ?_; rintro e w8 ⟨rfl, hb8⟩
      have e8 := e7.trans (hb8.mono e7.size)
      have k8 := k7.keep hb8
      clear x1 x2 hb8
      obtain ⟨x1, x2, -, -⟩ := id k8
      go_wp2_with fail
      refine (HO.out _ _).mono ?_; rintro e w9 ⟨rfl, hb9⟩
      have e9 := e8.trans (hb9.mono e8.size)
      have k9 := k8.keep hb9
      clear x1 x2 hb9
      obtain ⟨x1, x2, -, -⟩ := id k9
      go_wp2_with fail
      have q1 : (mkB []).toList = [] := by
        unfold ByteArray.toList
        rw [ByteArray.toList.loop, if_neg (by rw [mkB_size]; simp)]
        rfl
      have hal9 : Below w9.heap.size w9 (w9.alloc (.cells #[.int .i64 1] 3)) := (Below.refl _ _).alloc (Nat.le_refl _) _
      have e9' := e9.trans (hal9.mono e9.size)
      refine (HLg.out _ _).mono ?_; rintro e w10 ⟨rfl, hb10⟩
      have e10 := e9'.trans (hb10.mono e9'.size)
      go_wp2
      go_ret
      exact ⟨rfl, e10⟩
  · go_enter Try.func3, Try.ntmps3
    go_wp2
    go_ret
    exact ⟨rfl, Below.refl _ _⟩

end Go.Proofs.Ytjbkahfbaploaaa.fnLayBent
