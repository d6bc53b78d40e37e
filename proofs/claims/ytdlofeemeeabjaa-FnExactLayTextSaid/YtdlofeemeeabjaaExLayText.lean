/-
  laws.FnExactLayText returns true at every layout and list of texts: both sides return the same, and the argument is as it was. No condition.
-/
import Derived.Test.YtdlofeemeeabjaaImplLt
import Derived.Test.YtdlofeemeeabjaaStoTo
import Derived.Test.YtdlofeemeeabjaaStoBox
namespace Go.Proofs.Ytdlofeemeeabjaa.exLayText
open Go.RowKit

set_option maxRecDepth 100000 in
set_option maxHeartbeats 2000000 in
theorem walk (lo hi : Int) (v : Value) (L : List (List UInt8)) (w : World) (h : Vls w v L.length (strF L)) (hs : ∀ i, (L.getD i []).length ≤ 9223372036854775807) :
    Calls Try.prog 6 #[.agg #[.int .i64 lo, .int .i64 hi], v] w fun e w' => e = .returned (.bool true) ∧ Below w.heap.size w w' := by
  have k := new_box w lo hi 50
  have hal : Below w.heap.size w (w.alloc (.cells #[.int .i64 lo, .int .i64 hi] 50)) := (Below.refl _ _).alloc (Nat.le_refl _) _
  have HV := Lib.hid (h.keep hal)
  have HZ := Lib.hid (szStr_any v L 1048576 _ (h.keep hal) hs (by omega) (by omega))
  have K0 := Lib.hid k
  obtain ⟨a, cap, rfl, hl, hm, -⟩ := h
  unfold maxLen at hm
  clear k
  go_enter Try.func6, Try.ntmps6
  go_wp2_with fail
  refine HZ.out.mono ?_; rintro e w1 ⟨z, rfl, z0, z1, hP, rfl⟩
  have HP := Lib.hid hP
  clear hP HZ
  by_cases hz : z < 0
  · go_wp2
    go_ret
    exact ⟨rfl, hal⟩
  · obtain ⟨hn, hlen⟩ := HP.out (by omega)
    obtain ⟨n, hnn⟩ : ∃ n, L.length = n := ⟨_, rfl⟩
    rw [hnn] at HV hn hlen hl ⊢
    obtain ⟨S, hS⟩ : ∃ S : Nat → List UInt8, S = fun i => L.getD i [] := ⟨_, rfl⟩
    have hSF : strF L = sF S := by rw [hS]
    have hlen2 : ∀ i, i < n → (S i).length ≤ 9000000 := fun i hi => by have := hlen i hi; rw [hS]; show (L.getD i []).length ≤ _; omega
    rw [hSF] at HV
    clear hs hlen HP hnn hSF hS
    obtain ⟨B, hB⟩ : ∃ B, ltS lo hi S n = B := ⟨_, rfl⟩
    obtain ⟨q, hq⟩ : ∃ q, ltB lo hi S n = q := ⟨_, rfl⟩
    have H1 : Hid (∀ W u, Vls W u n (sF S) → Calls Try.prog 15 #[.agg #[.int .i64 lo, .int .i64 hi], u] W fun e w' => e = .returned (.tuple #[.string (mkB B), .bool q]) ∧ Below W.heap.size W w') := fun W u hu => by
      have := specLayText_any lo hi u n S W hu hlen2 hn; rwa [hB, hq] at this
    have H2 : Hid (∀ W u, Vls W u n (sF S) → Calls Try.prog 12 #[.agg #[.int .i64 lo, .int .i64 hi], u] W fun e w' => e = .returned (.tuple #[.string (mkB B), .bool q]) ∧ Below W.heap.size W w') := fun W u hu => by
      have := implLayText_any lo hi u n S W hu hlen2 hn; rwa [hB, hq] at this
    have H3 : Hid (∀ W, Vls W (.slice a n cap) n (sF S) → Calls Try.prog 25 #[.slice a n cap] W (ToV W n (sF S))) := fun W hu => toStringV _ n S W hu hn
    have H4 : Hid (∀ W u u', Vls W u n (sF S) → Vls W u' n (sF S) → Calls Try.prog 26 #[u, u'] W fun e w' => e = .returned (.bool true) ∧ Below W.heap.size W w') := fun W u u' hu hu' => eqStringV u u' n S W hu hu'
    have q1 : ((mkB B).toList == (mkB B).toList) = true := by simp
    have E0 := Lib.hid hal
    clear hB hq hlen2 hal
    obtain ⟨x1, x2, -, -⟩ := id K0.out
    go_wp2_with fail
    refine (toLay_any lo hi _).mono ?_; rintro e w2 ⟨rfl, hb⟩
    have E2 := Lib.hid (E0.out.trans (hb.mono E0.out.size))
    have V2 := Lib.hid (HV.out.keep hb)
    have K2 := Lib.hid (K0.out.keep hb)
    clear x1 x2 HV K0 hb E0
    go_wp2_with fail
    refine (H3.out _ V2.out).mono ?_; rintro e w3 ⟨nb, rfl, hr, hb⟩
    have E3 := Lib.hid (E2.out.trans (hb.mono E2.out.size))
    have V3 := Lib.hid (V2.out.keep hb)
    have K3 := Lib.hid (K2.out.keep hb)
    have R3 := Lib.hid hr.out.vls
    clear hr V2 K2 hb E2
    go_wp2_with fail
    refine (H1.out _ _ R3.out).mono ?_; rintro e w4 ⟨rfl, hb⟩
    have E4 := Lib.hid (E3.out.trans (hb.mono E3.out.size))
    have V4 := Lib.hid (V3.out.keep hb)
    have K4 := Lib.hid (K3.out.keep hb)
    clear R3 V3 K3 hb E3
    go_wp2_with fail
    refine (H3.out _ V4.out).mono ?_; rintro e w5 ⟨nc, rfl, hr, hb⟩
    have E5 := Lib.hid (E4.out.trans (hb.mono E4.out.size))
    have V5 := Lib.hid (V4.out.keep hb)
    have K5 := Lib.hid (K4.out.keep hb)
    have R5 := Lib.hid hr.out.vls
    clear hr V4 K4 hb E4
    obtain ⟨x1, x2, -, -⟩ := id K5.out
    go_wp2_with fail
    refine (toLay_any lo hi _).mono ?_; rintro e w6 ⟨rfl, hb⟩
    have E6 := Lib.hid (E5.out.trans (hb.mono E5.out.size))
    have V6 := Lib.hid (V5.out.keep hb)
    have R6 := Lib.hid (R5.out.keep hb)
    clear x1 x2 V5 R5 K5 hb E5
    go_wp2_with fail
    refine (H2.out _ _ R6.out).mono ?_; rintro e w7 ⟨rfl, hb⟩
    have E7 := Lib.hid (E6.out.trans (hb.mono E6.out.size))
    have V7 := Lib.hid (V6.out.keep hb)
    have R7 := Lib.hid (R6.out.keep hb)
    clear V6 R6 hb E6
    go_wp2_with fail
    refine (H3.out _ V7.out).mono ?_; rintro e w8 ⟨nd, rfl, hr, hb⟩
    have E8 := Lib.hid (E7.out.trans (hb.mono E7.out.size))
    have R8 := Lib.hid (R7.out.keep hb)
    have T8 := Lib.hid hr.out.vls
    clear hr V7 R7 hb E7
    go_wp2_with fail
    refine (H4.out _ _ _ R8.out T8.out).mono ?_; rintro e w9 ⟨rfl, hb⟩
    have E9 := Lib.hid (E8.out.trans (hb.mono E8.out.size))
    clear hb E8
    go_wp2
    go_ret
    exact ⟨rfl, E9.out⟩

end Go.Proofs.Ytdlofeemeeabjaa.exLayText
