/-
  laws.FnTextSplit returns true at every pair of codes: the walk of the law. No condition.
-/
import Derived.Test.YtehpmdmfolmaoabDrawTextW
import Derived.Test.YtehpmdmfolmaoabImplWrite
import Derived.Test.YtehpmdmfolmaoabTextLaws
namespace Go.Proofs.Ytehpmdmfolmaoab.fnTextSplit
open Go.RowKit

set_option maxRecDepth 100000 in
set_option maxHeartbeats 4000000 in
theorem walk (v : Value) (len : Nat) (v2 : Value) (len2 : Nat) (w : World) (h : Byt w v len) (h2 : Byt w v2 len2) :
    Calls Try.prog 6 #[v, v2] w fun e w' => e = .returned (.bool true) ∧ Below w.heap.size w w' := by
  have HB := Lib.hid h
  have hlen : len ≤ 9223372036854775807 := by obtain ⟨z, a, cap, -, h1, h2, -⟩ := h; unfold maxLen at h2; omega
  obtain ⟨z, ad, cap, rfl, -, -, -⟩ := h
  have hlen2 : len2 ≤ 9223372036854775807 := by obtain ⟨z, a, cap, -, h1, h2, -⟩ := h2; unfold maxLen at h2; omega
  obtain ⟨z2, ad2, cap2, rfl, -, -, -⟩ := h2
  by_cases hL : len ≤ 1048576
  · by_cases hL2 : len2 ≤ 1048576
    · go_enter Try.func6, Try.ntmps6
      go_wp2_with fail
      refine (drawTextWrite_any _ len _ HB.out).mono ?_; rintro e w1 ⟨l, a, d, rfl, hl, hd, ⟨ha0, ha1⟩, hb1⟩
      have H1 := Lib.hid (fun W => specTextWrite_any l a d (by omega) (by omega) W)
      have H2 := Lib.hid (fun W => implTextWrite_any l a d (by omega) (by omega) W)
      have z2 : (mkB l).size = l.length := mkB_size l
      have z3 : (mkB d).size = d.length := mkB_size d
      by_cases hok : twB l a d = true
      · have ht : tokB l = true := by unfold twB at hok; simp only [Bool.and_eq_true] at hok; exact hok.1
        have hw : wokB a d = true := by unfold twB at hok; simp only [Bool.and_eq_true] at hok; exact hok.2
        obtain ⟨hw0, hw1, hw2, hw3⟩ := wokB_iff.1 hw
        obtain ⟨n, rfl⟩ : ∃ n : Nat, a = n := ⟨a.toNat, by omega⟩
        have hx : twS l n d = wrL l n d := by rw [twS_ok ht, if_pos hw, Int.toNat_natCast]
        have hll := tokB_len ht
        rw [hok, hx] at H1 H2
        by_cases c : 2 ≤ d.length
        · obtain ⟨K, hKK⟩ : ∃ K, 1 + len2 % (d.length - 1) = K := ⟨_, rfl⟩
          have hK1 : 1 ≤ K := by omega
          have hK2 : K < d.length := by
            have := Nat.mod_lt len2 (show 0 < d.length - 1 by omega)
            omega
          have hKi : (1 : Int) + (len2 : Int) % ((d.length : Int) - 1) = K := by
            rw [← hKK, show ((d.length : Int) - 1) = ((d.length - 1 : Nat) : Int) by omega, ← Int.natCast_emod]
            omega
          have t1 : (d.take K).length = K := by rw [List.length_take]; omega
          have t2 : (d.drop K).length = d.length - K := by rw [List.length_drop]
          have o1 : tokB (d.take K) = true := tokB_iff.2 ⟨by omega, fun c hc => (tokB_iff.1 hw2).2 c (List.mem_of_mem_take hc)⟩
          have o2 : tokB (d.drop K) = true := tokB_iff.2 ⟨by omega, fun c hc => (tokB_iff.1 hw2).2 c (List.mem_of_mem_drop hc)⟩
          have k1 : wokB n (d.take K) = true := wokB_iff.2 ⟨hw0, (by intro e0; rw [e0] at t1; simp at t1; omega), o1, by rw [t1]; omega⟩
          have k2 : wokB ((n : Int) + K) (d.drop K) = true := wokB_iff.2 ⟨by omega, (by intro e0; rw [e0] at t2; simp at t2; omega), o2, by rw [t2]; omega⟩
          have htA : tokB (wrL l n (d.take K)) = true := tokB_wrL ht o1 (by omega)
          have hAl : (wrL l n (d.take K)).length = max l.length (n + (d.take K).length) := wrL_len _ _ _
          have H3 := fun W => implTextWrite_any l n (d.take K) (by omega) (by omega) W
          have H4 := fun W => implTextWrite_any (wrL l n (d.take K)) ((n : Int) + K) (d.drop K) (by rw [hAl]; omega) (by omega) W
          rw [twS_ok ht, if_pos k1, twB_ok ht, k1, Int.toNat_natCast] at H3
          rw [twS_ok htA, if_pos k2, twB_ok htA, k2, show ((n : Int) + K).toNat = n + K by omega, wr_split l n K d (by omega)] at H4
          have G3 := Lib.hid H3
          have G4 := Lib.hid H4
          have x1 : (mkB d).extract 0 K = mkB (d.take K) := by rw [mkB_extract]; rfl
          have x2 : (mkB d).extract K d.length = mkB (d.drop K) := by rw [mkB_extract, List.take_of_length_le (Nat.le_refl _)]
          clear H3 H4 hKK t1 t2 o1 o2 k1 k2 htA hAl hx hok ht hw hw0 hw1 hw2
          generalize wrL l n d = X at *
          generalize wrL l n (d.take K) = Y at *
          generalize d.take K = D1 at *
          generalize d.drop K = D2 at *
          have q1 : ((mkB X).toList == (mkB X).toList) = true := by simp
          go_wp2_with fail
          refine (H2.out _).mono ?_; rintro e w2 ⟨rfl, hb2⟩
          go_wp2_with fail
          refine (H1.out _).mono ?_; rintro e w3 ⟨rfl, hb3⟩
          have e3 := hb1.trans ((hb2.trans (hb3.mono hb2.size)).mono hb1.size)
          clear hb1 hb2 hb3
          go_wp2_with fail
          refine (G3.out _).mono ?_; rintro e w4 ⟨rfl, hb4⟩
          have e4 := e3.trans (hb4.mono e3.size)
          go_wp2_with fail
          refine (G4.out _).mono ?_; rintro e w5 ⟨rfl, hb5⟩
          have e5 := e4.trans (hb5.mono e4.size)
          go_wp2
          go_ret
          exact ⟨rfl, e5⟩
        · clear hx hok ht hw hw0 hw1 hw2
          generalize wrL l n d = X at *
          have q1 : ((mkB X).toList == (mkB X).toList) = true := by simp
          go_wp2_with fail
          refine (H2.out _).mono ?_; rintro e w2 ⟨rfl, hb2⟩
          go_wp2_with fail
          refine (H1.out _).mono ?_; rintro e w3 ⟨rfl, hb3⟩
          have e3 := hb1.trans ((hb2.trans (hb3.mono hb2.size)).mono hb1.size)
          go_wp2
          go_ret
          exact ⟨rfl, e3⟩
      · replace hok : twB l a d = false := by simpa using hok
        rw [hok] at H1 H2
        clear hok
        generalize twS l a d = X at *
        have q1 : ((mkB X).toList == (mkB X).toList) = true := by simp
        go_wp2_with fail
        refine (H2.out _).mono ?_; rintro e w2 ⟨rfl, hb2⟩
        go_wp2_with fail
        refine (H1.out _).mono ?_; rintro e w3 ⟨rfl, hb3⟩
        have e3 := hb1.trans ((hb2.trans (hb3.mono hb2.size)).mono hb1.size)
        go_wp2
        go_ret
        exact ⟨rfl, e3⟩
    · go_enter Try.func6, Try.ntmps6
      go_wp2
      go_ret
      exact ⟨rfl, Below.refl _ _⟩
  · go_enter Try.func6, Try.ntmps6
    go_wp2
    go_ret
    exact ⟨rfl, Below.refl _ _⟩

end Go.Proofs.Ytehpmdmfolmaoab.fnTextSplit
