/-
  laws.FnTextBack returns true at every code: the walk of the law. No condition.
-/
import Derived.Test.YtehpmdmfolmaoabDrawTextW
import Derived.Test.YtehpmdmfolmaoabImplWrite
import Derived.Test.YtehpmdmfolmaoabRead
import Derived.Test.YtehpmdmfolmaoabTextLaws
namespace Go.Proofs.Ytehpmdmfolmaoab.fnTextBack
open Go.RowKit

theorem tokB_rdL {l : List UInt8} {lo hi : Nat} (h : tokB l = true) : tokB (rdL l lo hi) = true := by
  refine tokB_iff.2 ⟨?_, fun c hc => (tokB_iff.1 h).2 c ?_⟩
  · rw [rdL_len]; have := tokB_len h; omega
  · unfold rdL at hc
    exact List.mem_of_mem_take (List.mem_of_mem_drop hc)

set_option maxRecDepth 100000 in
set_option maxHeartbeats 4000000 in
theorem walk (v : Value) (len : Nat) (w : World) (h : Byt w v len) :
    Calls Try.prog 5 #[v] w fun e w' => e = .returned (.bool true) ∧ Below w.heap.size w w' := by
  have HB := Lib.hid h
  have hlen : len ≤ 9223372036854775807 := by obtain ⟨z, a, cap, -, h1, h2, -⟩ := h; unfold maxLen at h2; omega
  obtain ⟨z, ad, cap, rfl, -, -, -⟩ := h
  by_cases hL : len ≤ 1048576
  · go_enter Try.func5, Try.ntmps5
    go_wp2_with fail
    refine (drawTextWrite_any _ len _ HB.out).mono ?_; rintro e w1 ⟨l, a, d, rfl, hl, hd, ⟨ha0, ha1⟩, hb1⟩
    have H1 := Lib.hid (fun W => specTextWrite_any l a d (by omega) (by omega) W)
    have H2 := Lib.hid (fun W => implTextWrite_any l a d (by omega) (by omega) W)
    have z2 : (mkB l).size = l.length := mkB_size l
    have z3 : (mkB d).size = d.length := mkB_size d
    by_cases hok : twB l a d = true
    · have ht : tokB l = true := by unfold twB at hok; simp only [Bool.and_eq_true] at hok; exact hok.1
      have hw : wokB a d = true := by unfold twB at hok; simp only [Bool.and_eq_true] at hok; exact hok.2
      obtain ⟨hw0, hw1, hw2, hw3⟩ := wokB_iff.1 hw
      obtain ⟨n, rfl⟩ : ∃ n : Nat, a = n := ⟨a.toNat, by omega⟩
      have hd0 : 0 < d.length := by
        rcases d with _ | ⟨x, d⟩
        · exact absurd rfl hw1
        · simp
      have htX : tokB (wrL l n d) = true := tokB_wrL ht hw2 (by omega)
      have hx : twS l n d = wrL l n d := by rw [twS_ok ht, if_pos hw, Int.toNat_natCast]
      have hXl : (wrL l n d).length = max l.length (n + d.length) := wrL_len l n d
      have hll := tokB_len ht
      rw [hok, hx] at H1 H2
      by_cases c : n + d.length ≤ l.length
      · have hwl : (rdL l n (n + d.length)).length = d.length := by rw [rdL_len]; omega
        have hwas : wokB n (rdL l n (n + d.length)) = true := wokB_iff.2 ⟨hw0, (by intro e0; rw [e0] at hwl; simp at hwl; omega), tokB_rdL ht, by rw [hwl]; omega⟩
        have hz : twS (wrL l n d) n (rdL l n (n + d.length)) = l := by rw [twS_ok htX, if_pos hwas, Int.toNat_natCast, wr_back l n d c]
        have hz2 : twB (wrL l n d) n (rdL l n (n + d.length)) = true := by rw [twB_ok htX, hwas]
        have H3 := fun W => implTextWrite_any (wrL l n d) n (rdL l n (n + d.length)) (by rw [hXl]; omega) (by omega) W
        have H4 := fun W => implTextRead_any l n ((n : Int) + d.length) (by omega) W
        have hhi : (n : Int) + d.length = ((n + d.length : Nat) : Int) := by omega
        rw [hhi, trS_yes ht (spanOkB_true ⟨by omega, by omega, by omega⟩), ← hhi] at H4
        rw [hz, hz2] at H3
        have G3 := Lib.hid H3
        have G4 := Lib.hid H4
        clear H3 H4 hhi hz hz2 hwas hx hok ht htX hw hw0 hw1 hw2 hXl
        generalize wrL l n d = X at *
        generalize rdL l n (n + d.length) = R at *
        have q1 : ((mkB X).toList == (mkB X).toList) = true := by simp
        have q2 : ((mkB l).toList == (mkB l).toList) = true := by simp
        have z4 : (mkB R).size = d.length := by rw [mkB_size, hwl]
        clear hwl
        go_wp2_with fail
        refine (H2.out _).mono ?_; rintro e w2 ⟨rfl, hb2⟩
        go_wp2_with fail
        refine (H1.out _).mono ?_; rintro e w3 ⟨rfl, hb3⟩
        have e3 := hb1.trans ((hb2.trans (hb3.mono hb2.size)).mono hb1.size)
        clear hb1 hb2 hb3
        go_wp2_with fail
        refine (G4.out _).mono ?_; rintro e w4 ⟨rfl, hb4⟩
        have e4 := e3.trans (hb4.mono e3.size)
        go_wp2_with fail
        refine (G3.out _).mono ?_; rintro e w5 ⟨rfl, hb5⟩
        have e5 := e4.trans (hb5.mono e4.size)
        go_wp2
        go_ret
        exact ⟨rfl, e5⟩
      · clear hx hok ht htX hw hw0 hw1 hw2 hXl
        generalize wrL l n d = X at *
        have q1 : ((mkB X).toList == (mkB X).toList) = true := by simp
        go_wp2_with fail
        refine (H2.out _).mono ?_; rintro e w2 ⟨rfl, hb2⟩
        go_wp2_with fail
        refine (H1.out _).mono ?_; rintro e w3 ⟨rfl, hb3⟩
        have e3 := hb1.trans ((hb2.trans (hb3.mono hb2.size)).mono hb1.size)
        go_wp2
        go_ret
        exact ⟨rfl, e3⟩
    · replace hok : twB l a d = false := by simpa using hok
      rw [hok] at H1 H2
      clear hok
      generalize twS l a d = X at *
      have q1 : ((mkB X).toList == (mkB X).toList) = true := by simp
      go_wp2_with fail
      refine (H2.out _).mono ?_; rintro e w2 ⟨rfl, hb2⟩
      go_wp2_with fail
      refine (H1.out _).mono ?_; rintro e w3 ⟨rfl, hb3⟩
      have e3 := hb1.trans ((hb2.trans (hb3.mono hb2.size)).mono hb1.size)
      go_wp2
      go_ret
      exact ⟨rfl, e3⟩
  · go_enter Try.func5, Try.ntmps5
    go_wp2
    go_ret
    exact ⟨rfl, Below.refl _ _⟩

end Go.Proofs.Ytehpmdmfolmaoab.fnTextBack
