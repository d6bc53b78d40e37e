/-
  laws.FnTextLong returns true at every code: the walk of the law. No condition.
-/
import Derived.Test.YtehpmdmfolmaoabDrawTextA
import Derived.Test.YtehpmdmfolmaoabImplAll
namespace Go.Proofs.Ytehpmdmfolmaoab.fnTextLong
open Go.RowKit

theorem getD_len {P : List Pch} (h : ∀ p ∈ P, p.2.length ≤ 49) (i : Nat) : (P.getD i (0, [])).2.length ≤ 49 := by
  by_cases hi : i < P.length
  · rw [List.getD_eq_getElem?_getD, List.getElem?_eq_getElem hi]; exact h _ (List.getElem_mem hi)
  · rw [List.getD_eq_getElem?_getD, List.getElem?_eq_none (by omega)]; simp

/-- A step of edits that all can be done. -/
theorem run_step {P : List Pch} {l X L : List UInt8} {n k : Nat} (hn : runE (edF P) n l = some X) (hk : k < n) (hL : runE (edF P) k l = some L) :
    ∃ (a : Nat) (d : List UInt8), P.getD k (0, []) = ((a : Int), d) ∧ wokB a d = true ∧ runE (edF P) (k + 1) l = some (wrL L a d) := by
  have hs : runE (edF P) (k + 1) l = wrF (P.getD k (0, [])).1 (P.getD k (0, [])).2 L := by
    show (runE (edF P) k l).bind (edF P k) = _
    rw [hL]; rfl
  have hnn : runE (edF P) (k + 1) l ≠ none := fun h => by
    have := runE_none h n (by omega)
    rw [this] at hn; cases hn
  generalize P.getD k (0, []) = s at *
  obtain ⟨pa, pd⟩ := s
  simp only at hs
  by_cases hw : wokB pa pd = true
  · obtain ⟨h0, -, -, -⟩ := wokB_iff.1 hw
    obtain ⟨m, rfl⟩ : ∃ m : Nat, pa = m := ⟨pa.toNat, by omega⟩
    rw [wrF_yes hw, Int.toNat_natCast] at hs
    exact ⟨m, pd, rfl, hw, hs⟩
  · rw [wrF_no (by simpa using hw)] at hs
    exact absurd hs hnn

set_option maxRecDepth 100000 in
set_option maxHeartbeats 8000000 in
theorem walk (v : Value) (len : Nat) (w : World) (h : Byt w v len) :
    Calls Try.prog 4 #[v] w fun e w' => e = .returned (.bool true) ∧ Below w.heap.size w w' := by
  have HB := Lib.hid h
  have hlen : len ≤ 9223372036854775807 := by obtain ⟨z, a, cap, -, h1, h2, -⟩ := h; unfold maxLen at h2; omega
  obtain ⟨z, ad, cap, rfl, -, -, -⟩ := h
  by_cases hL : len ≤ 1048576
  · go_enter Try.func4, Try.ntmps4
    go_wp2_with fail
    refine (drawTextAll_any _ len _ HB.out).mono ?_; rintro e w1 ⟨l, _, P, rfl, ⟨G, capP, rfl⟩, hl, hp, hP5, hPd, hb1⟩
    have HPd := Lib.hid (getD_len hPd)
    have H1 := Lib.hid (fun W h => specTextAll_any (.slice (some ⟨G, 0, none⟩) P.length capP) P l W h (by omega) (fun i => by have := getD_len hPd i; omega))
    have H2 := Lib.hid (fun W h => implTextAll_any (.slice (some ⟨G, 0, none⟩) P.length capP) P l W h (by omega) (fun i => by have := getD_len hPd i; omega) (by omega))
    have HP1 := Lib.hid hp
    have z2 : (mkB l).size = l.length := mkB_size l
    clear hp hPd
    go_wp2_with fail
    refine (H2.out _ HP1.out).mono ?_; rintro e w2 ⟨rfl, hb2⟩
    have HP2 := Lib.hid (HP1.out.keep hb2)
    go_wp2_with fail
    refine (H1.out _ HP2.out).mono ?_; rintro e w3 ⟨rfl, hb3⟩
    have HP3 := Lib.hid (HP2.out.keep hb3)
    have e3 := hb1.trans ((hb2.trans (hb3.mono hb2.size)).mono hb1.size)
    clear hb1 hb2 hb3 HP1 HP2 H1 H2
    by_cases hok : edB (edF P) P.length l = true
    · have ht : tokB l = true := by unfold edB at hok; simp only [Bool.and_eq_true] at hok; exact hok.1
      obtain ⟨X, hX⟩ : ∃ X, runE (edF P) P.length l = some X := by
        unfold edB at hok
        simp only [Bool.and_eq_true] at hok
        exact Option.isSome_iff_exists.1 hok.2
      have hS : edS (edF P) P.length l = X := by unfold edS; rw [if_pos ht, hX]; rfl
      have htX := runE_tok ht hX
      have H5 : Hid (∀ W, Calls Try.prog 16 #[.string (mkB X)] W fun e w' => e = .returned (.bool true) ∧ W = w') := fun W => by
        have := implTextOk_any (mkB X) (by rw [mkB_size]; have := tokB_len htX; omega) W
        rw [mkB_toList, htX] at this; exact this
      have HXX := Lib.hid hX
      have HT := Lib.hid ht
      have hll := tokB_len ht
      rw [hok, hS]
      clear hok hS hX ht htX
      have q1 : ((mkB X).toList == (mkB X).toList) = true := by simp
      have z1 : (mkB X).size = X.length := mkB_size X
      obtain ⟨a0, cap0, hv0, hc1, hc2, -, hcc⟩ := HP3.out
      simp only [Value.slice.injEq] at hv0
      obtain ⟨rfl, -, rfl⟩ := hv0
      have HCC : Hid (∀ i, i < P.length → w3.cell? ⟨G, i * 2, none⟩ = some (.int .i64 (P.getD i (0, [])).1) ∧ w3.cell? ⟨G, i * 2 + 1, none⟩ = some (.string (mkB (P.getD i (0, [])).2))) := fun i hi => by
        obtain ⟨b, off, hbo, hc⟩ := hcc (fun e => by subst e; simp at hi)
        injection hbo with hbo
        injection hbo with hb1 hb2
        subst hb1 hb2
        have := hc i hi
        rw [Nat.zero_add] at this
        exact this
      clear hcc hc1 hc2
      go_wp2
      go_loopg [9, 10] P.length (fun g s9 s10 wr => ∃ (k : Nat) (L : List UInt8), g = P.length - k ∧ k ≤ P.length ∧ s10 = .int .i64 k ∧ s9 = .int .i64 L.length ∧ Hid (runE (edF P) k l = some L) ∧ Below w3.heap.size w3 wr)
      case atStart => exact ⟨0, l, rfl, Nat.zero_le _, rfl, rfl, Lib.hid rfl, Below.refl _ _⟩
      case round =>
        obtain ⟨k, L, rfl, hk, rfl, rfl, HR, hbr⟩ := hrel
        by_cases hlt : k < P.length
        · obtain ⟨a, d, hpk, hw, hnext⟩ := run_step HXX.out hlt HR.out
          have c1 := cell_keep hbr (HCC.out k hlt).1
          have c2 := cell_keep hbr (HCC.out k hlt).2
          rw [hpk] at c1 c2
          simp only at c1 c2
          have hwl := wrL_len L a d
          have HWL := Lib.hid hwl
          have HNX := Lib.hid hnext
          obtain ⟨-, -, -, w48⟩ := wokB_iff.1 hw
          have hLl := tokB_len (runE_tok HT.out HR.out)
          have z3 : (mkB d).size = d.length := mkB_size d
          have j1 : (0 : Int) ≤ (k : Int) := Int.natCast_nonneg _
          have j2 : (k : Int) < (P.length : Int) := by omega
          have u1 : IntKind.i64.wrap ((a : Int) + d.length) = (a : Int) + d.length := IntWalk.i64_in _ (by omega)
          clear hpk hw hwl hnext
          by_cases hgt : L.length < a + d.length
          · have g1 : decide ((L.length : Int) < (a : Int) + (d.length : Int)) = true := by simp only [decide_eq_true_eq]; omega
            go_wp2
            go_quiet (fail)
            go_wp2
            go_quiet (fail)
            have hb3 := fun j => hbr.trans ((below_drewN wr j).mono hbr.size)
            go_wp2
            go_roundg (P.length - (k + 1))
            case measure => omega
            case rel => exact ⟨k + 1, wrL L a d, rfl, by omega, by go_num, by rw [HWL.out]; go_num, HNX, by first | exact hb3 _ | exact (hb3 _).trans ((below_drewN _ _).mono (hb3 _).size)⟩
          · have g1 : decide ((L.length : Int) < (a : Int) + (d.length : Int)) = false := by simp only [decide_eq_false_iff_not]; omega
            go_wp2
            go_quiet (fail)
            have hb3 := fun j => hbr.trans ((below_drewN wr j).mono hbr.size)
            go_wp2
            go_roundg (P.length - (k + 1))
            case measure => omega
            case rel => exact ⟨k + 1, wrL L a d, rfl, by omega, by go_num, by rw [HWL.out]; go_num, HNX, hb3 _⟩
        · obtain rfl : k = P.length := by omega
          have hXL : X = L := by
            have h1 := HXX.out; have h2 := HR.out
            rw [h1] at h2; exact Option.some.inj h2
          subst hXL
          have e4 := e3.trans (hbr.mono e3.size)
          go_wp2_with fail
          refine (H5.out _).mono ?_; rintro e w4 ⟨rfl, rfl⟩
          go_wp2
          go_ret
          exact ⟨rfl, e4⟩
    · replace hok : edB (edF P) P.length l = false := by simpa using hok
      rw [hok]
      clear hok
      generalize edS (edF P) P.length l = X at *
      have q1 : ((mkB X).toList == (mkB X).toList) = true := by simp
      go_wp2
      go_ret
      exact ⟨rfl, e3⟩
  · go_enter Try.func4, Try.ntmps4
    go_wp2
    go_ret
    exact ⟨rfl, Below.refl _ _⟩

end Go.Proofs.Ytehpmdmfolmaoab.fnTextLong
