/-
  laws.FnLayObjs returns true at every code: the walk of the law. No condition.
-/
import Derived.Test.YtdlofeemeeabjaaDrawLayTx
import Derived.Test.YtdlofeemeeabjaaLayFn
import Derived.Test.YtdlofeemeeabjaaLtMath
import Derived.Test.YtdlofeemeeabjaaImplLt
import Derived.Deep.QuietTactic
import Derived.BigQuiet
namespace Go.Proofs.Ytdlofeemeeabjaa.fnLayObjs
open Go.RowKit

theorem vls_form {w : World} {v : Value} {n : Nat} {f : Nat → Value} (h : Vls w v n f) : ∃ a cap, v = .slice a n cap := by
  obtain ⟨a, cap, hv, -⟩ := h; exact ⟨a, cap, hv⟩

theorem mkB_get (l : List UInt8) (k : Nat) (h : k < (mkB l).size) : (mkB l)[k]'h = l.getD k 46 := by
  rw [List.getD_eq_getElem?_getD, List.getElem?_eq_getElem (by rw [mkB_size] at h; exact h)]; rfl

set_option maxRecDepth 100000 in
set_option maxHeartbeats 8000000 in
theorem walk (v : Value) (len : Nat) (w : World) (h : Byt w v len) :
    Calls Try.prog 4 #[v] w fun e w' => e = .returned (.bool true) ∧ Below w.heap.size w w' := by
  have HB := Lib.hid h
  have hlen : len ≤ 9223372036854775807 := by obtain ⟨z, a, cap, -, h1, h2, -⟩ := h; unfold maxLen at h2; omega
  obtain ⟨z, a, cap, rfl, -, -, -⟩ := h
  by_cases hL : len ≤ 1048576
  · go_enter Try.func4, Try.ntmps4
    go_wp2_with fail
    refine (drawLayText_any _ len _ HB.out).mono ?_; rintro e w1 ⟨size, many, u, L, rfl, hv, h49, h5, hb1⟩
    have kl := new_box w1 size many 24
    have hal1 : Below w1.heap.size w1 (w1.alloc (.cells #[.int .i64 size, .int .i64 many] 24)) := (Below.refl _ _).alloc (Nat.le_refl _) _
    have e1 := hb1.trans (hal1.mono hb1.size)
    have hv1 := hv.out.keep hal1
    obtain ⟨S, hS⟩ : ∃ S : Nat → List UInt8, (fun i => L.getD i []) = S := ⟨_, rfl⟩
    have hSi : ∀ i, L.getD i [] = S i := fun i => by rw [← hS]
    have hv2 : Vls (w1.alloc (.cells #[.int .i64 size, .int .i64 many] 24)) u L.length (sF S) := hv1.congr fun i _ => by rw [hSi i]
    have h49' : ∀ i, (S i).length ≤ 49 := fun i => by rw [← hSi i]; exact h49 i
    obtain ⟨m, hm⟩ : ∃ m, L.length = m := ⟨_, rfl⟩
    rw [hm] at hv2 h5
    clear hv hv1 hSi hS h49 hm hal1
    obtain ⟨W, hW⟩ : ∃ W, w1.alloc (.cells #[.int .i64 size, .int .i64 many] 24) = W := ⟨_, rfl⟩
    rw [hW] at hv2 kl e1
    obtain ⟨a1, c1, rfl⟩ := vls_form hv2
    have P1 := Lib.hid hv2
    have K1 := Lib.hid kl
    have E1 := Lib.hid e1
    have H49 := Lib.hid h49'
    have H1 := Lib.hid (fun W' hb => implLayText_any size many _ m S W' (P1.out.keep hb) (fun i _ => by have := H49.out i; omega) (by omega))
    have H2 := Lib.hid (fun W' hb => specLayText_any size many _ m S W' (P1.out.keep hb) (fun i _ => by have := H49.out i; omega) (by omega))
    obtain ⟨x1, x2, -, -⟩ := id kl
    clear hv2 kl e1 h49'
    by_cases hB : ltB size many S m = true
    · have hN0 : 0 ≤ ltN size many S m := by
        unfold ltB at hB; simp at hB; exact hB.2
      have hK : ltK S m = true := by unfold ltB at hB; simp at hB; exact hB.1
      obtain ⟨hy, hmm, hN⟩ := ltN_form hN0
      rw [ltS_yes hB, hB] at H1 H2
      obtain ⟨n, hn⟩ : ∃ n, (ltN size many S m).toNat = n := ⟨_, rfl⟩
      rw [hn] at H1 H2
      have hn48 : n ≤ 48 := by omega
      have htk := tokB_ltL hK hmm hy hn48
      have hlen : (ltL size many S n).length = n := ltL_len _ _ _ _
      have HG := Lib.hid (fun i (hi : i < n) => ltL_getD size many S hi)
      have HT := Lib.hid (fun W => implTextOk_any (mkB (ltL size many S n)) (by rw [mkB_size, hlen]; omega) W)
      rw [mkB_toList, htk] at HT
      have zl : (mkB (ltL size many S n)).size = n := by rw [mkB_size, hlen]
      have q1 : ((mkB (ltL size many S n)).toList == (mkB (ltL size many S n)).toList) = true := by simp
      clear hlen htk hN hN0 hn hK hB
      generalize ltL size many S n = T at *
      go_wp2_with fail
      clear hW
      refine (H1.out _ (Below.refl _ _)).mono ?_; rintro e w2 ⟨rfl, hb2⟩
      have K2 := Lib.hid (K1.out.keep hb2)
      have hb2' := Lib.hid hb2
      have E2 := Lib.hid (E1.out.trans (hb2.mono E1.out.size))
      clear x1 x2 hb2
      obtain ⟨x1, x2, -, -⟩ := id K2.out
      go_wp2_with fail
      refine (H2.out _ hb2'.out).mono ?_; rintro e w3 ⟨rfl, hb3⟩
      have P3 := Lib.hid ((P1.out.keep hb2'.out).keep hb3)
      have K3 := Lib.hid (K2.out.keep hb3)
      have E3 := Lib.hid (E2.out.trans (hb3.mono E2.out.size))
      clear x1 x2 hb3 hb2' K2 E2 P1 K1 E1 H1 H2
      go_wp2_with fail
      have HAt := Lib.hid (fun (W : World) (p : Int) => implLayAt_any size many p W)
      go_loopg [9] n (fun g s9 wr => ∃ k : Nat, g = n - k ∧ k ≤ n ∧ s9 = .int .i64 k ∧ Hid (Below w3.heap.size w3 wr))
      case atStart => exact ⟨0, rfl, Nat.zero_le _, rfl, Below.refl _ _⟩
      case round =>
        obtain ⟨k, rfl, hk, rfl, HBR⟩ := hrel
        by_cases hlt : k < n
        · have bd := at_bd (p := (k : Int)) hy (by omega)
          have HAk := Lib.hid (fun W => HAt.out W (k : Int))
          rw [laObj_yes hy (by omega) (by omega), laAt_yes hy (by omega) (by omega)] at HAk
          have hTk := HG.out k hlt
          unfold ltT at hTk
          obtain ⟨o, ho⟩ : ∃ o : Nat, objF size many k = o := ⟨(objF size many k).toNat, by omega⟩
          obtain ⟨a, ha⟩ : ∃ a : Nat, atF size many k = a := ⟨(atF size many k).toNat, by omega⟩
          rw [ho] at bd hTk HAk
          rw [ha] at bd hTk HAk
          simp only [Int.toNat_natCast] at hTk
          have hom : o < m := by omega
          have k9 := K3.out.keep HBR.out
          obtain ⟨x1, x2, -, -⟩ := id k9
          have i0 : (0 : Int) ≤ (k : Int) := by omega
          have i1 : (k : Int) < (n : Int) := by omega
          go_wp2_with fail
          refine (HAk.out _).mono ?_; rintro e w4 ⟨rfl, hb4⟩
          have HB4 := Lib.hid (HBR.out.trans (hb4.mono HBR.out.size))
          clear x1 x2 k9 HBR hb4
          obtain ⟨aP, cP, eP, hP1, hP2, hPc⟩ := P3.out
          obtain ⟨b1, o1, hb1', hc1⟩ := hPc (by omega)
          have y1 : w4.cell? ⟨b1, o1 + o, none⟩ = some (.string (mkB (S o))) := cell_keep HB4.out (hc1 o hom)
          injection eP with eP1 eP2 eP3
          subst eP1 eP3 hb1'
          have hD49 := H49.out o
          have zd : (mkB (S o)).size = (S o).length := mkB_size _
          have j0 : (0 : Int) ≤ (o : Int) := by omega
          have j1 : (o : Int) < (m : Int) := by omega
          have j2 : decide ((o : Int) < 0) = false := by simp
          have j3 : decide ((m : Int) ≤ (o : Int)) = false := by simp; omega
          have j4 : decide (many ≤ (o : Int)) = false := by simp; omega
          have hpT : k < (mkB T).size := by rw [zl]; exact hlt
          have eT : (mkB T)[k]'hpT = T.getD k 46 := mkB_get T k hpT
          clear hPc hc1 hP1 hP2 eP2 bd ho ha HAk
          generalize S o = D at *
          by_cases hin : a < D.length
          · have hpD : a < (mkB D).size := by rw [zd]; exact hin
            have eD : (mkB D)[a]'hpD = D.getD a 46 := mkB_get D a hpD
            rw [hTk] at eT
            generalize D.getD a 46 = c at *
            have d1 : decide (a < D.length) = true := by simpa using hin
            have d2 : decide (D.length ≤ a) = false := by simpa using hin
            have i2 : (a : Int) < (D.length : Int) := by omega
            clear hTk
            go_wp2
            go_quiet (fail)
            have hb3 := fun j => HB4.out.trans ((show Below w4.heap.size w4 (w4.drewN j) from ⟨rfl, rfl, rfl, Nat.le_refl _, fun _ _ => rfl⟩).mono HB4.out.size)
            go_wp2
            go_roundg (n - (k + 1))
            case measure => omega
            case rel => exact ⟨k + 1, rfl, by omega, by go_num, hb3 _⟩
          · have hD46 : D.getD a 46 = 46 := by rw [List.getD_eq_getElem?_getD, List.getElem?_eq_none (by omega)]; rfl
            rw [hTk, hD46] at eT
            have d1 : decide (a < D.length) = false := by simpa using hin
            have d2 : decide (D.length ≤ a) = true := by simpa using hin
            clear hTk
            go_wp2
            go_quiet (fail)
            have hb3 := fun j => HB4.out.trans ((show Below w4.heap.size w4 (w4.drewN j) from ⟨rfl, rfl, rfl, Nat.le_refl _, fun _ _ => rfl⟩).mono HB4.out.size)
            go_wp2
            go_roundg (n - (k + 1))
            case measure => omega
            case rel => exact ⟨k + 1, rfl, by omega, by go_num, hb3 _⟩
        · obtain rfl : k = n := by omega
          have e9 := E3.out.trans (HBR.out.mono E3.out.size)
          go_wp2_with fail
          refine (HT.out _).mono ?_; rintro e w4 ⟨rfl, rfl⟩
          go_wp2
          go_ret
          exact ⟨rfl, e9⟩
    · replace hB : ltB size many S m = false := by simpa using hB
      rw [ltS_no hB, hB] at H1 H2
      have q1 : ((mkB []).toList == (mkB []).toList) = true := by simp
      have q2 : ((mkB []).toList == ([] : List UInt8)) = true := by rw [ByteArray.toList_eq]; rfl
      go_wp2_with fail
      clear hW
      refine (H1.out _ (Below.refl _ _)).mono ?_; rintro e w2 ⟨rfl, hb2⟩
      have K2 := Lib.hid (K1.out.keep hb2)
      have hb2' := Lib.hid hb2
      have E2 := Lib.hid (E1.out.trans (hb2.mono E1.out.size))
      clear x1 x2 hb2
      obtain ⟨x1, x2, -, -⟩ := id K2.out
      go_wp2_with fail
      refine (H2.out _ hb2'.out).mono ?_; rintro e w3 ⟨rfl, hb3⟩
      have E3 := Lib.hid (E2.out.trans (hb3.mono E2.out.size))
      clear x1 x2 hb3 hb2' K2 E2 P1 K1 E1 H1 H2
      go_wp2
      go_ret
      exact ⟨rfl, E3.out⟩
  · go_enter Try.func4, Try.ntmps4
    go_wp2
    go_ret
    exact ⟨rfl, Below.refl _ _⟩

end Go.Proofs.Ytdlofeemeeabjaa.fnLayObjs
