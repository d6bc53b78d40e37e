/-
  laws.FnTextDiff returns true at every code: the walk of the law. Condition: the table behind math/bits.TrailingZeros64.
-/
import Derived.Test.YtaeolgbgcchaeaaDoorDrawTextD
import Derived.Test.YtaeolgbgcchaeaaDoorDiffLaws
import Derived.Test.YtaeolgbgcchaeaaDoorOwnSpn
import Derived.Test.YtaeolgbgcchaeaaDoorWp
import Derived.Test.YtaeolgbgcchaeaaDoorImplDiff
import Derived.Test.YtaeolgbgcchaeaaDoorImplCut
import Derived.Test.YtaeolgbgcchaeaaDoorImplWrite
import Derived.Test.YtaeolgbgcchaeaaDoorRead
namespace Go.Proofs.YtaeolgbgcchaeaaDoor.fnTextDiff
open Go.RowKit

theorem eqB_refl (L : List Rng) : eqB L L = true := by unfold eqB; simp
theorem str_eq (l : List UInt8) : ((mkB l).toList == (mkB l).toList) = true := by simp
theorem str_ne {a b : List UInt8} (h : ¬ a = b) : ((mkB a).toList == (mkB b).toList) = false := by
  rw [mkB_toList', mkB_toList']; simpa using h
theorem str_none : (mkB []).toList.isEmpty = true := by rw [mkB_toList']; rfl
theorem str_none' : (mkB []).toList = [] := mkB_toList' []
theorem str_some {a : List UInt8} (h : ¬ a = []) : (mkB a).toList.isEmpty = false := by
  rw [mkB_toList']; cases a
  · exact absurd rfl h
  · rfl
theorem str_some' {a : List UInt8} (h : ¬ a = []) : ¬ (mkB a).toList = [] := by rw [mkB_toList']; exact h

set_option maxRecDepth 100000 in
set_option maxHeartbeats 8000000 in
theorem walk (v : Value) (len : Nat) (w : World) (h : Byt w v len) (hT : TabAt w) (hg0 : 0 < w.heap.size) :
    Calls Tryd.prog 3 #[v] w fun e w' => e = .returned (.bool true) ∧ Below w.heap.size w w' := by
  have HB := Lib.hid h
  have HT := Lib.hid hT
  have hlen : len ≤ 9223372036854775807 := by obtain ⟨z, a, cap, -, h1, h2, -⟩ := h; unfold maxLen at h2; omega
  obtain ⟨z, ad, cap, rfl, -, -, -⟩ := h
  clear hT
  by_cases hL : len ≤ 1048576
  · go_enter Tryd.func3, Tryd.ntmps3
    go_wp2_with fail
    refine (drawTextDiff_any _ len _ HB.out).mono ?_; rintro e w1 ⟨a, b, rfl, ha, hb, hb1⟩
    have E1 := Lib.hid hb1
    have za : (mkB a).size = a.length := mkB_size a
    have zb : (mkB b).size = b.length := mkB_size b
    have ha' : (mkB a).size ≤ 9223372036854775807 := by omega
    have hb' : (mkB b).size ≤ 9223372036854775807 := by omega
    have HI : Hid (∀ W, TabAt W → 0 < W.heap.size → Calls Tryd.prog 6 #[.string (mkB a), .string (mkB b)] W (RgC W (dfL a b))) := fun W h1 h2 => implTextDiff_any (mkB a) (mkB b) ha' hb' W h1 h2
    have HJ : Hid (∀ W, TabAt W → 0 < W.heap.size → Calls Tryd.prog 6 #[.string (mkB b), .string (mkB a)] W (RgC W (dfL b a))) := fun W h1 h2 => implTextDiff_any (mkB b) (mkB a) hb' ha' W h1 h2
    have HS : Hid (∀ W, Calls Tryd.prog 8 #[.string (mkB a), .string (mkB b)] W (RgsO W (dfL a b))) := fun W => specTextDiff_any (mkB a) (mkB b) ha' hb' W
    rw [dfL_comm b a] at HJ
    have H1 : Hid (∀ W, Calls Tryd.prog 9 #[.string (mkB a)] W fun e w' => e = .returned (.bool (tokB a)) ∧ W = w') := fun W => specTextOk_any (mkB a) ha' W
    have H2 : Hid (∀ W, Calls Tryd.prog 9 #[.string (mkB b)] W fun e w' => e = .returned (.bool (tokB b)) ∧ W = w') := fun W => specTextOk_any (mkB b) hb' W
    obtain ⟨G, hG⟩ : ∃ G, dfL a b = G := ⟨_, rfl⟩
    have hGl : G.length ≤ 48 := by rw [← hG]; exact dfL_len a b
    rw [hG] at HI HJ HS
    have HG := Lib.hid hG
    have heG := eqB_refl G
    clear hG hb1 ha' hb'
    go_wp2_with fail
    refine (HI.out _ (HT.out.keep E1.out) (Nat.lt_of_lt_of_le hg0 E1.out.size)).mono ?_; rintro e w2 ⟨vg, rfl, ho, hb2⟩
    have G2 := Lib.hid (own_spn ho.out)
    have E2 := Lib.hid (E1.out.trans (hb2.mono E1.out.size))
    clear ho hb2 E1 HI
    go_wp2_with fail
    refine (HS.out _).mono ?_; rintro e w3 ⟨g3, cap3, rfl, hg3, ho, hb3⟩
    have V3 := Lib.hid (own_spn ho.out)
    have G3 := Lib.hid (G2.out.keep hb3)
    have E3 := Lib.hid (E2.out.trans (hb3.mono E2.out.size))
    clear ho hb3 E2 G2 HS hg3
    go_wp2_with fail
    refine (wpSpans_any _ _ G G _ G3.out V3.out).mono ?_; rintro e w4 ⟨rfl, hb4⟩
    have G4 := Lib.hid (G3.out.keep hb4)
    have E4 := Lib.hid (E3.out.trans (hb4.mono E3.out.size))
    clear hb4 E3 G3 V3
    go_wp2_with fail
    refine (HJ.out _ (HT.out.keep E4.out) (Nat.lt_of_lt_of_le hg0 E4.out.size)).mono ?_; rintro e w5 ⟨vh, rfl, ho, hb5⟩
    have V5 := Lib.hid (own_spn ho.out)
    have G5 := Lib.hid (G4.out.keep hb5)
    have E5 := Lib.hid (E4.out.trans (hb5.mono E4.out.size))
    clear ho hb5 E4 G4 HJ
    go_wp2_with fail
    refine (wpSpans_any _ _ G G _ G5.out V5.out).mono ?_; rintro e w6 ⟨rfl, hb6⟩
    have G6 := Lib.hid (G5.out.keep hb6)
    have E6 := Lib.hid (E5.out.trans (hb6.mono E5.out.size))
    clear hb6 E5 G5 V5
    obtain ⟨aG, capG, rfl, gl, gm, gc⟩ := G6.out
    have GC := Lib.hid gc
    clear gc G6 gm
    by_cases hta : tokB a = true
    · by_cases htb : tokB b = true
      · rw [hta] at H1
        rw [htb] at H2
        have la := tokB_len hta
        have lb := tokB_len htb
        have HC := Lib.hid (fun W => implTextCut_any a (b.length : Int) (by omega) W)
        have hcs : tcS a (b.length : Int) = cutL a b.length := by unfold tcS; rw [if_pos hta]; first | rw [if_pos (by omega)]; rfl | (simp; omega)
        rw [hcs] at HC
        have HX0 : Hid (cutL a b.length = apL b (cutL a b.length) (G.take 0)) := by show _ = _; rfl
        have HX1 : Hid (tokB (cutL a b.length) = true) := tokB_cutL hta lb
        have HX2 : Hid ((cutL a b.length).length = b.length) := cutL_len _ _
        have HE : Hid (apL b (cutL a b.length) G = b) := by show _ = _; rw [← HG.out]; exact diff_back hta htb
        have HO : Hid (∀ r ∈ G, spanOkB r.1 r.2 = true) := by rw [← HG.out]; exact dfL_ok hta htb
        have HN0 : Hid (G.length = 0 ↔ a = b) := by rw [← HG.out]; exact dfL_nil hta htb
        have HTB := Lib.hid htb
        have HSN := Lib.hid (fun k h => apL_snoc b (cutL a b.length) G k h)
        generalize cutL a b.length = C at *
        clear hcs hta htb
        go_wp2_with fail
        refine (H1.out _).mono ?_; rintro e w7 ⟨rfl, rfl⟩
        go_wp2_with fail
        refine (H2.out _).mono ?_; rintro e w7 ⟨rfl, rfl⟩
        go_wp2_with fail
        refine (HC.out _).mono ?_; rintro e w7 ⟨rfl, hb7⟩
        have E7 := Lib.hid (E6.out.trans (hb7.mono E6.out.size))
        have B7 := Lib.hid hb7
        clear hb7 H1 H2 HC
        go_wp2_with fail
        go_loopg [6, 8] G.length (fun q s6 s8 wr => ∃ (k : Nat) (X : List UInt8), q = G.length - k ∧ k ≤ G.length ∧ s6 = .string (mkB X) ∧ s8 = .int .i64 k ∧ Hid (X = apL b C (G.take k)) ∧ Hid (tokB X = true) ∧ Hid (X.length = b.length) ∧ Below w7.heap.size w7 wr)
        case atStart => exact ⟨0, C, rfl, Nat.zero_le _, rfl, rfl, HX0, HX1, HX2, Below.refl _ _⟩
        case round =>
          obtain ⟨k, X, rfl, hk, rfl, rfl, HX, HXo, HXl, hbw⟩ := hrel
          clear HX0 HX1 HX2
          by_cases hlt : k < G.length
          · obtain ⟨bb, off, rfl, hcc⟩ := GC.out (fun e => by subst e; simp at hlt)
            have b6 : Below w6.heap.size w6 wr := B7.out.trans (hbw.mono B7.out.size)
            have c1 := cell_keep b6 (hcc k hlt).1
            have c2 := cell_keep b6 (hcc k hlt).2
            have hmem : G.getD k (0, 0) ∈ G := by rw [List.getD_eq_getElem?_getD, List.getElem?_eq_getElem hlt]; exact List.getElem_mem hlt
            have h1 := HO.out _ hmem
            have hsn : apL b C (G.take (k + 1)) = ap b X (G.getD k (0, 0)) := by rw [HSN.out k hlt, ← HX.out]
            have hao := ap_ok (r := G.getD k (0, 0)) HTB.out HXo.out
            have hal := ap_len (r := G.getD k (0, 0)) HXl.out
            have xl := tokB_len HXo.out
            clear hcc hmem HX
            generalize hp : G.getD k (0, 0) = p at *
            obtain ⟨lo, hi⟩ := p
            obtain ⟨q0, q1, q2⟩ := spanOkB_iff.1 h1
            simp only at c1 c2 h1 q0 q1 q2
            obtain ⟨lo, rfl⟩ : ∃ n : Nat, lo = n := ⟨lo.toNat, by omega⟩
            obtain ⟨hi, rfl⟩ : ∃ n : Nat, hi = n := ⟨hi.toNat, by omega⟩
            have HR := Lib.hid (fun W => implTextRead_any b (lo : Int) (hi : Int) (by omega) W)
            rw [trS_yes HTB.out h1] at HR
            by_cases hD : rdL b lo hi = []
            · have hae : ap b X ((lo : Int), (hi : Int)) = X := by unfold ap; simp only [Int.toNat_natCast]; rw [if_pos hD]
              rw [hae] at hsn
              have HY := Lib.hid hsn.symm
              rw [hD] at HR
              have i1 := str_none
              have i2 := str_none'
              clear hae hsn hao hal hD h1 hp
              go_wp2_with fail
              refine (HR.out _).mono ?_; rintro e w8 ⟨rfl, hb8⟩
              have hbx := hbw.trans (hb8.mono hbw.size)
              clear hb8
              go_wp2
              go_roundg (G.length - (k + 1))
              case measure => omega
              case rel => exact ⟨k + 1, X, rfl, by omega, rfl, by go_num, HY, HXo, HXl, hbx⟩
            · have hae : ap b X ((lo : Int), (hi : Int)) = wrL X lo (rdL b lo hi) := by unfold ap; simp only [Int.toNat_natCast]; rw [if_neg hD]
              have hdl := rdL_len b lo hi
              have hdo : tokB (rdL b lo hi) = true := tokB_rdL2 HTB.out
              have hdn : (rdL b lo hi).length ≠ 0 := fun e => hD (List.eq_nil_of_length_eq_zero e)
              have hwo : wokB (lo : Int) (rdL b lo hi) = true := wokB_iff.2 ⟨by omega, hD, hdo, by omega⟩
              have HW := Lib.hid (fun W => implTextWrite_any X (lo : Int) (rdL b lo hi) (by omega) (by omega) W)
              rw [twS_ok HXo.out, if_pos hwo, Int.toNat_natCast, ← hae] at HW
              rw [hae] at hsn hao hal
              rw [hae] at HW
              have HY := Lib.hid hsn.symm
              have HY1 := Lib.hid hao
              have HY2 := Lib.hid hal
              have i1 := str_some hD
              have i2 := str_some' hD
              have zd : (mkB (rdL b lo hi)).size = (rdL b lo hi).length := mkB_size _
              clear hae hsn hao hal hD h1 hp hdo hwo HXo
              generalize wrL X lo (rdL b lo hi) = Y at *
              generalize rdL b lo hi = D at *
              go_wp2_with fail
              refine (HR.out _).mono ?_; rintro e w8 ⟨rfl, hb8⟩
              have hbx := hbw.trans (hb8.mono hbw.size)
              have c1 := cell_keep hb8 c1
              clear hb8 c2
              go_wp2_with fail
              refine (HW.out _).mono ?_; rintro e w9 ⟨rfl, hb9⟩
              have hby := hbx.trans (hb9.mono hbx.size)
              clear hb9 hbx
              go_wp2
              go_roundg (G.length - (k + 1))
              case measure => omega
              case rel => exact ⟨k + 1, Y, rfl, by omega, rfl, by go_num, HY, HY1, HY2, hby⟩
          · obtain rfl : k = G.length := by omega
            have hX : X = b := by
              have := HX.out
              rw [List.take_length, HE.out] at this
              exact this
            subst hX
            have hbz := E7.out.trans (hbw.mono E7.out.size)
            have q1 := str_eq X
            have hn0 := HN0.out
            clear HX HXo HXl HE HO HTB HSN HN0 hbw E7 B7
            by_cases hab : a = X
            · have e0 := hn0.2 hab
              subst hab
              have e1 : ((G.length : Int) == 0) = true := by simp [e0]
              clear hn0 e0
              generalize G.length = n at *
              go_wp2
              go_ret
              exact ⟨rfl, hbz⟩
            · have e0 : ¬ G.length = 0 := fun e => hab (hn0.1 e)
              have e1 : ((G.length : Int) == 0) = false := beq_eq_false_iff_ne.2 (by omega)
              have q2 := str_ne hab
              clear hn0
              generalize G.length = n at *
              go_wp2
              go_ret
              exact ⟨rfl, hbz⟩
      · replace htb : tokB b = false := by simpa using htb
        have hG0 : G.length = 0 := by rw [← HG.out]; unfold dfL; rw [if_neg (fun c => by rw [htb] at c; exact absurd c.2 (by simp))]; rfl
        rw [hta] at H1
        rw [htb] at H2
        clear hta htb
        generalize G.length = n at *
        subst hG0
        go_wp2_with fail
        refine (H1.out _).mono ?_; rintro e w7 ⟨rfl, rfl⟩
        go_wp2_with fail
        refine (H2.out _).mono ?_; rintro e w7 ⟨rfl, rfl⟩
        go_wp2
        go_ret
        exact ⟨rfl, E6.out⟩
    · replace hta : tokB a = false := by simpa using hta
      have hG0 : G.length = 0 := by rw [← HG.out]; unfold dfL; rw [if_neg (fun c => by rw [hta] at c; exact absurd c.1 (by simp))]; rfl
      rw [hta] at H1
      clear hta
      generalize G.length = n at *
      subst hG0
      go_wp2_with fail
      refine (H1.out _).mono ?_; rintro e w7 ⟨rfl, rfl⟩
      go_wp2
      go_ret
      exact ⟨rfl, E6.out⟩
  · go_enter Tryd.func3, Tryd.ntmps3
    go_wp2
    go_ret
    exact ⟨rfl, Below.refl _ _⟩

end Go.Proofs.YtaeolgbgcchaeaaDoor.fnTextDiff
