/-
  laws.FnSpansLess returns true at every code: the walk of the law. Condition: the table behind math/bits.TrailingZeros64.
-/
import Derived.Test.YteglfdcoeogilaaDoorDrawBoth
import Derived.Test.YteglfdcoeogilaaDoorWp
import Derived.Test.YteglfdcoeogilaaDoorRgoSpn
import Derived.Test.YteglfdcoeogilaaDoorLessFacts
namespace Go.Proofs.YteglfdcoeogilaaDoor.fnSpansLess
open Go.RowKit

/-- The list after each piece, as a function nobody looks into. -/
theorem less_facts {L : List Rng} {lo hi : Int} (h1 : spansOkB L = true) (h2 : spanOkB lo hi = true) (hl : L.length ≤ 10) :
    ∃ F : Nat → List Rng, F 0 = setL (cutF L lo hi) L lo hi ∧ F (mts lo hi L).length = L ∧
      (∀ k, k < (mts lo hi L).length → setL (addF (F k) ((mts lo hi L).getD k (0, 0)).1 ((mts lo hi L).getD k (0, 0)).2) (F k) ((mts lo hi L).getD k (0, 0)).1 ((mts lo hi L).getD k (0, 0)).2 = F (k + 1)) ∧
      (∀ k, k < (mts lo hi L).length → haveB (setL (cutF L lo hi) L lo hi) (((mts lo hi L).getD k (0, 0)).1, ((mts lo hi L).getD k (0, 0)).2) = false) ∧
      haveB (setL (cutF L lo hi) L lo hi) (lo, hi) = false := by
  have hLk : okFrom (-1) L = true := by have := h1; simp only [spansOkB, Bool.and_eq_true] at this; exact this.2
  have hb := spanOkB_iff.1 h2
  rw [bk_zero h1 h2 hl]
  refine ⟨bk lo hi L, rfl, bk_last h1, fun k hk => bk_step h1 h2 hl k hk, fun k hk => ?_, bk_have h1 h2 hl ⟨Int.le_refl _, hb.2.1⟩⟩
  have hgt := mts_get lo hi h2 L (-1) k hLk hk
  exact bk_have h1 h2 hl ⟨hgt.1, by omega⟩

set_option maxRecDepth 100000 in
set_option maxHeartbeats 4000000 in
theorem walk (v : Value) (len : Nat) (w : World) (h : Byt w v len) (hT : TabAt w) (hg0 : 0 < w.heap.size) :
    Calls Tryd.prog 3 #[v] w fun e w' => e = .returned (.bool true) ∧ Below w.heap.size w w' := by
  have HB := Lib.hid h
  have HT := Lib.hid hT
  have hlen : len ≤ 9223372036854775807 := by obtain ⟨z, a, cap, -, h1, h2, -⟩ := h; unfold maxLen at h2; omega
  obtain ⟨z, a, cap, rfl, -, -, -⟩ := h
  clear hT
  by_cases hL : len ≤ 1048576
  · go_enter Tryd.func3, Tryd.ntmps3
    go_wp2_with fail
    refine (drawSpansCut_any _ len _ HB.out).mono ?_; rintro e w1 ⟨g, cap1, L, lo, hi, rfl, hs1, hL13, -, hb1⟩
    have hal : Below w1.heap.size w1 (w1.alloc (.cells #[.int .i64 lo, .int .i64 hi] 25)) := (Below.refl _ _).alloc (Nat.le_refl _) _
    have ks2 := new_box w1 lo hi 25
    have HS2 := Lib.hid (hs1.keep hal)
    have HT2 := Lib.hid ((HT.out.keep hb1).keep hal)
    have E2 := hb1.trans (hal.mono hb1.size)
    generalize hBs : w1.heap.size = Bs at *
    clear hs1 hb1 hal HT HB
    obtain ⟨x1, x2, -, -⟩ := id ks2
    generalize hA : setL (cutF L lo hi) L lo hi = A at *
    have HA := Lib.hid hA
    have heA := Lib.hid (eqB_refl A)
    have heL := Lib.hid (eqB_refl L)
    generalize hoL : spansOkB L = o at *
    have HoL := Lib.hid hoL
    generalize hps : spanOkB lo hi = ps at *
    have HPS := Lib.hid hps
    clear hoL hps
    go_wp2_with fail
    refine (implSpansCut_any _ L lo hi _ HS2.out HT2.out (Nat.lt_of_lt_of_le hg0 E2.size)).mono ?_; rintro e w3 hr; obtain ⟨x, rfl, hx, hb3⟩ := hr.spn
    rw [HA.out] at hx
    have HX3 := Lib.hid hx
    obtain ⟨xa, xc, rfl, xc1, xc2⟩ := hx.form
    have HS3 := Lib.hid (HS2.out.keep hb3)
    have HT3 := Lib.hid (HT2.out.keep hb3)
    have ks3 := ks2.keep hb3
    have E3 := E2.trans (hb3.mono E2.size)
    clear hx hr x1 x2 HS2 HT2 ks2 hb3
    obtain ⟨x1, x2, -, -⟩ := id ks3
    go_wp2_with fail
    refine (specSpansCut_any _ L lo hi _ HS3.out).mono ?_; rintro e w4 hr; obtain ⟨u, rfl, hu, hb4⟩ := hr.spn
    rw [HA.out] at hu
    clear hr
    have HS4 := Lib.hid (HS3.out.keep hb4)
    have HX4 := Lib.hid (HX3.out.keep hb4)
    have HT4 := Lib.hid (HT3.out.keep hb4)
    have ks4 := ks3.keep hb4
    have E4 := E3.trans (hb4.mono E3.size)
    clear x1 x2
    clear hb4 HS3 HX3 HT3
    obtain ⟨x1, x2, -, -⟩ := id ks4
    clear ks3
    go_wp2_with fail
    refine (wpSpans_any _ _ A A _ HX4.out hu).mono ?_; rintro e w5 ⟨rfl, hb5⟩
    rw [heA.out]
    clear hu
    have HS5 := Lib.hid (HS4.out.keep hb5)
    have HX5 := Lib.hid (HX4.out.keep hb5)
    have HT5 := Lib.hid (HT4.out.keep hb5)
    have ks5 := ks4.keep hb5
    have E5 := E4.trans (hb5.mono E4.size)
    clear x1 x2
    clear hb5 HS4 HX4 HT4
    obtain ⟨x1, x2, -, -⟩ := id ks5
    clear ks4
    go_wp2_with fail
    refine (specSpansOk_any _ L _ HS5.out).mono ?_; rintro e w6 ⟨rfl, hb6⟩
    rw [HoL.out]
    have HS6 := Lib.hid (HS5.out.keep hb6)
    have HX6 := Lib.hid (HX5.out.keep hb6)
    have HT6 := Lib.hid (HT5.out.keep hb6)
    have ks6 := ks5.keep hb6
    have E6 := E5.trans (hb6.mono E5.size)
    clear x1 x2
    clear hb6 HS5 HX5 HT5
    obtain ⟨x1, x2, -, -⟩ := id ks6
    clear ks5
    cases o
    · skip
      go_wp2_with fail
      refine (specSpansCut_any _ L lo hi _ HS6.out).mono ?_; rintro e wa hr; obtain ⟨u, rfl, hu, hba⟩ := hr.spn
      rw [HA.out] at hu
      have Ea := E6.trans (hba.mono E6.size)
      have HXa := Lib.hid (HX6.out.keep hba)
      clear hr
      go_wp2_with fail
      refine (wpSpans_any _ _ A A _ HXa.out hu).mono ?_; rintro e wb ⟨rfl, hbb⟩
      rw [heA.out]
      go_wp2
      go_ret
      exact ⟨rfl, Ea.trans (hbb.mono Ea.size)⟩
    · skip
      go_wp2_with fail
      refine (specSpanOk_any lo hi _).mono ?_; rintro e w7 ⟨rfl, hb7⟩
      rw [HPS.out]
      have HS7 := Lib.hid (HS6.out.keep hb7)
      have HX7 := Lib.hid (HX6.out.keep hb7)
      have HT7 := Lib.hid (HT6.out.keep hb7)
      have ks7 := ks6.keep hb7
      have E7 := E6.trans (hb7.mono E6.size)
      clear x1 x2
      clear hb7 HS6 HX6 HT6
      obtain ⟨x1, x2, -, -⟩ := id ks7
      clear ks6
      cases ps
      · skip
        go_wp2_with fail
        refine (specSpansCut_any _ L lo hi _ HS7.out).mono ?_; rintro e wa hr; obtain ⟨u, rfl, hu, hba⟩ := hr.spn
        rw [HA.out] at hu
        have Ea := E7.trans (hba.mono E7.size)
        have HXa := Lib.hid (HX7.out.keep hba)
        clear hr
        go_wp2_with fail
        refine (wpSpans_any _ _ A A _ HXa.out hu).mono ?_; rintro e wb ⟨rfl, hbb⟩
        rw [heA.out]
        go_wp2
        go_ret
        exact ⟨rfl, Ea.trans (hbb.mono Ea.size)⟩
      · by_cases h10 : (10 : Int) < (L.length : Int)
        · skip
          go_wp2_with fail
          refine (specSpansCut_any _ L lo hi _ HS7.out).mono ?_; rintro e wa hr; obtain ⟨u, rfl, hu, hba⟩ := hr.spn
          rw [HA.out] at hu
          have Ea := E7.trans (hba.mono E7.size)
          have HXa := Lib.hid (HX7.out.keep hba)
          clear hr
          go_wp2_with fail
          refine (wpSpans_any _ _ A A _ HXa.out hu).mono ?_; rintro e wb ⟨rfl, hbb⟩
          rw [heA.out]
          go_wp2
          go_ret
          exact ⟨rfl, Ea.trans (hbb.mono Ea.size)⟩
        · have hl : L.length ≤ 10 := by omega
          obtain ⟨F, f0, f1, f2, f3, f4⟩ := less_facts HoL.out HPS.out hl
          rw [HA.out] at f0 f3 f4
          have HMS := Lib.hid (mts_set HoL.out HPS.out)
          have hMl : (mts lo hi L).length ≤ 1000 := Nat.le_trans (mts_len lo hi L) (by omega)
          have HF0 := Lib.hid f0
          have HF1 := Lib.hid f1
          have HF2 := Lib.hid f2
          have HF3 := Lib.hid f3
          have HF4 := Lib.hid f4
          clear hl f0 f1 f2 f3 f4
          go_wp2_with fail
          refine (implSpansMeet_any _ L lo hi _ HS7.out HT7.out (Nat.lt_of_lt_of_le hg0 E7.size)).mono ?_; rintro e w8 hr; obtain ⟨y, rfl, hy, hb8⟩ := hr.spn
          rw [HMS.out] at hy
          generalize mts lo hi L = M at *
          have HM8 := Lib.hid hy
          obtain ⟨ya, yc, rfl, -, -⟩ := hy.form
          clear hr hy
          have HS8 := Lib.hid (HS7.out.keep hb8)
          have HX8 := Lib.hid (HX7.out.keep hb8)
          have HT8 := Lib.hid (HT7.out.keep hb8)
          have ks8 := ks7.keep hb8
          have E8 := E7.trans (hb8.mono E7.size)
          clear x1 x2
          clear hb8 HS7 HX7 HT7
          obtain ⟨x1, x2, -, -⟩ := id ks8
          clear ks7
          go_wp2
          have h0 : Spn w8 (.slice xa A.length xc) (F 0) := HF0.out.symm ▸ HX8.out
          have H0 := Lib.hid h0
          clear h0
          go_loopg [7, 8] M.length (fun g s7 s8 wr => ∃ k : Nat, g = M.length - k ∧ k ≤ M.length ∧ s8 = .int .i64 k ∧ Spn wr s7 (F k) ∧ Below w8.heap.size w8 wr)
          case atStart => exact ⟨0, rfl, Nat.zero_le _, rfl, H0.out, Below.refl _ _⟩
          case round =>
            obtain ⟨k, rfl, hk, rfl, hbk, hbr⟩ := hrel
            have HSr := Lib.hid (HS8.out.keep hbr)
            have HXr := Lib.hid (HX8.out.keep hbr)
            have HTr := Lib.hid (HT8.out.keep hbr)
            have HMr := Lib.hid (HM8.out.keep hbr)
            have Er := E8.trans (hbr.mono E8.size)
            have hgr : 0 < wr.heap.size := Nat.lt_of_lt_of_le hg0 Er.size
            have HBK := Lib.hid hbk
            obtain ⟨ba, bc, rfl, -, -⟩ := hbk.form
            clear hbk x1 x2
            obtain ⟨x1, x2, -, -⟩ := ks8.keep hbr
            by_cases hlt : k < M.length
            · have hst := HF2.out k hlt
              have hhv := HF3.out k hlt
              have hcells : ∃ b off, ya = some ⟨b, off, none⟩ ∧ wr.cell? ⟨b, off + k * 2, none⟩ = some (.int .i64 (M.getD k (0, 0)).1) ∧ wr.cell? ⟨b, off + k * 2 + 1, none⟩ = some (.int .i64 (M.getD k (0, 0)).2) := by
                obtain ⟨a', c', hv, -, -, hc⟩ := HMr.out
                obtain ⟨b, off, ha, hcc⟩ := hc (fun e => by rw [e] at hlt; exact absurd hlt (by simp))
                injection hv with p1 p2 p3
                exact ⟨b, off, p1.trans ha, hcc k hlt⟩
              obtain ⟨b, off, rfl, c1, c2⟩ := hcells
              have HST := Lib.hid hst
              have HHV := Lib.hid hhv
              have C2 := Lib.hid (And.intro c1 c2)
              clear hst hhv
              generalize hmk : M.getD k (0, 0) = mk at *
              obtain ⟨m, n⟩ := mk
              have c1' : wr.cell? ⟨b, off + k * 2, none⟩ = some (.int .i64 m) := c1
              have c2' : wr.cell? ⟨b, off + k * 2 + 1, none⟩ = some (.int .i64 n) := c2
              clear c1 c2 hmk
              generalize F k = BB at *
              go_wp2_with fail
              refine (implSpansHave_any _ A m n _ HXr.out).mono ?_; rintro e u1 ⟨rfl, hu1⟩
              rw [HHV.out]
              have HBKu := Lib.hid (HBK.out.keep hu1)
              have HTu := Lib.hid (HTr.out.keep hu1)
              have hgu : 0 < u1.heap.size := Nat.lt_of_lt_of_le hgr hu1.size
              have hbu := hbr.trans (hu1.mono hbr.size)
              have d1 := cell_keep hu1 C2.out.1
              have d2 := cell_keep hu1 C2.out.2
              have d1' : u1.cell? ⟨b, off + k * 2, none⟩ = some (.int .i64 m) := d1
              have d2' : u1.cell? ⟨b, off + k * 2 + 1, none⟩ = some (.int .i64 n) := d2
              clear d1 d2 c1' c2' C2 hu1 hbr Er HSr HXr HTr HMr hgr HBK
              go_wp2_with fail
              refine (implSpansAdd_any _ BB m n _ HBKu.out HTu.out hgu).mono ?_; rintro e u2 hr; obtain ⟨y', rfl, hy', hu2⟩ := hr.spn
              have q := HST.out
              try dsimp only at q
              rw [q] at hy'
              have HY2 := Lib.hid hy'
              have hb2 := hbu.trans (hu2.mono hbu.size)
              clear hy' hr q d1' d2' HTu hgu hu2 hbu HST HHV HBKu x1 x2
              go_wp2
              go_roundg (M.length - (k + 1))
              case measure => omega
              case rel => exact ⟨k + 1, rfl, by omega, by go_num, HY2.out, hb2⟩
            · obtain rfl : k = M.length := by omega
              have hf1 := HF1.out
              rw [hf1] at HBK
              rw [hf1]
              clear HM8 HMr HF0 HF1 HF2 HF3 hf1 hMl hk
              generalize F M.length = BB at *
              go_wp2_with fail
              refine (wpSpans_any _ _ L L _ HBK.out HSr.out).mono ?_; rintro e v1 ⟨rfl, hv1⟩
              rw [heL.out]
              have HXv := Lib.hid (HXr.out.keep hv1)
              have Ev := Er.trans (hv1.mono Er.size)
              have kv := (ks8.keep hbr).keep hv1
              clear x1 x2
              obtain ⟨x1, x2, -, -⟩ := kv
              go_wp2_with fail
              refine (implSpansHave_any _ A lo hi _ HXv.out).mono ?_; rintro e v2 ⟨rfl, hv2⟩
              rw [HF4.out]
              go_wp2
              go_ret
              exact ⟨rfl, Ev.trans (hv2.mono Ev.size)⟩
  · go_enter Tryd.func3, Tryd.ntmps3
    go_wp2
    go_ret
    exact ⟨rfl, Below.refl _ _⟩

end Go.Proofs.YteglfdcoeogilaaDoor.fnSpansLess
