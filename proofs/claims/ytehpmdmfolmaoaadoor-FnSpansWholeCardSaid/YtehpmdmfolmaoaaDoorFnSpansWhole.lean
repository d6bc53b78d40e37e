/-
  laws.FnSpansWhole returns true at every code: the walk of the law. Condition: the table behind math/bits.TrailingZeros64.
-/
import Derived.Test.YtehpmdmfolmaoaaDoorDrawMany
import Derived.Test.YtehpmdmfolmaoaaDoorWp
import Derived.Test.YtehpmdmfolmaoaaDoorMeetMath
import Derived.Test.YtehpmdmfolmaoaaDoorRgoSpn
import Derived.Deep.RegionHeld3
import Derived.Test.YtehpmdmfolmaoaaDoorHave
import Derived.Test.YtehpmdmfolmaoaaDoorMany
namespace Go.Proofs.YtehpmdmfolmaoaaDoor.fnSpansWhole
open Go.RowKit

set_option maxRecDepth 100000 in
theorem rg_all : rg (fun _ => true) 48 = [(0, 48)] := by decide
set_option maxRecDepth 100000 in
theorem rg_none : rg (fun _ => false) 48 = [] := by decide

theorem rg_congr {f g : Nat → Bool} : ∀ {n : Nat}, (∀ i, i < n → f i = g i) → rg f n = rg g n
  | 0, _ => rfl
  | n + 1, h => by
    have := rg_congr (f := f) (g := g) (n := n) fun i hi => h i (by omega)
    unfold rg
    rw [this, h n (by omega)]

theorem add_all {L : List Rng} (h : spansOkB L = true) : setL (addF L 0 48) L 0 48 = [(0, 48)] := by
  have e : rg (addF L 0 48) 48 = [(0, 48)] := by
    rw [← rg_all]; exact rg_congr fun i hi => addF_in (by omega)
  unfold setL
  rw [e, h]
  rfl
theorem cut_all {L : List Rng} (h : spansOkB L = true) : setL (cutF L 0 48) L 0 48 = [] := by
  have e : rg (cutF L 0 48) 48 = [] := by
    rw [← rg_none]; exact rg_congr fun i hi => cutF_in (by omega)
  unfold setL
  rw [e, h]
  rfl
theorem meet_all {L : List Rng} (h : spansOkB L = true) : setL (meetF L 0 48) L 0 48 = L := by
  have e : rg (meetF L 0 48) 48 = L := by
    have hk : okFrom (-1) L = true := by simp only [spansOkB, Bool.and_eq_true] at h; exact h.2
    rw [← rg_inB L (-1) (by omega) hk]
    refine rg_congr fun i hi => ?_
    unfold meetF
    rw [rg_inB L (-1) (by omega) hk]
    simp; omega
  unfold setL
  rw [e, h]
  rfl

theorem cnt_le (f : Nat → Bool) : ∀ n, cnt f n ≤ n
  | 0 => Nat.le_refl _
  | n + 1 => by
    have := cnt_le (fun i => f (i + 1)) n
    unfold cnt
    cases f 0 <;> simp <;> omega
theorem has_cnt (L : List Rng) : ∀ (n o : Nat), hasB L (o : Int) n = decide (cnt (fun i => inB L ((o + i : Nat) : Int)) n = n)
  | 0, _ => by simp [hasB, cnt]
  | n + 1, o => by
    have hc := cnt_le (fun i => inB L ((o + (i + 1) : Nat) : Int)) n
    have e := has_cnt L n (o + 1)
    have e2 : (fun i => inB L ((o + 1 + i : Nat) : Int)) = (fun i => inB L ((o + (i + 1) : Nat) : Int)) := by
      funext i; rw [show o + 1 + i = o + (i + 1) by omega]
    rw [e2] at e
    unfold hasB cnt
    show (inB L (o : Int) && hasB L ((o : Int) + 1) n) = decide ((inB L ((o + 0 : Nat) : Int)).toNat + cnt (fun i => inB L ((o + (i + 1) : Nat) : Int)) n = n + 1)
    generalize cnt (fun i => inB L ((o + (i + 1) : Nat) : Int)) n = c at *
    rw [show ((o : Int) + 1) = ((o + 1 : Nat) : Int) by omega, e, Nat.add_zero]
    cases inB L (o : Int)
    · simp; omega
    · simp; omega
theorem have_all {L : List Rng} (h : spansOkB L = true) : haveB L (0, 48) = decide (manyB L = 48) := by
  have hk : okFrom (-1) L = true := by simp only [spansOkB, Bool.and_eq_true] at h; exact h.2
  have hc := cnt_lens L (-1) 0 48 hk (by omega) (by omega)
  have hh := has_cnt L 48 0
  unfold haveB manyB
  rw [h, ← hc]
  show (true && (true && hasB L ((0 : Nat) : Int) 48)) = _
  rw [hh, if_pos rfl]
  simp only [Bool.true_and]
  rw [Bool.eq_iff_iff]
  simp only [decide_eq_true_eq]
  omega

set_option maxRecDepth 100000 in
set_option maxHeartbeats 4000000 in
theorem walk (v : Value) (len : Nat) (w : World) (h : Byt w v len) (hT : TabAt w) (hg0 : 0 < w.heap.size) :
    Calls Tryd.prog 8 #[v] w fun e w' => e = .returned (.bool true) ∧ Below w.heap.size w w' := by
  have HB := Lib.hid h
  have HT := Lib.hid hT
  have hlen : len ≤ 9223372036854775807 := by obtain ⟨z, a, cap, -, h1, h2, -⟩ := h; unfold maxLen at h2; omega
  obtain ⟨z, a, cap, rfl, -, -, -⟩ := h
  clear hT
  by_cases hL : len ≤ 1048576
  · go_enter Tryd.func8, Tryd.ntmps8
    go_wp2_with fail
    refine (drawSpansMany_any _ len _ HB.out).mono ?_; rintro e w1 ⟨g, cap1, L, rfl, hs1, hL13, hb1⟩
    have HS1 := Lib.hid hs1
    have HT1 := Lib.hid (HT.out.keep hb1)
    have hz1 := hb1.size
    clear hs1
    go_wp2_with fail
    refine (implSpansMany_any _ L _ HS1.out).mono ?_; rintro e w2 ⟨rfl, hb2⟩
    have HS2 := Lib.hid (HS1.out.keep hb2)
    have HT2 := Lib.hid (HT1.out.keep hb2)
    have E2 := hb1.trans (hb2.mono hb1.size)
    have hm : 0 ≤ manyB L ∧ manyB L ≤ 1000 := by
      unfold manyB
      by_cases hk : spansOkB L = true
      · rw [if_pos hk]
        simp only [spansOkB, Bool.and_eq_true, decide_eq_true_eq] at hk
        have := lens_bd L (-1) hk.2 (by omega)
        omega
      · rw [if_neg hk]; omega
    clear HS1 HT1 hb2
    by_cases hok : spansOkB L = true
    · have qa := add_all hok
      have qc := cut_all hok
      have qm := meet_all hok
      have qh := have_all hok
      generalize hM : manyB L = M at *
      have HM := Lib.hid hM
      have HO := Lib.hid hok
      have e1 : (M != M) = false := by simp
      clear hM
      go_wp2_with fail
      refine (specSpansMany_any _ L _ HS2.out).mono ?_; rintro e w3 ⟨rfl, hb3⟩
      rw [HM.out]
      have HS3 := Lib.hid (HS2.out.keep hb3)
      have HT3 := Lib.hid (HT2.out.keep hb3)
      have E3 := E2.trans (hb3.mono E2.size)
      clear HS2 HT2 hb3
      go_wp2_with fail
      refine (specSpansOk_any _ L _ HS3.out).mono ?_; rintro e w4 ⟨rfl, hb4⟩
      rw [HO.out]
      have HS4 := Lib.hid (HS3.out.keep hb4)
      have HT4 := Lib.hid (HT3.out.keep hb4)
      have E4 := E3.trans (hb4.mono E3.size)
      clear HS3 HT3 hb4
      have k5 := new_box w4 0 48 25
      have hal : Below w4.heap.size w4 (w4.alloc (.cells #[.int .i64 0, .int .i64 48] 25)) := (Below.refl _ _).alloc (Nat.le_refl _) _
      have HS5 := Lib.hid (HS4.out.keep hal)
      have HT5 := Lib.hid (HT4.out.keep hal)
      have E5 := E4.trans (hal.mono E4.size)
      have hg5 : 0 < (w4.alloc (.cells #[.int .i64 0, .int .i64 48] 25)).heap.size := Nat.lt_of_lt_of_le hg0 E5.size
      clear HS4 HT4
      go_wp2_with fail
      refine (implSpansAdd_any _ L 0 48 _ HS5.out HT5.out hg5).mono ?_; rintro e w5 hr; obtain ⟨x, rfl, hx, hb5⟩ := hr.spn
      rw [qa] at hx
      obtain ⟨b, off, cap5, rfl, c1, c2, y1, y2⟩ := hx.one
      have E6 := E5.trans (hb5.mono E5.size)
      have HS6 := Lib.hid (HS5.out.keep hb5)
      have HT6 := Lib.hid (HT5.out.keep hb5)
      have hg6 : 0 < w5.heap.size := Nat.lt_of_lt_of_le hg5 hb5.size
      obtain ⟨x1, x2, -, -⟩ := k5.keep hb5
      have HQC := Lib.hid qc
      have HQM := Lib.hid qm
      have HQH := Lib.hid qh
      clear hx hr hb5 hal k5 HS5 HT5 qa qc qm qh
      generalize hB4 : w4.heap.size = B4 at *
      have heL := Lib.hid (eqB_refl L)
      by_cases h48 : M = 48
      · have e5 : (M == 48) = true := by simp [h48]
        have e6 := Lib.hid (show haveB L (0, 48) = true by rw [HQH.out]; simp [h48])
        go_wp2_with fail
        go_region_held3 (fun w' => w'.cell? ⟨B4, 0, none⟩ = some (.int .i64 0) ∧ w'.cell? ⟨B4, 1, none⟩ = some (.int .i64 48) ∧ w'.cell? ⟨b, off, none⟩ = some (.int .i64 0) ∧ w'.cell? ⟨b, off + 1, none⟩ = some (.int .i64 48))
          (refine ⟨?_, ?_, ?_, ?_⟩ <;> first | (go_keep; done) | (refine cell_keep hb ?_; first | (go_keep; done) | (go_simp; done)))
          (first
            | (go_at_call 21; refine (implSpansCut_any _ L 0 48 _ (HS6.out.keep (Below.refl _ _).drew) (HT6.out.keep (Below.refl _ _).drew) hg6).mono ?_; rintro e w' hr; obtain ⟨x, rfl, hx, hb⟩ := hr.spn; rw [HQC.out] at hx; obtain ⟨xa, xc, rfl, xc1, xc2⟩ := hx.form; have HS7 := Lib.hid ((HS6.out.keep (Below.refl _ _).drew).keep hb); have HT7 := Lib.hid ((HT6.out.keep (Below.refl _ _).drew).keep hb); have hbW := (Below.drew (Below.refl _ _)).trans hb)
            | (go_at_call 23; refine (implSpansMeet_any _ L 0 48 _ HS7.out HT7.out (Nat.lt_of_lt_of_le hg6 hbW.size)).mono ?_; rintro e w' hr; obtain ⟨x, rfl, hx, hb⟩ := hr.spn; rw [HQM.out] at hx; have HS8 := Lib.hid (HS7.out.keep hb); have HX8 := Lib.hid hx; have hbW2 := hbW.trans (hb.mono hbW.size))
            | (go_at_call 13; refine (wpSpans_any _ _ L L _ HX8.out HS8.out).mono ?_; rintro e w' ⟨rfl, hb⟩; rw [heL.out]; have HS9 := Lib.hid (HS8.out.keep hb); have hbW3 := hbW2.trans (hb.mono hbW2.size))
            | (go_at_call 19; refine (implSpansHave_any _ L 0 48 _ HS9.out).mono ?_; rintro e w' ⟨rfl, hb⟩; rw [e6.out]; have hbW4 := hbW3.trans (hb.mono hbW3.size)))
        go_wp2
        go_ret
        exact ⟨rfl, E6.trans (hbW4.mono E6.size)⟩
      · have e5 : (M == 48) = false := by simp [h48]
        have e6 := Lib.hid (show haveB L (0, 48) = false by rw [HQH.out]; simp [h48])
        go_wp2_with fail
        go_region_held3 (fun w' => w'.cell? ⟨B4, 0, none⟩ = some (.int .i64 0) ∧ w'.cell? ⟨B4, 1, none⟩ = some (.int .i64 48) ∧ w'.cell? ⟨b, off, none⟩ = some (.int .i64 0) ∧ w'.cell? ⟨b, off + 1, none⟩ = some (.int .i64 48))
          (refine ⟨?_, ?_, ?_, ?_⟩ <;> first | (go_keep; done) | (refine cell_keep hb ?_; first | (go_keep; done) | (go_simp; done)))
          (first
            | (go_at_call 21; refine (implSpansCut_any _ L 0 48 _ (HS6.out.keep (Below.refl _ _).drew) (HT6.out.keep (Below.refl _ _).drew) hg6).mono ?_; rintro e w' hr; obtain ⟨x, rfl, hx, hb⟩ := hr.spn; rw [HQC.out] at hx; obtain ⟨xa, xc, rfl, xc1, xc2⟩ := hx.form; have HS7 := Lib.hid ((HS6.out.keep (Below.refl _ _).drew).keep hb); have HT7 := Lib.hid ((HT6.out.keep (Below.refl _ _).drew).keep hb); have hbW := (Below.drew (Below.refl _ _)).trans hb)
            | (go_at_call 23; refine (implSpansMeet_any _ L 0 48 _ HS7.out HT7.out (Nat.lt_of_lt_of_le hg6 hbW.size)).mono ?_; rintro e w' hr; obtain ⟨x, rfl, hx, hb⟩ := hr.spn; rw [HQM.out] at hx; have HS8 := Lib.hid (HS7.out.keep hb); have HX8 := Lib.hid hx; have hbW2 := hbW.trans (hb.mono hbW.size))
            | (go_at_call 13; refine (wpSpans_any _ _ L L _ HX8.out HS8.out).mono ?_; rintro e w' ⟨rfl, hb⟩; rw [heL.out]; have HS9 := Lib.hid (HS8.out.keep hb); have hbW3 := hbW2.trans (hb.mono hbW2.size))
            | (go_at_call 19; refine (implSpansHave_any _ L 0 48 _ HS9.out).mono ?_; rintro e w' ⟨rfl, hb⟩; rw [e6.out]; have hbW4 := hbW3.trans (hb.mono hbW3.size)))
        go_wp2
        go_ret
        exact ⟨rfl, E6.trans (hbW4.mono E6.size)⟩
    · replace hok : spansOkB L = false := by simpa using hok
      generalize hM : manyB L = M at *
      have HM := Lib.hid hM
      have HO := Lib.hid hok
      have e1 : (M != M) = false := by simp
      have e2 : (M == M) = true := by simp
      clear hM
      go_wp2_with fail
      refine (specSpansMany_any _ L _ HS2.out).mono ?_; rintro e w3 ⟨rfl, hb3⟩
      rw [HM.out]
      have HS3 := Lib.hid (HS2.out.keep hb3)
      have E3 := E2.trans (hb3.mono E2.size)
      clear HS2 HT2 hb3
      go_wp2_with fail
      refine (specSpansOk_any _ L _ HS3.out).mono ?_; rintro e w4 ⟨rfl, hb4⟩
      rw [HO.out]
      have HS4 := Lib.hid (HS3.out.keep hb4)
      have E4 := E3.trans (hb4.mono E3.size)
      clear HS3 hb4
      go_wp2_with fail
      refine (specSpansMany_any _ L _ HS4.out).mono ?_; rintro e w5 ⟨rfl, hb5⟩
      rw [HM.out]
      go_wp2
      go_ret
      exact ⟨rfl, E4.trans (hb5.mono E4.size)⟩
  · go_enter Tryd.func8, Tryd.ntmps8
    go_wp2
    go_ret
    exact ⟨rfl, Below.refl _ _⟩

end Go.Proofs.YtehpmdmfolmaoaaDoor.fnSpansWhole
