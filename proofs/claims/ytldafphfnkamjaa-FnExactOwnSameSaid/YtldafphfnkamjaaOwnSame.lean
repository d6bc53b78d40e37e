/-
  OwnSame of both sides at any two caches: whether texts and ranges are one each.
-/
import Derived.Test.YtldafphfnkamjaaOwnTo
import Derived.Test.YtldafphfnkamjaaLockSame
namespace Go.Proofs.Ytldafphfnkamjaa
open Go.RowKit

theorem mkB_toListO (l : List UInt8) : (mkB l).toList = l := by rw [ByteArray.toList_eq]; rfl
def sameO (O R : OwT) : Bool := decide (O.text = R.text) && (eqB O.hav R.hav && eqB O.dirt R.dirt)

set_option maxRecDepth 100000 in
set_option maxHeartbeats 4000000 in
theorem specOwnSame_any (v1 v2 u1 u2 : Value) (O R : OwT) (w : World) (h : Ow w v1 v2 O) (h' : Ow w u1 u2 R) :
    Calls Try.prog 5 #[.agg #[.string (mkB O.text), v1, v2], .agg #[.string (mkB R.text), u1, u2]] w fun e w' => e = .returned (.bool (sameO O R)) ∧ Below w.heap.size w w' := by
  obtain ⟨T, H, D⟩ := O
  obtain ⟨T', H', D'⟩ := R
  obtain ⟨a1, c1, rfl, -, -⟩ := spn_form h.hav
  obtain ⟨a2, c2, rfl, -, -⟩ := spn_form h.dirt
  obtain ⟨b1, d1, rfl, -, -⟩ := spn_form h'.hav
  obtain ⟨b2, d2, rfl, -, -⟩ := spn_form h'.dirt
  obtain ⟨W, hW⟩ : ∃ W, (w.alloc (.cells #[.string (mkB T), .slice a1 H.length c1, .slice a2 D.length c2] 29)).alloc (.cells #[.string (mkB T'), .slice b1 H'.length d1, .slice b2 D'.length d2] 29) = W := ⟨_, rfl⟩
  have hal : Below w.heap.size w W := by rw [← hW]; exact ((Below.refl _ _).alloc (Nat.le_refl _) _).alloc (by simp) _
  have A0 : Box3 W w.heap.size (.string (mkB T)) (.slice a1 H.length c1) (.slice a2 D.length c2) := by
    rw [← hW]
    exact (new_box3 w _ _ _ _).keep ((Below.refl _ _).alloc (by simp) _)
  have B0 : Box3 W (w.heap.size + 1) (.string (mkB T')) (.slice b1 H'.length d1) (.slice b2 D'.length d2) := by
    rw [← hW]
    have := new_box3 (w.alloc (.cells #[.string (mkB T), .slice a1 H.length c1, .slice a2 D.length c2] 29)) (.string (mkB T')) (.slice b1 H'.length d1) (.slice b2 D'.length d2) 29
    simpa using this
  have H1 := Lib.hid (h.keep hal)
  have H2 := Lib.hid (h'.keep hal)
  have HA := Lib.hid A0
  have HB := Lib.hid B0
  have HE := Lib.hid hal
  have K1 : Hid (Calls Try.prog 10 #[.slice a1 H.length c1, .slice b1 H'.length d1] W fun e w' => e = .returned (.bool (eqB H H')) ∧ Below W.heap.size W w') := l4Spans_any _ _ _ _ _ H1.out.hav H2.out.hav
  have K2 : Hid (∀ w', Below W.heap.size W w' → Calls Try.prog 10 #[.slice a2 D.length c2, .slice b2 D'.length d2] w' fun e w'' => e = .returned (.bool (eqB D D')) ∧ Below w'.heap.size w' w'') := fun w' hb => l4Spans_any _ _ _ _ _ (H1.out.keep hb).dirt (H2.out.keep hb).dirt
  have HQ : Hid (sameO ⟨T, H, D⟩ ⟨T', H', D'⟩ = (decide (T = T') && (eqB H H' && eqB D D'))) := rfl
  clear hal A0 B0 h h' H1 H2
  obtain ⟨x1, x2, x3⟩ := HA.out
  obtain ⟨y1, y2, y3⟩ := HB.out
  by_cases ht : T = T'
  · have q1 : ((mkB T).toList == (mkB T').toList) = true := by rw [mkB_toListO, mkB_toListO]; simpa using ht
    have q2 : ((mkB T).toList != (mkB T').toList) = false := by rw [mkB_toListO, mkB_toListO]; simpa using ht
    rw [decide_eq_true ht, Bool.true_and] at HQ
    generalize eqB H H' = q at *
    clear ht
    cases q
    · go_enter Try.func5, Try.ntmps5
      go_wp2_with fail
      clear hW x1 x2 x3 y1 y2 y3
      refine K1.out.mono ?_; rintro e w1 ⟨rfl, hb1⟩
      have HE1 := Lib.hid (HE.out.trans (hb1.mono HE.out.size))
      clear hb1
      go_wp2
      go_ret
      exact ⟨ret_bool HQ.out.symm, HE1.out⟩
    · rw [Bool.true_and] at HQ
      go_enter Try.func5, Try.ntmps5
      go_wp2_with fail
      clear hW x1 x2 x3 y1 y2 y3
      refine K1.out.mono ?_; rintro e w1 ⟨rfl, hb1⟩
      have HA1 := Lib.hid (HA.out.keep hb1)
      have HB1 := Lib.hid (HB.out.keep hb1)
      have HE1 := Lib.hid (HE.out.trans (hb1.mono HE.out.size))
      have K3 := Lib.hid (K2.out w1 hb1)
      clear hb1
      obtain ⟨x1, x2, x3⟩ := HA1.out
      obtain ⟨y1, y2, y3⟩ := HB1.out
      go_wp2_with fail
      clear x1 x2 x3 y1 y2 y3
      refine K3.out.mono ?_; rintro e w2 ⟨rfl, hb2⟩
      have HE2 := Lib.hid (HE1.out.trans (hb2.mono HE1.out.size))
      clear hb2
      go_wp2
      go_ret
      exact ⟨ret_bool HQ.out.symm, HE2.out⟩
  · have q1 : ((mkB T).toList == (mkB T').toList) = false := by rw [mkB_toListO, mkB_toListO]; simpa using ht
    have q2 : ((mkB T).toList != (mkB T').toList) = true := by rw [mkB_toListO, mkB_toListO]; simpa using ht
    rw [decide_eq_false ht, Bool.false_and] at HQ
    clear ht
    go_enter Try.func5, Try.ntmps5
    go_wp2
    go_ret
    exact ⟨ret_bool HQ.out.symm, HE.out⟩

set_option maxRecDepth 100000 in
set_option maxHeartbeats 4000000 in
theorem implOwnSame_any (v1 v2 u1 u2 : Value) (O R : OwT) (w : World) (h : Ow w v1 v2 O) (h' : Ow w u1 u2 R) :
    Calls Try.prog 7 #[.agg #[.string (mkB O.text), v1, v2], .agg #[.string (mkB R.text), u1, u2]] w fun e w' => e = .returned (.bool (sameO O R)) ∧ Below w.heap.size w w' := by
  obtain ⟨T, H, D⟩ := O
  obtain ⟨T', H', D'⟩ := R
  obtain ⟨a1, c1, rfl, -, -⟩ := spn_form h.hav
  obtain ⟨a2, c2, rfl, -, -⟩ := spn_form h.dirt
  obtain ⟨b1, d1, rfl, -, -⟩ := spn_form h'.hav
  obtain ⟨b2, d2, rfl, -, -⟩ := spn_form h'.dirt
  obtain ⟨W, hW⟩ : ∃ W, (w.alloc (.cells #[.string (mkB T), .slice a1 H.length c1, .slice a2 D.length c2] 29)).alloc (.cells #[.string (mkB T'), .slice b1 H'.length d1, .slice b2 D'.length d2] 29) = W := ⟨_, rfl⟩
  have hal : Below w.heap.size w W := by rw [← hW]; exact ((Below.refl _ _).alloc (Nat.le_refl _) _).alloc (by simp) _
  have A0 : Box3 W w.heap.size (.string (mkB T)) (.slice a1 H.length c1) (.slice a2 D.length c2) := by
    rw [← hW]
    exact (new_box3 w _ _ _ _).keep ((Below.refl _ _).alloc (by simp) _)
  have B0 : Box3 W (w.heap.size + 1) (.string (mkB T')) (.slice b1 H'.length d1) (.slice b2 D'.length d2) := by
    rw [← hW]
    have := new_box3 (w.alloc (.cells #[.string (mkB T), .slice a1 H.length c1, .slice a2 D.length c2] 29)) (.string (mkB T')) (.slice b1 H'.length d1) (.slice b2 D'.length d2) 29
    simpa using this
  have H1 := Lib.hid (h.keep hal)
  have H2 := Lib.hid (h'.keep hal)
  have HA := Lib.hid A0
  have HB := Lib.hid B0
  have HE := Lib.hid hal
  have K1 : Hid (Calls Try.prog 12 #[.slice a1 H.length c1, .slice b1 H'.length d1] W fun e w' => e = .returned (.bool (eqB H H')) ∧ Below W.heap.size W w') := slEqual_any _ _ _ _ _ H1.out.hav H2.out.hav
  have K2 : Hid (∀ w', Below W.heap.size W w' → Calls Try.prog 12 #[.slice a2 D.length c2, .slice b2 D'.length d2] w' fun e w'' => e = .returned (.bool (eqB D D')) ∧ Below w'.heap.size w' w'') := fun w' hb => slEqual_any _ _ _ _ _ (H1.out.keep hb).dirt (H2.out.keep hb).dirt
  have HQ : Hid (sameO ⟨T, H, D⟩ ⟨T', H', D'⟩ = (decide (T = T') && (eqB H H' && eqB D D'))) := rfl
  clear hal A0 B0 h h' H1 H2
  obtain ⟨x1, x2, x3⟩ := HA.out
  obtain ⟨y1, y2, y3⟩ := HB.out
  by_cases ht : T = T'
  · have q1 : ((mkB T).toList == (mkB T').toList) = true := by rw [mkB_toListO, mkB_toListO]; simpa using ht
    have q2 : ((mkB T).toList != (mkB T').toList) = false := by rw [mkB_toListO, mkB_toListO]; simpa using ht
    rw [decide_eq_true ht, Bool.true_and] at HQ
    generalize eqB H H' = q at *
    clear ht
    cases q
    · go_enter Try.func7, Try.ntmps7
      go_wp2_with fail
      clear hW x1 x2 x3 y1 y2 y3
      refine K1.out.mono ?_; rintro e w1 ⟨rfl, hb1⟩
      have HE1 := Lib.hid (HE.out.trans (hb1.mono HE.out.size))
      clear hb1
      go_wp2
      go_ret
      exact ⟨ret_bool HQ.out.symm, HE1.out⟩
    · rw [Bool.true_and] at HQ
      go_enter Try.func7, Try.ntmps7
      go_wp2_with fail
      clear hW x1 x2 x3 y1 y2 y3
      refine K1.out.mono ?_; rintro e w1 ⟨rfl, hb1⟩
      have HA1 := Lib.hid (HA.out.keep hb1)
      have HB1 := Lib.hid (HB.out.keep hb1)
      have HE1 := Lib.hid (HE.out.trans (hb1.mono HE.out.size))
      have K3 := Lib.hid (K2.out w1 hb1)
      clear hb1
      obtain ⟨x1, x2, x3⟩ := HA1.out
      obtain ⟨y1, y2, y3⟩ := HB1.out
      go_wp2_with fail
      clear x1 x2 x3 y1 y2 y3
      refine K3.out.mono ?_; rintro e w2 ⟨rfl, hb2⟩
      have HE2 := Lib.hid (HE1.out.trans (hb2.mono HE1.out.size))
      clear hb2
      go_wp2
      go_ret
      exact ⟨ret_bool HQ.out.symm, HE2.out⟩
  · have q1 : ((mkB T).toList == (mkB T').toList) = false := by rw [mkB_toListO, mkB_toListO]; simpa using ht
    have q2 : ((mkB T).toList != (mkB T').toList) = true := by rw [mkB_toListO, mkB_toListO]; simpa using ht
    rw [decide_eq_false ht, Bool.false_and] at HQ
    clear ht
    go_enter Try.func7, Try.ntmps7
    go_wp2
    go_ret
    exact ⟨ret_bool HQ.out.symm, HE.out⟩

end Go.Proofs.Ytldafphfnkamjaa
