/-
  Contracts: l5Texts, StoreOk of the model; objectsOk, numbersOk, epochOk, clientOk, objectOk, StoreOk of the program: they return what stOkB says.
-/
import Derived.Test.YtadoihddmbbjoaaDoorKStoV
import Derived.Deep.LoopGhost
namespace Go.Proofs.YtadoihddmbbjoaaDoor
open Go.RowKit

/-- No text is longer than an int can say. -/
def szL (L : List (List UInt8)) : Prop := ∀ i, (L.getD i []).length ≤ 9223372036854775807
def szT (S : StT) : Prop := szL S.now ∧ szL S.sure

set_option maxHeartbeats 2000000 in
theorem l5Texts_any (v : Value) (L : List (List UInt8)) (w : World) (h : Vls w v L.length (strF L)) (hs : szL L) :
    Calls Tryd.prog 46 #[v] w fun e w' => e = .returned (.bool (txB L)) ∧ w = w' := by
  obtain ⟨a, cap, rfl, hl, hm, hc⟩ := h
  unfold maxLen at hm
  have HC := Lib.hid hc
  have HS := Lib.hid hs
  clear hc hs
  go_enter Tryd.func46, Tryd.ntmps46
  go_wp2
  go_loop [3] (fun i => ∃ k : Nat, k ≤ L.length ∧ i = .int .i64 k ∧ Hid (∀ i, i < k → tokB (L.getD i []) = true)) (fun i => L.length - (intOf i).toNat)
  case atStart => exact ⟨0, Nat.zero_le _, rfl, Lib.hid (fun i h => absurd h (by omega))⟩
  case round =>
    obtain ⟨k, hk, rfl, HA⟩ := hrel
    by_cases hlt : k < L.length
    · obtain ⟨b, off, rfl, hcc⟩ := HC.out (by omega)
      have c1 : w.cell? ⟨b, off + k, none⟩ = some (.string (mkB (L.getD k []))) := hcc k hlt
      have i0 : (0 : Int) ≤ (k : Int) := by omega
      have i1 : (k : Int) < (L.length : Int) := by omega
      have KT := Lib.hid (fun W => specTextOk_any (mkB (L.getD k [])) (by rw [mkB_size]; exact HS.out k) W)
      rw [mkB_toList] at KT
      clear hcc
      have HN : Hid (tokB (L.getD k []) = true → Hid (∀ i, i < k + 1 → tokB (L.getD i []) = true)) := fun hq i hi => by
        by_cases e : i = k
        · rw [e]; exact hq
        · exact HA.out i (by omega)
      have HF : Hid (tokB (L.getD k []) = false → txB L = false) := fun hq => txB_bad hlt hq
      clear HA
      generalize L.getD k [] = y at *
      by_cases hq : tokB y = true
      · have HV := Lib.hid hq
        rw [hq] at KT
        clear hq HF
        go_wp2_with fail
        refine (KT.out _).mono ?_; rintro e w' ⟨rfl, rfl⟩
        go_wp2
        go_round
        case rel => exact ⟨k + 1, by omega, by go_num, HN.out HV.out⟩
        case measure => simp [intOf]; omega
      · have HV : Hid (tokB y = false) := by show _ = _; simpa using hq
        rw [show tokB y = false by simpa using hq] at KT
        clear hq HN
        go_wp2_with fail
        refine (KT.out _).mono ?_; rintro e w' ⟨rfl, rfl⟩
        go_wp2
        go_ret
        exact ⟨ret_bool (HF.out HV.out).symm, rfl⟩
    · obtain rfl : k = L.length := by omega
      have HF := Lib.hid (txB_end HA.out)
      clear HA
      go_wp2
      go_ret
      exact ⟨ret_bool (by rw [HF.out, Bool.eq_iff_iff]; simp; try omega), rfl⟩

set_option maxHeartbeats 2000000 in
theorem objectsOk_any (v : Value) (L : List (List UInt8)) (w : World) (h : Vls w v L.length (strF L)) (hs : szL L) :
    Calls Tryd.prog 44 #[v] w fun e w' => e = .returned (.bool (txB L)) ∧ w = w' := by
  obtain ⟨a, cap, rfl, hl, hm, hc⟩ := h
  unfold maxLen at hm
  have HC := Lib.hid hc
  have HS := Lib.hid hs
  clear hc hs
  go_enter Tryd.func44, Tryd.ntmps44
  go_wp2
  go_loop [7] (fun i => ∃ k : Nat, k ≤ L.length ∧ i = .int .i64 k ∧ Hid (∀ i, i < k → tokB (L.getD i []) = true)) (fun i => L.length - (intOf i).toNat)
  case atStart => exact ⟨0, Nat.zero_le _, rfl, Lib.hid (fun i h => absurd h (by omega))⟩
  case round =>
    obtain ⟨k, hk, rfl, HA⟩ := hrel
    by_cases hlt : k < L.length
    · obtain ⟨b, off, rfl, hcc⟩ := HC.out (by omega)
      have c1 : w.cell? ⟨b, off + k, none⟩ = some (.string (mkB (L.getD k []))) := hcc k hlt
      have i0 : (0 : Int) ≤ (k : Int) := by omega
      have i1 : (k : Int) < (L.length : Int) := by omega
      have KT := Lib.hid (fun W => implTextOk_any (mkB (L.getD k [])) (by rw [mkB_size]; exact HS.out k) W)
      rw [mkB_toList] at KT
      clear hcc
      have HN : Hid (tokB (L.getD k []) = true → Hid (∀ i, i < k + 1 → tokB (L.getD i []) = true)) := fun hq i hi => by
        by_cases e : i = k
        · rw [e]; exact hq
        · exact HA.out i (by omega)
      have HF : Hid (tokB (L.getD k []) = false → txB L = false) := fun hq => txB_bad hlt hq
      clear HA
      generalize L.getD k [] = y at *
      by_cases hq : tokB y = true
      · have HV := Lib.hid hq
        rw [hq] at KT
        clear hq HF
        go_wp2_with fail
        refine (KT.out _).mono ?_; rintro e w' ⟨rfl, rfl⟩
        go_wp2
        go_round
        case rel => exact ⟨k + 1, by omega, by go_num, HN.out HV.out⟩
        case measure => simp [intOf]; omega
      · have HV : Hid (tokB y = false) := by show _ = _; simpa using hq
        rw [show tokB y = false by simpa using hq] at KT
        clear hq HN
        go_wp2_with fail
        refine (KT.out _).mono ?_; rintro e w' ⟨rfl, rfl⟩
        go_wp2
        go_ret
        exact ⟨ret_bool (HF.out HV.out).symm, rfl⟩
    · obtain rfl : k = L.length := by omega
      have HF := Lib.hid (txB_end HA.out)
      clear HA
      go_wp2
      go_ret
      exact ⟨ret_bool (by rw [HF.out, Bool.eq_iff_iff]; simp; try omega), rfl⟩

set_option maxHeartbeats 400000 in
theorem epochOk_any (x : Int) (w : World) :
    Calls Tryd.prog 71 #[.int .i64 x] w fun e w' => e = .returned (.bool (epoB x)) ∧ w = w' := by
  by_cases h0 : 0 ≤ x <;> by_cases h1 : x ≤ 100 <;> first | (exfalso; omega) | skip
  all_goals
    go_enter Tryd.func71, Tryd.ntmps71
    go_wp2
    go_ret
    refine ⟨ret_bool ?_, rfl⟩
    first | exact (decide_eq_true (by omega)).symm | exact (decide_eq_false (by omega)).symm

set_option maxHeartbeats 400000 in
theorem clientOkV_any (x : Int) (w : World) :
    Calls Tryd.prog 85 #[.int .i64 x] w fun e w' => e = .returned (.bool (cliB x)) ∧ w = w' := by
  by_cases h0 : 0 ≤ x <;> by_cases h1 : x < 3 <;> first | (exfalso; omega) | skip
  all_goals
    go_enter Tryd.func85, Tryd.ntmps85
    go_wp2
    go_ret
    refine ⟨ret_bool ?_, rfl⟩
    first | exact (decide_eq_true (by omega)).symm | exact (decide_eq_false (by omega)).symm

set_option maxHeartbeats 400000 in
theorem objectOk_any (x : Int) (w : World) :
    Calls Tryd.prog 49 #[.int .i64 x] w fun e w' => e = .returned (.bool (cliB x)) ∧ w = w' := by
  by_cases h0 : 0 ≤ x <;> by_cases h1 : x < 3 <;> first | (exfalso; omega) | skip
  all_goals
    go_enter Tryd.func49, Tryd.ntmps49
    go_wp2
    go_ret
    refine ⟨ret_bool ?_, rfl⟩
    first | exact (decide_eq_true (by omega)).symm | exact (decide_eq_false (by omega)).symm

set_option maxRecDepth 100000 in
set_option maxHeartbeats 4000000 in
theorem numbersOk_any (v0 v1 v2 v3 v4 : Value) (S : StT) (w : World) (h : Sto w v0 v1 v2 v3 v4 S) :
    Calls Tryd.prog 45 #[.agg #[v0, v1, v2, v3, v4]] w fun e w' => e = .returned (.bool (nmB S)) ∧ Below w.heap.size w w' := by
  obtain ⟨a0, c0, rfl⟩ := h.now.form
  obtain ⟨a1, c1, rfl⟩ := h.sure.form
  obtain ⟨a2, c2, rfl⟩ := h.last.form
  obtain ⟨a3, c3, rfl⟩ := h.slast.form
  obtain ⟨a4, c4, rfl⟩ := h.floors.form
  obtain ⟨W, hW⟩ : ∃ W, w.alloc (.cells #[.slice a0 S.now.length c0, .slice a1 S.sure.length c1, .slice a2 S.last.length c2, .slice a3 S.slast.length c3, .slice a4 S.floors.length c4] 30) = W := ⟨_, rfl⟩
  have hal : Below w.heap.size w W := by rw [← hW]; exact (Below.refl _ _).alloc (Nat.le_refl _) _
  have B0 : Box5 W w.heap.size (.slice a0 S.now.length c0) (.slice a1 S.sure.length c1) (.slice a2 S.last.length c2) (.slice a3 S.slast.length c3) (.slice a4 S.floors.length c4) := by rw [← hW]; exact new_box5 w _ _ _ _ _ _
  have HB0 := Lib.hid B0
  have HAL := Lib.hid hal
  have HL : Hid (¬ (S.last.length = 3 ∧ S.slast.length = 3 ∧ S.floors.length = 3) → nmB S = false) := fun hq => nmB_len (decide_eq_false hq)
  have HQ : Hid (∀ k, k < 3 → numB (S.slast.getD k 0) (S.last.getD k 0) (S.floors.getD k 0) = false → nmB S = false) := fun k hk hq => nmB_bad hk hq
  obtain ⟨x0, x1, x2, x3, x4⟩ := id B0
  clear B0
  by_cases n2 : S.last.length ≠ 3
  · have d2 : ((S.last.length : Int) != 3) = true := by simp; omega
    have HF : Hid (nmB S = false) := Lib.hid (HL.out (fun h => n2 h.1))
    go_enter Tryd.func45, Tryd.ntmps45
    go_wp2
    go_ret
    exact ⟨ret_bool HF.out.symm, HAL.out⟩
  replace n2 : S.last.length = 3 := by omega
  have d2 : ((3 : Int) != 3) = false := rfl
  have N2 := Lib.hid n2
  rw [n2] at hW HB0 x2 ⊢
  clear n2
  by_cases n3 : S.slast.length ≠ 3
  · have d3 : ((S.slast.length : Int) != 3) = true := by simp; omega
    have HF : Hid (nmB S = false) := Lib.hid (HL.out (fun h => n3 h.2.1))
    go_enter Tryd.func45, Tryd.ntmps45
    go_wp2
    go_ret
    exact ⟨ret_bool HF.out.symm, HAL.out⟩
  replace n3 : S.slast.length = 3 := by omega
  have d3 : ((3 : Int) != 3) = false := rfl
  have N3 := Lib.hid n3
  rw [n3] at hW HB0 x3 ⊢
  clear n3
  by_cases n4 : S.floors.length ≠ 3
  · have d4 : ((S.floors.length : Int) != 3) = true := by simp; omega
    have HF : Hid (nmB S = false) := Lib.hid (HL.out (fun h => n4 h.2.2))
    go_enter Tryd.func45, Tryd.ntmps45
    go_wp2
    go_ret
    exact ⟨ret_bool HF.out.symm, HAL.out⟩
  replace n4 : S.floors.length = 3 := by omega
  have d4 : ((3 : Int) != 3) = false := rfl
  have N4 := Lib.hid n4
  rw [n4] at hW HB0 x4 ⊢
  clear n4
  have HE : Hid ((∀ i, i < 3 → numAt S i = true) → nmB S = true) := fun hq => nmB_iff.2 ⟨lensB_iff.2 ⟨N2.out, N3.out, N4.out⟩, hq⟩
  have q2 := h.last.keep hal
  have q3 := h.slast.keep hal
  have q4 := h.floors.keep hal
  rw [N2.out] at q2
  rw [N3.out] at q3
  rw [N4.out] at q4
  obtain ⟨a2', c2', e2, l2, m2, C2⟩ := q2
  obtain ⟨rfl, -, rfl⟩ := (Value.slice.injEq ..).mp e2
  obtain ⟨a3', c3', e3, l3, m3, C3⟩ := q3
  obtain ⟨rfl, -, rfl⟩ := (Value.slice.injEq ..).mp e3
  obtain ⟨a4', c4', e4, l4, m4, C4⟩ := q4
  obtain ⟨rfl, -, rfl⟩ := (Value.slice.injEq ..).mp e4
  unfold maxLen at m2 m3 m4
  have HC2 := Lib.hid C2
  have HC3 := Lib.hid C3
  have HC4 := Lib.hid C4
  clear e2 e3 e4 C2 C3 C4 h hal N2 N3 N4
  go_enter Tryd.func45, Tryd.ntmps45
  go_wp2
  clear hW x0 x1 x2 x3 x4
  go_loopg [25] 3 (fun g s25 wr => ∃ k : Nat, g = 3 - k ∧ k ≤ 3 ∧ s25 = .int .i64 k ∧ Hid (∀ i, i < k → numAt S i = true) ∧ Below W.heap.size W wr)
  case atStart => exact ⟨0, rfl, Nat.zero_le _, rfl, Lib.hid (fun i h => absurd h (by omega)), Below.refl _ _⟩
  case round =>
    obtain ⟨k, rfl, hk, rfl, HA, hb⟩ := hrel
    have HB := Lib.hid hb
    obtain ⟨x0, x1, x2, x3, x4⟩ := HB0.out.keep hb
    by_cases hlt : k < 3
    · obtain ⟨b2, o2, rfl, g2⟩ := HC2.out (by omega)
      obtain ⟨b3, o3, rfl, g3⟩ := HC3.out (by omega)
      obtain ⟨b4, o4, rfl, g4⟩ := HC4.out (by omega)
      have y2 : wr.cell? ⟨b2, o2 + k, none⟩ = some (.int .i64 (S.last.getD k 0)) := cell_keep hb (g2 k hlt)
      have y3 : wr.cell? ⟨b3, o3 + k, none⟩ = some (.int .i64 (S.slast.getD k 0)) := cell_keep hb (g3 k hlt)
      have y4 : wr.cell? ⟨b4, o4 + k, none⟩ = some (.int .i64 (S.floors.getD k 0)) := cell_keep hb (g4 k hlt)
      have i0 : (0 : Int) ≤ (k : Int) := by omega
      have i1 : (k : Int) < 3 := by omega
      have HN : Hid (numB (S.slast.getD k 0) (S.last.getD k 0) (S.floors.getD k 0) = true → Hid (∀ i, i < k + 1 → numAt S i = true)) := fun hq i hi => by
        by_cases e : i = k
        · rw [e]; exact hq
        · exact HA.out i (by omega)
      have HF : Hid (numB (S.slast.getD k 0) (S.last.getD k 0) (S.floors.getD k 0) = false → nmB S = false) := fun hq => HQ.out k hlt hq
      clear g2 g3 g4 hb HA
      generalize S.last.getD k 0 = l at *
      generalize S.slast.getD k 0 = s at *
      generalize S.floors.getD k 0 = f at *
      have KE := Lib.hid (fun W => epochOk_any f W)
      by_cases h1 : s < 0
      · have d1 : decide (s < 0) = true := decide_eq_true h1
        have HV : Hid (numB s l f = false) := Lib.hid (numB_false (by omega))
        clear HN
        go_wp2_with (go_at_call 71; refine (KE.out _).mono ?_; rintro e w' ⟨rfl, rfl⟩)
        go_ret
        exact ⟨ret_bool (HF.out HV.out).symm, HAL.out.trans (HB.out.mono HAL.out.size)⟩
      · have d1 : decide (s < 0) = false := decide_eq_false h1
        by_cases h2 : l < s
        · have d2 : decide (l < s) = true := decide_eq_true h2
          have HV : Hid (numB s l f = false) := Lib.hid (numB_false (by omega))
          clear HN
          go_wp2_with (go_at_call 71; refine (KE.out _).mono ?_; rintro e w' ⟨rfl, rfl⟩)
          go_ret
          exact ⟨ret_bool (HF.out HV.out).symm, HAL.out.trans (HB.out.mono HAL.out.size)⟩
        · have d2 : decide (l < s) = false := decide_eq_false h2
          by_cases h3 : 1000 < l
          · have d3 : decide (1000 < l) = true := decide_eq_true h3
            have HV : Hid (numB s l f = false) := Lib.hid (numB_false (by omega))
            clear HN
            go_wp2_with (go_at_call 71; refine (KE.out _).mono ?_; rintro e w' ⟨rfl, rfl⟩)
            go_ret
            exact ⟨ret_bool (HF.out HV.out).symm, HAL.out.trans (HB.out.mono HAL.out.size)⟩
          · have d3 : decide (1000 < l) = false := decide_eq_false h3
            by_cases h4 : 0 ≤ f ∧ f ≤ 100
            · have HV : Hid (numB s l f = true) := Lib.hid (numB_true (by omega))
              rw [show epoB f = true from decide_eq_true h4] at KE
              clear HF h4
              go_wp2_with (go_at_call 71; refine (KE.out _).mono ?_; rintro e w' ⟨rfl, rfl⟩)
              go_roundg (3 - (k + 1))
              case measure => omega
              case rel => exact ⟨k + 1, rfl, by omega, by go_num, HN.out HV.out, HB.out⟩
            · have HV : Hid (numB s l f = false) := Lib.hid (numB_false (by omega))
              rw [show epoB f = false from decide_eq_false h4] at KE
              clear HN h4
              go_wp2_with (go_at_call 71; refine (KE.out _).mono ?_; rintro e w' ⟨rfl, rfl⟩)
              go_ret
              exact ⟨ret_bool (HF.out HV.out).symm, HAL.out.trans (HB.out.mono HAL.out.size)⟩
    · obtain rfl : k = 3 := by omega
      have HT := Lib.hid (HE.out HA.out)
      go_wp2
      go_ret
      exact ⟨ret_bool HT.out.symm, HAL.out.trans (hb.mono HAL.out.size)⟩
set_option maxRecDepth 100000 in
set_option maxHeartbeats 8000000 in
theorem specStoreOk_any (v0 v1 v2 v3 v4 : Value) (S : StT) (w : World) (h : Sto w v0 v1 v2 v3 v4 S) (hz : szT S) :
    Calls Tryd.prog 18 #[.agg #[v0, v1, v2, v3, v4]] w fun e w' => e = .returned (.bool (stOkB S)) ∧ Below w.heap.size w w' := by
  obtain ⟨a0, c0, rfl⟩ := h.now.form
  obtain ⟨a1, c1, rfl⟩ := h.sure.form
  obtain ⟨a2, c2, rfl⟩ := h.last.form
  obtain ⟨a3, c3, rfl⟩ := h.slast.form
  obtain ⟨a4, c4, rfl⟩ := h.floors.form
  obtain ⟨W, hW⟩ : ∃ W, w.alloc (.cells #[.slice a0 S.now.length c0, .slice a1 S.sure.length c1, .slice a2 S.last.length c2, .slice a3 S.slast.length c3, .slice a4 S.floors.length c4] 30) = W := ⟨_, rfl⟩
  have hal : Below w.heap.size w W := by rw [← hW]; exact (Below.refl _ _).alloc (Nat.le_refl _) _
  have B0 : Box5 W w.heap.size (.slice a0 S.now.length c0) (.slice a1 S.sure.length c1) (.slice a2 S.last.length c2) (.slice a3 S.slast.length c3) (.slice a4 S.floors.length c4) := by rw [← hW]; exact new_box5 w _ _ _ _ _ _
  have HB0 := Lib.hid B0
  have HAL := Lib.hid hal
  have HL : Hid (¬ (S.last.length = 3 ∧ S.slast.length = 3 ∧ S.floors.length = 3) → stOkB S = false) := fun hq => stOk_nm (nmB_len (decide_eq_false hq))
  have HQ : Hid (∀ k, k < 3 → numB (S.slast.getD k 0) (S.last.getD k 0) (S.floors.getD k 0) = false → stOkB S = false) := fun k hk hq => stOk_nm (nmB_bad hk hq)
  have K0 := Lib.hid (l5Texts_any _ _ W (h.now.keep hal) hz.1)
  have K1 := Lib.hid (l5Texts_any _ _ W (h.sure.keep hal) hz.2)
  obtain ⟨x0, x1, x2, x3, x4⟩ := id B0
  clear B0
  by_cases t0 : txB S.now ≠ true
  · have HF : Hid (stOkB S = false) := Lib.hid (stOk_now (by simpa using t0))
    rw [show txB S.now = false by simpa using t0] at K0
    go_enter Tryd.func18, Tryd.ntmps18
    go_wp2_with fail
    refine K0.out.mono ?_; rintro e w' ⟨rfl, rfl⟩
    go_wp2
    go_ret
    exact ⟨ret_bool HF.out.symm, HAL.out⟩
  replace t0 : txB S.now = true := Decidable.not_not.1 t0
  have T0 := Lib.hid t0
  rw [t0] at K0
  clear t0
  by_cases t1 : txB S.sure ≠ true
  · have HF : Hid (stOkB S = false) := Lib.hid (stOk_sure (by simpa using t1))
    rw [show txB S.sure = false by simpa using t1] at K1
    go_enter Tryd.func18, Tryd.ntmps18
    go_wp2_with fail
    refine K0.out.mono ?_; rintro e w' ⟨rfl, rfl⟩
    go_wp2_with fail
    refine K1.out.mono ?_; rintro e w' ⟨rfl, rfl⟩
    go_wp2
    go_ret
    exact ⟨ret_bool HF.out.symm, HAL.out⟩
  replace t1 : txB S.sure = true := Decidable.not_not.1 t1
  have T1 := Lib.hid t1
  rw [t1] at K1
  clear t1
  by_cases n2 : S.last.length ≠ 3
  · have d2 : ((S.last.length : Int) != 3) = true := by simp; omega
    have HF : Hid (stOkB S = false) := Lib.hid (HL.out (fun h => n2 h.1))
    go_enter Tryd.func18, Tryd.ntmps18
    go_wp2_with fail
    refine K0.out.mono ?_; rintro e w' ⟨rfl, rfl⟩
    go_wp2_with fail
    refine K1.out.mono ?_; rintro e w' ⟨rfl, rfl⟩
    go_wp2
    go_ret
    exact ⟨ret_bool HF.out.symm, HAL.out⟩
  replace n2 : S.last.length = 3 := by omega
  have d2 : ((3 : Int) != 3) = false := rfl
  have N2 := Lib.hid n2
  rw [n2] at hW HB0 x2 ⊢
  clear n2
  by_cases n3 : S.slast.length ≠ 3
  · have d3 : ((S.slast.length : Int) != 3) = true := by simp; omega
    have HF : Hid (stOkB S = false) := Lib.hid (HL.out (fun h => n3 h.2.1))
    go_enter Tryd.func18, Tryd.ntmps18
    go_wp2_with fail
    refine K0.out.mono ?_; rintro e w' ⟨rfl, rfl⟩
    go_wp2_with fail
    refine K1.out.mono ?_; rintro e w' ⟨rfl, rfl⟩
    go_wp2
    go_ret
    exact ⟨ret_bool HF.out.symm, HAL.out⟩
  replace n3 : S.slast.length = 3 := by omega
  have d3 : ((3 : Int) != 3) = false := rfl
  have N3 := Lib.hid n3
  rw [n3] at hW HB0 x3 ⊢
  clear n3
  by_cases n4 : S.floors.length ≠ 3
  · have d4 : ((S.floors.length : Int) != 3) = true := by simp; omega
    have HF : Hid (stOkB S = false) := Lib.hid (HL.out (fun h => n4 h.2.2))
    go_enter Tryd.func18, Tryd.ntmps18
    go_wp2_with fail
    refine K0.out.mono ?_; rintro e w' ⟨rfl, rfl⟩
    go_wp2_with fail
    refine K1.out.mono ?_; rintro e w' ⟨rfl, rfl⟩
    go_wp2
    go_ret
    exact ⟨ret_bool HF.out.symm, HAL.out⟩
  replace n4 : S.floors.length = 3 := by omega
  have d4 : ((3 : Int) != 3) = false := rfl
  have N4 := Lib.hid n4
  rw [n4] at hW HB0 x4 ⊢
  clear n4
  have HE : Hid ((∀ i, i < 3 → numAt S i = true) → stOkB S = true) := fun hq => stOk_iff.2 ⟨T0.out, T1.out, nmB_iff.2 ⟨lensB_iff.2 ⟨N2.out, N3.out, N4.out⟩, hq⟩⟩
  have q2 := h.last.keep hal
  have q3 := h.slast.keep hal
  have q4 := h.floors.keep hal
  rw [N2.out] at q2
  rw [N3.out] at q3
  rw [N4.out] at q4
  obtain ⟨a2', c2', e2, l2, m2, C2⟩ := q2
  obtain ⟨rfl, -, rfl⟩ := (Value.slice.injEq ..).mp e2
  obtain ⟨a3', c3', e3, l3, m3, C3⟩ := q3
  obtain ⟨rfl, -, rfl⟩ := (Value.slice.injEq ..).mp e3
  obtain ⟨a4', c4', e4, l4, m4, C4⟩ := q4
  obtain ⟨rfl, -, rfl⟩ := (Value.slice.injEq ..).mp e4
  unfold maxLen at m2 m3 m4
  have HC2 := Lib.hid C2
  have HC3 := Lib.hid C3
  have HC4 := Lib.hid C4
  clear e2 e3 e4 C2 C3 C4 h hal N2 N3 N4
  go_enter Tryd.func18, Tryd.ntmps18
  go_wp2_with fail
  refine K0.out.mono ?_; rintro e w' ⟨rfl, rfl⟩
  go_wp2_with fail
  refine K1.out.mono ?_; rintro e w' ⟨rfl, rfl⟩
  go_wp2
  clear hW x0 x1 x2 x3 x4 K0 K1
  go_loopg [3] 3 (fun g s3 wr => ∃ k : Nat, g = 3 - k ∧ k ≤ 3 ∧ s3 = .int .i64 k ∧ Hid (∀ i, i < k → numAt S i = true) ∧ Below W.heap.size W wr)
  case atStart => exact ⟨0, rfl, Nat.zero_le _, rfl, Lib.hid (fun i h => absurd h (by omega)), Below.refl _ _⟩
  case round =>
    obtain ⟨k, rfl, hk, rfl, HA, hb⟩ := hrel
    have HB := Lib.hid hb
    obtain ⟨x0, x1, x2, x3, x4⟩ := HB0.out.keep hb
    by_cases hlt : k < 3
    · obtain ⟨b2, o2, rfl, g2⟩ := HC2.out (by omega)
      obtain ⟨b3, o3, rfl, g3⟩ := HC3.out (by omega)
      obtain ⟨b4, o4, rfl, g4⟩ := HC4.out (by omega)
      have y2 : wr.cell? ⟨b2, o2 + k, none⟩ = some (.int .i64 (S.last.getD k 0)) := cell_keep hb (g2 k hlt)
      have y3 : wr.cell? ⟨b3, o3 + k, none⟩ = some (.int .i64 (S.slast.getD k 0)) := cell_keep hb (g3 k hlt)
      have y4 : wr.cell? ⟨b4, o4 + k, none⟩ = some (.int .i64 (S.floors.getD k 0)) := cell_keep hb (g4 k hlt)
      have i0 : (0 : Int) ≤ (k : Int) := by omega
      have i1 : (k : Int) < 3 := by omega
      have HN : Hid (numB (S.slast.getD k 0) (S.last.getD k 0) (S.floors.getD k 0) = true → Hid (∀ i, i < k + 1 → numAt S i = true)) := fun hq i hi => by
        by_cases e : i = k
        · rw [e]; exact hq
        · exact HA.out i (by omega)
      have HF : Hid (numB (S.slast.getD k 0) (S.last.getD k 0) (S.floors.getD k 0) = false → stOkB S = false) := fun hq => HQ.out k hlt hq
      clear g2 g3 g4 hb HA
      generalize S.last.getD k 0 = l at *
      generalize S.slast.getD k 0 = s at *
      generalize S.floors.getD k 0 = f at *
      by_cases h1 : s < 0
      · have d1 : decide (s < 0) = true := decide_eq_true h1
        have HV : Hid (numB s l f = false) := Lib.hid (numB_false (by omega))
        clear HN
        go_wp2_with fail
        go_quiet (fail)
        go_wp2
        go_ret
        exact ⟨ret_bool (HF.out HV.out).symm, HAL.out.trans ((HB.out.trans ((below_drewN1 _ _).mono HB.out.size)).mono HAL.out.size)⟩
      · have d1 : decide (s < 0) = false := decide_eq_false h1
        by_cases h2 : l < s
        · have d2 : decide (l < s) = true := decide_eq_true h2
          have HV : Hid (numB s l f = false) := Lib.hid (numB_false (by omega))
          clear HN
          go_wp2_with fail
          go_quiet (fail)
          go_wp2
          go_ret
          exact ⟨ret_bool (HF.out HV.out).symm, HAL.out.trans ((HB.out.trans ((below_drewN1 _ _).mono HB.out.size)).mono HAL.out.size)⟩
        · have d2 : decide (l < s) = false := decide_eq_false h2
          by_cases h3 : 1000 < l
          · have d3 : decide (1000 < l) = true := decide_eq_true h3
            have HV : Hid (numB s l f = false) := Lib.hid (numB_false (by omega))
            clear HN
            go_wp2_with fail
            go_quiet (fail)
            go_wp2
            go_ret
            exact ⟨ret_bool (HF.out HV.out).symm, HAL.out.trans ((HB.out.trans ((below_drewN1 _ _).mono HB.out.size)).mono HAL.out.size)⟩
          · have d3 : decide (1000 < l) = false := decide_eq_false h3
            by_cases h4 : f < 0
            · have d4 : decide (f < 0) = true := decide_eq_true h4
              have HV : Hid (numB s l f = false) := Lib.hid (numB_false (by omega))
              clear HN
              go_wp2_with fail
              go_quiet (fail)
              go_wp2
              go_ret
              exact ⟨ret_bool (HF.out HV.out).symm, HAL.out.trans ((HB.out.trans ((below_drewN1 _ _).mono HB.out.size)).mono HAL.out.size)⟩
            · have d4 : decide (f < 0) = false := decide_eq_false h4
              by_cases h5 : 100 < f
              · have d5 : decide (100 < f) = true := decide_eq_true h5
                have HV : Hid (numB s l f = false) := Lib.hid (numB_false (by omega))
                clear HN
                go_wp2_with fail
                go_quiet (fail)
                go_wp2
                go_ret
                exact ⟨ret_bool (HF.out HV.out).symm, HAL.out.trans ((HB.out.trans ((below_drewN1 _ _).mono HB.out.size)).mono HAL.out.size)⟩
              · have d5 : decide (100 < f) = false := decide_eq_false h5
                have HV : Hid (numB s l f = true) := Lib.hid (numB_true (by omega))
                clear HF
                go_wp2_with fail
                go_quiet (fail)
                go_wp2
                go_roundg (3 - (k + 1))
                case measure => omega
                case rel => exact ⟨k + 1, rfl, by omega, by go_num, HN.out HV.out, HB.out.trans ((below_drewN1 _ _).mono HB.out.size)⟩
    · obtain rfl : k = 3 := by omega
      have HT := Lib.hid (HE.out HA.out)
      go_wp2
      go_ret
      exact ⟨ret_bool HT.out.symm, HAL.out.trans (hb.mono HAL.out.size)⟩
set_option maxRecDepth 100000 in
set_option maxHeartbeats 4000000 in
theorem implStoreOk_any (v0 v1 v2 v3 v4 : Value) (S : StT) (w : World) (h : Sto w v0 v1 v2 v3 v4 S) (hz : szT S) :
    Calls Tryd.prog 17 #[.agg #[v0, v1, v2, v3, v4]] w fun e w' => e = .returned (.bool (stOkB S)) ∧ Below w.heap.size w w' := by
  obtain ⟨a0, c0, rfl⟩ := h.now.form
  obtain ⟨a1, c1, rfl⟩ := h.sure.form
  obtain ⟨a2, c2, rfl⟩ := h.last.form
  obtain ⟨a3, c3, rfl⟩ := h.slast.form
  obtain ⟨a4, c4, rfl⟩ := h.floors.form
  obtain ⟨W, hW⟩ : ∃ W, w.alloc (.cells #[.slice a0 S.now.length c0, .slice a1 S.sure.length c1, .slice a2 S.last.length c2, .slice a3 S.slast.length c3, .slice a4 S.floors.length c4] 30) = W := ⟨_, rfl⟩
  have hal : Below w.heap.size w W := by rw [← hW]; exact (Below.refl _ _).alloc (Nat.le_refl _) _
  have B0 : Box5 W w.heap.size (.slice a0 S.now.length c0) (.slice a1 S.sure.length c1) (.slice a2 S.last.length c2) (.slice a3 S.slast.length c3) (.slice a4 S.floors.length c4) := by rw [← hW]; exact new_box5 w _ _ _ _ _ _
  have HB0 := Lib.hid B0
  have HAL := Lib.hid hal
  have K0 := Lib.hid (objectsOk_any _ _ W (h.now.keep hal) hz.1)
  have K1 := Lib.hid (objectsOk_any _ _ W (h.sure.keep hal) hz.2)
  have K2 := Lib.hid (numbersOk_any _ _ _ _ _ S W (h.keep hal))
  have HE : Hid (stOkB S = (txB S.now && (txB S.sure && nmB S))) := rfl
  obtain ⟨x0, x1, x2, x3, x4⟩ := id B0
  clear B0 h hal
  generalize txB S.now = q0 at *
  generalize txB S.sure = q1 at *
  generalize nmB S = q2 at *
  cases q0
  · go_enter Tryd.func17, Tryd.ntmps17
    go_wp2_with fail
    refine K0.out.mono ?_; rintro e w' ⟨rfl, rfl⟩
    go_wp2
    go_ret
    exact ⟨ret_bool (by rw [HE.out]; rfl), HAL.out⟩
  · cases q1
    · go_enter Tryd.func17, Tryd.ntmps17
      go_wp2_with fail
      refine K0.out.mono ?_; rintro e w' ⟨rfl, rfl⟩
      go_wp2_with fail
      refine K1.out.mono ?_; rintro e w' ⟨rfl, rfl⟩
      go_wp2
      go_ret
      exact ⟨ret_bool (by rw [HE.out]; rfl), HAL.out⟩
    · go_enter Tryd.func17, Tryd.ntmps17
      go_wp2_with fail
      refine K0.out.mono ?_; rintro e w' ⟨rfl, rfl⟩
      go_wp2_with fail
      refine K1.out.mono ?_; rintro e w' ⟨rfl, rfl⟩
      go_wp2_with fail
      refine K2.out.mono ?_; rintro e w' ⟨rfl, hb⟩
      go_wp2
      go_ret
      exact ⟨ret_bool (by rw [HE.out]; rfl), HAL.out.trans (hb.mono HAL.out.size)⟩


end Go.Proofs.YtadoihddmbbjoaaDoor
