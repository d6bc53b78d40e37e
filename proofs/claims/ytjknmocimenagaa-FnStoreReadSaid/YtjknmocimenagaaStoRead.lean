/-
  The model's StoreRead.
-/
import Derived.Test.YtjknmocimenagaaStoStore
import Derived.Test.YtjknmocimenagaaSpecRead
import Derived.Test.YtjknmocimenagaaSpan
namespace Go.Proofs.Ytjknmocimenagaa
open Go.RowKit

/-- What StoreRead leaves. -/
def rdB (S : StT) (obj lo hi : Int) : Bool := stOkB S && (cliB obj && spanOkB lo hi)
def rdT (S : StT) (obj lo hi : Int) : List UInt8 := if rdB S obj lo hi = true then rdL (S.now.getD obj.toNat []) lo.toNat hi.toNat else []
def ToRd (w : World) (t : List UInt8) (q : Bool) (e : Ending) (w' : World) : Prop := e = .returned (.tuple #[.string (mkB t), .bool q]) ∧ Below w.heap.size w w'
theorem cliB_no {x : Int} (h : ¬ (0 ≤ x ∧ x < 3)) : cliB x = false := decide_eq_false h
theorem cliB_yes {x : Int} (h : 0 ≤ x ∧ x < 3) : cliB x = true := decide_eq_true h

set_option maxRecDepth 100000 in
set_option maxHeartbeats 8000000 in
theorem specRead_no (v0 v1 v2 v3 v4 : Value) (S : StT) (obj lo hi : Int) (w : World) (h : Sto w v0 v1 v2 v3 v4 S) (hz : szT S) (hq : stOkB S = false) :
    Calls Try.prog 17 #[.agg #[v0, v1, v2, v3, v4], .int .i64 obj, .agg #[.int .i64 lo, .int .i64 hi]] w (ToRd w [] false) := by
  obtain ⟨a0, c0, rfl⟩ := h.now.form
  obtain ⟨a1, c1, rfl⟩ := h.sure.form
  obtain ⟨a2, c2, rfl⟩ := h.last.form
  obtain ⟨a3, c3, rfl⟩ := h.slast.form
  obtain ⟨a4, c4, rfl⟩ := h.floors.form
  obtain ⟨W, hW⟩ : ∃ W, (w.alloc (.cells #[.slice a0 S.now.length c0, .slice a1 S.sure.length c1, .slice a2 S.last.length c2, .slice a3 S.slast.length c3, .slice a4 S.floors.length c4] 26)).alloc (.cells #[.int .i64 lo, .int .i64 hi] 34) = W := ⟨_, rfl⟩
  have hal : Below w.heap.size w W := by rw [← hW]; exact ((Below.refl _ _).alloc (Nat.le_refl _) _).alloc (by simp) _
  have A0 : Box5 W w.heap.size (.slice a0 S.now.length c0) (.slice a1 S.sure.length c1) (.slice a2 S.last.length c2) (.slice a3 S.slast.length c3) (.slice a4 S.floors.length c4) := by rw [← hW]; exact (new_box5 w _ _ _ _ _ _).keep ((Below.refl _ _).alloc (Nat.le_refl _) _)
  have B0 : Box2 W (w.heap.size + 1) lo hi := by
    rw [← hW]
    have := new_box (w.alloc (.cells #[.slice a0 S.now.length c0, .slice a1 S.sure.length c1, .slice a2 S.last.length c2, .slice a3 S.slast.length c3, .slice a4 S.floors.length c4] 26)) lo hi 34
    simpa using this
  have E_0 := Lib.hid hal
  have bA_0 := Lib.hid A0
  have bB_0 := Lib.hid B0
  have S_0 := Lib.hid (show w.heap.size ≤ W.heap.size from hal.size)
  have K0 := specStoreOk_any _ _ _ _ _ S W (h.keep hal) hz
  rw [hq] at K0
  have K := Lib.hid K0
  clear h hz hq hal A0 B0 K0
  obtain ⟨x00, x01, x02, x03, x04⟩ := bA_0.out
  go_enter Try.func17, Try.ntmps17
  go_wp2_with fail
  clear hW
  refine K.out.mono ?_; rintro e w1 ⟨rfl, hb⟩
  have bA_1 := Lib.hid (bA_0.out.keep hb)
  have bB_2 := Lib.hid (bB_0.out.keep hb)
  have E_3 := Lib.hid (E_0.out.trans (hb.mono E_0.out.size))
  have S_3 := Lib.hid hb.size
  clear x00 x01 x02 x03 x04
  clear bA_0 bB_0 E_0 hb
  go_wp2
  exact bodyPost_ret (v := .tuple #[.string ⟨#[]⟩, .bool false]) (by simp [results, Try.results17, go_sem]) rfl ⟨rfl, E_3.out⟩

set_option maxRecDepth 100000 in
set_option maxHeartbeats 8000000 in
theorem specRead_lo (v0 v1 v2 v3 v4 : Value) (S : StT) (obj lo hi : Int) (w : World) (h : Sto w v0 v1 v2 v3 v4 S) (hz : szT S) (hq : stOkB S = true) (h1 : obj < 0) :
    Calls Try.prog 17 #[.agg #[v0, v1, v2, v3, v4], .int .i64 obj, .agg #[.int .i64 lo, .int .i64 hi]] w (ToRd w [] false) := by
  obtain ⟨a0, c0, rfl⟩ := h.now.form
  obtain ⟨a1, c1, rfl⟩ := h.sure.form
  obtain ⟨a2, c2, rfl⟩ := h.last.form
  obtain ⟨a3, c3, rfl⟩ := h.slast.form
  obtain ⟨a4, c4, rfl⟩ := h.floors.form
  obtain ⟨W, hW⟩ : ∃ W, (w.alloc (.cells #[.slice a0 S.now.length c0, .slice a1 S.sure.length c1, .slice a2 S.last.length c2, .slice a3 S.slast.length c3, .slice a4 S.floors.length c4] 26)).alloc (.cells #[.int .i64 lo, .int .i64 hi] 34) = W := ⟨_, rfl⟩
  have hal : Below w.heap.size w W := by rw [← hW]; exact ((Below.refl _ _).alloc (Nat.le_refl _) _).alloc (by simp) _
  have A0 : Box5 W w.heap.size (.slice a0 S.now.length c0) (.slice a1 S.sure.length c1) (.slice a2 S.last.length c2) (.slice a3 S.slast.length c3) (.slice a4 S.floors.length c4) := by rw [← hW]; exact (new_box5 w _ _ _ _ _ _).keep ((Below.refl _ _).alloc (Nat.le_refl _) _)
  have B0 : Box2 W (w.heap.size + 1) lo hi := by
    rw [← hW]
    have := new_box (w.alloc (.cells #[.slice a0 S.now.length c0, .slice a1 S.sure.length c1, .slice a2 S.last.length c2, .slice a3 S.slast.length c3, .slice a4 S.floors.length c4] 26)) lo hi 34
    simpa using this
  have E_0 := Lib.hid hal
  have bA_0 := Lib.hid A0
  have bB_0 := Lib.hid B0
  have S_0 := Lib.hid (show w.heap.size ≤ W.heap.size from hal.size)
  have K0 := specStoreOk_any _ _ _ _ _ S W (h.keep hal) hz
  rw [hq] at K0
  have K := Lib.hid K0
  clear h hz hq hal A0 B0 K0
  have g1 : decide (obj < 0) = true := by simpa using h1
  obtain ⟨x00, x01, x02, x03, x04⟩ := bA_0.out
  go_enter Try.func17, Try.ntmps17
  go_wp2_with fail
  clear hW
  refine K.out.mono ?_; rintro e w1 ⟨rfl, hb⟩
  have bA_1 := Lib.hid (bA_0.out.keep hb)
  have bB_2 := Lib.hid (bB_0.out.keep hb)
  have E_3 := Lib.hid (E_0.out.trans (hb.mono E_0.out.size))
  have S_3 := Lib.hid hb.size
  clear x00 x01 x02 x03 x04
  clear bA_0 bB_0 E_0 hb
  go_wp2
  exact bodyPost_ret (v := .tuple #[.string ⟨#[]⟩, .bool false]) (by simp [results, Try.results17, go_sem]) rfl ⟨rfl, E_3.out⟩

set_option maxRecDepth 100000 in
set_option maxHeartbeats 8000000 in
theorem specRead_hi (v0 v1 v2 v3 v4 : Value) (S : StT) (obj lo hi : Int) (w : World) (h : Sto w v0 v1 v2 v3 v4 S) (hz : szT S) (hq : stOkB S = true) (h1 : 3 ≤ obj) :
    Calls Try.prog 17 #[.agg #[v0, v1, v2, v3, v4], .int .i64 obj, .agg #[.int .i64 lo, .int .i64 hi]] w (ToRd w [] false) := by
  obtain ⟨a0, c0, rfl⟩ := h.now.form
  obtain ⟨a1, c1, rfl⟩ := h.sure.form
  obtain ⟨a2, c2, rfl⟩ := h.last.form
  obtain ⟨a3, c3, rfl⟩ := h.slast.form
  obtain ⟨a4, c4, rfl⟩ := h.floors.form
  obtain ⟨W, hW⟩ : ∃ W, (w.alloc (.cells #[.slice a0 S.now.length c0, .slice a1 S.sure.length c1, .slice a2 S.last.length c2, .slice a3 S.slast.length c3, .slice a4 S.floors.length c4] 26)).alloc (.cells #[.int .i64 lo, .int .i64 hi] 34) = W := ⟨_, rfl⟩
  have hal : Below w.heap.size w W := by rw [← hW]; exact ((Below.refl _ _).alloc (Nat.le_refl _) _).alloc (by simp) _
  have A0 : Box5 W w.heap.size (.slice a0 S.now.length c0) (.slice a1 S.sure.length c1) (.slice a2 S.last.length c2) (.slice a3 S.slast.length c3) (.slice a4 S.floors.length c4) := by rw [← hW]; exact (new_box5 w _ _ _ _ _ _).keep ((Below.refl _ _).alloc (Nat.le_refl _) _)
  have B0 : Box2 W (w.heap.size + 1) lo hi := by
    rw [← hW]
    have := new_box (w.alloc (.cells #[.slice a0 S.now.length c0, .slice a1 S.sure.length c1, .slice a2 S.last.length c2, .slice a3 S.slast.length c3, .slice a4 S.floors.length c4] 26)) lo hi 34
    simpa using this
  have E_0 := Lib.hid hal
  have bA_0 := Lib.hid A0
  have bB_0 := Lib.hid B0
  have S_0 := Lib.hid (show w.heap.size ≤ W.heap.size from hal.size)
  have K0 := specStoreOk_any _ _ _ _ _ S W (h.keep hal) hz
  rw [hq] at K0
  have K := Lib.hid K0
  clear h hz hq hal A0 B0 K0
  have g1 : decide (obj < 0) = false := by simp; omega
  have g2 : decide (3 ≤ obj) = true := by simpa using h1
  obtain ⟨x00, x01, x02, x03, x04⟩ := bA_0.out
  go_enter Try.func17, Try.ntmps17
  go_wp2_with fail
  clear hW
  refine K.out.mono ?_; rintro e w1 ⟨rfl, hb⟩
  have bA_1 := Lib.hid (bA_0.out.keep hb)
  have bB_2 := Lib.hid (bB_0.out.keep hb)
  have E_3 := Lib.hid (E_0.out.trans (hb.mono E_0.out.size))
  have S_3 := Lib.hid hb.size
  clear x00 x01 x02 x03 x04
  clear bA_0 bB_0 E_0 hb
  go_wp2
  exact bodyPost_ret (v := .tuple #[.string ⟨#[]⟩, .bool false]) (by simp [results, Try.results17, go_sem]) rfl ⟨rfl, E_3.out⟩

set_option maxRecDepth 100000 in
set_option maxHeartbeats 8000000 in
theorem specRead_span (v0 v1 v2 v3 v4 : Value) (S : StT) (obj lo hi : Int) (w : World) (h : Sto w v0 v1 v2 v3 v4 S) (hz : szT S) (hq : stOkB S = true) (h0 : 0 ≤ obj) (h1 : obj < 3) (h2 : spanOkB lo hi = false) :
    Calls Try.prog 17 #[.agg #[v0, v1, v2, v3, v4], .int .i64 obj, .agg #[.int .i64 lo, .int .i64 hi]] w (ToRd w [] false) := by
  obtain ⟨a0, c0, rfl⟩ := h.now.form
  obtain ⟨a1, c1, rfl⟩ := h.sure.form
  obtain ⟨a2, c2, rfl⟩ := h.last.form
  obtain ⟨a3, c3, rfl⟩ := h.slast.form
  obtain ⟨a4, c4, rfl⟩ := h.floors.form
  obtain ⟨W, hW⟩ : ∃ W, (w.alloc (.cells #[.slice a0 S.now.length c0, .slice a1 S.sure.length c1, .slice a2 S.last.length c2, .slice a3 S.slast.length c3, .slice a4 S.floors.length c4] 26)).alloc (.cells #[.int .i64 lo, .int .i64 hi] 34) = W := ⟨_, rfl⟩
  have hal : Below w.heap.size w W := by rw [← hW]; exact ((Below.refl _ _).alloc (Nat.le_refl _) _).alloc (by simp) _
  have A0 : Box5 W w.heap.size (.slice a0 S.now.length c0) (.slice a1 S.sure.length c1) (.slice a2 S.last.length c2) (.slice a3 S.slast.length c3) (.slice a4 S.floors.length c4) := by rw [← hW]; exact (new_box5 w _ _ _ _ _ _).keep ((Below.refl _ _).alloc (Nat.le_refl _) _)
  have B0 : Box2 W (w.heap.size + 1) lo hi := by
    rw [← hW]
    have := new_box (w.alloc (.cells #[.slice a0 S.now.length c0, .slice a1 S.sure.length c1, .slice a2 S.last.length c2, .slice a3 S.slast.length c3, .slice a4 S.floors.length c4] 26)) lo hi 34
    simpa using this
  have E_0 := Lib.hid hal
  have bA_0 := Lib.hid A0
  have bB_0 := Lib.hid B0
  have S_0 := Lib.hid (show w.heap.size ≤ W.heap.size from hal.size)
  have K0 := specStoreOk_any _ _ _ _ _ S W (h.keep hal) hz
  rw [hq] at K0
  have K := Lib.hid K0
  clear h hz hq hal A0 B0 K0
  have g1 : decide (obj < 0) = false := by simp; omega
  have g2 : decide (3 ≤ obj) = false := by simp; omega
  obtain ⟨x00, x01, x02, x03, x04⟩ := bA_0.out
  go_enter Try.func17, Try.ntmps17
  go_wp2_with fail
  clear hW
  refine K.out.mono ?_; rintro e w1 ⟨rfl, hb⟩
  have bA_1 := Lib.hid (bA_0.out.keep hb)
  have bB_2 := Lib.hid (bB_0.out.keep hb)
  have E_3 := Lib.hid (E_0.out.trans (hb.mono E_0.out.size))
  have S_3 := Lib.hid hb.size
  clear x00 x01 x02 x03 x04
  clear bA_0 bB_0 E_0 hb
  obtain ⟨x00, x01, x02, x03⟩ := bB_2.out
  go_wp2_with fail
  have K2 := Lib.hid (specSpanOk_any lo hi w1)
  rw [h2] at K2
  refine (K2.out).mono ?_; rintro e w4 ⟨rfl, hb⟩
  have bA_5 := Lib.hid (bA_1.out.keep hb)
  have bB_6 := Lib.hid (bB_2.out.keep hb)
  have E_7 := Lib.hid (E_3.out.trans (hb.mono E_3.out.size))
  have S_7 := Lib.hid hb.size
  clear x00 x01 x02 x03
  clear bA_1 bB_2 E_3 hb
  go_wp2
  exact bodyPost_ret (v := .tuple #[.string ⟨#[]⟩, .bool false]) (by simp [results, Try.results17, go_sem]) rfl ⟨rfl, E_7.out⟩

set_option maxRecDepth 100000 in
set_option maxHeartbeats 8000000 in
theorem specRead_0 (v0 v1 v2 v3 v4 : Value) (S : StT) (lo hi : Int) (w : World) (h : Sto w v0 v1 v2 v3 v4 S) (hz : szT S) (hq : stOkB S = true) (h2 : spanOkB lo hi = true) :
    Calls Try.prog 17 #[.agg #[v0, v1, v2, v3, v4], .int .i64 0, .agg #[.int .i64 lo, .int .i64 hi]] w (ToRd w (rdL (S.now.getD 0 []) lo.toNat hi.toNat) true) := by
  obtain ⟨i1, i2, i3⟩ := spanOkB_iff.1 h2
  obtain ⟨lo, rfl⟩ := Int.eq_ofNat_of_zero_le i1
  obtain ⟨hi, rfl⟩ := Int.eq_ofNat_of_zero_le (show 0 ≤ hi by omega)
  have hh : lo < hi := by omega
  have hlen := (stOk_lens hq).1
  obtain ⟨b0, o0, ha0, hcell⟩ : ∃ b o, (∃ c, v0 = .slice (some ⟨b, o, none⟩) S.now.length c) ∧ w.cell? ⟨b, o + 0, none⟩ = some (.string (mkB (S.now.getD 0 []))) := by
    obtain ⟨a, c, e, -, -, hc⟩ := h.now
    obtain ⟨b, o, rfl, hd⟩ := hc (by omega)
    exact ⟨b, o, ⟨c, e⟩, hd 0 (by omega)⟩
  obtain ⟨c0, rfl⟩ := ha0
  obtain ⟨a1, c1, rfl⟩ := h.sure.form
  obtain ⟨a2, c2, rfl⟩ := h.last.form
  obtain ⟨a3, c3, rfl⟩ := h.slast.form
  obtain ⟨a4, c4, rfl⟩ := h.floors.form
  obtain ⟨W, hW⟩ : ∃ W, (w.alloc (.cells #[(.slice (some ⟨b0, o0, none⟩) S.now.length c0), .slice a1 S.sure.length c1, .slice a2 S.last.length c2, .slice a3 S.slast.length c3, .slice a4 S.floors.length c4] 26)).alloc (.cells #[.int .i64 (lo : Int), .int .i64 (hi : Int)] 34) = W := ⟨_, rfl⟩
  have hal : Below w.heap.size w W := by rw [← hW]; exact ((Below.refl _ _).alloc (Nat.le_refl _) _).alloc (by simp) _
  have A0 : Box5 W w.heap.size (.slice (some ⟨b0, o0, none⟩) S.now.length c0) (.slice a1 S.sure.length c1) (.slice a2 S.last.length c2) (.slice a3 S.slast.length c3) (.slice a4 S.floors.length c4) := by rw [← hW]; exact (new_box5 w _ _ _ _ _ _).keep ((Below.refl _ _).alloc (Nat.le_refl _) _)
  have B0 : Box2 W (w.heap.size + 1) (lo : Int) (hi : Int) := by
    rw [← hW]
    have := new_box (w.alloc (.cells #[(.slice (some ⟨b0, o0, none⟩) S.now.length c0), .slice a1 S.sure.length c1, .slice a2 S.last.length c2, .slice a3 S.slast.length c3, .slice a4 S.floors.length c4] 26)) (lo : Int) (hi : Int) 34
    simpa using this
  have E_0 := Lib.hid hal
  have bA_0 := Lib.hid A0
  have bB_0 := Lib.hid B0
  have S_0 := Lib.hid (show w.heap.size ≤ W.heap.size from hal.size)
  have K0 := specStoreOk_any _ _ _ _ _ S W (h.keep hal) hz
  rw [hq] at K0
  have K := Lib.hid K0
  have HC := Lib.hid hcell
  have K2 := Lib.hid (fun w => specSpanOk_any (lo : Int) (hi : Int) w)
  rw [h2] at K2
  rw [hlen] at A0 bA_0 hW K ⊢
  clear h hz hq hal A0 B0 K0 i1 i2 i3 h2 hcell hlen
  obtain ⟨x00, x01, x02, x03, x04⟩ := bA_0.out
  go_enter Try.func17, Try.ntmps17
  go_wp2_with fail
  clear hW
  refine K.out.mono ?_; rintro e w1 ⟨rfl, hb⟩
  have bA_1 := Lib.hid (bA_0.out.keep hb)
  have bB_2 := Lib.hid (bB_0.out.keep hb)
  have E_3 := Lib.hid (E_0.out.trans (hb.mono E_0.out.size))
  have S_3 := Lib.hid hb.size
  clear x00 x01 x02 x03 x04
  clear bA_0 bB_0 E_0 hb
  clear K
  obtain ⟨x00, x01, x02, x03⟩ := bB_2.out
  go_wp2_with fail
  refine (K2.out _).mono ?_; rintro e w4 ⟨rfl, hb⟩
  have bA_5 := Lib.hid (bA_1.out.keep hb)
  have bB_6 := Lib.hid (bB_2.out.keep hb)
  have E_7 := Lib.hid (E_3.out.trans (hb.mono E_3.out.size))
  have S_7 := Lib.hid hb.size
  clear x00 x01 x02 x03
  clear bA_1 bB_2 E_3 hb
  clear K2
  generalize S.now.getD 0 [] = t at *
  have cc := cell_keep E_7.out HC.out
  clear HC
  rw [Nat.add_zero] at cc
  obtain ⟨x00, x01, x02, x03, x04⟩ := bA_5.out
  obtain ⟨x10, x11, x12, x13⟩ := bB_6.out
  go_wp2_with fail
  have hD : Below w4.heap.size w4 w4.drew := (Below.refl _ _).drew
  go_region_held3 (fun w' => w'.cell? ⟨w.heap.size, 0, none⟩ = some (.slice (some ⟨b0, o0, none⟩) 3 c0) ∧ w'.cell? ⟨w.heap.size + 1, 0, none⟩ = some (.int .i64 (lo : Int)) ∧ w'.cell? ⟨w.heap.size + 1, 1, none⟩ = some (.int .i64 (hi : Int)) ∧ w'.cell? ⟨b0, o0, none⟩ = some (.string (mkB t)))
    (refine ⟨?_, ?_, ?_, ?_⟩ <;> first | (go_keep; done) | (refine cell_keep hb ?_; first | (go_keep; done) | (go_simp; done)))
    (first
      | (go_at_call 42; refine (l2Read_any t lo hi hh _).mono ?_; rintro e r8_0 ⟨rfl, hb⟩; have hR0 := hD.trans (hb.mono hD.size)))
  have hbb : Below w4.heap.size w4 r8_0 := hR0
  clear hR0 hb hD cc
  have bA_9 := Lib.hid (bA_5.out.keep hbb)
  have bB_10 := Lib.hid (bB_6.out.keep hbb)
  have E_11 := Lib.hid (E_7.out.trans (hbb.mono E_7.out.size))
  have S_11 := Lib.hid hbb.size
  clear x00 x01 x02 x03 x04 x10 x11 x12 x13
  clear bA_5 bB_6 E_7 hbb
  go_wp2
  exact bodyPost_ret (v := .tuple #[.string (mkB (rdL t lo hi)), .bool true]) (by simp [results, Try.results17, go_sem]) rfl ⟨rfl, E_11.out⟩

set_option maxRecDepth 100000 in
set_option maxHeartbeats 8000000 in
theorem specRead_1 (v0 v1 v2 v3 v4 : Value) (S : StT) (lo hi : Int) (w : World) (h : Sto w v0 v1 v2 v3 v4 S) (hz : szT S) (hq : stOkB S = true) (h2 : spanOkB lo hi = true) :
    Calls Try.prog 17 #[.agg #[v0, v1, v2, v3, v4], .int .i64 1, .agg #[.int .i64 lo, .int .i64 hi]] w (ToRd w (rdL (S.now.getD 1 []) lo.toNat hi.toNat) true) := by
  obtain ⟨i1, i2, i3⟩ := spanOkB_iff.1 h2
  obtain ⟨lo, rfl⟩ := Int.eq_ofNat_of_zero_le i1
  obtain ⟨hi, rfl⟩ := Int.eq_ofNat_of_zero_le (show 0 ≤ hi by omega)
  have hh : lo < hi := by omega
  have hlen := (stOk_lens hq).1
  obtain ⟨b0, o0, ha0, hcell⟩ : ∃ b o, (∃ c, v0 = .slice (some ⟨b, o, none⟩) S.now.length c) ∧ w.cell? ⟨b, o + 1, none⟩ = some (.string (mkB (S.now.getD 1 []))) := by
    obtain ⟨a, c, e, -, -, hc⟩ := h.now
    obtain ⟨b, o, rfl, hd⟩ := hc (by omega)
    exact ⟨b, o, ⟨c, e⟩, hd 1 (by omega)⟩
  obtain ⟨c0, rfl⟩ := ha0
  obtain ⟨a1, c1, rfl⟩ := h.sure.form
  obtain ⟨a2, c2, rfl⟩ := h.last.form
  obtain ⟨a3, c3, rfl⟩ := h.slast.form
  obtain ⟨a4, c4, rfl⟩ := h.floors.form
  obtain ⟨W, hW⟩ : ∃ W, (w.alloc (.cells #[(.slice (some ⟨b0, o0, none⟩) S.now.length c0), .slice a1 S.sure.length c1, .slice a2 S.last.length c2, .slice a3 S.slast.length c3, .slice a4 S.floors.length c4] 26)).alloc (.cells #[.int .i64 (lo : Int), .int .i64 (hi : Int)] 34) = W := ⟨_, rfl⟩
  have hal : Below w.heap.size w W := by rw [← hW]; exact ((Below.refl _ _).alloc (Nat.le_refl _) _).alloc (by simp) _
  have A0 : Box5 W w.heap.size (.slice (some ⟨b0, o0, none⟩) S.now.length c0) (.slice a1 S.sure.length c1) (.slice a2 S.last.length c2) (.slice a3 S.slast.length c3) (.slice a4 S.floors.length c4) := by rw [← hW]; exact (new_box5 w _ _ _ _ _ _).keep ((Below.refl _ _).alloc (Nat.le_refl _) _)
  have B0 : Box2 W (w.heap.size + 1) (lo : Int) (hi : Int) := by
    rw [← hW]
    have := new_box (w.alloc (.cells #[(.slice (some ⟨b0, o0, none⟩) S.now.length c0), .slice a1 S.sure.length c1, .slice a2 S.last.length c2, .slice a3 S.slast.length c3, .slice a4 S.floors.length c4] 26)) (lo : Int) (hi : Int) 34
    simpa using this
  have E_0 := Lib.hid hal
  have bA_0 := Lib.hid A0
  have bB_0 := Lib.hid B0
  have S_0 := Lib.hid (show w.heap.size ≤ W.heap.size from hal.size)
  have K0 := specStoreOk_any _ _ _ _ _ S W (h.keep hal) hz
  rw [hq] at K0
  have K := Lib.hid K0
  have HC := Lib.hid hcell
  have K2 := Lib.hid (fun w => specSpanOk_any (lo : Int) (hi : Int) w)
  rw [h2] at K2
  rw [hlen] at A0 bA_0 hW K ⊢
  clear h hz hq hal A0 B0 K0 i1 i2 i3 h2 hcell hlen
  obtain ⟨x00, x01, x02, x03, x04⟩ := bA_0.out
  go_enter Try.func17, Try.ntmps17
  go_wp2_with fail
  clear hW
  refine K.out.mono ?_; rintro e w1 ⟨rfl, hb⟩
  have bA_1 := Lib.hid (bA_0.out.keep hb)
  have bB_2 := Lib.hid (bB_0.out.keep hb)
  have E_3 := Lib.hid (E_0.out.trans (hb.mono E_0.out.size))
  have S_3 := Lib.hid hb.size
  clear x00 x01 x02 x03 x04
  clear bA_0 bB_0 E_0 hb
  clear K
  obtain ⟨x00, x01, x02, x03⟩ := bB_2.out
  go_wp2_with fail
  refine (K2.out _).mono ?_; rintro e w4 ⟨rfl, hb⟩
  have bA_5 := Lib.hid (bA_1.out.keep hb)
  have bB_6 := Lib.hid (bB_2.out.keep hb)
  have E_7 := Lib.hid (E_3.out.trans (hb.mono E_3.out.size))
  have S_7 := Lib.hid hb.size
  clear x00 x01 x02 x03
  clear bA_1 bB_2 E_3 hb
  clear K2
  generalize S.now.getD 1 [] = t at *
  have cc := cell_keep E_7.out HC.out
  clear HC
  obtain ⟨x00, x01, x02, x03, x04⟩ := bA_5.out
  obtain ⟨x10, x11, x12, x13⟩ := bB_6.out
  go_wp2_with fail
  have hD : Below w4.heap.size w4 w4.drew := (Below.refl _ _).drew
  go_region_held3 (fun w' => w'.cell? ⟨w.heap.size, 0, none⟩ = some (.slice (some ⟨b0, o0, none⟩) 3 c0) ∧ w'.cell? ⟨w.heap.size + 1, 0, none⟩ = some (.int .i64 (lo : Int)) ∧ w'.cell? ⟨w.heap.size + 1, 1, none⟩ = some (.int .i64 (hi : Int)) ∧ w'.cell? ⟨b0, o0 + 1, none⟩ = some (.string (mkB t)))
    (refine ⟨?_, ?_, ?_, ?_⟩ <;> first | (go_keep; done) | (refine cell_keep hb ?_; first | (go_keep; done) | (go_simp; done)))
    (first
      | (go_at_call 42; refine (l2Read_any t lo hi hh _).mono ?_; rintro e r8_0 ⟨rfl, hb⟩; have hR0 := hD.trans (hb.mono hD.size)))
  have hbb : Below w4.heap.size w4 r8_0 := hR0
  clear hR0 hb hD cc
  have bA_9 := Lib.hid (bA_5.out.keep hbb)
  have bB_10 := Lib.hid (bB_6.out.keep hbb)
  have E_11 := Lib.hid (E_7.out.trans (hbb.mono E_7.out.size))
  have S_11 := Lib.hid hbb.size
  clear x00 x01 x02 x03 x04 x10 x11 x12 x13
  clear bA_5 bB_6 E_7 hbb
  go_wp2
  exact bodyPost_ret (v := .tuple #[.string (mkB (rdL t lo hi)), .bool true]) (by simp [results, Try.results17, go_sem]) rfl ⟨rfl, E_11.out⟩

set_option maxRecDepth 100000 in
set_option maxHeartbeats 8000000 in
theorem specRead_2 (v0 v1 v2 v3 v4 : Value) (S : StT) (lo hi : Int) (w : World) (h : Sto w v0 v1 v2 v3 v4 S) (hz : szT S) (hq : stOkB S = true) (h2 : spanOkB lo hi = true) :
    Calls Try.prog 17 #[.agg #[v0, v1, v2, v3, v4], .int .i64 2, .agg #[.int .i64 lo, .int .i64 hi]] w (ToRd w (rdL (S.now.getD 2 []) lo.toNat hi.toNat) true) := by
  obtain ⟨i1, i2, i3⟩ := spanOkB_iff.1 h2
  obtain ⟨lo, rfl⟩ := Int.eq_ofNat_of_zero_le i1
  obtain ⟨hi, rfl⟩ := Int.eq_ofNat_of_zero_le (show 0 ≤ hi by omega)
  have hh : lo < hi := by omega
  have hlen := (stOk_lens hq).1
  obtain ⟨b0, o0, ha0, hcell⟩ : ∃ b o, (∃ c, v0 = .slice (some ⟨b, o, none⟩) S.now.length c) ∧ w.cell? ⟨b, o + 2, none⟩ = some (.string (mkB (S.now.getD 2 []))) := by
    obtain ⟨a, c, e, -, -, hc⟩ := h.now
    obtain ⟨b, o, rfl, hd⟩ := hc (by omega)
    exact ⟨b, o, ⟨c, e⟩, hd 2 (by omega)⟩
  obtain ⟨c0, rfl⟩ := ha0
  obtain ⟨a1, c1, rfl⟩ := h.sure.form
  obtain ⟨a2, c2, rfl⟩ := h.last.form
  obtain ⟨a3, c3, rfl⟩ := h.slast.form
  obtain ⟨a4, c4, rfl⟩ := h.floors.form
  obtain ⟨W, hW⟩ : ∃ W, (w.alloc (.cells #[(.slice (some ⟨b0, o0, none⟩) S.now.length c0), .slice a1 S.sure.length c1, .slice a2 S.last.length c2, .slice a3 S.slast.length c3, .slice a4 S.floors.length c4] 26)).alloc (.cells #[.int .i64 (lo : Int), .int .i64 (hi : Int)] 34) = W := ⟨_, rfl⟩
  have hal : Below w.heap.size w W := by rw [← hW]; exact ((Below.refl _ _).alloc (Nat.le_refl _) _).alloc (by simp) _
  have A0 : Box5 W w.heap.size (.slice (some ⟨b0, o0, none⟩) S.now.length c0) (.slice a1 S.sure.length c1) (.slice a2 S.last.length c2) (.slice a3 S.slast.length c3) (.slice a4 S.floors.length c4) := by rw [← hW]; exact (new_box5 w _ _ _ _ _ _).keep ((Below.refl _ _).alloc (Nat.le_refl _) _)
  have B0 : Box2 W (w.heap.size + 1) (lo : Int) (hi : Int) := by
    rw [← hW]
    have := new_box (w.alloc (.cells #[(.slice (some ⟨b0, o0, none⟩) S.now.length c0), .slice a1 S.sure.length c1, .slice a2 S.last.length c2, .slice a3 S.slast.length c3, .slice a4 S.floors.length c4] 26)) (lo : Int) (hi : Int) 34
    simpa using this
  have E_0 := Lib.hid hal
  have bA_0 := Lib.hid A0
  have bB_0 := Lib.hid B0
  have S_0 := Lib.hid (show w.heap.size ≤ W.heap.size from hal.size)
  have K0 := specStoreOk_any _ _ _ _ _ S W (h.keep hal) hz
  rw [hq] at K0
  have K := Lib.hid K0
  have HC := Lib.hid hcell
  have K2 := Lib.hid (fun w => specSpanOk_any (lo : Int) (hi : Int) w)
  rw [h2] at K2
  rw [hlen] at A0 bA_0 hW K ⊢
  clear h hz hq hal A0 B0 K0 i1 i2 i3 h2 hcell hlen
  obtain ⟨x00, x01, x02, x03, x04⟩ := bA_0.out
  go_enter Try.func17, Try.ntmps17
  go_wp2_with fail
  clear hW
  refine K.out.mono ?_; rintro e w1 ⟨rfl, hb⟩
  have bA_1 := Lib.hid (bA_0.out.keep hb)
  have bB_2 := Lib.hid (bB_0.out.keep hb)
  have E_3 := Lib.hid (E_0.out.trans (hb.mono E_0.out.size))
  have S_3 := Lib.hid hb.size
  clear x00 x01 x02 x03 x04
  clear bA_0 bB_0 E_0 hb
  clear K
  obtain ⟨x00, x01, x02, x03⟩ := bB_2.out
  go_wp2_with fail
  refine (K2.out _).mono ?_; rintro e w4 ⟨rfl, hb⟩
  have bA_5 := Lib.hid (bA_1.out.keep hb)
  have bB_6 := Lib.hid (bB_2.out.keep hb)
  have E_7 := Lib.hid (E_3.out.trans (hb.mono E_3.out.size))
  have S_7 := Lib.hid hb.size
  clear x00 x01 x02 x03
  clear bA_1 bB_2 E_3 hb
  clear K2
  generalize S.now.getD 2 [] = t at *
  have cc := cell_keep E_7.out HC.out
  clear HC
  obtain ⟨x00, x01, x02, x03, x04⟩ := bA_5.out
  obtain ⟨x10, x11, x12, x13⟩ := bB_6.out
  go_wp2_with fail
  have hD : Below w4.heap.size w4 w4.drew := (Below.refl _ _).drew
  go_region_held3 (fun w' => w'.cell? ⟨w.heap.size, 0, none⟩ = some (.slice (some ⟨b0, o0, none⟩) 3 c0) ∧ w'.cell? ⟨w.heap.size + 1, 0, none⟩ = some (.int .i64 (lo : Int)) ∧ w'.cell? ⟨w.heap.size + 1, 1, none⟩ = some (.int .i64 (hi : Int)) ∧ w'.cell? ⟨b0, o0 + 2, none⟩ = some (.string (mkB t)))
    (refine ⟨?_, ?_, ?_, ?_⟩ <;> first | (go_keep; done) | (refine cell_keep hb ?_; first | (go_keep; done) | (go_simp; done)))
    (first
      | (go_at_call 42; refine (l2Read_any t lo hi hh _).mono ?_; rintro e r8_0 ⟨rfl, hb⟩; have hR0 := hD.trans (hb.mono hD.size)))
  have hbb : Below w4.heap.size w4 r8_0 := hR0
  clear hR0 hb hD cc
  have bA_9 := Lib.hid (bA_5.out.keep hbb)
  have bB_10 := Lib.hid (bB_6.out.keep hbb)
  have E_11 := Lib.hid (E_7.out.trans (hbb.mono E_7.out.size))
  have S_11 := Lib.hid hbb.size
  clear x00 x01 x02 x03 x04 x10 x11 x12 x13
  clear bA_5 bB_6 E_7 hbb
  go_wp2
  exact bodyPost_ret (v := .tuple #[.string (mkB (rdL t lo hi)), .bool true]) (by simp [results, Try.results17, go_sem]) rfl ⟨rfl, E_11.out⟩

theorem specRead_any (v0 v1 v2 v3 v4 : Value) (S : StT) (obj lo hi : Int) (w : World) (h : Sto w v0 v1 v2 v3 v4 S) (hz : szT S) : Calls Try.prog 17 #[.agg #[v0, v1, v2, v3, v4], .int .i64 obj, .agg #[.int .i64 lo, .int .i64 hi]] w (ToRd w (rdT S obj lo hi) (rdB S obj lo hi)) := by
  unfold rdT rdB
  by_cases hq : stOkB S = true
  · by_cases h0 : obj < 0
    · rw [cliB_no (by omega)]; simp only [Bool.false_and, Bool.and_false, Bool.false_eq_true, if_false]; exact specRead_lo _ _ _ _ _ S obj lo hi w h hz hq h0
    · by_cases h1 : 3 ≤ obj
      · rw [cliB_no (by omega)]; simp only [Bool.false_and, Bool.and_false, Bool.false_eq_true, if_false]; exact specRead_hi _ _ _ _ _ S obj lo hi w h hz hq h1
      · rw [cliB_yes (by omega), hq]
        by_cases h2 : spanOkB lo hi = true
        · simp only [h2, Bool.and_true, if_true]
          obtain rfl | rfl | rfl : obj = 0 ∨ obj = 1 ∨ obj = 2 := by omega
          · exact specRead_0 _ _ _ _ _ S lo hi w h hz hq h2
          · exact specRead_1 _ _ _ _ _ S lo hi w h hz hq h2
          · exact specRead_2 _ _ _ _ _ S lo hi w h hz hq h2
        · have h2 : spanOkB lo hi = false := by simpa using h2
          simp only [h2, Bool.and_false, Bool.false_eq_true, if_false]; exact specRead_span _ _ _ _ _ S obj lo hi w h hz hq (by omega) (by omega) h2
  · have hq : stOkB S = false := by simpa using hq
    simp only [hq, Bool.false_and, Bool.false_eq_true, if_false]; exact specRead_no _ _ _ _ _ S obj lo hi w h hz hq

end Go.Proofs.Ytjknmocimenagaa
