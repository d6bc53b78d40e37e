/-
  What TextRead returns, by the two tests it begins with.
  The model's l2Read and TextRead: what they return at every text and pair of numbers.
  The model's StoreRead.
  impl: sheet.read and TextRead: what they return at every text and pair of numbers.
  The program's StoreRead.
-/
import Derived.Test.YtadoihddmbbjoaaDoorKTextLaws
import Derived.Test.YtadoihddmbbjoaaDoorKRegCore
import Derived.Test.YtadoihddmbbjoaaDoorKSpecLong
import Derived.Test.YtadoihddmbbjoaaDoorKStoStore
import Derived.Test.YtadoihddmbbjoaaDoorKEdited
namespace Go.Proofs.YtadoihddmbbjoaaDoor

theorem trS_yes {l : List UInt8} {lo hi : Nat} (h1 : tokB l = true) (h2 : spanOkB lo hi = true) : trS l lo hi = rdL l lo hi := by
  obtain ⟨a, b, c⟩ := spanOkB_iff.1 h2
  unfold trS; rw [if_pos ⟨h1, a, b, c⟩, Int.toNat_natCast, Int.toNat_natCast]
theorem trS_no {l : List UInt8} {lo hi : Int} (h : tokB l = false ∨ spanOkB lo hi = false) : trS l lo hi = [] := by
  unfold trS
  rw [if_neg]
  rintro ⟨a, b⟩
  rcases h with h | h
  · rw [h] at a; cases a
  · rw [spanOkB_iff.2 b] at h; cases h

end Go.Proofs.YtadoihddmbbjoaaDoor

namespace Go.Proofs.YtadoihddmbbjoaaDoor
open Go.RowKit

theorem imin (a b : Nat) : min (a : Int) (b : Int) = ((min a b : Nat) : Int) := by omega



end Go.Proofs.YtadoihddmbbjoaaDoor

namespace Go.Proofs.YtadoihddmbbjoaaDoor
open Go.RowKit

/-- What StoreRead leaves. -/
def rdB (S : StT) (obj lo hi : Int) : Bool := stOkB S && (cliB obj && spanOkB lo hi)
def rdT (S : StT) (obj lo hi : Int) : List UInt8 := if rdB S obj lo hi = true then rdL (S.now.getD obj.toNat []) lo.toNat hi.toNat else []
def ToRd (w : World) (t : List UInt8) (q : Bool) (e : Ending) (w' : World) : Prop := e = .returned (.tuple #[.string (mkB t), .bool q]) ∧ Below w.heap.size w w'
theorem cliB_no {x : Int} (h : ¬ (0 ≤ x ∧ x < 3)) : cliB x = false := decide_eq_false h
theorem cliB_yes {x : Int} (h : 0 ≤ x ∧ x < 3) : cliB x = true := decide_eq_true h









end Go.Proofs.YtadoihddmbbjoaaDoor

namespace Go.Proofs.YtadoihddmbbjoaaDoor
open Go.RowKit Go.Lib

theorem conv_nil (ad : Addr) (c : Nat) (W : World) : (convert 82 9 (.slice (some ad) 0 c)).run Tryd.prog W = .ok (.string (mkB [])) W :=
  run_convert_bytes_back W 82 9 5 ad c [] Tryd.underlying82 Tryd.underlying5 Tryd.underlying9 (fun _ hj => absurd hj (Nat.not_lt_zero _))
theorem conv_mid {W : World} {g a b : Nat} (c : Nat) {l : List UInt8} (hc : ∀ j (h : j < l.length), W.cell? ⟨g, j, none⟩ = some (.int .u8 (l[j].toNat : Int))) (hb : b ≤ l.length) :
    (convert 82 9 (.slice (some ⟨g, a, none⟩) (b - a) c)).run Tryd.prog W = .ok (.string (mkB ((l.take b).drop a))) W := by
  have hl : ((l.take b).drop a).length = b - a := by rw [List.length_drop, List.length_take]; omega
  have := run_convert_bytes_back W 82 9 5 ⟨g, a, none⟩ c ((l.take b).drop a) Tryd.underlying82 Tryd.underlying5 Tryd.underlying9 (fun j hj => by
    rw [hl] at hj
    have e : (⟨g, a, none⟩ : Addr).add j = ⟨g, a + j, none⟩ := by
      unfold Addr.add
      split
      · rename_i h; simp only [h, Nat.add_zero]
      · rfl
    rw [e, hc (a + j) (by omega), List.getElem_drop, List.getElem_take])
  rw [hl] at this
  exact this

set_option maxHeartbeats 1000000 in
theorem read_any (v : Value) (l : List UInt8) (lo hi : Nat) (hh : lo < hi) (w : World) (h : Sht w v l) :
    Calls Tryd.prog 51 #[v, .agg #[.int .i64 lo, .int .i64 hi]] w fun e w' => e = .returned (.string (mkB (rdL l lo hi))) ∧ Below w.heap.size w w' := by
  obtain ⟨g, cap, rfl, hlc, hg, hc⟩ := h
  have k := new_box w lo hi 47
  have hal : Below w.heap.size w (w.alloc (.cells #[.int .i64 lo, .int .i64 hi] 47)) := (Below.refl _ _).alloc (Nat.le_refl _) _
  have hcv := fun (a b : Nat) (hb : b ≤ l.length) => conv_mid (a := a) (b := b) (cap - a) (fun j h => cell_keep hal (hc j h)) hb
  have hnil := fun ad c W => conv_nil ad c W
  obtain ⟨x1, x2, -, -⟩ := id k
  clear hc
  by_cases c1 : l.length < lo
  · have c2 : l.length < hi := by omega
    have hR : Hid (rdL l lo hi = []) := by show _ = _; unfold rdL; rw [List.drop_eq_nil_of_le (by rw [List.length_take]; omega)]
    clear hcv
    by_cases c3 : cap = l.length
    · subst c3
      go_enter Tryd.func51, Tryd.ntmps51
      go_wp2
      go_ret
      exact ⟨ret_str hR.out.symm, hal⟩
    · go_enter Tryd.func51, Tryd.ntmps51
      go_wp2
      go_ret
      exact ⟨ret_str hR.out.symm, hal⟩
  · by_cases c3 : cap = lo
    · obtain rfl : lo = l.length := by omega
      have hR : Hid (rdL l l.length hi = []) := by show _ = _; unfold rdL; rw [List.drop_eq_nil_of_le (by rw [List.length_take]; omega)]
      subst c3
      clear hcv
      go_enter Tryd.func51, Tryd.ntmps51
      go_wp2
      go_ret
      exact ⟨ret_str hR.out.symm, hal⟩
    · by_cases c2 : l.length < hi
      · have hcv2 := hcv lo l.length (Nat.le_refl _)
        have hR : Hid (rdL l lo hi = (l.take l.length).drop lo) := by show _ = _; unfold rdL; rw [List.take_of_length_le (show l.length ≤ hi by omega), List.take_of_length_le (Nat.le_refl _)]
        generalize (l.take l.length).drop lo = R at *
        clear hcv hnil
        go_enter Tryd.func51, Tryd.ntmps51
        go_wp2
        go_ret
        exact ⟨ret_str hR.out.symm, hal⟩
      · have hcv2 := hcv lo hi (by omega)
        have hR : Hid (rdL l lo hi = (l.take hi).drop lo) := rfl
        generalize (l.take hi).drop lo = R at *
        clear hcv hnil
        go_enter Tryd.func51, Tryd.ntmps51
        go_wp2
        go_ret
        exact ⟨ret_str hR.out.symm, hal⟩


end Go.Proofs.YtadoihddmbbjoaaDoor

namespace Go.Proofs.YtadoihddmbbjoaaDoor
open Go.RowKit

set_option maxRecDepth 100000 in
set_option maxHeartbeats 8000000 in
theorem implRead_no (v0 v1 v2 v3 v4 : Value) (S : StT) (obj lo hi : Int) (w : World) (h : Sto w v0 v1 v2 v3 v4 S) (hz : szT S) (hq : stOkB S = false) :
    Calls Tryd.prog 20 #[.agg #[v0, v1, v2, v3, v4], .int .i64 obj, .agg #[.int .i64 lo, .int .i64 hi]] w (ToRd w [] false) := by
  obtain ⟨a0, c0, rfl⟩ := h.now.form
  obtain ⟨a1, c1, rfl⟩ := h.sure.form
  obtain ⟨a2, c2, rfl⟩ := h.last.form
  obtain ⟨a3, c3, rfl⟩ := h.slast.form
  obtain ⟨a4, c4, rfl⟩ := h.floors.form
  obtain ⟨W, hW⟩ : ∃ W, (w.alloc (.cells #[.slice a0 S.now.length c0, .slice a1 S.sure.length c1, .slice a2 S.last.length c2, .slice a3 S.slast.length c3, .slice a4 S.floors.length c4] 30)).alloc (.cells #[.int .i64 lo, .int .i64 hi] 47) = W := ⟨_, rfl⟩
  have hal : Below w.heap.size w W := by rw [← hW]; exact ((Below.refl _ _).alloc (Nat.le_refl _) _).alloc (by simp) _
  have A0 : Box5 W w.heap.size (.slice a0 S.now.length c0) (.slice a1 S.sure.length c1) (.slice a2 S.last.length c2) (.slice a3 S.slast.length c3) (.slice a4 S.floors.length c4) := by rw [← hW]; exact (new_box5 w _ _ _ _ _ _).keep ((Below.refl _ _).alloc (Nat.le_refl _) _)
  have B0 : Box2 W (w.heap.size + 1) lo hi := by
    rw [← hW]
    have := new_box (w.alloc (.cells #[.slice a0 S.now.length c0, .slice a1 S.sure.length c1, .slice a2 S.last.length c2, .slice a3 S.slast.length c3, .slice a4 S.floors.length c4] 30)) lo hi 47
    simpa using this
  have E_0 := Lib.hid hal
  have bA_0 := Lib.hid A0
  have bB_0 := Lib.hid B0
  have S_0 := Lib.hid (show w.heap.size ≤ W.heap.size from hal.size)
  have K := Lib.hid (diskOf_no _ _ _ _ _ S W (h.keep hal) hz hq)
  clear h hz hq hal A0 B0
  obtain ⟨x00, x01, x02, x03, x04⟩ := bA_0.out
  go_enter Tryd.func20, Tryd.ntmps20
  go_wp2_with fail
  clear hW
  refine K.out.mono ?_; rintro e w1 ⟨rfl, hb⟩
  have bA_1 := Lib.hid (bA_0.out.keep hb)
  have bB_2 := Lib.hid (bB_0.out.keep hb)
  have E_3 := Lib.hid (E_0.out.trans (hb.mono E_0.out.size))
  have S_3 := Lib.hid hb.size
  clear x00 x01 x02 x03 x04
  clear bA_0 bB_0 E_0 hb
  clear K
  go_wp2
  exact bodyPost_ret (v := .tuple #[.string ⟨#[]⟩, .bool false]) (by simp [results, Tryd.results20, go_sem]) rfl ⟨rfl, E_3.out⟩

set_option maxRecDepth 100000 in
set_option maxHeartbeats 8000000 in
theorem implRead_obj (v0 v1 v2 v3 v4 : Value) (S : StT) (obj lo hi : Int) (w : World) (h : Sto w v0 v1 v2 v3 v4 S) (hz : szT S) (hq : stOkB S = true) (h1 : cliB obj = false) :
    Calls Tryd.prog 20 #[.agg #[v0, v1, v2, v3, v4], .int .i64 obj, .agg #[.int .i64 lo, .int .i64 hi]] w (ToRd w [] false) := by
  obtain ⟨a0, c0, rfl⟩ := h.now.form
  obtain ⟨a1, c1, rfl⟩ := h.sure.form
  obtain ⟨a2, c2, rfl⟩ := h.last.form
  obtain ⟨a3, c3, rfl⟩ := h.slast.form
  obtain ⟨a4, c4, rfl⟩ := h.floors.form
  obtain ⟨W, hW⟩ : ∃ W, (w.alloc (.cells #[.slice a0 S.now.length c0, .slice a1 S.sure.length c1, .slice a2 S.last.length c2, .slice a3 S.slast.length c3, .slice a4 S.floors.length c4] 30)).alloc (.cells #[.int .i64 lo, .int .i64 hi] 47) = W := ⟨_, rfl⟩
  have hal : Below w.heap.size w W := by rw [← hW]; exact ((Below.refl _ _).alloc (Nat.le_refl _) _).alloc (by simp) _
  have A0 : Box5 W w.heap.size (.slice a0 S.now.length c0) (.slice a1 S.sure.length c1) (.slice a2 S.last.length c2) (.slice a3 S.slast.length c3) (.slice a4 S.floors.length c4) := by rw [← hW]; exact (new_box5 w _ _ _ _ _ _).keep ((Below.refl _ _).alloc (Nat.le_refl _) _)
  have B0 : Box2 W (w.heap.size + 1) lo hi := by
    rw [← hW]
    have := new_box (w.alloc (.cells #[.slice a0 S.now.length c0, .slice a1 S.sure.length c1, .slice a2 S.last.length c2, .slice a3 S.slast.length c3, .slice a4 S.floors.length c4] 30)) lo hi 47
    simpa using this
  have E_0 := Lib.hid hal
  have bA_0 := Lib.hid A0
  have bB_0 := Lib.hid B0
  have S_0 := Lib.hid (show w.heap.size ≤ W.heap.size from hal.size)
  have K := Lib.hid (diskOf_yes _ _ _ _ _ S W (h.keep hal) hz hq)
  have KO := Lib.hid (fun w => objectOk_any obj w)
  rw [h1] at KO
  clear h hz hq hal A0 B0 h1
  obtain ⟨x00, x01, x02, x03, x04⟩ := bA_0.out
  go_enter Tryd.func20, Tryd.ntmps20
  go_wp2_with fail
  clear hW
  refine K.out.mono ?_; rintro e w1 ⟨d, rfl, HD, hb⟩
  have bA_1 := Lib.hid (bA_0.out.keep hb)
  have bB_2 := Lib.hid (bB_0.out.keep hb)
  have E_3 := Lib.hid (E_0.out.trans (hb.mono E_0.out.size))
  have S_3 := Lib.hid hb.size
  clear x00 x01 x02 x03 x04
  clear bA_0 bB_0 E_0 hb
  clear K
  go_wp2_with fail
  refine (KO.out _).mono ?_; rintro e w2 ⟨rfl, hw⟩; subst hw
  go_wp2
  exact bodyPost_ret (v := .tuple #[.string ⟨#[]⟩, .bool false]) (by simp [results, Tryd.results20, go_sem]) rfl ⟨rfl, E_3.out⟩

set_option maxRecDepth 100000 in
set_option maxHeartbeats 8000000 in
theorem implRead_span (v0 v1 v2 v3 v4 : Value) (S : StT) (obj lo hi : Int) (w : World) (h : Sto w v0 v1 v2 v3 v4 S) (hz : szT S) (hq : stOkB S = true) (h1 : cliB obj = true) (h2 : spanOkB lo hi = false) :
    Calls Tryd.prog 20 #[.agg #[v0, v1, v2, v3, v4], .int .i64 obj, .agg #[.int .i64 lo, .int .i64 hi]] w (ToRd w [] false) := by
  obtain ⟨a0, c0, rfl⟩ := h.now.form
  obtain ⟨a1, c1, rfl⟩ := h.sure.form
  obtain ⟨a2, c2, rfl⟩ := h.last.form
  obtain ⟨a3, c3, rfl⟩ := h.slast.form
  obtain ⟨a4, c4, rfl⟩ := h.floors.form
  obtain ⟨W, hW⟩ : ∃ W, (w.alloc (.cells #[.slice a0 S.now.length c0, .slice a1 S.sure.length c1, .slice a2 S.last.length c2, .slice a3 S.slast.length c3, .slice a4 S.floors.length c4] 30)).alloc (.cells #[.int .i64 lo, .int .i64 hi] 47) = W := ⟨_, rfl⟩
  have hal : Below w.heap.size w W := by rw [← hW]; exact ((Below.refl _ _).alloc (Nat.le_refl _) _).alloc (by simp) _
  have A0 : Box5 W w.heap.size (.slice a0 S.now.length c0) (.slice a1 S.sure.length c1) (.slice a2 S.last.length c2) (.slice a3 S.slast.length c3) (.slice a4 S.floors.length c4) := by rw [← hW]; exact (new_box5 w _ _ _ _ _ _).keep ((Below.refl _ _).alloc (Nat.le_refl _) _)
  have B0 : Box2 W (w.heap.size + 1) lo hi := by
    rw [← hW]
    have := new_box (w.alloc (.cells #[.slice a0 S.now.length c0, .slice a1 S.sure.length c1, .slice a2 S.last.length c2, .slice a3 S.slast.length c3, .slice a4 S.floors.length c4] 30)) lo hi 47
    simpa using this
  have E_0 := Lib.hid hal
  have bA_0 := Lib.hid A0
  have bB_0 := Lib.hid B0
  have S_0 := Lib.hid (show w.heap.size ≤ W.heap.size from hal.size)
  have K := Lib.hid (diskOf_yes _ _ _ _ _ S W (h.keep hal) hz hq)
  have KO := Lib.hid (fun w => objectOk_any obj w)
  rw [h1] at KO
  have K2 := Lib.hid (fun w => implSpanOk_any lo hi w)
  rw [h2] at K2
  clear h hz hq hal A0 B0 h1 h2
  obtain ⟨x00, x01, x02, x03, x04⟩ := bA_0.out
  go_enter Tryd.func20, Tryd.ntmps20
  go_wp2_with fail
  clear hW
  refine K.out.mono ?_; rintro e w1 ⟨d, rfl, HD, hb⟩
  have bA_1 := Lib.hid (bA_0.out.keep hb)
  have bB_2 := Lib.hid (bB_0.out.keep hb)
  have E_3 := Lib.hid (E_0.out.trans (hb.mono E_0.out.size))
  have S_3 := Lib.hid hb.size
  clear x00 x01 x02 x03 x04
  clear bA_0 bB_0 E_0 hb
  clear K
  obtain ⟨x00, x01, x02, x03⟩ := bB_2.out
  go_wp2_with fail
  refine (KO.out _).mono ?_; rintro e w2 ⟨rfl, hw⟩; subst hw
  go_wp2_with fail
  refine (K2.out _).mono ?_; rintro e w4 ⟨rfl, hb⟩
  have bA_5 := Lib.hid (bA_1.out.keep hb)
  have bB_6 := Lib.hid (bB_2.out.keep hb)
  have D_7 := Lib.hid (HD.out.keep hb)
  have E_8 := Lib.hid (E_3.out.trans (hb.mono E_3.out.size))
  have S_8 := Lib.hid hb.size
  clear x00 x01 x02 x03
  clear bA_1 bB_2 HD E_3 hb
  go_wp2
  exact bodyPost_ret (v := .tuple #[.string ⟨#[]⟩, .bool false]) (by simp [results, Tryd.results20, go_sem]) rfl ⟨rfl, E_8.out⟩

set_option maxRecDepth 100000 in
set_option maxHeartbeats 8000000 in
theorem implRead_0 (v0 v1 v2 v3 v4 : Value) (S : StT) (lo hi : Int) (w : World) (h : Sto w v0 v1 v2 v3 v4 S) (hz : szT S) (hq : stOkB S = true) (h2 : spanOkB lo hi = true) :
    Calls Tryd.prog 20 #[.agg #[v0, v1, v2, v3, v4], .int .i64 0, .agg #[.int .i64 lo, .int .i64 hi]] w (ToRd w (rdL (S.now.getD 0 []) lo.toNat hi.toNat) true) := by
  obtain ⟨i1, i2, i3⟩ := spanOkB_iff.1 h2
  obtain ⟨lo, rfl⟩ := Int.eq_ofNat_of_zero_le i1
  obtain ⟨hi, rfl⟩ := Int.eq_ofNat_of_zero_le (show 0 ≤ hi by omega)
  have hh : lo < hi := by omega
  obtain ⟨a0, c0, rfl⟩ := h.now.form
  obtain ⟨a1, c1, rfl⟩ := h.sure.form
  obtain ⟨a2, c2, rfl⟩ := h.last.form
  obtain ⟨a3, c3, rfl⟩ := h.slast.form
  obtain ⟨a4, c4, rfl⟩ := h.floors.form
  obtain ⟨W, hW⟩ : ∃ W, (w.alloc (.cells #[.slice a0 S.now.length c0, .slice a1 S.sure.length c1, .slice a2 S.last.length c2, .slice a3 S.slast.length c3, .slice a4 S.floors.length c4] 30)).alloc (.cells #[.int .i64 (lo : Int), .int .i64 (hi : Int)] 47) = W := ⟨_, rfl⟩
  have hal : Below w.heap.size w W := by rw [← hW]; exact ((Below.refl _ _).alloc (Nat.le_refl _) _).alloc (by simp) _
  have A0 : Box5 W w.heap.size (.slice a0 S.now.length c0) (.slice a1 S.sure.length c1) (.slice a2 S.last.length c2) (.slice a3 S.slast.length c3) (.slice a4 S.floors.length c4) := by rw [← hW]; exact (new_box5 w _ _ _ _ _ _).keep ((Below.refl _ _).alloc (Nat.le_refl _) _)
  have B0 : Box2 W (w.heap.size + 1) (lo : Int) (hi : Int) := by
    rw [← hW]
    have := new_box (w.alloc (.cells #[.slice a0 S.now.length c0, .slice a1 S.sure.length c1, .slice a2 S.last.length c2, .slice a3 S.slast.length c3, .slice a4 S.floors.length c4] 30)) (lo : Int) (hi : Int) 47
    simpa using this
  have E_0 := Lib.hid hal
  have bA_0 := Lib.hid A0
  have bB_0 := Lib.hid B0
  have S_0 := Lib.hid (show w.heap.size ≤ W.heap.size from hal.size)
  have K := Lib.hid (diskOf_yes _ _ _ _ _ S W (h.keep hal) hz hq)
  have KO := Lib.hid (fun w => objectOk_any 0 w)
  rw [show cliB 0 = true from by decide] at KO
  have K2 := Lib.hid (fun w => implSpanOk_any (lo : Int) (hi : Int) w)
  rw [h2] at K2
  clear h hz hq hal A0 B0 i1 i2 i3 h2
  obtain ⟨x00, x01, x02, x03, x04⟩ := bA_0.out
  go_enter Tryd.func20, Tryd.ntmps20
  go_wp2_with fail
  clear hW
  refine K.out.mono ?_; rintro e w1 ⟨d, rfl, HD, hb⟩
  have bA_1 := Lib.hid (bA_0.out.keep hb)
  have bB_2 := Lib.hid (bB_0.out.keep hb)
  have E_3 := Lib.hid (E_0.out.trans (hb.mono E_0.out.size))
  have S_3 := Lib.hid hb.size
  clear x00 x01 x02 x03 x04
  clear bA_0 bB_0 E_0 hb
  clear K
  obtain ⟨x00, x01, x02, x03⟩ := bB_2.out
  go_wp2_with fail
  refine (KO.out _).mono ?_; rintro e w2 ⟨rfl, hw⟩; subst hw
  go_wp2_with fail
  refine (K2.out _).mono ?_; rintro e w4 ⟨rfl, hb⟩
  have bA_5 := Lib.hid (bA_1.out.keep hb)
  have bB_6 := Lib.hid (bB_2.out.keep hb)
  have D_7 := Lib.hid (HD.out.keep hb)
  have E_8 := Lib.hid (E_3.out.trans (hb.mono E_3.out.size))
  have S_8 := Lib.hid hb.size
  clear x00 x01 x02 x03
  clear bA_1 bB_2 HD E_3 hb
  obtain ⟨s0, s1, s2, t0, t1, t2, hrow, -, i0, i1, i2, -⟩ := D_7.out
  obtain ⟨g, p, rfl⟩ := i0.form
  have cc : w4.cell? ⟨d, 0, none⟩ = some (.slice (some ⟨g, 0, none⟩) (S.now.getD 0 []).length p) := row_cell hrow 0 _ rfl
  have JJ : Hid (Sht w4 (.slice (some ⟨g, 0, none⟩) (S.now.getD 0 []).length p) (S.now.getD 0 [])) := i0.sht
  clear hrow i0 i1 i2 K2 KO
  clear D_7
  generalize S.now.getD 0 [] = t at *
  obtain ⟨x00, x01, x02, x03⟩ := bB_6.out
  go_wp2_with fail
  have hD : Below w4.heap.size w4 w4.drew := (Below.refl _ _).drew
  go_region_held3 (fun w' => w'.cell? ⟨d, 0, none⟩ = some (.slice (some ⟨g, 0, none⟩) t.length p) ∧ w'.cell? ⟨w.heap.size + 1, 0, none⟩ = some (.int .i64 (lo : Int)) ∧ w'.cell? ⟨w.heap.size + 1, 1, none⟩ = some (.int .i64 (hi : Int)))
    (refine ⟨?_, ?_, ?_⟩ <;> first | (go_keep; done) | (refine cell_keep hb ?_; first | (go_keep; done) | (go_simp; done)))
    (first
      | (go_at_call 51; refine (read_any _ t lo hi hh _ (JJ.out.keep hD)).mono ?_; rintro e r9_0 ⟨rfl, hb⟩; have hR0 := hD.trans (hb.mono hD.size)))
  have hbb : Below w4.heap.size w4 r9_0 := hR0
  clear hR0 hb hD cc JJ
  have bA_10 := Lib.hid (bA_5.out.keep hbb)
  have bB_11 := Lib.hid (bB_6.out.keep hbb)
  have E_12 := Lib.hid (E_8.out.trans (hbb.mono E_8.out.size))
  have S_12 := Lib.hid hbb.size
  clear x00 x01 x02 x03
  clear bA_5 bB_6 E_8 hbb
  go_wp2
  exact bodyPost_ret (v := .tuple #[.string (mkB (rdL t lo hi)), .bool true]) (by simp [results, Tryd.results20, go_sem]) rfl ⟨rfl, E_12.out⟩

set_option maxRecDepth 100000 in
set_option maxHeartbeats 8000000 in
theorem implRead_1 (v0 v1 v2 v3 v4 : Value) (S : StT) (lo hi : Int) (w : World) (h : Sto w v0 v1 v2 v3 v4 S) (hz : szT S) (hq : stOkB S = true) (h2 : spanOkB lo hi = true) :
    Calls Tryd.prog 20 #[.agg #[v0, v1, v2, v3, v4], .int .i64 1, .agg #[.int .i64 lo, .int .i64 hi]] w (ToRd w (rdL (S.now.getD 1 []) lo.toNat hi.toNat) true) := by
  obtain ⟨i1, i2, i3⟩ := spanOkB_iff.1 h2
  obtain ⟨lo, rfl⟩ := Int.eq_ofNat_of_zero_le i1
  obtain ⟨hi, rfl⟩ := Int.eq_ofNat_of_zero_le (show 0 ≤ hi by omega)
  have hh : lo < hi := by omega
  obtain ⟨a0, c0, rfl⟩ := h.now.form
  obtain ⟨a1, c1, rfl⟩ := h.sure.form
  obtain ⟨a2, c2, rfl⟩ := h.last.form
  obtain ⟨a3, c3, rfl⟩ := h.slast.form
  obtain ⟨a4, c4, rfl⟩ := h.floors.form
  obtain ⟨W, hW⟩ : ∃ W, (w.alloc (.cells #[.slice a0 S.now.length c0, .slice a1 S.sure.length c1, .slice a2 S.last.length c2, .slice a3 S.slast.length c3, .slice a4 S.floors.length c4] 30)).alloc (.cells #[.int .i64 (lo : Int), .int .i64 (hi : Int)] 47) = W := ⟨_, rfl⟩
  have hal : Below w.heap.size w W := by rw [← hW]; exact ((Below.refl _ _).alloc (Nat.le_refl _) _).alloc (by simp) _
  have A0 : Box5 W w.heap.size (.slice a0 S.now.length c0) (.slice a1 S.sure.length c1) (.slice a2 S.last.length c2) (.slice a3 S.slast.length c3) (.slice a4 S.floors.length c4) := by rw [← hW]; exact (new_box5 w _ _ _ _ _ _).keep ((Below.refl _ _).alloc (Nat.le_refl _) _)
  have B0 : Box2 W (w.heap.size + 1) (lo : Int) (hi : Int) := by
    rw [← hW]
    have := new_box (w.alloc (.cells #[.slice a0 S.now.length c0, .slice a1 S.sure.length c1, .slice a2 S.last.length c2, .slice a3 S.slast.length c3, .slice a4 S.floors.length c4] 30)) (lo : Int) (hi : Int) 47
    simpa using this
  have E_0 := Lib.hid hal
  have bA_0 := Lib.hid A0
  have bB_0 := Lib.hid B0
  have S_0 := Lib.hid (show w.heap.size ≤ W.heap.size from hal.size)
  have K := Lib.hid (diskOf_yes _ _ _ _ _ S W (h.keep hal) hz hq)
  have KO := Lib.hid (fun w => objectOk_any 1 w)
  rw [show cliB 1 = true from by decide] at KO
  have K2 := Lib.hid (fun w => implSpanOk_any (lo : Int) (hi : Int) w)
  rw [h2] at K2
  clear h hz hq hal A0 B0 i1 i2 i3 h2
  obtain ⟨x00, x01, x02, x03, x04⟩ := bA_0.out
  go_enter Tryd.func20, Tryd.ntmps20
  go_wp2_with fail
  clear hW
  refine K.out.mono ?_; rintro e w1 ⟨d, rfl, HD, hb⟩
  have bA_1 := Lib.hid (bA_0.out.keep hb)
  have bB_2 := Lib.hid (bB_0.out.keep hb)
  have E_3 := Lib.hid (E_0.out.trans (hb.mono E_0.out.size))
  have S_3 := Lib.hid hb.size
  clear x00 x01 x02 x03 x04
  clear bA_0 bB_0 E_0 hb
  clear K
  obtain ⟨x00, x01, x02, x03⟩ := bB_2.out
  go_wp2_with fail
  refine (KO.out _).mono ?_; rintro e w2 ⟨rfl, hw⟩; subst hw
  go_wp2_with fail
  refine (K2.out _).mono ?_; rintro e w4 ⟨rfl, hb⟩
  have bA_5 := Lib.hid (bA_1.out.keep hb)
  have bB_6 := Lib.hid (bB_2.out.keep hb)
  have D_7 := Lib.hid (HD.out.keep hb)
  have E_8 := Lib.hid (E_3.out.trans (hb.mono E_3.out.size))
  have S_8 := Lib.hid hb.size
  clear x00 x01 x02 x03
  clear bA_1 bB_2 HD E_3 hb
  obtain ⟨s0, s1, s2, t0, t1, t2, hrow, -, i0, i1, i2, -⟩ := D_7.out
  obtain ⟨g, p, rfl⟩ := i1.form
  have cc : w4.cell? ⟨d, 1, none⟩ = some (.slice (some ⟨g, 0, none⟩) (S.now.getD 1 []).length p) := row_cell hrow 1 _ rfl
  have JJ : Hid (Sht w4 (.slice (some ⟨g, 0, none⟩) (S.now.getD 1 []).length p) (S.now.getD 1 [])) := i1.sht
  clear hrow i0 i1 i2 K2 KO
  clear D_7
  generalize S.now.getD 1 [] = t at *
  obtain ⟨x00, x01, x02, x03⟩ := bB_6.out
  go_wp2_with fail
  have hD : Below w4.heap.size w4 w4.drew := (Below.refl _ _).drew
  go_region_held3 (fun w' => w'.cell? ⟨d, 1, none⟩ = some (.slice (some ⟨g, 0, none⟩) t.length p) ∧ w'.cell? ⟨w.heap.size + 1, 0, none⟩ = some (.int .i64 (lo : Int)) ∧ w'.cell? ⟨w.heap.size + 1, 1, none⟩ = some (.int .i64 (hi : Int)))
    (refine ⟨?_, ?_, ?_⟩ <;> first | (go_keep; done) | (refine cell_keep hb ?_; first | (go_keep; done) | (go_simp; done)))
    (first
      | (go_at_call 51; refine (read_any _ t lo hi hh _ (JJ.out.keep hD)).mono ?_; rintro e r9_0 ⟨rfl, hb⟩; have hR0 := hD.trans (hb.mono hD.size)))
  have hbb : Below w4.heap.size w4 r9_0 := hR0
  clear hR0 hb hD cc JJ
  have bA_10 := Lib.hid (bA_5.out.keep hbb)
  have bB_11 := Lib.hid (bB_6.out.keep hbb)
  have E_12 := Lib.hid (E_8.out.trans (hbb.mono E_8.out.size))
  have S_12 := Lib.hid hbb.size
  clear x00 x01 x02 x03
  clear bA_5 bB_6 E_8 hbb
  go_wp2
  exact bodyPost_ret (v := .tuple #[.string (mkB (rdL t lo hi)), .bool true]) (by simp [results, Tryd.results20, go_sem]) rfl ⟨rfl, E_12.out⟩

set_option maxRecDepth 100000 in
set_option maxHeartbeats 8000000 in
theorem implRead_2 (v0 v1 v2 v3 v4 : Value) (S : StT) (lo hi : Int) (w : World) (h : Sto w v0 v1 v2 v3 v4 S) (hz : szT S) (hq : stOkB S = true) (h2 : spanOkB lo hi = true) :
    Calls Tryd.prog 20 #[.agg #[v0, v1, v2, v3, v4], .int .i64 2, .agg #[.int .i64 lo, .int .i64 hi]] w (ToRd w (rdL (S.now.getD 2 []) lo.toNat hi.toNat) true) := by
  obtain ⟨i1, i2, i3⟩ := spanOkB_iff.1 h2
  obtain ⟨lo, rfl⟩ := Int.eq_ofNat_of_zero_le i1
  obtain ⟨hi, rfl⟩ := Int.eq_ofNat_of_zero_le (show 0 ≤ hi by omega)
  have hh : lo < hi := by omega
  obtain ⟨a0, c0, rfl⟩ := h.now.form
  obtain ⟨a1, c1, rfl⟩ := h.sure.form
  obtain ⟨a2, c2, rfl⟩ := h.last.form
  obtain ⟨a3, c3, rfl⟩ := h.slast.form
  obtain ⟨a4, c4, rfl⟩ := h.floors.form
  obtain ⟨W, hW⟩ : ∃ W, (w.alloc (.cells #[.slice a0 S.now.length c0, .slice a1 S.sure.length c1, .slice a2 S.last.length c2, .slice a3 S.slast.length c3, .slice a4 S.floors.length c4] 30)).alloc (.cells #[.int .i64 (lo : Int), .int .i64 (hi : Int)] 47) = W := ⟨_, rfl⟩
  have hal : Below w.heap.size w W := by rw [← hW]; exact ((Below.refl _ _).alloc (Nat.le_refl _) _).alloc (by simp) _
  have A0 : Box5 W w.heap.size (.slice a0 S.now.length c0) (.slice a1 S.sure.length c1) (.slice a2 S.last.length c2) (.slice a3 S.slast.length c3) (.slice a4 S.floors.length c4) := by rw [← hW]; exact (new_box5 w _ _ _ _ _ _).keep ((Below.refl _ _).alloc (Nat.le_refl _) _)
  have B0 : Box2 W (w.heap.size + 1) (lo : Int) (hi : Int) := by
    rw [← hW]
    have := new_box (w.alloc (.cells #[.slice a0 S.now.length c0, .slice a1 S.sure.length c1, .slice a2 S.last.length c2, .slice a3 S.slast.length c3, .slice a4 S.floors.length c4] 30)) (lo : Int) (hi : Int) 47
    simpa using this
  have E_0 := Lib.hid hal
  have bA_0 := Lib.hid A0
  have bB_0 := Lib.hid B0
  have S_0 := Lib.hid (show w.heap.size ≤ W.heap.size from hal.size)
  have K := Lib.hid (diskOf_yes _ _ _ _ _ S W (h.keep hal) hz hq)
  have KO := Lib.hid (fun w => objectOk_any 2 w)
  rw [show cliB 2 = true from by decide] at KO
  have K2 := Lib.hid (fun w => implSpanOk_any (lo : Int) (hi : Int) w)
  rw [h2] at K2
  clear h hz hq hal A0 B0 i1 i2 i3 h2
  obtain ⟨x00, x01, x02, x03, x04⟩ := bA_0.out
  go_enter Tryd.func20, Tryd.ntmps20
  go_wp2_with fail
  clear hW
  refine K.out.mono ?_; rintro e w1 ⟨d, rfl, HD, hb⟩
  have bA_1 := Lib.hid (bA_0.out.keep hb)
  have bB_2 := Lib.hid (bB_0.out.keep hb)
  have E_3 := Lib.hid (E_0.out.trans (hb.mono E_0.out.size))
  have S_3 := Lib.hid hb.size
  clear x00 x01 x02 x03 x04
  clear bA_0 bB_0 E_0 hb
  clear K
  obtain ⟨x00, x01, x02, x03⟩ := bB_2.out
  go_wp2_with fail
  refine (KO.out _).mono ?_; rintro e w2 ⟨rfl, hw⟩; subst hw
  go_wp2_with fail
  refine (K2.out _).mono ?_; rintro e w4 ⟨rfl, hb⟩
  have bA_5 := Lib.hid (bA_1.out.keep hb)
  have bB_6 := Lib.hid (bB_2.out.keep hb)
  have D_7 := Lib.hid (HD.out.keep hb)
  have E_8 := Lib.hid (E_3.out.trans (hb.mono E_3.out.size))
  have S_8 := Lib.hid hb.size
  clear x00 x01 x02 x03
  clear bA_1 bB_2 HD E_3 hb
  obtain ⟨s0, s1, s2, t0, t1, t2, hrow, -, i0, i1, i2, -⟩ := D_7.out
  obtain ⟨g, p, rfl⟩ := i2.form
  have cc : w4.cell? ⟨d, 2, none⟩ = some (.slice (some ⟨g, 0, none⟩) (S.now.getD 2 []).length p) := row_cell hrow 2 _ rfl
  have JJ : Hid (Sht w4 (.slice (some ⟨g, 0, none⟩) (S.now.getD 2 []).length p) (S.now.getD 2 [])) := i2.sht
  clear hrow i0 i1 i2 K2 KO
  clear D_7
  generalize S.now.getD 2 [] = t at *
  obtain ⟨x00, x01, x02, x03⟩ := bB_6.out
  go_wp2_with fail
  have hD : Below w4.heap.size w4 w4.drew := (Below.refl _ _).drew
  go_region_held3 (fun w' => w'.cell? ⟨d, 2, none⟩ = some (.slice (some ⟨g, 0, none⟩) t.length p) ∧ w'.cell? ⟨w.heap.size + 1, 0, none⟩ = some (.int .i64 (lo : Int)) ∧ w'.cell? ⟨w.heap.size + 1, 1, none⟩ = some (.int .i64 (hi : Int)))
    (refine ⟨?_, ?_, ?_⟩ <;> first | (go_keep; done) | (refine cell_keep hb ?_; first | (go_keep; done) | (go_simp; done)))
    (first
      | (go_at_call 51; refine (read_any _ t lo hi hh _ (JJ.out.keep hD)).mono ?_; rintro e r9_0 ⟨rfl, hb⟩; have hR0 := hD.trans (hb.mono hD.size)))
  have hbb : Below w4.heap.size w4 r9_0 := hR0
  clear hR0 hb hD cc JJ
  have bA_10 := Lib.hid (bA_5.out.keep hbb)
  have bB_11 := Lib.hid (bB_6.out.keep hbb)
  have E_12 := Lib.hid (E_8.out.trans (hbb.mono E_8.out.size))
  have S_12 := Lib.hid hbb.size
  clear x00 x01 x02 x03
  clear bA_5 bB_6 E_8 hbb
  go_wp2
  exact bodyPost_ret (v := .tuple #[.string (mkB (rdL t lo hi)), .bool true]) (by simp [results, Tryd.results20, go_sem]) rfl ⟨rfl, E_12.out⟩

theorem implRead_any (v0 v1 v2 v3 v4 : Value) (S : StT) (obj lo hi : Int) (w : World) (h : Sto w v0 v1 v2 v3 v4 S) (hz : szT S) : Calls Tryd.prog 20 #[.agg #[v0, v1, v2, v3, v4], .int .i64 obj, .agg #[.int .i64 lo, .int .i64 hi]] w (ToRd w (rdT S obj lo hi) (rdB S obj lo hi)) := by
  unfold rdT rdB
  by_cases hq : stOkB S = true
  · by_cases h1 : cliB obj = true
    · rw [h1, hq]
      by_cases h2 : spanOkB lo hi = true
      · simp only [h2, Bool.and_true, if_true]
        obtain ⟨h0, h1⟩ : 0 ≤ obj ∧ obj < 3 := of_decide_eq_true h1
        obtain rfl | rfl | rfl : obj = 0 ∨ obj = 1 ∨ obj = 2 := by omega
        · exact implRead_0 _ _ _ _ _ S lo hi w h hz hq h2
        · exact implRead_1 _ _ _ _ _ S lo hi w h hz hq h2
        · exact implRead_2 _ _ _ _ _ S lo hi w h hz hq h2
      · have h2 : spanOkB lo hi = false := by simpa using h2
        simp only [h2, Bool.and_false, Bool.false_eq_true, if_false]; exact implRead_span _ _ _ _ _ S obj lo hi w h hz hq h1 h2
    · have h1 : cliB obj = false := by simpa using h1
      rw [h1]; simp only [Bool.false_and, Bool.and_false, Bool.false_eq_true, if_false]; exact implRead_obj _ _ _ _ _ S obj lo hi w h hz hq h1
  · have hq : stOkB S = false := by simpa using hq
    simp only [hq, Bool.false_and, Bool.false_eq_true, if_false]; exact implRead_no _ _ _ _ _ S obj lo hi w h hz hq

end Go.Proofs.YtadoihddmbbjoaaDoor
