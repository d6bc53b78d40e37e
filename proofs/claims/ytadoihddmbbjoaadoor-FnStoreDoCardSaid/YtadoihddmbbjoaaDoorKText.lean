/-
  Strings of bytes ('mkB') and the contracts of l2Byte, fileByte, TextOk of both sides: what each returns at every string; the world is left alone. Condition: the string's length is at most the greatest int.
-/
import Derived.Test.YtadoihddmbbjoaaDoorKDoMath
import Derived.Test.YtadoihddmbbjoaaDoorKRegCore
import Derived.Lib.Hide
namespace Go.Proofs.YtadoihddmbbjoaaDoor
open Go.RowKit

/-- The string of a list of bytes. -/
def mkB (l : List UInt8) : ByteArray := ⟨l.toArray⟩
theorem mkB_size (l : List UInt8) : (mkB l).size = l.length := by show l.toArray.size = _; simp
theorem mkB_toList (l : List UInt8) : (mkB l).data.toList = l := rfl
theorem mkB_self (s : ByteArray) : mkB s.data.toList = s := by unfold mkB; rw [Array.toArray_toList]
theorem mkB_of (s : ByteArray) : ∃ l, s = mkB l ∧ l.length = s.size := ⟨s.data.toList, (mkB_self s).symm, by show s.data.toList.length = s.data.size; simp⟩
theorem mkB_app (a b : List UInt8) : mkB a ++ mkB b = mkB (a ++ b) := ByteArray.mk_append_mk a b
theorem mkB_extract (l : List UInt8) (a b : Nat) : (mkB l).extract a b = mkB ((l.take b).drop a) := by
  unfold mkB
  rw [ByteArray.extract_mk, ← List.drop_take]

theorem fbN_true {n : Nat} (h : n = 46 ∨ (97 ≤ n ∧ n ≤ 122) ∨ (48 ≤ n ∧ n ≤ 57)) : fbN n = true := decide_eq_true h
theorem fbN_false {n : Nat} (h : ¬ (n = 46 ∨ (97 ≤ n ∧ n ≤ 122) ∨ (48 ≤ n ∧ n ≤ 57))) : fbN n = false := decide_eq_false h

set_option maxHeartbeats 1000000 in
theorem l2Byte_any (c : UInt8) (w : World) :
    Calls Tryd.prog 84 #[.int .u8 (c.toNat : Int)] w fun e w' => e = .returned (.bool (fb c)) ∧ w = w' := by
  unfold fb
  have hc : c.toNat < 256 := c.toNat_lt
  generalize c.toNat = n at *
  by_cases h1 : n = 46 <;> by_cases h2 : 97 ≤ n <;> by_cases h3 : n ≤ 122 <;> by_cases h4 : 48 ≤ n <;> by_cases h5 : n ≤ 57 <;> first | (exfalso; omega) | skip
  all_goals
    go_enter Tryd.func84, Tryd.ntmps84
    go_wp2
    go_ret
    refine ⟨ret_bool ?_, rfl⟩
    first | exact (fbN_true (by omega)).symm | exact (fbN_false (by omega)).symm | (rw [Bool.eq_iff_iff]; simp [fbN]; omega)

set_option maxHeartbeats 1000000 in
theorem fileByte_any (c : UInt8) (w : World) :
    Calls Tryd.prog 83 #[.int .u8 (c.toNat : Int)] w fun e w' => e = .returned (.bool (fb c)) ∧ w = w' := by
  unfold fb
  have hc : c.toNat < 256 := c.toNat_lt
  generalize c.toNat = n at *
  by_cases h1 : n = 46 <;> by_cases h2 : 97 ≤ n <;> by_cases h3 : n ≤ 122 <;> by_cases h4 : 48 ≤ n <;> by_cases h5 : n ≤ 57 <;> first | (exfalso; omega) | skip
  all_goals
    go_enter Tryd.func83, Tryd.ntmps83
    go_wp2
    go_ret
    refine ⟨ret_bool ?_, rfl⟩
    first | exact (fbN_true (by omega)).symm | exact (fbN_false (by omega)).symm | (rw [Bool.eq_iff_iff]; simp [fbN]; omega)

theorem all_take_succ (s : ByteArray) (k : Nat) (h : k < s.size) : (s.data.toList.take (k + 1)).all fb = ((s.data.toList.take k).all fb && fb s[k]) := by
  have e : s.data.toList.take (k + 1) = s.data.toList.take k ++ [s[k]] := by
    rw [List.take_succ_eq_append_getElem (by simpa using h)]; rfl
  rw [e, List.all_append]
  simp
theorem all_false_of_take (s : ByteArray) (k : Nat) (h : (s.data.toList.take k).all fb = false) : tokB s.data.toList = false := by
  unfold tokB
  rw [Bool.and_eq_false_iff]
  right
  rw [← List.take_append_drop k s.data.toList, List.all_append, h, Bool.false_and]
theorem size_length (s : ByteArray) : s.data.toList.length = s.size := by show s.data.toList.length = s.data.size; simp

theorem all_of_take (s : ByteArray) (h : (s.data.toList.take s.size).all fb = true) : tokB s.data.toList = decide (s.size ≤ 48) := by
  rw [List.take_of_length_le (by rw [size_length]; omega)] at h
  unfold tokB
  rw [h, Bool.and_true, size_length]

set_option maxHeartbeats 1000000 in
theorem specTextOk_any (s : ByteArray) (hs : s.size ≤ 9223372036854775807) (w : World) :
    Calls Tryd.prog 72 #[.string s] w fun e w' => e = .returned (.bool (tokB s.data.toList)) ∧ w = w' := by
  go_enter Tryd.func72, Tryd.ntmps72
  go_wp2
  go_loop [3] (fun i => ∃ k : Nat, k ≤ s.size ∧ i = .int .i64 k ∧ Hid ((s.data.toList.take k).all fb = true)) (fun i => s.size - (intOf i).toNat)
  case atStart => exact ⟨0, Nat.zero_le _, rfl, Lib.hid (by simp)⟩
  case round =>
    obtain ⟨k, hk, rfl, HA⟩ := hrel
    by_cases hlt : k < s.size
    · have HS := Lib.hid (all_take_succ s k hlt)
      by_cases hc : fb s[k] = true
      · have HC : Hid ((s.data.toList.take (k + 1)).all fb = true) := by
          show _ = _
          rw [HS.out, HA.out, hc]; rfl
        go_wp2_with (go_at_call 84; refine (l2Byte_any s[k] _).mono ?_; rintro e w' ⟨rfl, rfl⟩)
        go_round
        case rel => exact ⟨k + 1, by omega, by go_num, HC⟩
        case measure => simp [intOf]; omega
      · replace hc : fb s[k] = false := by simpa using hc
        have HF : Hid (tokB s.data.toList = false) := by
          refine Lib.hid (all_false_of_take s (k + 1) ?_)
          rw [HS.out, hc, Bool.and_false]
        go_wp2_with (go_at_call 84; refine (l2Byte_any s[k] _).mono ?_; rintro e w' ⟨rfl, rfl⟩)
        go_ret
        exact ⟨ret_bool HF.out.symm, rfl⟩
    · obtain rfl : k = s.size := by omega
      have HT := Lib.hid (all_of_take s HA.out)
      go_wp2
      go_ret
      exact ⟨ret_bool (by rw [HT.out, Bool.eq_iff_iff]; simp; omega), rfl⟩

set_option maxHeartbeats 1000000 in
theorem implTextOk_any (s : ByteArray) (hs : s.size ≤ 9223372036854775807) (w : World) :
    Calls Tryd.prog 70 #[.string s] w fun e w' => e = .returned (.bool (tokB s.data.toList)) ∧ w = w' := by
  by_cases h48 : s.size ≤ 48
  · go_enter Tryd.func70, Tryd.ntmps70
    go_wp2
    go_loop [9] (fun i => ∃ k : Nat, k ≤ s.size ∧ i = .int .i64 k ∧ Hid ((s.data.toList.take k).all fb = true)) (fun i => s.size - (intOf i).toNat)
    case atStart => exact ⟨0, Nat.zero_le _, rfl, Lib.hid (by simp)⟩
    case round =>
      obtain ⟨k, hk, rfl, HA⟩ := hrel
      by_cases hlt : k < s.size
      · have HS := Lib.hid (all_take_succ s k hlt)
        by_cases hc : fb s[k] = true
        · have HC : Hid ((s.data.toList.take (k + 1)).all fb = true) := by
            show _ = _
            rw [HS.out, HA.out, hc]; rfl
          go_wp2_with (go_at_call 83; refine (fileByte_any s[k] _).mono ?_; rintro e w' ⟨rfl, rfl⟩)
          go_round
          case rel => exact ⟨k + 1, by omega, by go_num, HC⟩
          case measure => simp [intOf]; omega
        · replace hc : fb s[k] = false := by simpa using hc
          have HF : Hid (tokB s.data.toList = false) := by
            refine Lib.hid (all_false_of_take s (k + 1) ?_)
            rw [HS.out, hc, Bool.and_false]
          go_wp2_with (go_at_call 83; refine (fileByte_any s[k] _).mono ?_; rintro e w' ⟨rfl, rfl⟩)
          go_ret
          exact ⟨ret_bool HF.out.symm, rfl⟩
      · obtain rfl : k = s.size := by omega
        have HT := Lib.hid (all_of_take s HA.out)
        go_wp2
        go_ret
        exact ⟨ret_bool (by rw [HT.out]; simp [h48]), rfl⟩
  · have HF : Hid (tokB s.data.toList = false) := by
      show _ = _
      unfold tokB; rw [size_length]; simp [h48]
    go_enter Tryd.func70, Tryd.ntmps70
    go_wp2
    go_ret
    exact ⟨ret_bool HF.out.symm, rfl⟩

end Go.Proofs.YtadoihddmbbjoaaDoor
