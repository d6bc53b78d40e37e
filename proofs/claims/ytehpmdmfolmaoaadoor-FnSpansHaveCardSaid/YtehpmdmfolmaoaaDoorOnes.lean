/-
  Contract of bits.OnesCount64: the number of bits that are set.
-/
import Derived.Test.YtehpmdmfolmaoaaDoorSpots
import Derived.Test.YtehpmdmfolmaoaaDoorPopMath
namespace Go.Proofs.YtehpmdmfolmaoaaDoor
open Go.RowKit

theorem ofInt_i64 (a : Nat) (ha : a < 9223372036854775808) : (BitVec.ofInt 64 (a : Int)).toNat = a := by
  rw [BitVec.ofInt_natCast, BitVec.toNat_ofNat]; exact Nat.mod_eq_of_lt (by omega)
theorem i64_and_nat (a b : Nat) (ha : a < 9223372036854775808) (hb : b < 9223372036854775808) : bits .and .i64 (a : Int) (b : Int) = ((a &&& b : Nat) : Int) := by
  have hx : a &&& b < 2 ^ 63 := Nat.and_lt_two_pow _ (by omega)
  show IntKind.i64.wrap ((BitVec.ofInt 64 (a : Int) &&& BitVec.ofInt 64 (b : Int)).toNat : Int) = _
  rw [BitVec.toNat_and, ofInt_i64 a ha, ofInt_i64 b hb, IntKind.wrap_i64]
  omega
theorem u64w (n : Nat) (h : n < 2 ^ 64) : IntKind.u64.wrap (n : Int) = (n : Int) := by
  rw [IntKind.wrap_u64]; omega

/-- The steps of the count, each as the walk meets it. -/
theorem ones_steps (x : Nat) (hx : x < 2 ^ 48) : ∃ p q a p2 q2 b s c d e g : Nat,
    bits .and .u64 ((x : Int) / 2) 6148914691236517205 = (p : Int) ∧ bits .and .u64 (x : Int) 6148914691236517205 = (q : Int) ∧ IntKind.u64.wrap ((p : Int) + (q : Int)) = (a : Int) ∧
    bits .and .u64 ((a : Int) / 4) 3689348814741910323 = (p2 : Int) ∧ bits .and .u64 (a : Int) 3689348814741910323 = (q2 : Int) ∧ IntKind.u64.wrap ((p2 : Int) + (q2 : Int)) = (b : Int) ∧
    IntKind.u64.wrap ((b : Int) / 16 + (b : Int)) = (s : Int) ∧ bits .and .u64 (s : Int) 1085102592571150095 = (c : Int) ∧
    IntKind.u64.wrap ((c : Int) + (c : Int) / 256) = (d : Int) ∧ IntKind.u64.wrap ((d : Int) + (d : Int) / 65536) = (e : Int) ∧ IntKind.u64.wrap ((e : Int) + (e : Int) / 4294967296) = (g : Int) ∧
    IntKind.i64.wrap (g : Int) = (g : Int) ∧ bits .and .i64 (g : Int) 127 = ((cnt (fun i => x.testBit i) 64 : Nat) : Int) := by
  obtain ⟨c, d, e, hc, hd, he, bc, bd, be, hr⟩ := tail_sum x
  have la : x / 2 &&& 6148914691236517205 ≤ 6148914691236517205 := Nat.and_le_right
  have la' : x &&& 6148914691236517205 ≤ 6148914691236517205 := Nat.and_le_right
  have ea := aN_dig x
  have eb := bN_dig x
  have ec := cN_dig x
  rw [← ea] at eb
  rw [← eb] at ec
  rw [← ec] at hc
  have lb : aN x / 4 &&& 3689348814741910323 ≤ 3689348814741910323 := Nat.and_le_right
  have lb' : aN x &&& 3689348814741910323 ≤ 3689348814741910323 := Nat.and_le_right
  have da : aN x = (x / 2 &&& 6148914691236517205) + (x &&& 6148914691236517205) := rfl
  have db : bN (aN x) = (aN x / 4 &&& 3689348814741910323) + (aN x &&& 3689348814741910323) := rfl
  have dc : cN (bN (aN x)) = (bN (aN x) / 16 + bN (aN x)) &&& 1085102592571150095 := rfl
  have hand : ∀ y m : Nat, y < 2 ^ 64 → m < 2 ^ 64 → bits .and .u64 (y : Int) (m : Int) = ((y &&& m : Nat) : Int) := fun y m h1 h2 => u64_and_nat y m (by omega) (by omega)
  refine ⟨x / 2 &&& 6148914691236517205, x &&& 6148914691236517205, aN x, aN x / 4 &&& 3689348814741910323, aN x &&& 3689348814741910323, bN (aN x), bN (aN x) / 16 + bN (aN x), c, d, e, e + e / 4294967296, ?_, ?_, ?_, ?_, ?_, ?_, ?_, ?_, ?_, ?_, ?_, ?_, ?_⟩
  · exact hand (x / 2) 6148914691236517205 (by omega) (by omega)
  · exact hand x 6148914691236517205 (by omega) (by omega)
  · exact (u64w ((x / 2 &&& 6148914691236517205) + (x &&& 6148914691236517205)) (by omega))
  · exact hand (aN x / 4) 3689348814741910323 (by omega) (by omega)
  · exact hand (aN x) 3689348814741910323 (by omega) (by omega)
  · exact (u64w ((aN x / 4 &&& 3689348814741910323) + (aN x &&& 3689348814741910323)) (by omega))
  · exact (u64w (bN (aN x) / 16 + bN (aN x)) (by omega))
  · rw [hc, dc]; exact hand (bN (aN x) / 16 + bN (aN x)) 1085102592571150095 (by omega) (by omega)
  · rw [hd]; exact (u64w (c + c / 256) (by omega))
  · rw [he]; exact (u64w (d + d / 65536) (by omega))
  · exact (u64w (e + e / 4294967296) (by omega))
  · rw [IntKind.wrap_i64]; omega
  · rw [show ((127 : Int)) = ((127 : Nat) : Int) by rfl, i64_and_nat _ _ (by omega) (by omega), show (127 : Nat) = 2 ^ 7 - 1 by rfl, Nat.and_two_pow_sub_one_eq_mod]
    rw [← sumB_cnt 8 x, ← hr]

set_option maxHeartbeats 1000000 in
theorem ones_any (x : Nat) (w : World) (h : x < 2 ^ 48) :
    Calls Tryd.prog 39 #[.int .u64 (x : Int)] w fun e w' => e = .returned (.int .i64 ((cnt (fun i => x.testBit i) 64 : Nat) : Int)) ∧ w = w' := by
  obtain ⟨p, q, a, p2, q2, b, s, c, d, e, g, f1, f2, f3, f4, f5, f6, f7, f8, f9, f10, f11, f12, f13⟩ := ones_steps x h
  generalize cnt (fun i => x.testBit i) 64 = n at *
  go_enter Tryd.func39, Tryd.ntmps39
  go_wp2
  go_ret
  exact ⟨rfl, rfl⟩

end Go.Proofs.YtehpmdmfolmaoaaDoor
