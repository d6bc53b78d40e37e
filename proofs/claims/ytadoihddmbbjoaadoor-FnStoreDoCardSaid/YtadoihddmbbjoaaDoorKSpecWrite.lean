/-
  The model's l2Write and TextWrite: what they return at every text, place and data.
-/
import Derived.Test.YtadoihddmbbjoaaDoorKSpecLong
import Derived.Deep.QuietTactic
import Derived.BigQuiet
import Derived.IntWalk
namespace Go.Proofs.YtadoihddmbbjoaaDoor
open Go.RowKit

theorem mkB_toList' (l : List UInt8) : (mkB l).toList = l := by rw [ByteArray.toList_eq]; rfl

theorem below_drewN (w : World) (k : Nat) : Below w.heap.size w (w.drewN k) := ⟨rfl, rfl, rfl, Nat.le_refl _, fun _ _ => rfl⟩

set_option maxHeartbeats 2000000 in
theorem l2Write_any (l : List UInt8) (at' : Nat) (d : List UInt8) (hl : l.length ≤ 48) (hd : at' + d.length ≤ 48) (w : World) :
    Calls Tryd.prog 54 #[.string (mkB l), .int .i64 at', .string (mkB d)] w fun e w' => e = .returned (.string (mkB (wrL l at' d))) ∧ Below w.heap.size w w' := by
  have hp : (padL l at').length = max l.length at' := padL_len l at'
  have hW : wrL l at' d = (padL l at').take at' ++ d ++ (padL l at').drop (min (padL l at').length (at' + d.length)) := by
    unfold wrL
    by_cases h : at' + d.length ≤ (padL l at').length
    · rw [Nat.min_eq_right h]
    · rw [Nat.min_eq_left (by omega), List.drop_eq_nil_of_le (by omega), List.drop_eq_nil_of_le (Nat.le_refl _)]
  have HW := Lib.hid hW
  have HL := Lib.hid (l2Long_any l at' (by omega) w)
  have n1 : at' ≤ (padL l at').length := by omega
  have n2 : (padL l at').length ≤ 48 := by omega
  clear hW hp hl
  generalize padL l at' = p at *
  obtain ⟨n, hn⟩ : ∃ n, p.length = n := ⟨_, rfl⟩
  rw [hn] at n1 n2 HW
  have hm : ∀ W, Calls Tryd.prog 78 #[.int .i64 n, .int .i64 ((at' : Int) + d.length)] W fun e w' => e = .returned (.int .i64 ((min n (at' + d.length) : Nat) : Int)) ∧ w' = W := fun W => by
    have := lmin_any n ((at' : Int) + d.length) W
    rw [show min (n : Int) ((at' : Int) + d.length) = ((min n (at' + d.length) : Nat) : Int) by omega] at this
    exact this.mono fun e w' ⟨h1, h2⟩ => ⟨h1, h2.symm⟩
  have HM := Lib.hid hm
  have m1 : min n (at' + d.length) ≤ n := by omega
  have q1 : (mkB p).extract 0 at' = mkB (p.take at') := by rw [mkB_extract]; rfl
  have q2 : (mkB p).extract (min n (at' + d.length)) n = mkB (p.drop (min n (at' + d.length))) := by rw [mkB_extract, List.take_of_length_le (by omega)]
  have q3 : (mkB p).size = n := by rw [mkB_size, hn]
  have q4 : (mkB d).size = d.length := mkB_size d
  have q5 : IntKind.i64.wrap ((at' : Int) + d.length) = (at' : Int) + d.length := IntWalk.i64_in _ (by omega)
  have l1 : (p.take at').length = at' := by rw [List.length_take]; omega
  have l2 : (p.drop (min n (at' + d.length))).length = n - min n (at' + d.length) := by rw [List.length_drop]; omega
  have a1 : ∀ W : World, (Op.stringOp .add (mkB (p.take at')) (mkB d)).run Tryd.prog W = .ok (.string (mkB (p.take at' ++ d))) W := fun W => add_mk _ _ (by omega) W
  have a2 : ∀ W : World, (Op.stringOp .add (mkB (p.take at' ++ d)) (mkB (p.drop (min n (at' + d.length))))).run Tryd.prog W = .ok (.string (mkB (p.take at' ++ d ++ p.drop (min n (at' + d.length))))) W := fun W => add_mk _ _ (by rw [List.length_append]; omega) W
  clear l1 l2 hn hm
  generalize p.take at' = P1 at *
  generalize min n (at' + d.length) = m at *
  generalize p.drop m = P2 at *
  generalize P1 ++ d = P3 at *
  generalize P3 ++ P2 = P4 at *
  go_enter Tryd.func54, Tryd.ntmps54
  go_wp2_with fail
  refine HL.out.mono ?_; rintro e w' ⟨rfl, rfl⟩
  go_wp2
  go_quiet ((go_at_call 78; exact Calls.quiet_of_same (HM.out _)))
  go_wp2
  go_ret
  exact ⟨ret_str HW.out.symm, below_drewN _ _⟩

theorem twS_ok {l d : List UInt8} {at' : Int} (h : tokB l = true) : twS l at' d = if wokB at' d = true then wrL l at'.toNat d else l := by unfold twS; rw [if_pos h]
theorem twB_ok {l d : List UInt8} {at' : Int} (h : tokB l = true) : twB l at' d = wokB at' d := by unfold twB; rw [h]; rfl
theorem wokB_no {at' : Int} {d : List UInt8} (h : at' < 0 ∨ 48 < at' ∨ tokB d = false ∨ d = [] ∨ 48 < at' + d.length) : wokB at' d = false := by
  cases hw : wokB at' d with
  | false => rfl
  | true =>
    exfalso
    obtain ⟨h0, h1, h2, h3⟩ := wokB_iff.1 hw
    rcases h with h | h | h | h | h
    · omega
    · omega
    · rw [h] at h2; cases h2
    · exact h1 h
    · omega


end Go.Proofs.YtadoihddmbbjoaaDoor
