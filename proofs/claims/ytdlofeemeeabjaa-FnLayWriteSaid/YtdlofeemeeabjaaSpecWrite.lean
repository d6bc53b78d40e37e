/-
  The model's l2Write and TextWrite: what they return at every text, place and data.
-/
import Derived.Test.YtdlofeemeeabjaaSpecLong
import Derived.Deep.QuietTactic
import Derived.BigQuiet
import Derived.IntWalk
namespace Go.Proofs.Ytdlofeemeeabjaa
open Go.RowKit

theorem mkB_toList' (l : List UInt8) : (mkB l).toList = l := by rw [ByteArray.toList_eq]; rfl

theorem below_drewN (w : World) (k : Nat) : Below w.heap.size w (w.drewN k) := ⟨rfl, rfl, rfl, Nat.le_refl _, fun _ _ => rfl⟩

set_option maxHeartbeats 2000000 in
theorem l2Write_any (l : List UInt8) (at' : Nat) (d : List UInt8) (hl : l.length ≤ 48) (hd : at' + d.length ≤ 48) (w : World) :
    Calls Try.prog 46 #[.string (mkB l), .int .i64 at', .string (mkB d)] w fun e w' => e = .returned (.string (mkB (wrL l at' d))) ∧ Below w.heap.size w w' := by
  have hp : (padL l at').length = max l.length at' := padL_len l at'
  have hW : wrL l at' d = (padL l at').take at' ++ d ++ (padL l at').drop (min (padL l at').length (at' + d.length)) := by
    unfold wrL
    by_cases h : at' + d.length ≤ (padL l at').length
    · rw [Nat.min_eq_right h]
    · rw [Nat.min_eq_left (by omega), List.drop_eq_nil_of_le (by omega), List.drop_eq_nil_of_le (Nat.le_refl _)]
  have HW := Lib.hid hW
  have HL := Lib.hid (l2Long_any l at' (by omega) w)
  have n1 : at' ≤ (padL l at').length := by omega
  have n2 : (padL l at').length ≤ 48 := by omega
  clear hW hp hl
  generalize padL l at' = p at *
  obtain ⟨n, hn⟩ : ∃ n, p.length = n := ⟨_, rfl⟩
  rw [hn] at n1 n2 HW
  have hm : ∀ W, Calls Try.prog 67 #[.int .i64 n, .int .i64 ((at' : Int) + d.length)] W fun e w' => e = .returned (.int .i64 ((min n (at' + d.length) : Nat) : Int)) ∧ w' = W := fun W => by
    have := lmin_any n ((at' : Int) + d.length) W
    rw [show min (n : Int) ((at' : Int) + d.length) = ((min n (at' + d.length) : Nat) : Int) by omega] at this
    exact this.mono fun e w' ⟨h1, h2⟩ => ⟨h1, h2.symm⟩
  have HM := Lib.hid hm
  have m1 : min n (at' + d.length) ≤ n := by omega
  have q1 : (mkB p).extract 0 at' = mkB (p.take at') := by rw [mkB_extract]; rfl
  have q2 : (mkB p).extract (min n (at' + d.length)) n = mkB (p.drop (min n (at' + d.length))) := by rw [mkB_extract, List.take_of_length_le (by omega)]
  have q3 : (mkB p).size = n := by rw [mkB_size, hn]
  have q4 : (mkB d).size = d.length := mkB_size d
  have q5 : IntKind.i64.wrap ((at' : Int) + d.length) = (at' : Int) + d.length := IntWalk.i64_in _ (by omega)
  have l1 : (p.take at').length = at' := by rw [List.length_take]; omega
  have l2 : (p.drop (min n (at' + d.length))).length = n - min n (at' + d.length) := by rw [List.length_drop]; omega
  have a1 : ∀ W : World, (Op.stringOp .add (mkB (p.take at')) (mkB d)).run Try.prog W = .ok (.string (mkB (p.take at' ++ d))) W := fun W => add_mk _ _ (by omega) W
  have a2 : ∀ W : World, (Op.stringOp .add (mkB (p.take at' ++ d)) (mkB (p.drop (min n (at' + d.length))))).run Try.prog W = .ok (.string (mkB (p.take at' ++ d ++ p.drop (min n (at' + d.length))))) W := fun W => add_mk _ _ (by rw [List.length_append]; omega) W
  clear l1 l2 hn hm
  generalize p.take at' = P1 at *
  generalize min n (at' + d.length) = m at *
  generalize p.drop m = P2 at *
  generalize P1 ++ d = P3 at *
  generalize P3 ++ P2 = P4 at *
  go_enter Try.func46, Try.ntmps46
  go_wp2_with fail
  refine HL.out.mono ?_; rintro e w' ⟨rfl, rfl⟩
  go_wp2
  go_quiet ((go_at_call 67; exact Calls.quiet_of_same (HM.out _)))
  go_wp2
  go_ret
  exact ⟨ret_str HW.out.symm, below_drewN _ _⟩

theorem twS_ok {l d : List UInt8} {at' : Int} (h : tokB l = true) : twS l at' d = if wokB at' d = true then wrL l at'.toNat d else l := by unfold twS; rw [if_pos h]
theorem twB_ok {l d : List UInt8} {at' : Int} (h : tokB l = true) : twB l at' d = wokB at' d := by unfold twB; rw [h]; rfl
theorem wokB_no {at' : Int} {d : List UInt8} (h : at' < 0 ∨ 48 < at' ∨ tokB d = false ∨ d = [] ∨ 48 < at' + d.length) : wokB at' d = false := by
  cases hw : wokB at' d with
  | false => rfl
  | true =>
    exfalso
    obtain ⟨h0, h1, h2, h3⟩ := wokB_iff.1 hw
    rcases h with h | h | h | h | h
    · omega
    · omega
    · rw [h] at h2; cases h2
    · exact h1 h
    · omega

set_option maxHeartbeats 2000000 in
theorem specTextWrite_any (l : List UInt8) (at' : Int) (d : List UInt8) (hl : l.length ≤ 2000000) (hd : d.length ≤ 2000000) (w : World) :
    Calls Try.prog 20 #[.string (mkB l), .int .i64 at', .string (mkB d)] w fun e w' => e = .returned (.tuple #[.string (mkB (twS l at' d)), .bool (twB l at' d)]) ∧ Below w.heap.size w w' := by
  have hT : ∀ x : List UInt8, (mkB x).data.toList = x := fun _ => rfl
  have hok : ∀ x : List UInt8, x.length ≤ 2000000 → ∀ W, Calls Try.prog 11 #[.string (mkB x)] W fun e w' => e = .returned (.bool (tokB x)) ∧ W = w' := fun x hx W => by
    have := specTextOk_any (mkB x) (by rw [mkB_size]; omega) W
    rw [hT] at this; exact this
  have HK := Lib.hid (hok l hl w)
  have HD := Lib.hid (hok d hd w)
  have q4 : (mkB d).size = d.length := mkB_size d
  clear hok hT hl
  by_cases h1 : tokB l = true
  · have HS := Lib.hid (twS_ok (d := d) (at' := at') h1)
    have HB := Lib.hid (twB_ok (d := d) (at' := at') h1)
    by_cases c1 : at' < 0
    · have HN := Lib.hid (wokB_no (d := d) (Or.inl c1))
      go_enter Try.func20, Try.ntmps20
      go_wp2_with fail
      refine HK.out.mono ?_; rintro e w' ⟨rfl, rfl⟩
      go_wp2
      go_ret2
      exact ⟨ret_sb (by rw [HS.out, HN.out]; rfl) (by rw [HB.out, HN.out]), Below.refl _ _⟩
    · by_cases c2 : 48 < at'
      · have HN := Lib.hid (wokB_no (d := d) (Or.inr (Or.inl c2)))
        go_enter Try.func20, Try.ntmps20
        go_wp2_with fail
        refine HK.out.mono ?_; rintro e w' ⟨rfl, rfl⟩
        go_wp2
        go_ret2
        exact ⟨ret_sb (by rw [HS.out, HN.out]; rfl) (by rw [HB.out, HN.out]), Below.refl _ _⟩
      · obtain ⟨a, rfl⟩ : ∃ a : Nat, at' = a := ⟨at'.toNat, by omega⟩
        by_cases c3 : tokB d = true
        · have hdl := tokB_len c3
          by_cases c4 : d = []
          · subst c4
            have HN := Lib.hid (wokB_no (at' := (a : Int)) (d := []) (Or.inr (Or.inr (Or.inr (Or.inl rfl)))))
            have hd0 : (mkB []).toList = [] := mkB_toList' []
            go_enter Try.func20, Try.ntmps20
            go_wp2_with fail
            refine HK.out.mono ?_; rintro e w' ⟨rfl, rfl⟩
            go_wp2_with fail
            refine HD.out.mono ?_; rintro e w' ⟨rfl, rfl⟩
            go_wp2
            go_ret2
            exact ⟨ret_sb (by rw [HS.out, HN.out]; rfl) (by rw [HB.out, HN.out]), Below.refl _ _⟩
          · have hd2 : (mkB d).toList.isEmpty = false := by rw [mkB_toList']; simpa using c4
            by_cases c5 : (a : Int) + d.length ≤ 48
            · have hw : wokB a d = true := wokB_iff.2 ⟨by omega, c4, c3, c5⟩
              have HN := Lib.hid hw
              have HL := fun W => l2Write_any l a d (tokB_len h1) (by omega) W
              have HLW := Lib.hid HL
              clear HL hw c4
              go_enter Try.func20, Try.ntmps20
              go_wp2_with fail
              refine HK.out.mono ?_; rintro e w' ⟨rfl, rfl⟩
              go_wp2_with fail
              refine HD.out.mono ?_; rintro e w' ⟨rfl, rfl⟩
              go_wp2_with fail
              refine (HLW.out _).mono ?_; rintro e w' ⟨rfl, hb⟩
              go_wp2
              go_ret2
              exact ⟨ret_sb (by rw [HS.out, HN.out, Int.toNat_natCast]; rfl) (by rw [HB.out, HN.out]), hb⟩
            · have HN := Lib.hid (wokB_no (at' := (a : Int)) (d := d) (Or.inr (Or.inr (Or.inr (Or.inr (by omega))))))
              clear c4
              go_enter Try.func20, Try.ntmps20
              go_wp2_with fail
              refine HK.out.mono ?_; rintro e w' ⟨rfl, rfl⟩
              go_wp2_with fail
              refine HD.out.mono ?_; rintro e w' ⟨rfl, rfl⟩
              go_wp2
              go_ret2
              exact ⟨ret_sb (by rw [HS.out, HN.out]; rfl) (by rw [HB.out, HN.out]), Below.refl _ _⟩
        · replace c3 : tokB d = false := by simpa using c3
          have HN := Lib.hid (wokB_no (at' := (a : Int)) (Or.inr (Or.inr (Or.inl c3))))
          go_enter Try.func20, Try.ntmps20
          go_wp2_with fail
          refine HK.out.mono ?_; rintro e w' ⟨rfl, rfl⟩
          go_wp2_with fail
          refine HD.out.mono ?_; rintro e w' ⟨rfl, rfl⟩
          go_wp2
          go_ret2
          exact ⟨ret_sb (by rw [HS.out, HN.out]; rfl) (by rw [HB.out, HN.out]), Below.refl _ _⟩
  · replace h1 : tokB l = false := by simpa using h1
    have HS : Hid (twS l at' d = []) := by show _ = _; unfold twS; simp [h1]
    have HB : Hid (twB l at' d = false) := by show _ = _; unfold twB; simp [h1]
    go_enter Try.func20, Try.ntmps20
    go_wp2_with fail
    refine HK.out.mono ?_; rintro e w' ⟨rfl, rfl⟩
    go_wp2
    go_ret2
    exact ⟨ret_sb HS.out.symm HB.out.symm, Below.refl _ _⟩

end Go.Proofs.Ytdlofeemeeabjaa
