/-
  Contracts: markText (the decimal digits of a number, behind an m), markStringS, heldStringS.
-/
import Derived.Test.YteglfdcoeogilabStrEq
import Derived.Laws.BytesArg
namespace Go.Proofs.Yteglfdcoeogilab
open Go.RowKit

/-- The digits of a number, the highest first; none for 0. -/
def digN : Nat → Nat → List UInt8
  | 0, _ => []
  | f + 1, n => if n = 0 then [] else digN f (n / 10) ++ [UInt8.ofNat (48 + n % 10)]
theorem digN_len : ∀ f n, (digN f n).length ≤ f
  | 0, _ => by simp [digN]
  | f + 1, n => by
    unfold digN
    split
    · simp
    · have := digN_len f (n / 10); simp; omega
theorem digN_zero (f : Nat) : digN f 0 = [] := by cases f <;> simp [digN]
def mkT (k : Nat) : List UInt8 := 109 :: digN 60 k

theorem conv_byte (W : World) (n : Nat) (h : n < 256) : (convert 22 9 (.slice (some ⟨W.heap.size, 0, none⟩) 1 1)).run Try.prog (W.alloc (.cells #[.int .u8 (n : Int)] 5)) = .ok (.string (mkB [UInt8.ofNat n])) (W.alloc (.cells #[.int .u8 (n : Int)] 5)) :=
  run_convert_bytes_back (W.alloc (.cells #[.int .u8 (n : Int)] 5)) 22 9 5 ⟨W.heap.size, 0, none⟩ 1 [UInt8.ofNat n] Try.underlying22 Try.underlying5 Try.underlying9 (fun j hj => by
    obtain rfl : j = 0 := by simp at hj; omega
    have e : (⟨W.heap.size, 0, none⟩ : Addr).add 0 = ⟨W.heap.size, 0, none⟩ := by simp [Addr.add]
    rw [e]
    have hn : (UInt8.ofNat n).toNat = n := by simp; omega
    rw [List.getElem_cons_zero, hn]
    go_simp)

set_option maxRecDepth 100000 in
set_option maxHeartbeats 1000000 in
theorem markText_any (k : Nat) (w : World) (h0 : 1 ≤ k) (h1 : k ≤ 1000000000) :
    Calls Try.prog 55 #[.int .i64 k] w fun e w' => e = .returned (.string (mkB (mkT k))) ∧ Below w.heap.size w w' := by
  go_enter Try.func55, Try.ntmps55
  go_wp2
  go_loopg [0, 3] k (fun g s0 s2 wr => ∃ (n f : Nat) (X : List UInt8), n = g ∧ s0 = .int .i64 n ∧ s2 = .string (mkB X) ∧ n ≤ 1000000000 ∧ f ≤ 60 ∧ n < 2 ^ f ∧ X.length ≤ 60 - f ∧ Hid (digN 60 k = digN f n ++ X) ∧ Below w.heap.size w wr)
  case atStart => exact ⟨k, 60, [], rfl, rfl, rfl, h1, Nat.le_refl _, by omega, by simp, by show _ = _; simp, Below.refl _ _⟩
  case round =>
    obtain ⟨n, f, X, rfl, rfl, rfl, hn, hf, hnf, hX, HD, hb⟩ := hrel
    by_cases hlt : 0 < n
    · have hf0 : f ≠ 0 := fun e => by rw [e] at hnf; simp at hnf; omega
      obtain ⟨f', rfl⟩ : ∃ f', f = f' + 1 := ⟨f - 1, by omega⟩
      have hd : n % 10 < 10 := Nat.mod_lt _ (by omega)
      have hcv := conv_byte wr (48 + n % 10) (by omega)
      rw [show ((48 + n % 10 : Nat) : Int) = 48 + (n : Int) % 10 by omega] at hcv
      have hal : Below wr.heap.size wr (wr.alloc (.cells #[.int .u8 (48 + (n : Int) % 10)] 5)) := (Below.refl _ _).alloc (Nat.le_refl _) _
      have hbn := hb.trans (hal.mono hb.size)
      have hadd := fun W => add_mk [UInt8.ofNat (48 + n % 10)] X (by simp; omega) W
      have HD2 : Hid (digN 60 k = digN f' (n / 10) ++ ([UInt8.ofNat (48 + n % 10)] ++ X)) := by
        show _ = _
        rw [HD.out, digN, if_neg (by omega), List.append_assoc]
      have hf2 : n / 10 < 2 ^ f' := by rw [Nat.pow_succ] at hnf; omega
      have hl2 : ([UInt8.ofNat (48 + n % 10)] ++ X).length ≤ 60 - f' := by simp; omega
      clear HD hnf hX
      generalize UInt8.ofNat (48 + n % 10) = c at *
      go_wp2_with fail
      go_roundg (n / 10)
      case measure => omega
      case rel => exact ⟨n / 10, f', _, rfl, by go_num, rfl, by omega, by omega, hf2, hl2, HD2, hbn⟩
    · obtain rfl : n = 0 := by omega
      have hd := HD.out
      rw [digN_zero] at hd
      have hadd : (Op.stringOp .add ⟨#[109]⟩ (mkB X)).run Try.prog wr = .ok (.string (mkB (mkT k))) wr := by
        have := add_mk [109] X (by simp; omega) wr
        rw [show mkT k = [109] ++ X by unfold mkT; rw [hd]; rfl]
        exact this
      go_wp2
      go_ret
      exact ⟨rfl, hb⟩

/-- What is marked. -/
abbrev mkS (k : Nat) : Nat → Value := fun i => .string (mkB (mkT (k + i)))

set_option maxRecDepth 100000 in
set_option maxHeartbeats 2000000 in
theorem markS_any (B nb n cap : Nat) (k : Nat) (f : Nat → Value) (w : World) (h : Row1 w nb n f) (hB : B ≤ nb) (hw : B ≤ w.heap.size) (hn : n ≤ 1048576) (h0 : 1 ≤ k) (h1 : k ≤ 1000000) :
    Calls Try.prog 30 #[.slice (some ⟨nb, 0, none⟩) n cap, .int .i64 k] w fun e w' => e = .returned (.int .i64 ((k : Int) + n)) ∧ Row1 w' nb n (mkS k) ∧ Below B w w' := by
  have HR := Lib.hid (h.congr (g := fun i => if i < 0 then mkS k i else f i) fun i _ => by simp)
  clear h
  go_enter Try.func30, Try.ntmps30
  go_wp2
  go_loopg [1, 5] n (fun g s1 s5 wr => ∃ j : Nat, g = n - j ∧ j ≤ n ∧ s1 = .int .i64 ((k : Int) + j) ∧ s5 = .int .i64 j ∧ Hid (Row1 wr nb n (fun i => if i < j then mkS k i else f i)) ∧ Hid (Below B w wr))
  case atStart => exact ⟨0, rfl, Nat.zero_le _, by simp, rfl, HR, Below.refl _ _⟩
  case round =>
    obtain ⟨j, rfl, hj, rfl, rfl, HR1, HB1⟩ := hrel
    clear HR
    by_cases hlt : j < n
    · have hm := fun W => markText_any (k + j) W (by omega) (by omega)
      rw [Int.natCast_add] at hm
      have HM := Lib.hid hm
      clear hm
      go_wp2_with fail
      refine (HM.out _).mono ?_; rintro e w3 ⟨rfl, hb3⟩
      have HR3 := Lib.hid (HR1.out.keep hb3)
      have HB3 := Lib.hid (HB1.out.trans (hb3.mono (Nat.le_trans hw HB1.out.size)))
      have HS : Hid (Row1 (w3.setCell ⟨nb, j, none⟩ (.string (mkB (mkT (k + j))))) nb n (fun i => if i < j + 1 then mkS k i else f i)) := by
        show Row1 _ _ _ _
        exact (HR3.out.set (x := mkS k j) hlt).congr fun i _ => by
          by_cases e : i = j
          · subst e; rw [if_pos rfl, if_pos (by omega)]
          · rw [if_neg e]
            by_cases e2 : i < j
            · rw [if_pos e2, if_pos (by omega)]
            · rw [if_neg e2, if_neg (by omega)]
      have HB4 : Hid (Below B w (w3.setCell ⟨nb, j, none⟩ (.string (mkB (mkT (k + j)))))) := HB3.out.setCell (p := ⟨nb, j, none⟩) hB _
      obtain ⟨x0, f0⟩ := HR3.out j hlt
      clear HR1 HB1 hb3 HM HR3 HB3
      go_wp2
      go_roundg (n - (j + 1))
      case measure => omega
      case rel => exact ⟨j + 1, rfl, by omega, by go_num, by go_num, HS, HB4⟩
    · obtain rfl : j = n := by omega
      go_wp2
      go_ret
      exact ⟨rfl, HR1.out.congr fun i hi => by rw [if_pos hi], HB1.out⟩

set_option maxRecDepth 100000 in
set_option maxHeartbeats 2000000 in
theorem heldS_any (nb n cap : Nat) (k : Nat) (w : World) (h : Row1 w nb n (mkS k)) (hn : n ≤ 1048576) (h0 : 1 ≤ k) (h1 : k ≤ 1000000) :
    Calls Try.prog 31 #[.slice (some ⟨nb, 0, none⟩) n cap, .int .i64 k] w fun e w' => e = .returned (.int .i64 ((k : Int) + n)) ∧ Below w.heap.size w w' := by
  have HR := Lib.hid h
  clear h
  go_enter Try.func31, Try.ntmps31
  go_wp2
  go_loopg [1, 5] n (fun g s1 s5 wr => ∃ j : Nat, g = n - j ∧ j ≤ n ∧ s1 = .int .i64 ((k : Int) + j) ∧ s5 = .int .i64 j ∧ Below w.heap.size w wr)
  case atStart => exact ⟨0, rfl, Nat.zero_le _, by simp, rfl, Below.refl _ _⟩
  case round =>
    obtain ⟨j, rfl, hj, rfl, rfl, hb⟩ := hrel
    by_cases hlt : j < n
    · have hm := fun W => markText_any (k + j) W (by omega) (by omega)
      rw [Int.natCast_add] at hm
      have HM := Lib.hid hm
      obtain ⟨x0, -⟩ := HR.out.keep hb j hlt
      clear hm
      change wr.cell? ⟨nb, j, none⟩ = some (.string (mkB (mkT (k + j)))) at x0
      generalize mkT (k + j) = y at *
      have q2 : ((mkB y).toList == (mkB y).toList) = true := by simp
      go_wp2_with fail
      have d0 : ∀ x : BelowOf wr, x.w.cell? ⟨nb, j, none⟩ = some (.string (mkB y)) := fun x => x.cell x0
      refine wp_region_calm (by kernel_rfl) (by kernel_rfl) ?_
      repeat (go_big_quiet_step (first | (go_at_call 55; exact Calls.calm (HM.out _))))
      refine wpQuiet_nil ?_
      rintro _ ⟨x, rfl⟩
      have hbn := hb.trans (x.below.mono hb.size)
      clear d0 x0
      generalize x.w = wx at *
      go_wp2
      go_roundg (n - (j + 1))
      case measure => omega
      case rel => exact ⟨j + 1, rfl, by omega, by go_num, by go_num, hbn⟩
    · obtain rfl : j = n := by omega
      go_wp2
      go_ret
      exact ⟨rfl, hb⟩

set_option maxHeartbeats 1000000 in
theorem markS_nil (a : Option Addr) (cap : Nat) (k : Int) (w : World) :
    Calls Try.prog 30 #[.slice a 0 cap, .int .i64 k] w fun e w' => e = .returned (.int .i64 k) ∧ w = w' := by
  go_enter Try.func30, Try.ntmps30
  go_wp2
  go_loopg [1, 5] 0 (fun g s1 s5 wr => s1 = .int .i64 k ∧ s5 = .int .i64 0 ∧ w = wr)
  case atStart => exact ⟨rfl, rfl, rfl⟩
  case round =>
    obtain ⟨rfl, rfl, rfl⟩ := hrel
    go_wp2
    go_ret
    exact ⟨rfl, rfl⟩

set_option maxHeartbeats 1000000 in
theorem heldS_nil (a : Option Addr) (cap : Nat) (k : Int) (w : World) :
    Calls Try.prog 31 #[.slice a 0 cap, .int .i64 k] w fun e w' => e = .returned (.int .i64 k) ∧ w = w' := by
  go_enter Try.func31, Try.ntmps31
  go_wp2
  go_loopg [1, 5] 0 (fun g s1 s5 wr => s1 = .int .i64 k ∧ s5 = .int .i64 0 ∧ w = wr)
  case atStart => exact ⟨rfl, rfl, rfl⟩
  case round =>
    obtain ⟨rfl, rfl, rfl⟩ := hrel
    go_wp2
    go_ret
    exact ⟨rfl, rfl⟩

end Go.Proofs.Yteglfdcoeogilab
