/-
  Contracts: markText (the decimal digits of a number, behind an m), markStringS, heldStringS, and both, markIntS and heldIntS at slices of the call's own.
-/
import Derived.Test.YtadoihddmbbjoaaDoorKStoV
import Derived.Test.YtadoihddmbbjoaaDoorKMarkH
import Derived.Deep.LoopGhost
import Derived.Laws.BytesArg
namespace Go.Proofs.YtadoihddmbbjoaaDoor
open Go.RowKit

theorem add_mkV (a b : List UInt8) (h : a.length + b.length ≤ 9223372036854775807) (w : World) : (Op.stringOp .add (mkB a) (mkB b)).run Tryd.prog w = .ok (.string (mkB (a ++ b))) w := by
  rw [run_string_add_sum w _ _ (by rw [mkB_size, mkB_size]; exact h), mkB_app]

/-- The digits of a number, the highest first; none for 0. -/
def digN : Nat → Nat → List UInt8
  | 0, _ => []
  | f + 1, n => if n = 0 then [] else digN f (n / 10) ++ [UInt8.ofNat (48 + n % 10)]
theorem digN_len : ∀ f n, (digN f n).length ≤ f
  | 0, _ => by simp [digN]
  | f + 1, n => by
    unfold digN
    split
    · simp
    · have := digN_len f (n / 10); simp; omega
theorem digN_zero (f : Nat) : digN f 0 = [] := by cases f <;> simp [digN]
def mkT (k : Nat) : List UInt8 := 109 :: digN 60 k

theorem conv_byte (W : World) (n : Nat) (h : n < 256) : (convert 39 9 (.slice (some ⟨W.heap.size, 0, none⟩) 1 1)).run Tryd.prog (W.alloc (.cells #[.int .u8 (n : Int)] 5)) = .ok (.string (mkB [UInt8.ofNat n])) (W.alloc (.cells #[.int .u8 (n : Int)] 5)) :=
  run_convert_bytes_back (W.alloc (.cells #[.int .u8 (n : Int)] 5)) 39 9 5 ⟨W.heap.size, 0, none⟩ 1 [UInt8.ofNat n] Tryd.underlying39 Tryd.underlying5 Tryd.underlying9 (fun j hj => by
    obtain rfl : j = 0 := by simp at hj; omega
    have e : (⟨W.heap.size, 0, none⟩ : Addr).add 0 = ⟨W.heap.size, 0, none⟩ := by simp [Addr.add]
    rw [e]
    have hn : (UInt8.ofNat n).toNat = n := by simp; omega
    rw [List.getElem_cons_zero, hn]
    go_simp)

set_option maxRecDepth 100000 in
set_option maxHeartbeats 1000000 in
theorem markTextV_any (k : Nat) (w : World) (h0 : 1 ≤ k) (h1 : k ≤ 1000000000) :
    Calls Tryd.prog 61 #[.int .i64 k] w fun e w' => e = .returned (.string (mkB (mkT k))) ∧ Below w.heap.size w w' := by
  go_enter Tryd.func61, Tryd.ntmps61
  go_wp2
  go_loopg [0, 3] k (fun g s0 s2 wr => ∃ (n f : Nat) (X : List UInt8), n = g ∧ s0 = .int .i64 n ∧ s2 = .string (mkB X) ∧ n ≤ 1000000000 ∧ f ≤ 60 ∧ n < 2 ^ f ∧ X.length ≤ 60 - f ∧ Hid (digN 60 k = digN f n ++ X) ∧ Below w.heap.size w wr)
  case atStart => exact ⟨k, 60, [], rfl, rfl, rfl, h1, Nat.le_refl _, by omega, by simp, by show _ = _; simp, Below.refl _ _⟩
  case round =>
    obtain ⟨n, f, X, rfl, rfl, rfl, hn, hf, hnf, hX, HD, hb⟩ := hrel
    by_cases hlt : 0 < n
    · have hf0 : f ≠ 0 := fun e => by rw [e] at hnf; simp at hnf; omega
      obtain ⟨f', rfl⟩ : ∃ f', f = f' + 1 := ⟨f - 1, by omega⟩
      have hd : n % 10 < 10 := Nat.mod_lt _ (by omega)
      have hcv := conv_byte wr (48 + n % 10) (by omega)
      rw [show ((48 + n % 10 : Nat) : Int) = 48 + (n : Int) % 10 by omega] at hcv
      have hal : Below wr.heap.size wr (wr.alloc (.cells #[.int .u8 (48 + (n : Int) % 10)] 5)) := (Below.refl _ _).alloc (Nat.le_refl _) _
      have hbn := hb.trans (hal.mono hb.size)
      have hadd := fun W => add_mkV [UInt8.ofNat (48 + n % 10)] X (by simp; omega) W
      have HD2 : Hid (digN 60 k = digN f' (n / 10) ++ ([UInt8.ofNat (48 + n % 10)] ++ X)) := by
        show _ = _
        rw [HD.out, digN, if_neg (by omega), List.append_assoc]
      have hf2 : n / 10 < 2 ^ f' := by rw [Nat.pow_succ] at hnf; omega
      have hl2 : ([UInt8.ofNat (48 + n % 10)] ++ X).length ≤ 60 - f' := by simp; omega
      clear HD hnf hX
      generalize UInt8.ofNat (48 + n % 10) = c at *
      go_wp2_with fail
      go_roundg (n / 10)
      case measure => omega
      case rel => exact ⟨n / 10, f', _, rfl, by go_num, rfl, by omega, by omega, hf2, hl2, HD2, hbn⟩
    · obtain rfl : n = 0 := by omega
      have hd := HD.out
      rw [digN_zero] at hd
      have hadd : (Op.stringOp .add ⟨#[109]⟩ (mkB X)).run Tryd.prog wr = .ok (.string (mkB (mkT k))) wr := by
        have := add_mkV [109] X (by simp; omega) wr
        rw [show mkT k = [109] ++ X by unfold mkT; rw [hd]; rfl]
        exact this
      go_wp2
      go_ret
      exact ⟨rfl, hb⟩

/-- What is marked. -/
abbrev mkS (k : Nat) : Nat → Value := fun i => .string (mkB (mkT (k + i)))

theorem grown_belowM {w w1 w2 : World} {r : Option Nat} (h : w.grownBy w1 r) (hb : Below w1.heap.size w1 w2) : w.grownBy w2 r :=
  ⟨hb.os.trans h.os, hb.tape.trans h.tape, hb.output.trans h.output, Nat.le_trans h.size hb.size, fun i hi hne => (hb.block i (Nat.lt_of_lt_of_le hi h.size)).trans (h.block i hi hne)⟩

set_option maxRecDepth 100000 in
set_option maxHeartbeats 2000000 in
theorem markStr_any (nb n cap : Nat) (k : Nat) (f : Nat → Value) (w : World) (h : Row1 w nb n f) (hn : n ≤ 1048576) (h0 : 1 ≤ k) (h1 : k ≤ 100000000) :
    Calls Tryd.prog 34 #[.slice (some ⟨nb, 0, none⟩) n cap, .int .i64 k] w fun e w' => e = .returned (.int .i64 ((k : Int) + n)) ∧ Row1 w' nb n (mkS k) ∧ w.grownBy w' (some nb) := by
  have HR := Lib.hid (h.congr (g := fun i => if i < 0 then mkS k i else f i) fun i _ => by simp)
  have HG := Lib.hid (World.grownBy.refl w (some nb))
  clear h
  go_enter Tryd.func34, Tryd.ntmps34
  go_wp2
  go_loopg [1, 5] n (fun g s1 s5 wr => ∃ j : Nat, g = n - j ∧ j ≤ n ∧ s1 = .int .i64 ((k : Int) + j) ∧ s5 = .int .i64 j ∧ Hid (Row1 wr nb n (fun i => if i < j then mkS k i else f i)) ∧ Hid (w.grownBy wr (some nb)))
  case atStart => exact ⟨0, rfl, Nat.zero_le _, by simp, rfl, HR, HG⟩
  case round =>
    obtain ⟨j, rfl, hj, rfl, rfl, HR1, HB1⟩ := hrel
    clear HR HG
    by_cases hlt : j < n
    · have hm := fun W => markTextV_any (k + j) W (by omega) (by omega)
      rw [Int.natCast_add] at hm
      have HM := Lib.hid hm
      clear hm
      go_wp2_with fail
      refine (HM.out _).mono ?_; rintro e w3 ⟨rfl, hb3⟩
      have HR3 := Lib.hid (HR1.out.keep hb3)
      have HB3 := Lib.hid (grown_belowM HB1.out hb3)
      have HS : Hid (Row1 (w3.setCell ⟨nb, j, none⟩ (.string (mkB (mkT (k + j))))) nb n (fun i => if i < j + 1 then mkS k i else f i)) := by
        show Row1 _ _ _ _
        exact (HR3.out.set (x := mkS k j) hlt).congr fun i _ => by
          by_cases e : i = j
          · subst e; rw [if_pos rfl, if_pos (by omega)]
          · rw [if_neg e]
            by_cases e2 : i < j
            · rw [if_pos e2, if_pos (by omega)]
            · rw [if_neg e2, if_neg (by omega)]
      have HB4 : Hid (w.grownBy (w3.setCell ⟨nb, j, none⟩ (.string (mkB (mkT (k + j))))) (some nb)) := grown_one HB3.out
      obtain ⟨x0, f0⟩ := HR3.out j hlt
      clear HR1 HB1 hb3 HM HR3 HB3
      go_wp2
      go_roundg (n - (j + 1))
      case measure => omega
      case rel => exact ⟨j + 1, rfl, by omega, by go_num, by go_num, HS, HB4⟩
    · obtain rfl : j = n := by omega
      go_wp2
      go_ret
      exact ⟨rfl, HR1.out.congr fun i hi => by rw [if_pos hi], HB1.out⟩

set_option maxRecDepth 100000 in
set_option maxHeartbeats 2000000 in
theorem heldStr_any (nb n cap : Nat) (k : Nat) (w : World) (h : Row1 w nb n (mkS k)) (hn : n ≤ 1048576) (h0 : 1 ≤ k) (h1 : k ≤ 100000000) :
    Calls Tryd.prog 36 #[.slice (some ⟨nb, 0, none⟩) n cap, .int .i64 k] w fun e w' => e = .returned (.int .i64 ((k : Int) + n)) ∧ Below w.heap.size w w' := by
  have HR := Lib.hid h
  clear h
  go_enter Tryd.func36, Tryd.ntmps36
  go_wp2
  go_loopg [1, 5] n (fun g s1 s5 wr => ∃ j : Nat, g = n - j ∧ j ≤ n ∧ s1 = .int .i64 ((k : Int) + j) ∧ s5 = .int .i64 j ∧ Below w.heap.size w wr)
  case atStart => exact ⟨0, rfl, Nat.zero_le _, by simp, rfl, Below.refl _ _⟩
  case round =>
    obtain ⟨j, rfl, hj, rfl, rfl, hb⟩ := hrel
    by_cases hlt : j < n
    · have hm := fun W => markTextV_any (k + j) W (by omega) (by omega)
      rw [Int.natCast_add] at hm
      have HM := Lib.hid hm
      obtain ⟨x0, -⟩ := HR.out.keep hb j hlt
      clear hm
      change wr.cell? ⟨nb, j, none⟩ = some (.string (mkB (mkT (k + j)))) at x0
      generalize mkT (k + j) = y at *
      have q2 : ((mkB y).toList == (mkB y).toList) = true := by simp
      go_wp2_with fail
      have d0 : ∀ x : BelowOf wr, x.w.cell? ⟨nb, j, none⟩ = some (.string (mkB y)) := fun x => x.cell x0
      refine wp_region_calm (by kernel_rfl) (by kernel_rfl) ?_
      repeat (go_big_quiet_step (first | (go_at_call 61; exact Calls.calm (HM.out _))))
      refine wpQuiet_nil ?_
      rintro _ ⟨x, rfl⟩
      have hbn := hb.trans (x.below.mono hb.size)
      clear d0 x0
      generalize x.w = wx at *
      go_wp2
      go_roundg (n - (j + 1))
      case measure => omega
      case rel => exact ⟨j + 1, rfl, by omega, by go_num, by go_num, hbn⟩
    · obtain rfl : j = n := by omega
      go_wp2
      go_ret
      exact ⟨rfl, hb⟩

set_option maxHeartbeats 1000000 in
theorem markStr_nil (a : Option Addr) (cap : Nat) (k : Int) (w : World) :
    Calls Tryd.prog 34 #[.slice a 0 cap, .int .i64 k] w fun e w' => e = .returned (.int .i64 k) ∧ w = w' := by
  go_enter Tryd.func34, Tryd.ntmps34
  go_wp2
  go_loopg [1, 5] 0 (fun g s1 s5 wr => s1 = .int .i64 k ∧ s5 = .int .i64 0 ∧ w = wr)
  case atStart => exact ⟨rfl, rfl, rfl⟩
  case round =>
    obtain ⟨rfl, rfl, rfl⟩ := hrel
    go_wp2
    go_ret
    exact ⟨rfl, rfl⟩

set_option maxHeartbeats 1000000 in
theorem heldStr_nil (a : Option Addr) (cap : Nat) (k : Int) (w : World) :
    Calls Tryd.prog 36 #[.slice a 0 cap, .int .i64 k] w fun e w' => e = .returned (.int .i64 k) ∧ w = w' := by
  go_enter Tryd.func36, Tryd.ntmps36
  go_wp2
  go_loopg [1, 5] 0 (fun g s1 s5 wr => s1 = .int .i64 k ∧ s5 = .int .i64 0 ∧ w = wr)
  case atStart => exact ⟨rfl, rfl, rfl⟩
  case round =>
    obtain ⟨rfl, rfl, rfl⟩ := hrel
    go_wp2
    go_ret
    exact ⟨rfl, rfl⟩


theorem Mk1.at {w : World} {lo hi n : Nat} {v : Value} {f : Nat → Value} (h : Mk1 w lo hi v n f) (hp : 0 < n) : ∃ g cap, v = .slice (some ⟨g, 0, none⟩) n cap ∧ Row1 w g n f ∧ (∀ f', ∀ w', Row1 w' g n f' → Mk1 w' lo hi v n f') := by
  obtain ⟨a, cap, rfl, hl, hm, ho, hc⟩ := h
  obtain ⟨g, rfl, hr⟩ := hc hp
  exact ⟨g, cap, rfl, hr, fun f' w' h' => ⟨_, cap, rfl, hl, hm, ho, fun _ => ⟨g, rfl, h'⟩⟩⟩
theorem Mk1.none {w : World} {lo hi n : Nat} {v : Value} {f : Nat → Value} (h : Mk1 w lo hi v n f) (hp : ¬ 0 < n) : n = 0 ∧ ∃ a cap, v = .slice a 0 cap ∧ ∀ f', Mk1 w lo hi v 0 f' := by
  obtain rfl : n = 0 := by omega
  obtain ⟨a, cap, rfl, hl, hm, ho, hc⟩ := h
  exact ⟨rfl, a, cap, rfl, fun f' => ⟨a, cap, rfl, hl, hm, ho, fun h => absurd h (by omega)⟩⟩
theorem Mk1.bnd {w : World} {lo hi n : Nat} {v : Value} {f : Nat → Value} (h : Mk1 w lo hi v n f) : ∀ b, v.ownBlock = some b → lo ≤ b ∧ b < hi := by
  obtain ⟨a, cap, rfl, hl, hm, ho, hc⟩ := h
  exact ho

theorem mkStr_any {w : World} {lo hi n : Nat} {v : Value} {f : Nat → Value} (k : Nat) (h : Mk1 w lo hi v n f) (hn : n ≤ 1048576) (h0 : 1 ≤ k) (h1 : k ≤ 100000000) :
    Calls Tryd.prog 34 #[v, .int .i64 k] w fun e w' => e = .returned (.int .i64 ((k : Int) + n)) ∧ Mk1 w' lo hi v n (mkS k) ∧ w.grownBy w' v.ownBlock := by
  by_cases hp : 0 < n
  · obtain ⟨g, cap, rfl, hr, hk⟩ := h.at hp
    exact (markStr_any g n cap k f w hr hn h0 h1).mono fun e w' ⟨h1, h2, h3⟩ => ⟨h1, hk _ _ h2, h3⟩
  · obtain ⟨rfl, a, cap, rfl, hk⟩ := h.none hp
    refine (markStr_nil a cap k w).mono ?_
    rintro e w' ⟨rfl, rfl⟩
    exact ⟨by simp, hk _, World.grownBy.refl _ _⟩
theorem hdStr_any {w : World} {lo hi n : Nat} {v : Value} (k : Nat) (h : Mk1 w lo hi v n (mkS k)) (hn : n ≤ 1048576) (h0 : 1 ≤ k) (h1 : k ≤ 100000000) :
    Calls Tryd.prog 36 #[v, .int .i64 k] w fun e w' => e = .returned (.int .i64 ((k : Int) + n)) ∧ Below w.heap.size w w' := by
  by_cases hp : 0 < n
  · obtain ⟨g, cap, rfl, hr, hk⟩ := h.at hp
    exact heldStr_any g n cap k w hr hn h0 h1
  · obtain ⟨rfl, a, cap, rfl, hk⟩ := h.none hp
    refine (heldStr_nil a cap k w).mono ?_
    rintro e w' ⟨rfl, rfl⟩
    exact ⟨by simp, Below.refl _ _⟩
theorem mkInt_any {w : World} {lo hi n : Nat} {v : Value} {f : Nat → Value} (k : Nat) (h : Mk1 w lo hi v n f) (hn : n ≤ 1048576) (h1 : k ≤ 100000000) :
    Calls Tryd.prog 35 #[v, .int .i64 k] w fun e w' => e = .returned (.int .i64 ((k : Int) + n)) ∧ Mk1 w' lo hi v n (mkI k) ∧ w.grownBy w' v.ownBlock := by
  by_cases hp : 0 < n
  · obtain ⟨g, cap, rfl, hr, hk⟩ := h.at hp
    exact (markI_any g n cap k f w hr hn (by omega) (by omega)).mono fun e w' ⟨h1, h2, h3⟩ => ⟨h1, hk _ _ h2, h3⟩
  · obtain ⟨rfl, a, cap, rfl, hk⟩ := h.none hp
    refine (markI_nil a cap k w).mono ?_
    rintro e w' ⟨rfl, rfl⟩
    exact ⟨by simp, hk _, World.grownBy.refl _ _⟩
theorem hdInt_any {w : World} {lo hi n : Nat} {v : Value} (k : Nat) (h : Mk1 w lo hi v n (mkI k)) (hn : n ≤ 1048576) (h1 : k ≤ 100000000) :
    Calls Tryd.prog 37 #[v, .int .i64 k] w fun e w' => e = .returned (.int .i64 ((k : Int) + n)) ∧ Below w.heap.size w w' := by
  by_cases hp : 0 < n
  · obtain ⟨g, cap, rfl, hr, hk⟩ := h.at hp
    exact (heldI_any g n cap k w hr hn (by omega) (by omega)).mono fun e w' ⟨h1, h2⟩ => ⟨h1, h2 ▸ Below.refl _ _⟩
  · obtain ⟨rfl, a, cap, rfl, hk⟩ := h.none hp
    refine (heldI_nil a cap k w).mono ?_
    rintro e w' ⟨rfl, rfl⟩
    exact ⟨by simp, Below.refl _ _⟩

end Go.Proofs.YtadoihddmbbjoaaDoor
