/-
  Contracts: markText (the decimal digits of a number, behind an m), markStringS, heldStringS, and both, markIntS and heldIntS at slices of the call's own.
-/
import Derived.Test.YtjbkahfbaploaaaStoV
import Derived.Test.YtjbkahfbaploaaaMarkH
import Derived.Deep.LoopGhost
import Derived.Laws.BytesArg
namespace Go.Proofs.Ytjbkahfbaploaaa
open Go.RowKit

theorem add_mkV (a b : List UInt8) (h : a.length + b.length ≤ 9223372036854775807) (w : World) : (Op.stringOp .add (mkB a) (mkB b)).run Try.prog w = .ok (.string (mkB (a ++ b))) w := by
  rw [run_string_add_sum w _ _ (by rw [mkB_size, mkB_size]; exact h), mkB_app]

/-- The digits of a number, the highest first; none for 0. -/
def digN : Nat → Nat → List UInt8
  | 0, _ => []
  | f + 1, n => if n = 0 then [] else digN f (n / 10) ++ [UInt8.ofNat (48 + n % 10)]
theorem digN_len : ∀ f n, (digN f n).length ≤ f
  | 0, _ => by simp [digN]
  | f + 1, n => by
    unfold digN
    split
    · simp
    · have := digN_len f (n / 10); simp; omega
theorem digN_zero (f : Nat) : digN f 0 = [] := by cases f <;> simp [digN]
def mkT (k : Nat) : List UInt8 := 109 :: digN 60 k

theorem conv_byte (W : World) (n : Nat) (h : n < 256) : (convert 22 9 (.slice (some ⟨W.heap.size, 0, none⟩) 1 1)).run Try.prog (W.alloc (.cells #[.int .u8 (n : Int)] 5)) = .ok (.string (mkB [UInt8.ofNat n])) (W.alloc (.cells #[.int .u8 (n : Int)] 5)) :=
  run_convert_bytes_back (W.alloc (.cells #[.int .u8 (n : Int)] 5)) 22 9 5 ⟨W.heap.size, 0, none⟩ 1 [UInt8.ofNat n] Try.underlying22 Try.underlying5 Try.underlying9 (fun j hj => by
    obtain rfl : j = 0 := by simp at hj; omega
    have e : (⟨W.heap.size, 0, none⟩ : Addr).add 0 = ⟨W.heap.size, 0, none⟩ := by simp [Addr.add]
    rw [e]
    have hn : (UInt8.ofNat n).toNat = n := by simp; omega
    rw [List.getElem_cons_zero, hn]
    go_simp)


/-- What is marked. -/
abbrev mkS (k : Nat) : Nat → Value := fun i => .string (mkB (mkT (k + i)))

theorem grown_belowM {w w1 w2 : World} {r : Option Nat} (h : w.grownBy w1 r) (hb : Below w1.heap.size w1 w2) : w.grownBy w2 r :=
  ⟨hb.os.trans h.os, hb.tape.trans h.tape, hb.output.trans h.output, Nat.le_trans h.size hb.size, fun i hi hne => (hb.block i (Nat.lt_of_lt_of_le hi h.size)).trans (h.block i hi hne)⟩






theorem Mk1.at {w : World} {lo hi n : Nat} {v : Value} {f : Nat → Value} (h : Mk1 w lo hi v n f) (hp : 0 < n) : ∃ g cap, v = .slice (some ⟨g, 0, none⟩) n cap ∧ Row1 w g n f ∧ (∀ f', ∀ w', Row1 w' g n f' → Mk1 w' lo hi v n f') := by
  obtain ⟨a, cap, rfl, hl, hm, ho, hc⟩ := h
  obtain ⟨g, rfl, hr⟩ := hc hp
  exact ⟨g, cap, rfl, hr, fun f' w' h' => ⟨_, cap, rfl, hl, hm, ho, fun _ => ⟨g, rfl, h'⟩⟩⟩
theorem Mk1.none {w : World} {lo hi n : Nat} {v : Value} {f : Nat → Value} (h : Mk1 w lo hi v n f) (hp : ¬ 0 < n) : n = 0 ∧ ∃ a cap, v = .slice a 0 cap ∧ ∀ f', Mk1 w lo hi v 0 f' := by
  obtain rfl : n = 0 := by omega
  obtain ⟨a, cap, rfl, hl, hm, ho, hc⟩ := h
  exact ⟨rfl, a, cap, rfl, fun f' => ⟨a, cap, rfl, hl, hm, ho, fun h => absurd h (by omega)⟩⟩
theorem Mk1.bnd {w : World} {lo hi n : Nat} {v : Value} {f : Nat → Value} (h : Mk1 w lo hi v n f) : ∀ b, v.ownBlock = some b → lo ≤ b ∧ b < hi := by
  obtain ⟨a, cap, rfl, hl, hm, ho, hc⟩ := h
  exact ho


end Go.Proofs.Ytjbkahfbaploaaa
