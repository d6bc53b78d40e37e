/-
  Nothing has changed but blocks between two places of the heap.
-/
import Derived.Test.YtadoihddmbbjoaaDoorSpan
namespace Go.Proofs.YtadoihddmbbjoaaDoor
open Go.RowKit

/-- Only blocks between lo and hi have changed. -/
structure Btn (lo hi : Nat) (w w' : World) : Prop where
  os : w'.os = w.os
  tape : w'.tape = w.tape
  output : w'.output = w.output
  size : w.heap.size ≤ w'.heap.size
  block : ∀ i, i < w.heap.size → ¬ (lo ≤ i ∧ i < hi) → w'.heap[i]? = w.heap[i]?
theorem Btn.refl (lo hi : Nat) (w : World) : Btn lo hi w w := ⟨rfl, rfl, rfl, Nat.le_refl _, fun _ _ _ => rfl⟩
theorem Btn.trans {lo hi : Nat} {a b c : World} (h : Btn lo hi a b) (k : Btn lo hi b c) : Btn lo hi a c :=
  ⟨k.os.trans h.os, k.tape.trans h.tape, k.output.trans h.output, Nat.le_trans h.size k.size, fun i hi' hn => (k.block i (Nat.lt_of_lt_of_le hi' h.size) hn).trans (h.block i hi' hn)⟩
theorem Btn.below {lo hi n : Nat} {w w' : World} (h : Btn lo hi w w') (hn : n ≤ lo) (hw : n ≤ w.heap.size) : Below n w w' :=
  ⟨h.os, h.tape, h.output, h.size, fun i hi' => h.block i (by omega) (by omega)⟩
theorem Btn.of_below {lo hi : Nat} {w w' : World} (h : Below w.heap.size w w') : Btn lo hi w w' :=
  ⟨h.os, h.tape, h.output, h.size, fun i hi' _ => h.block i hi'⟩
theorem Btn.of_grown {lo hi : Nat} {w w' : World} {r : Option Nat} (h : w.grownBy w' r) (hb : ∀ b, r = some b → lo ≤ b ∧ b < hi) : Btn lo hi w w' :=
  ⟨h.os, h.tape, h.output, h.size, fun i hi' hn => h.block i hi' (fun e => hn (hb i e.symm))⟩
theorem btn_set (w : World) (b o : Nat) (x : Value) : Btn b (b + 1) w (w.setCell ⟨b, o, none⟩ x) :=
  ⟨rfl, rfl, rfl, by simp, fun i _ hn => Below.heap_setCell w _ x i (fun e => hn (by subst e; exact ⟨Nat.le_refl _, Nat.lt_succ_self _⟩))⟩

end Go.Proofs.YtadoihddmbbjoaaDoor
