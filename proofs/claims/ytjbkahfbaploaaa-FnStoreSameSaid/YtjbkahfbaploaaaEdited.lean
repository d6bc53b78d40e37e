/-
  The program's 'edited' over edits that each meet a contract; cutTo, its closure; impl.TextCut.
-/
import Derived.Test.YtjbkahfbaploaaaSheet
import Derived.Test.YtjbkahfbaploaaaSpecLong
import Derived.Laws.IdiomStrings
import Derived.Laws.EntriesVeiled
import Derived.Deep.DeepCutAuto
namespace Go.Proofs.Ytjbkahfbaploaaa
open Go.RowKit Go.Lib

/-- A string becomes a sheet. -/
theorem sheet_of (l : List UInt8) (W : World) : ∃ (cap : Nat) (W1 : World), (convert 9 53 (.string (mkB l))).run Try.prog W = .ok (.slice (some ⟨W.heap.size, 0, none⟩) l.length cap) W1 ∧
    Sht W1 (.slice (some ⟨W.heap.size, 0, none⟩) l.length cap) l ∧ Below W.heap.size W W1 := by
  have hr := run_bytes_of_string (P := Try.prog) W 9 53 5 (mkB l) Try.underlying9 Try.underlying53 Try.underlying5
  rw [mkB_size] at hr
  refine ⟨_, _, hr, ⟨W.heap.size, _, rfl, grownCap_ge _ _ _ _, by simp, fun j hj => ?_⟩, (Below.drew (Below.refl _ _)).alloc (by simp) _⟩
  have h1 : W.drew.heap.size = W.heap.size := rfl
  have := World.cell?_alloc_mark W.drew (bytesRow (mkB l) (grownCap W l.length 0 5)) 5 ((bytesRow (mkB l) (grownCap W l.length 0 5)).size, (bytesRow (mkB l) (grownCap W l.length 0 5)).size + 1) j
  rw [h1] at this
  rw [this, bytesRow_at _ _ _ (by show j < l.toArray.size; simpa using hj)]
  rfl
/-- A sheet becomes a string. -/
theorem sheet_back {W : World} {v : Value} {l : List UInt8} (h : Sht W v l) : (convert 53 9 v).run Try.prog W = .ok (.string (mkB l)) W := by
  obtain ⟨g, cap, rfl, hl, hg, hc⟩ := h
  exact run_convert_bytes_back W 53 9 5 ⟨g, 0, none⟩ cap l Try.underlying53 Try.underlying5 Try.underlying9 (fun j hj => by rw [addr_add]; exact hc j hj)

/-- Edits one behind the other. -/
def runE (F : Nat → List UInt8 → Option (List UInt8)) : Nat → List UInt8 → Option (List UInt8)
  | 0, l => some l
  | k + 1, l => (runE F k l).bind (F k)
theorem runE_none {F : Nat → List UInt8 → Option (List UInt8)} {k : Nat} {l : List UInt8} (h : runE F k l = none) : ∀ n, k ≤ n → runE F n l = none := by
  intro n hn
  induction n with
  | zero => obtain rfl : k = 0 := by omega
            exact h
  | succ n ih =>
    by_cases hk : k = n + 1
    · subst hk; exact h
    · show (runE F n l).bind (F n) = none
      rw [ih (by omega)]; rfl
def edS (F : Nat → List UInt8 → Option (List UInt8)) (n : Nat) (l : List UInt8) : List UInt8 := if tokB l = true then (runE F n l).getD l else []
def edB (F : Nat → List UInt8 → Option (List UInt8)) (n : Nat) (l : List UInt8) : Bool := tokB l && (runE F n l).isSome

/-- What an edit leaves. -/
def EdYes (w : World) (L : List UInt8) (e : Ending) (w' : World) : Prop :=
  ∃ v, e = .returned (.tuple #[v, .bool true]) ∧ Hid (Sht w' v L) ∧ Below w.heap.size w w'
def EdNo (w : World) (e : Ending) (w' : World) : Prop :=
  e = .returned (.tuple #[.slice none 0 0, .bool false]) ∧ Below w.heap.size w w'
/-- The edit that captures block b does F. -/
def EdOk (w : World) (K : FuncId) (b : Nat) (F : List UInt8 → Option (List UInt8)) : Prop :=
  ∀ (W : World) (v : Value) (L : List UInt8), Below w.heap.size w W → Sht W v L → tokB L = true →
    (∀ L', F L = some L' → tokB L' = true ∧ Calls Try.prog K #[v, .pointer (some ⟨b, 0, none⟩)] W (EdYes W L')) ∧ (F L = none → Calls Try.prog K #[v, .pointer (some ⟨b, 0, none⟩)] W (EdNo W))


end Go.Proofs.Ytjbkahfbaploaaa
