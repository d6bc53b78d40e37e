/-
  Plain facts: tables of holds; what each may do at a position; when a table is one. Nothing of the program.
-/
import Derived.Test.YtldafphfnkamjaaRuns
import Derived.Test.YtldafphfnkamjaaOkRg
namespace Go.Proofs.Ytldafphfnkamjaa

/-- One's hold: what one may read alone, what one may write. -/
abbrev HoldT := List Rng × List Rng
abbrev hd0 : HoldT := ([], [])

/-- Two lists have no position in common. -/
def clrB (A B : List Rng) : Bool := A.all fun a => B.all fun b => !mtB a.1 a.2 b.1 b.2

def ownB (T : List HoldT) (i : Nat) : Bool := spansOkB (T.getD i hd0).1 && (spansOkB (T.getD i hd0).2 && clrB (T.getD i hd0).1 (T.getD i hd0).2)
def crsB (T : List HoldT) (i k : Nat) : Bool := decide (k = i) || (clrB (T.getD i hd0).2 (T.getD k hd0).2 && clrB (T.getD i hd0).2 (T.getD k hd0).1)
def allN (p : Nat → Bool) : Nat → Bool
  | 0 => true
  | n + 1 => allN p n && p n
/-- A table is one. -/
def lockOkB (T : List HoldT) : Bool := decide (T.length = 3) && allN (fun i => ownB T i && allN (crsB T i) 3) 3

theorem allN_iff (p : Nat → Bool) : ∀ n, allN p n = true ↔ ∀ i, i < n → p i = true
  | 0 => by simp [allN]
  | n + 1 => by
    simp only [allN, Bool.and_eq_true, allN_iff p n]
    constructor
    · rintro ⟨h, h'⟩ i hi
      by_cases e : i = n
      · subst e; exact h'
      · exact h i (by omega)
    · exact fun h => ⟨fun i hi => h i (by omega), h n (by omega)⟩
theorem allN_false {p : Nat → Bool} {n i : Nat} (hi : i < n) (h : p i = false) : allN p n = false := by
  rw [Bool.eq_false_iff]
  intro c
  rw [allN_iff] at c
  rw [c i hi] at h; cases h

/-- What one may do at a position: 2 write, 1 read, 0 nothing. -/
def mfn (h : HoldT) (i : Int) : Int := if inB h.2 i = true then 2 else if inB h.1 i = true then 1 else 0

theorem inB_iff {L : List Rng} {i : Int} : inB L i = true ↔ ∃ s ∈ L, s.1 ≤ i ∧ i < s.2 := by
  unfold inB; simp [List.any_eq_true]

theorem inB_bd {L : List Rng} (h : ∀ s ∈ L, spanOkB s.1 s.2 = true) {i : Int} (hi : inB L i = true) : 0 ≤ i ∧ i < 48 := by
  obtain ⟨s, hs, h1, h2⟩ := inB_iff.1 hi
  have := spanOkB_iff.1 (h s hs)
  omega

theorem clrB_iff {A B : List Rng} (hA : ∀ s ∈ A, spanOkB s.1 s.2 = true) (hB : ∀ s ∈ B, spanOkB s.1 s.2 = true) : clrB A B = true ↔ ∀ i : Int, ¬ (inB A i = true ∧ inB B i = true) := by
  unfold clrB
  simp only [List.all_eq_true, Bool.not_eq_true']
  constructor
  · rintro h i ⟨h1, h2⟩
    obtain ⟨s, hs, s1, s2⟩ := inB_iff.1 h1
    obtain ⟨t, ht, t1, t2⟩ := inB_iff.1 h2
    have := h s hs t ht
    unfold mtB mx mn at this
    simp only [decide_eq_false_iff_not] at this
    split at this <;> split at this <;> omega
  · intro h s hs t ht
    rw [Bool.eq_false_iff]
    intro c
    unfold mtB at c
    simp only [decide_eq_true_eq] at c
    have hs' := spanOkB_iff.1 (hA s hs)
    have ht' := spanOkB_iff.1 (hB t ht)
    refine h (mx s.1 t.1) ⟨inB_iff.2 ⟨s, hs, ?_⟩, inB_iff.2 ⟨t, ht, ?_⟩⟩ <;>
    · unfold mx mn at *
      split at c <;> split at c <;> (try rw [if_pos (by assumption)]) <;> (try rw [if_neg (by assumption)]) <;> omega

/-- The two lists of a hold have no position in common: as numbers. -/
theorem and_iff {A B : List Rng} (hA : ∀ s ∈ A, spanOkB s.1 s.2 = true) (hB : ∀ s ∈ B, spanOkB s.1 s.2 = true) : sps A &&& sps B = 0 ↔ clrB A B = true := by
  rw [clrB_iff hA hB]
  constructor
  · rintro h i ⟨h1, h2⟩
    have hb := inB_bd hA h1
    have e := congrArg (fun x => Nat.testBit x i.toNat) h
    have hi : ((i.toNat : Nat) : Int) = i := by omega
    simp only [Nat.testBit_and, Nat.zero_testBit, sps_bit A hA, sps_bit B hB, hi, h1, h2] at e
    simp at e
  · intro h
    apply Nat.eq_of_testBit_eq
    intro i
    rw [Nat.testBit_and, Nat.zero_testBit, sps_bit A hA, sps_bit B hB]
    have := h (i : Int)
    revert this
    cases inB A (i : Int) <;> cases inB B (i : Int) <;> simp

theorem mfn_cases (h : HoldT) (i : Int) : mfn h i = 0 ∨ mfn h i = 1 ∨ mfn h i = 2 := by
  unfold mfn; split
  · simp
  · split <;> simp

end Go.Proofs.Ytldafphfnkamjaa
