/-
  Stores as lists: what both sides are shown to return. Plain mathematics.
-/
import Derived.Test.YtadoihddmbbjoaaDoorTextMath
namespace Go.Proofs.YtadoihddmbbjoaaDoor

/-- A store's contents. -/
structure StT where
  now : List (List UInt8)
  sure : List (List UInt8)
  last : List Int
  slast : List Int
  floors : List Int

/-- A store with nothing, not even objects. -/
def st0 : StT := ⟨[], [], [], [], []⟩
/-- A new store. -/
def stNew : StT := ⟨[[], [], []], [[], [], []], [0, 0, 0], [0, 0, 0], [0, 0, 0]⟩

def txB (L : List (List UInt8)) : Bool := L.all tokB && decide (L.length = 3)
def numB (s l f : Int) : Bool := decide (0 ≤ s ∧ s ≤ l ∧ l ≤ 1000 ∧ 0 ≤ f ∧ f ≤ 100)
def numAt (S : StT) (i : Nat) : Bool := numB (S.slast.getD i 0) (S.last.getD i 0) (S.floors.getD i 0)
def lensB (S : StT) : Bool := decide (S.last.length = 3 ∧ S.slast.length = 3 ∧ S.floors.length = 3)
def nmB (S : StT) : Bool := lensB S && (List.range 3).all (numAt S)
def stOkB (S : StT) : Bool := txB S.now && (txB S.sure && nmB S)

theorem numB_true {s l f : Int} (h : 0 ≤ s ∧ s ≤ l ∧ l ≤ 1000 ∧ 0 ≤ f ∧ f ≤ 100) : numB s l f = true := decide_eq_true h
theorem numB_false {s l f : Int} (h : ¬ (0 ≤ s ∧ s ≤ l ∧ l ≤ 1000 ∧ 0 ≤ f ∧ f ≤ 100)) : numB s l f = false := decide_eq_false h
theorem numB_iff {s l f : Int} : numB s l f = true ↔ 0 ≤ s ∧ s ≤ l ∧ l ≤ 1000 ∧ 0 ≤ f ∧ f ≤ 100 := by unfold numB; simp
theorem lensB_iff {S : StT} : lensB S = true ↔ S.last.length = 3 ∧ S.slast.length = 3 ∧ S.floors.length = 3 := by unfold lensB; simp

theorem txB_iff {L : List (List UInt8)} : txB L = true ↔ L.length = 3 ∧ ∀ i, i < 3 → tokB (L.getD i []) = true := by
  unfold txB
  rw [Bool.and_eq_true, List.all_eq_true, decide_eq_true_eq]
  constructor
  · rintro ⟨h1, h2⟩
    refine ⟨h2, fun i hi => ?_⟩
    rw [List.getD_eq_getElem?_getD, List.getElem?_eq_getElem (by omega)]
    exact h1 _ (List.getElem_mem _)
  · rintro ⟨h1, h2⟩
    refine ⟨fun x hx => ?_, h1⟩
    obtain ⟨i, hi, rfl⟩ := List.getElem_of_mem hx
    have := h2 i (by omega)
    rwa [List.getD_eq_getElem?_getD, List.getElem?_eq_getElem hi] at this
theorem txB_bad {L : List (List UInt8)} {i : Nat} (hi : i < L.length) (h : tokB (L.getD i []) = false) : txB L = false := by
  cases hx : txB L
  · rfl
  · obtain ⟨h1, h2⟩ := txB_iff.1 hx
    rw [h2 i (by omega)] at h; cases h
theorem txB_end {L : List (List UInt8)} (h : ∀ i, i < L.length → tokB (L.getD i []) = true) : txB L = decide (L.length = 3) := by
  rw [Bool.eq_iff_iff, txB_iff, decide_eq_true_eq]
  exact ⟨fun h => h.1, fun h3 => ⟨h3, fun i hi => h i (by omega)⟩⟩
theorem txB_at {L : List (List UInt8)} (h : txB L = true) {i : Nat} (hi : i < 3) : tokB (L.getD i []) = true := (txB_iff.1 h).2 i hi

theorem nmB_iff {S : StT} : nmB S = true ↔ lensB S = true ∧ ∀ i, i < 3 → numAt S i = true := by
  unfold nmB
  rw [Bool.and_eq_true, List.all_eq_true]
  simp only [List.mem_range]
theorem nmB_bad {S : StT} {i : Nat} (hi : i < 3) (h : numAt S i = false) : nmB S = false := by
  cases hx : nmB S
  · rfl
  · rw [(nmB_iff.1 hx).2 i hi] at h; cases h
theorem nmB_len {S : StT} (h : lensB S = false) : nmB S = false := by unfold nmB; rw [h]; rfl

theorem stOk_iff {S : StT} : stOkB S = true ↔ txB S.now = true ∧ txB S.sure = true ∧ nmB S = true := by
  unfold stOkB; rw [Bool.and_eq_true, Bool.and_eq_true]

theorem stOk_nm {S : StT} (h : nmB S = false) : stOkB S = false := by unfold stOkB; rw [h, Bool.and_false, Bool.and_false]
theorem stOk_now {S : StT} (h : txB S.now = false) : stOkB S = false := by unfold stOkB; rw [h, Bool.false_and]
theorem stOk_sure {S : StT} (h : txB S.sure = false) : stOkB S = false := by unfold stOkB; rw [h, Bool.false_and, Bool.and_false]

/-- What is there has three of all. -/
theorem stOk_lens {S : StT} (h : stOkB S = true) : S.now.length = 3 ∧ S.sure.length = 3 ∧ S.last.length = 3 ∧ S.slast.length = 3 ∧ S.floors.length = 3 := by
  obtain ⟨h1, h2, h3⟩ := stOk_iff.1 h
  obtain ⟨h4, -⟩ := nmB_iff.1 h3
  obtain ⟨h5, h6, h7⟩ := lensB_iff.1 h4
  exact ⟨(txB_iff.1 h1).1, (txB_iff.1 h2).1, h5, h6, h7⟩
theorem three {α : Type} {L : List α} (h : L.length = 3) : ∃ a b c, L = [a, b, c] := by
  match L, h with
  | [a, b, c], _ => exact ⟨a, b, c, rfl⟩

def syncT (S : StT) : StT := if stOkB S = true then ⟨S.now, S.now, S.last, S.last, S.floors⟩ else st0
def fallT (S : StT) : StT := if stOkB S = true then ⟨S.sure, S.sure, S.slast, S.slast, S.floors⟩ else st0
def cliB (who : Int) : Bool := decide (0 ≤ who ∧ who < 3)
def epoB (e : Int) : Bool := decide (0 ≤ e ∧ e ≤ 100)
def fenT (S : StT) (who e : Int) : StT := if stOkB S = true then (if (cliB who && epoB e) = true then ⟨S.now, S.sure, S.last, S.slast, S.floors.set who.toNat (max (S.floors.getD who.toNat 0) e)⟩ else S) else st0
def fenB (S : StT) (who e : Int) : Bool := stOkB S && (cliB who && epoB e)

end Go.Proofs.YtadoihddmbbjoaaDoor
