/-
  Contracts of the model's l1Add and l1Cut.
-/
import Derived.Test.YtfifimdaepebeaaOf
import Derived.Deep.Onto
namespace Go.Proofs.Ytfifimdaepebeaa
open Go.RowKit

/-- What is in the list or in the range; what is in the list and not in the range. -/
def addF (L : List Rng) (lo hi : Int) (i : Nat) : Bool := inB L (i : Int) || (decide (lo ≤ (i : Int)) && decide ((i : Int) < hi))
def cutF (L : List Rng) (lo hi : Int) (i : Nat) : Bool := inB L (i : Int) && !(decide (lo ≤ (i : Int)) && decide ((i : Int) < hi))
theorem addF_in {L : List Rng} {lo hi : Int} {i : Nat} (h : lo ≤ (i : Int) ∧ (i : Int) < hi) : addF L lo hi i = true := by unfold addF; simp [h.1, h.2]
theorem addF_out {L : List Rng} {lo hi : Int} {i : Nat} (h : ¬ (lo ≤ (i : Int) ∧ (i : Int) < hi)) : addF L lo hi i = inB L i := by
  have e : (decide (lo ≤ (i : Int)) && decide ((i : Int) < hi)) = false := by rw [Bool.eq_false_iff]; intro h'; simp at h'; exact h h'
  unfold addF; rw [e]; simp
theorem cutF_in {L : List Rng} {lo hi : Int} {i : Nat} (h : lo ≤ (i : Int) ∧ (i : Int) < hi) : cutF L lo hi i = false := by unfold cutF; simp [h.1, h.2]
theorem cutF_out {L : List Rng} {lo hi : Int} {i : Nat} (h : ¬ (lo ≤ (i : Int) ∧ (i : Int) < hi)) : cutF L lo hi i = inB L i := by
  have e : (decide (lo ≤ (i : Int)) && decide ((i : Int) < hi)) = false := by rw [Bool.eq_false_iff]; intro h'; simp at h'; exact h h'
  unfold cutF; rw [e]; simp

set_option maxRecDepth 100000 in
set_option maxHeartbeats 4000000 in
theorem l1Add_own (v : Value) (L : List Rng) (lo hi : Int) (w : World) (h : Spn w v L) (hs : spanOkB lo hi = true) :
    Calls Try.prog 51 #[v, .agg #[.int .i64 lo, .int .i64 hi]] w (RgsO w (rg (addF L lo hi) 48)) := by
  obtain ⟨h0, h1, h2⟩ := spanOkB_iff.1 hs
  have k := new_box w lo hi 25
  have hal : Below w.heap.size w (w.alloc (.cells #[.int .i64 lo, .int .i64 hi] 25)) := (Below.refl _ _).alloc (Nat.le_refl _) _
  have HP := Lib.hid (h.keep hal)
  clear h hs
  go_enter Try.func51, Try.ntmps51
  go_wp2_with fail
  refine (places_any v L _ HP.out).mono ?_; rintro e w1 ⟨nb, cap, rfl, hnb, hr, hb1⟩
  obtain ⟨x1, x2, -, -⟩ := k.keep hb1
  have e1 := hal.trans (hb1.mono hal.size)
  have hbl : w.heap.size < nb := by have hq := hnb; simp at hq; omega
  have HR : Hid (RowB w1 nb 48 (fun i => if (lo ≤ (i : Int) ∧ (i : Int) < lo) then true else inB L i)) := fun i hi => by
    have := hr i hi
    dsimp only at this ⊢
    rw [if_neg (by omega)]; exact this
  clear hr k hal hb1 hnb
  go_wp2
  go_loopg [6] (hi - lo).toNat (fun q s6 wr => ∃ j : Int, q = (hi - j).toNat ∧ lo ≤ j ∧ j ≤ hi ∧ s6 = .int .i64 j ∧ Hid (RowB wr nb 48 (fun i => if (lo ≤ (i : Int) ∧ (i : Int) < j) then true else inB L i)) ∧ wr.cell? ⟨w.heap.size, 0, none⟩ = some (.int .i64 lo) ∧ wr.cell? ⟨w.heap.size, 1, none⟩ = some (.int .i64 hi) ∧ Below w.heap.size w wr)
  case atStart => exact ⟨lo, rfl, by omega, by omega, rfl, HR, x1, x2, e1⟩
  case round =>
    obtain ⟨j, rfl, hj1, hj2, rfl, HR1, y1, y2, hb⟩ := hrel
    clear x1 x2 HR
    by_cases hlt : j < hi
    · obtain ⟨m, hm⟩ : ∃ m : Nat, (m : Int) = j := ⟨j.toNat, by omega⟩
      subst hm
      have hm48 : m < 48 := by omega
      obtain ⟨c1, c2⟩ := HR1.out m hm48
      have HR2 : Hid (RowB (wr.setCell ⟨nb, m, none⟩ (.bool true)) nb 48 (fun i => if (lo ≤ (i : Int) ∧ (i : Int) < (m : Int) + 1) then true else inB L i)) := fun i hi' => by
        by_cases e : i = m
        · subst e
          dsimp only
          rw [if_pos (by omega)]
          exact ⟨by go_simp, by go_simp⟩
        · have := HR1.out i hi'
          have hcond : (lo ≤ (i : Int) ∧ (i : Int) < (m : Int) + 1) ↔ (lo ≤ (i : Int) ∧ (i : Int) < (m : Int)) := by omega
          refine ⟨?_, by rw [World.frozen?_setCell]; exact this.2⟩
          rw [World.cell?_setCell_other _ _ _ _ (fun e' => e (by injection e' with _ e'' _; exact e''.symm))]
          dsimp only at this ⊢
          simp only [hcond]
          exact this.1
      have y3 : (wr.setCell ⟨nb, m, none⟩ (.bool true)).cell? ⟨w.heap.size, 0, none⟩ = some (.int .i64 lo) := by rw [World.cell?_setCell_far _ _ _ _ (Nat.ne_of_gt hbl)]; exact y1
      have y4 : (wr.setCell ⟨nb, m, none⟩ (.bool true)).cell? ⟨w.heap.size, 1, none⟩ = some (.int .i64 hi) := by rw [World.cell?_setCell_far _ _ _ _ (Nat.ne_of_gt hbl)]; exact y2
      have HY := Lib.hid (And.intro y3 y4)
      clear y3 y4
      go_wp2
      go_roundg (hi - ((m : Int) + 1)).toNat
      case measure => omega
      case rel => exact ⟨(m : Int) + 1, rfl, by omega, by omega, rfl, HR2, HY.out.1, HY.out.2, hb.setCell (Nat.le_of_lt hbl) _⟩
    · obtain rfl : hi = j := by omega
      have HF : Hid (RowB wr nb 48 (addF L lo hi)) := fun i hi' => by
        have := HR1.out i hi'
        dsimp only at this ⊢
        by_cases e : lo ≤ (i : Int) ∧ (i : Int) < hi
        · rw [if_pos e] at this
          rw [addF_in e]; exact this
        · rw [if_neg e] at this
          rw [addF_out e]; exact this
      go_wp2_with fail
      refine (l1Of_own nb cap _ _ HF.out).mono ?_; rintro e w4 ⟨g, cap2, rfl, hg, hr4, hb4⟩
      have HR4 := Lib.hid (World.ownsRow.mono hr4.out hb.size)
      have hb5 := hb.trans (hb4.mono hb.size)
      have hg2 := Nat.le_trans hb.size hg
      clear hr4
      go_wp2
      go_ret
      exact ⟨g, cap2, rfl, hg2, HR4, hb5⟩

set_option maxRecDepth 100000 in
set_option maxHeartbeats 4000000 in
theorem l1Cut_own (v : Value) (L : List Rng) (lo hi : Int) (w : World) (h : Spn w v L) (hs : spanOkB lo hi = true) :
    Calls Try.prog 50 #[v, .agg #[.int .i64 lo, .int .i64 hi]] w (RgsO w (rg (cutF L lo hi) 48)) := by
  obtain ⟨h0, h1, h2⟩ := spanOkB_iff.1 hs
  have k := new_box w lo hi 25
  have hal : Below w.heap.size w (w.alloc (.cells #[.int .i64 lo, .int .i64 hi] 25)) := (Below.refl _ _).alloc (Nat.le_refl _) _
  have HP := Lib.hid (h.keep hal)
  clear h hs
  go_enter Try.func50, Try.ntmps50
  go_wp2_with fail
  refine (places_any v L _ HP.out).mono ?_; rintro e w1 ⟨nb, cap, rfl, hnb, hr, hb1⟩
  obtain ⟨x1, x2, -, -⟩ := k.keep hb1
  have e1 := hal.trans (hb1.mono hal.size)
  have hbl : w.heap.size < nb := by have hq := hnb; simp at hq; omega
  have HR : Hid (RowB w1 nb 48 (fun i => if (lo ≤ (i : Int) ∧ (i : Int) < lo) then false else inB L i)) := fun i hi => by
    have := hr i hi
    dsimp only at this ⊢
    rw [if_neg (by omega)]; exact this
  clear hr k hal hb1 hnb
  go_wp2
  go_loopg [6] (hi - lo).toNat (fun q s6 wr => ∃ j : Int, q = (hi - j).toNat ∧ lo ≤ j ∧ j ≤ hi ∧ s6 = .int .i64 j ∧ Hid (RowB wr nb 48 (fun i => if (lo ≤ (i : Int) ∧ (i : Int) < j) then false else inB L i)) ∧ wr.cell? ⟨w.heap.size, 0, none⟩ = some (.int .i64 lo) ∧ wr.cell? ⟨w.heap.size, 1, none⟩ = some (.int .i64 hi) ∧ Below w.heap.size w wr)
  case atStart => exact ⟨lo, rfl, by omega, by omega, rfl, HR, x1, x2, e1⟩
  case round =>
    obtain ⟨j, rfl, hj1, hj2, rfl, HR1, y1, y2, hb⟩ := hrel
    clear x1 x2 HR
    by_cases hlt : j < hi
    · obtain ⟨m, hm⟩ : ∃ m : Nat, (m : Int) = j := ⟨j.toNat, by omega⟩
      subst hm
      have hm48 : m < 48 := by omega
      obtain ⟨c1, c2⟩ := HR1.out m hm48
      have HR2 : Hid (RowB (wr.setCell ⟨nb, m, none⟩ (.bool false)) nb 48 (fun i => if (lo ≤ (i : Int) ∧ (i : Int) < (m : Int) + 1) then false else inB L i)) := fun i hi' => by
        by_cases e : i = m
        · subst e
          dsimp only
          rw [if_pos (by omega)]
          exact ⟨by go_simp, by go_simp⟩
        · have := HR1.out i hi'
          have hcond : (lo ≤ (i : Int) ∧ (i : Int) < (m : Int) + 1) ↔ (lo ≤ (i : Int) ∧ (i : Int) < (m : Int)) := by omega
          refine ⟨?_, by rw [World.frozen?_setCell]; exact this.2⟩
          rw [World.cell?_setCell_other _ _ _ _ (fun e' => e (by injection e' with _ e'' _; exact e''.symm))]
          dsimp only at this ⊢
          simp only [hcond]
          exact this.1
      have y3 : (wr.setCell ⟨nb, m, none⟩ (.bool false)).cell? ⟨w.heap.size, 0, none⟩ = some (.int .i64 lo) := by rw [World.cell?_setCell_far _ _ _ _ (Nat.ne_of_gt hbl)]; exact y1
      have y4 : (wr.setCell ⟨nb, m, none⟩ (.bool false)).cell? ⟨w.heap.size, 1, none⟩ = some (.int .i64 hi) := by rw [World.cell?_setCell_far _ _ _ _ (Nat.ne_of_gt hbl)]; exact y2
      have HY := Lib.hid (And.intro y3 y4)
      clear y3 y4
      go_wp2
      go_roundg (hi - ((m : Int) + 1)).toNat
      case measure => omega
      case rel => exact ⟨(m : Int) + 1, rfl, by omega, by omega, rfl, HR2, HY.out.1, HY.out.2, hb.setCell (Nat.le_of_lt hbl) _⟩
    · obtain rfl : hi = j := by omega
      have HF : Hid (RowB wr nb 48 (cutF L lo hi)) := fun i hi' => by
        have := HR1.out i hi'
        dsimp only at this ⊢
        by_cases e : lo ≤ (i : Int) ∧ (i : Int) < hi
        · rw [if_pos e] at this
          rw [cutF_in e]; exact this
        · rw [if_neg e] at this
          rw [cutF_out e]; exact this
      go_wp2_with fail
      refine (l1Of_own nb cap _ _ HF.out).mono ?_; rintro e w4 ⟨g, cap2, rfl, hg, hr4, hb4⟩
      have HR4 := Lib.hid (World.ownsRow.mono hr4.out hb.size)
      have hb5 := hb.trans (hb4.mono hb.size)
      have hg2 := Nat.le_trans hb.size hg
      clear hr4
      go_wp2
      go_ret
      exact ⟨g, cap2, rfl, hg2, HR4, hb5⟩

theorem l1Add_any (v : Value) (L : List Rng) (lo hi : Int) (w : World) (h : Spn w v L) (hs : spanOkB lo hi = true) :
    Calls Try.prog 51 #[v, .agg #[.int .i64 lo, .int .i64 hi]] w (Rgs w (rg (addF L lo hi) 48)) := (l1Add_own v L lo hi w h hs).mono fun _ _ h => h.rgs
theorem l1Cut_any (v : Value) (L : List Rng) (lo hi : Int) (w : World) (h : Spn w v L) (hs : spanOkB lo hi = true) :
    Calls Try.prog 50 #[v, .agg #[.int .i64 lo, .int .i64 hi]] w (Rgs w (rg (cutF L lo hi) 48)) := (l1Cut_own v L lo hi w h hs).mono fun _ _ h => h.rgs

end Go.Proofs.Ytfifimdaepebeaa
