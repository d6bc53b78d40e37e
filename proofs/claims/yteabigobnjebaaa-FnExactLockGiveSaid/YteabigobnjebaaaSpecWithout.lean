/-
  spec.l4Without: a list of ranges without all of another one.
-/
import Derived.Test.YteabigobnjebaaaInRg
import Derived.Test.YteabigobnjebaaaAddCut
import Derived.Test.YteabigobnjebaaaTable
namespace Go.Proofs.Yteabigobnjebaaa
open Go.RowKit

/-- A new list of ranges. -/
def SpnC (w : World) (L : List Rng) (e : Ending) (w' : World) : Prop :=
  ∃ a cap, e = .returned (.slice a L.length cap) ∧ Hid (Spn w' (.slice a L.length cap) L) ∧ Below w.heap.size w w'
theorem RgsO.spnC {w w1 w' : World} {L : List Rng} {e : Ending} (h : RgsO w1 L e w') (hb : Below w.heap.size w w1) : SpnC w L e w' := by
  obtain ⟨g, cap, he, hg, ho, hb1⟩ := h
  exact ⟨_, cap, he, Lib.hid (spn_of (mrow_own ho.out).1 (mrow_own ho.out).2), hb.trans (hb1.mono hb.size)⟩

set_option maxRecDepth 100000 in
set_option maxHeartbeats 4000000 in
theorem l4Without_any (va vb : Value) (A B : List Rng) (w : World) (ha : Spn w va A) (hb : Spn w vb B) (hB : ∀ s ∈ B, spanOkB s.1 s.2 = true) :
    Calls Try.prog 72 #[va, vb] w (SpnC w (rg (fun i => inB A (i : Int) && !inB B (i : Int)) 48)) := by
  have K1 := Lib.hid (places_any va A w ha)
  obtain ⟨a, cap, rfl, c1, c2, hc⟩ := id hb
  unfold maxLen at c2
  have HC := Lib.hid hc
  have HB := Lib.hid hb
  have HV : Hid (∀ k, k < B.length → spanOkB (B.getD k (0, 0)).1 (B.getD k (0, 0)).2 = true) := fun k hk => hB _ (by rw [List.getD_eq_getElem?_getD, List.getElem?_eq_getElem hk]; exact List.getElem_mem hk)
  have HL : Hid (wiL B B.length (rg (fun i => inB A (i : Int)) 48) = rg (fun i => inB A (i : Int) && !inB B (i : Int)) 48) := by
    show _ = _
    rw [wiL_in B _ _ (Nat.le_refl _), List.take_length]
  obtain ⟨f, hf⟩ : ∃ f : Nat → Bool, f = fun i : Nat => inB A (i : Int) := ⟨_, rfl⟩
  rw [← hf] at K1 HL
  rw [← HL.out]
  clear ha hb hB hc hf HL
  go_enter Try.func72, Try.ntmps72
  go_wp2_with fail
  refine K1.out.mono ?_; rintro e w1 ⟨nb, cap1, rfl, hnb, hr, hb1⟩
  have K2 := Lib.hid (l1Of_own nb cap1 _ w1 hr)
  clear K1 hr
  go_wp2_with fail
  refine K2.out.mono ?_; rintro e w2 h2
  obtain ⟨a2, cap2, rfl, hs2, hb2⟩ := h2.spnC hb1
  clear K2 h2 hb1
  go_wp2
  go_loopg [5, 6] B.length (fun q s5 s6 wr => ∃ (k : Nat) (a5 : Option Addr) (cap5 : Nat), q = B.length - k ∧ k ≤ B.length ∧ s5 = .slice a5 (wiL B k (rg f 48)).length cap5 ∧ s6 = .int .i64 k ∧ Hid (Spn wr (.slice a5 (wiL B k (rg f 48)).length cap5) (wiL B k (rg f 48))) ∧ Hid (Below w.heap.size w wr))
  case atStart => exact ⟨0, a2, cap2, rfl, Nat.zero_le _, rfl, rfl, hs2, Lib.hid hb2⟩
  case round =>
    obtain ⟨k, a5, cap5, rfl, hk, rfl, rfl, HS, HBW⟩ := hrel
    clear hs2 hb2
    by_cases hlt : k < B.length
    · obtain ⟨b, off, rfl, hcc⟩ := HC.out (fun e => by subst e; simp at hlt)
      have x1 := cell_keep HBW.out (hcc k hlt).1
      have x2 := cell_keep HBW.out (hcc k hlt).2
      have hv := HV.out k hlt
      have HE : Hid (wiL B (k + 1) (rg f 48) = rg (cutF (wiL B k (rg f 48)) (B.getD k (0, 0)).1 (B.getD k (0, 0)).2) 48) := rfl
      clear hcc
      generalize hs : B.getD k (0, 0) = s at *
      obtain ⟨lo, hi⟩ := s
      dsimp only at x1 x2 hv HE
      have K3 := Lib.hid (l1Cut_own _ _ lo hi _ HS.out hv)
      clear hs hv
      rw [← HE.out] at K3
      generalize h2 : wiL B (k + 1) (rg f 48) = L2 at *
      have HE2 := Lib.hid h2
      clear h2 HE
      generalize (wiL B k (rg f 48)) = L1 at *
      go_wp2_with fail
      refine K3.out.mono ?_; rintro e w5 h5
      obtain ⟨a6, cap6, rfl, hs6, hb6⟩ := h5.spnC HBW.out
      have HB6 := Lib.hid hb6
      clear h5 K3 hb6 x1 x2
      go_wp2
      go_roundg (B.length - (k + 1))
      case measure => omega
      case rel => exact ⟨k + 1, a6, cap6, rfl, by omega, by rw [HE2.out], by go_num, by rw [HE2.out]; exact hs6, HB6⟩
    · obtain rfl : k = B.length := by omega
      have HSS := Lib.hid HS.out
      generalize wiL B B.length (rg f 48) = L1 at *
      go_wp2
      go_ret
      exact ⟨a5, cap5, rfl, HSS.out, HBW.out⟩

end Go.Proofs.Yteabigobnjebaaa
