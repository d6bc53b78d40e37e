/-
  Contracts of the model's bit lists: l1Places (one truth a position).
-/
import Derived.Test.YtfifimdaepebeaaSpots
namespace Go.Proofs.Ytfifimdaepebeaa
open Go.RowKit

/-- The first k positions' truths. -/
def tru (f : Nat → Bool) (k : Nat) : List Value := (List.range k).map fun i => .bool (f i)
theorem tru_succ (f : Nat → Bool) (k : Nat) : tru f (k + 1) = tru f k ++ [.bool (f k)] := by unfold tru; rw [List.range_succ]; simp

/-- A row of n truths at the head of block b, that may be written. -/
def RowB (w : World) (b n : Nat) (f : Nat → Bool) : Prop := ∀ i, i < n → w.cell? ⟨b, i, none⟩ = some (.bool (f i)) ∧ w.frozen? ⟨b, i, none⟩ = false

theorem infoBool : (Try.prog.info? 4).map (fun i => (i.zero, i.size, i.bytes)) = some (some (.bool false), 1, 1) := by kernel_rfl

def Plc (w : World) (f : Nat → Bool) (e : Ending) (w' : World) : Prop :=
  ∃ nb cap, e = .returned (.slice (some ⟨nb, 0, none⟩) 48 cap) ∧ w.heap.size ≤ nb ∧ RowB w' nb 48 f ∧ Below w.heap.size w w'

set_option maxRecDepth 100000 in
set_option maxHeartbeats 2000000 in
theorem places_any (v : Value) (L : List Rng) (w : World) (h : Spn w v L) :
    Calls Try.prog 68 #[v] w (Plc w (fun i => inB L i)) := by
  obtain ⟨i0, hi, hz0, hz1, hz2⟩ := info_parts infoBool
  have HS := Lib.hid h
  clear h
  go_enter Try.func68, Try.ntmps68
  go_wp2
  have h0 : Hid (World.ownsRow (w.alloc (.cells #[] 4)) w.heap.size 4 1 (.slice (some ⟨w.heap.size, 0, none⟩) 0 0) 0 []) := World.ownsRow_made w #[] 0 (Nat.le_refl _) (by unfold maxLen; omega) rfl
  go_loopg [3, 4] 48 (fun g s3 s4 wr => ∃ k : Nat, g = 48 - k ∧ k ≤ 48 ∧ s4 = .int .i64 k ∧ Hid (wr.ownsRow w.heap.size 4 1 s3 k (tru (fun i => inB L i) k)) ∧ Below w.heap.size w wr)
  case atStart => exact ⟨0, rfl, Nat.zero_le _, rfl, h0, (Below.refl _ _).alloc (Nat.le_refl _) _⟩
  case round =>
    obtain ⟨k, rfl, hk, rfl, HO, hb⟩ := hrel
    by_cases hlt : k < 48
    · go_wp2_with fail
      refine (l1In_any v L k _ (HS.out.keep hb)).mono ?_; rintro e w' ⟨rfl, rfl⟩
      go_wp2_with (at_builtin; refine wpList_append_own _ rfl _ _ 84 rfl w.heap.size 4 i0 (.bool false) 1 1 Try.underlying84 hi hz0 hz1 hz2 rfl (by decide) _ _ _ rfl (HO.out.alloc _) ⟨wr.heap.size, 0, none⟩ 1 1 [.bool (inB L k)] rfl rfl ?c1 ?c2 ?c3 ?c4 ?c5 ?_)
      case c1 => exact cell_one_new _ _ _
      case c2 => simp [Value.oneCell']
      case c3 => unfold maxLen; omega
      case c4 => omega
      case c5 => have := hb.size; simp; omega
      intro v' w1 hown' hgrow _
      rw [← tru_succ (fun i => inB L (i : Int))] at hown'
      have HO1 := Lib.hid hown'
      have hb1 := (hb.alloc hb.size (.cells #[.bool (inB L k)] 4)).grown hgrow (by have := hb.size; simp; omega) (fun q e => (HO.out.lt q e).1)
      clear hown' hgrow HO hi hz0 hz1 hz2
      go_wp2
      go_roundg (48 - (k + 1))
      case measure => omega
      case rel => exact ⟨k + 1, rfl, by omega, by go_num, HO1, hb1⟩
    · obtain rfl : k = 48 := by omega
      obtain ⟨_, h1 | ⟨g, cap, cur, rfl, hg1, hg2, hg3, hg4, hg5, hg6⟩⟩ := id HO.out
      · obtain ⟨_, h1⟩ := h1
        omega
      · have HR : Hid (RowB wr g 48 (fun i => inB L (i : Int))) := fun i hi' => by
          have hc := HO.out.cells (g := g) rfl i (.bool (inB L i)) (by unfold tru; rw [List.getElem?_map, List.getElem?_range hi']; rfl)
          have ha : (⟨g, 0, none⟩ : Addr).add i = ⟨g, i, none⟩ := by
            rcases Nat.eq_zero_or_pos i with e | e
            · subst e; simp [Addr.add]
            · simp [Addr.add, Nat.ne_of_gt e]
          rw [ha] at hc
          exact ⟨hc, by simp [World.frozen?, hg2]⟩
        clear hg2 hg5 hg6 hi hz0 hz1 hz2 HO
        go_wp2
        go_ret
        exact ⟨g, cap, rfl, hg1, HR.out, hb⟩

end Go.Proofs.Ytfifimdaepebeaa
