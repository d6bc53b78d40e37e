/-
  slices.Collect over spots.spans: the ranges of a set, in a new row.
-/
import Derived.Test.YtaeolgbgcchaeaaDoorKept
import Derived.Test.YtaeolgbgcchaeaaDoorOkRg
namespace Go.Proofs.YtaeolgbgcchaeaaDoor
open Go.RowKit

attribute [local go_sem] Oper.semAt_some

/-- What Collect leaves: a new row that reads as L, or none. -/
def RgC (w : World) (L : List Rng) (e : Ending) (w' : World) : Prop :=
  ∃ v, e = .returned v ∧ Hid (w'.ownsRow w.heap.size 33 2 v L.length (flat L)) ∧ Below w.heap.size w w'

set_option maxRecDepth 100000 in
set_option maxHeartbeats 4000000 in
theorem appendSeqSpan_any (Bn p : Nat) (hp : p < 2 ^ 48) (w : World) (hBn : w.cell? ⟨Bn, 0, none⟩ = some (.int .u64 (p : Int))) (hT : TabAt w) (hg0 : 0 < w.heap.size) :
    Calls Tryd.prog 39 #[.slice none 0 0, .func (.func 47) #[] #[.pointer (some ⟨Bn, 0, none⟩)]] w (RgC w (rg (fun i => p.testBit i) 48)) := by
  obtain ⟨i0, hi0, hz0, hz1, hz2⟩ := info_parts infoSpan'
  have HT := Lib.hid hT
  clear hT
  refine (callsIn_wide (n := 4)).1 ?_
  refine callsIn_of_wp_marks Tryd.func39 rfl trivial ?_ rfl
  simp only [Tryd.ntmps39, List.size_toArray, List.length_cons, List.length_nil, Nat.reduceAdd, Nat.reduceSub, Array.replicate_succ, Array.replicate_zero, List.push_toArray, List.append_toArray, List.nil_append, List.cons_append]
  have bO := Boxed.new w 25 (.slice none 0 0)
  have hB0 : Below w.heap.size w (w.alloc (.cells #[.slice none 0 0] 25)) := (Below.refl _ w).alloc (Nat.le_refl _) _
  have hsz : (w.alloc (.cells #[.slice none 0 0] 25)).heap.size = w.heap.size + 1 := by simp
  have hBn0 := cell_keep hB0 hBn
  have hT0 : TabAt (w.alloc (.cells #[.slice none 0 0] 25)) := HT.keep hB0
  gi_wp2_with fail
  obtain ⟨W0, hW0⟩ : ∃ W0, w.alloc (.cells #[.slice none 0 0] 25) = W0 := ⟨_, rfl⟩
  rw [hW0] at bO hBn0 hT0 hB0 hsz ⊢
  clear hW0
  have hro0 : rowOk w.heap.size W0 := fun g e => by unfold rowOf at e; rw [bO.cell] at e; simp [Value.ownBlock] at e
  refine wpIn_rangeFunc_ownH rfl (by omega) (gf := 47) (lb := #[.pointer (some ⟨Bn, 0, none⟩)]) rfl trivial (enters_of Tryd.func47 (by kernel_rfl) rfl)
    (iter_stops (4 - 1) (by omega) Bn w.heap.size w.heap.size w.heap.size p hp W0 hBn0 hT0 hg0 (by omega) (by omega) hro0) Kept.trans (kept_put (by omega) (by omega)) (Below.refl _ _) (fun _ => rfl)
    (fun pre W => (∃ v, Boxed W w.heap.size 25 v ∧ W.ownsRow w.heap.size 33 2 v pre.length (flat pre) ∧ True) ∧ Below w.heap.size w W)
    (fun _ _ _ => False)
    (OwnFrom.and (Own.from (holdsRow_own _ _ _ _ _ _ _ (fun (pre : List Rng) _ => True)) _) (ownFrom_below (Nat.le_refl _) (by omega)))
    (fun _ => fun _ _ _ _ h => h.elim)
    ⟨⟨_, bO, World.ownsRow_nil .., trivial⟩, hB0⟩
    (fun x a' W => ∃ Bx, w.heap.size < Bx ∧ W.heap[Bx]? = some (.cells #[.int .i64 x.1, .int .i64 x.2] 33 (0, 0)) ∧ a' = { tmps := #[.slice none 0 0, .func (.func 47) #[] #[.pointer (some ⟨Bn, 0, none⟩)], .pointer (some ⟨w.heap.size, 0, none⟩), undef, .slice none 0 0, .pointer (some ⟨Bx, 0, none⟩), .func (.func 47) #[] #[.pointer (some ⟨Bn, 0, none⟩)], .agg #[.int .i64 x.1, .int .i64 x.2], undef, undef, undef, undef, undef], defers := [] })
    (fun x a' _ X Y row hs hg hr => by
      obtain ⟨Bx, h1, h2, h3⟩ := hs
      refine ⟨Bx, h1, ?_, h3⟩
      refine (hg.block Bx (Array.getElem?_eq_some_iff.1 h2).1 (fun e => ?_)).trans h2
      obtain ⟨_, o, ho, hc⟩ := hr Bx e.symm
      rw [h2] at ho; cases ho; cases hc)
    ?assign ?body ?done ?stop
  case assign =>
    rintro l pre x W K ⟨⟨v, bO1, hrow1, -⟩, hB1⟩ hK
    gi_wp2
    exact hK _ _ ((KeepsOthers.alloc _ _).from _) (kept_below hB1.size bO1.lt ((Below.refl _ W).alloc (Nat.le_refl _) _)) ⟨⟨v, bO1.alloc _, hrow1.alloc _, trivial⟩, hB1.alloc hB1.size _⟩ ⟨W.heap.size, bO1.lt, World.alloc_heap_new W _, rfl⟩
  case body =>
    rintro l pre x a' W hl ⟨r, hr⟩ ⟨⟨v, bO1, hrow1, -⟩, hB1⟩ ⟨Bx, hBx, bX, rfl⟩ hlt
    obtain ⟨ptr, cap, rfl⟩ : ∃ ptr cap, v = .slice ptr pre.length cap := by
      rcases hrow1.2 with ⟨rfl, h0⟩ | ⟨g, cap, cur, rfl, _⟩
      · exact ⟨none, 0, by rw [h0]⟩
      · exact ⟨_, cap, rfl⟩
    have cO := bO1.cell
    have fO := bO1.frozen
    have x1 : W.cell? ⟨Bx, 0, none⟩ = some (.int .i64 x.1) := by simp [World.cell?, bX]
    have x2 : W.cell? ⟨Bx, 1, none⟩ = some (.int .i64 x.2) := by simp [World.cell?, bX]
    have hsW := hB1.size
    gi_wp2_with (gi_at_builtin; refine wpListIn_append_lies _ rfl _ _ 25 rfl w.heap.size 33 i0 (.agg #[.int .i64 0, .int .i64 0]) 2 16 Tryd.underlying25 hi0 hz0 hz1 hz2 rfl (by decide) _ _ _ rfl (hrow1.alloc _) ⟨W.heap.size, 0, none⟩ 1 1 [.int .i64 x.1, .int .i64 x.2] rfl rfl (two_new _ _ _ _) (by simp [Value.oneCell']) (by omega) (by unfold maxLen; omega) (by omega) (by simp; omega) (W.heap.size + 1) (by simp) ?_; intro g' cap' w1 hown' hgrow hat hltg; have hkept := kept_append bO1 (by decide) hrow1 hsW (by omega) hown' hgrow hat hltg (R := w.heap.size); obtain ⟨hv1, hv2, hr2, hk2, hb2⟩ := bO1.appended (by decide) hrow1 hsW (by omega) hown' hgrow; have hc1 := hv1.cell; have hf1 := hv1.frozen)
    refine ⟨hk2.from _, hkept, ⟨⟨_, hv2, ?_, trivial⟩, hB1.trans hb2⟩⟩
    rw [List.length_append, flat_append]
    exact hr2
  case done =>
    rintro D ys W hD rfl ⟨⟨v, bO1, hrow1, -⟩, hB1⟩ hK
    obtain ⟨ptr, cap, rfl⟩ : ∃ ptr cap, v = .slice ptr (rg (fun i => p.testBit i) 48).length cap := by
      rcases hrow1.2 with ⟨rfl, h0⟩ | ⟨g, cap, cur, rfl, _⟩
      · exact ⟨none, 0, by rw [h0]⟩
      · exact ⟨_, cap, rfl⟩
    have cO := bO1.cell
    gi_wp2
    refine ⟨by simp, .inl ⟨_, _, rfl, run_takeDeferred hK, ?_⟩⟩
    refine ⟨.slice ptr (rg (fun i => p.testBit i) 48).length cap, ?_, ⟨_, rfl, Lib.hid (ownsRow_putObj hrow1 _ hK rfl), hB1.trans (belowK_b (w := w) (Nat.le_refl _) W D _ _ (by omega) hK rfl rfl)⟩⟩
    simp [results, Tryd.f39, go_sem]
  case stop =>
    rintro D c pre W hD hpre h hK
    exact h.elim

theorem collectSpan_any (Bn p : Nat) (hp : p < 2 ^ 48) (w : World) (hBn : w.cell? ⟨Bn, 0, none⟩ = some (.int .u64 (p : Int))) (hT : TabAt w) (hg0 : 0 < w.heap.size) :
    Calls Tryd.prog 22 #[.func (.func 47) #[] #[.pointer (some ⟨Bn, 0, none⟩)]] w (RgC w (rg (fun i => p.testBit i) 48)) := by
  have HA := Lib.hid (appendSeqSpan_any Bn p hp w hBn hT hg0)
  clear hBn hT
  go_enter Tryd.func22, Tryd.ntmps22
  go_wp2_with fail
  refine HA.out.mono ?_; rintro e w1 ⟨v, rfl, ho, hb⟩
  go_wp2
  go_ret
  exact ⟨v, rfl, ho, hb⟩

end Go.Proofs.YtaeolgbgcchaeaaDoor
