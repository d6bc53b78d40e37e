/-
  impl's spots.list: the ranges of a set, in a new row; none where there are more than twelve.
-/
import Derived.Test.YteglfdcoeogilaaDoorKept
import Derived.Test.YteglfdcoeogilaaDoorOkRg
namespace Go.Proofs.YteglfdcoeogilaaDoor
open Go.RowKit

attribute [local go_sem] Oper.semAt_some

theorem row_form {W : World} {base : Nat} {e : TypeId} {size : Nat} {v : Value} {k : Nat} {xs : List Value} (h : W.ownsRow base e size v k xs) : ∃ ptr cap, v = .slice ptr k cap := by
  rcases h.2 with ⟨rfl, rfl⟩ | ⟨g, cap, cur, rfl, _⟩
  · exact ⟨none, 0, rfl⟩
  · exact ⟨_, cap, rfl⟩

/-- The list of a set. -/
def lst (f : Nat → Bool) : List Rng := if (rg f 48).length ≤ 12 then rg f 48 else []

set_option maxRecDepth 100000 in
set_option maxHeartbeats 4000000 in
theorem list_any (p : Nat) (hp : p < 2 ^ 48) (w : World) (hT : TabAt w) (hg0 : 0 < w.heap.size) :
    Calls Tryd.prog 26 #[.int .u64 (p : Int)] w fun e W' => ∃ v, e = .returned v ∧ W'.ownsRow w.heap.size 25 2 v (lst (fun i => p.testBit i)).length (flat (lst (fun i => p.testBit i))) ∧ Below w.heap.size w W' := by
  obtain ⟨i0, hi, hz0, hz1, hz2⟩ := info_parts infoSpan'
  have HT := Lib.hid hT
  clear hT
  refine (callsIn_wide (n := 4)).1 ?_
  refine callsIn_of_wp_marks Tryd.func26 rfl trivial ?_ rfl
  simp only [Tryd.ntmps26, List.size_toArray, List.length_cons, List.length_nil, Nat.reduceAdd, Nat.reduceSub, Array.replicate_succ, Array.replicate_zero, List.push_toArray, List.append_toArray, List.nil_append, List.cons_append]
  gi_wp2_with fail
  refine ⟨trivial, (callsIn_wide.2 (spans_any (p : Int) _)).mono ?_⟩; rintro e w' ⟨rfl, rfl⟩
  have bR := ((Boxed.new w 23 (.slice none 0 0)).alloc (.cells #[.slice none 0 0] 23)).alloc (.cells #[.int .u64 (p : Int)] 43)
  have bO := (Boxed.new (w.alloc (.cells #[.slice none 0 0] 23)) 23 (.slice none 0 0)).alloc (.cells #[.int .u64 (p : Int)] 43)
  have bN := Boxed.new ((w.alloc (.cells #[.slice none 0 0] 23)).alloc (.cells #[.slice none 0 0] 23)) 43 (.int .u64 (p : Int))
  simp only [World.size_alloc] at bO bN
  have hB0 : Below w.heap.size w (((w.alloc (.cells #[.slice none 0 0] 23)).alloc (.cells #[.slice none 0 0] 23)).alloc (.cells #[.int .u64 (p : Int)] 43)) := (((Below.refl _ w).alloc (Nat.le_refl _) _).alloc (by simp) _).alloc (by simp; omega) _
  have hsz : (((w.alloc (.cells #[.slice none 0 0] 23)).alloc (.cells #[.slice none 0 0] 23)).alloc (.cells #[.int .u64 (p : Int)] 43)).heap.size = w.heap.size + 3 := by simp
  simp only [World.size_alloc]
  obtain ⟨W0, hW0⟩ : ∃ W0, ((w.alloc (.cells #[.slice none 0 0] 23)).alloc (.cells #[.slice none 0 0] 23)).alloc (.cells #[.int .u64 (p : Int)] 43) = W0 := ⟨_, rfl⟩
  rw [hW0] at bR bO bN hB0 hsz ⊢
  clear hW0
  have hT0 : TabAt W0 := HT.keep hB0
  have hro0 : rowOk (w.heap.size + 1) W0 := fun g e => by unfold rowOf at e; rw [bO.cell] at e; simp [Value.ownBlock] at e
  gi_wp2_with fail
  refine wpIn_rangeFunc_ownH rfl (by omega) (gf := 60) (lb := #[.pointer (some ⟨w.heap.size + 1 + 1, 0, none⟩)]) rfl trivial (enters_of Tryd.func60 (by kernel_rfl) rfl)
    (iter_stops (4 - 1) (by omega) (w.heap.size + 1 + 1) w.heap.size w.heap.size (w.heap.size + 1) p hp W0 bN.cell hT0 hg0 (by omega) (by omega) hro0) Kept.trans (kept_put (by omega) (by omega)) (Below.refl _ _) (fun _ => rfl)
    (fun pre W => ((∃ v, Boxed W (w.heap.size + 1) 23 v ∧ W.ownsRow w.heap.size 25 2 v pre.length (flat pre) ∧ pre.length ≤ 12) ∧ Boxed W w.heap.size 23 (.slice none 0 0)) ∧ Below w.heap.size w W)
    (fun c pre W => ((c = .ret ∧ 12 < pre.length) ∧ Boxed W w.heap.size 23 (.slice none 0 0)) ∧ Below w.heap.size w W)
    (OwnFrom.and (OwnFrom.and (Own.from (holdsRow_own _ _ _ _ _ _ _ (fun (pre : List Rng) _ => pre.length ≤ 12)) _) (Own.from (boxed_own _ _ _) _)) (ownFrom_below (Nat.le_refl _) (by omega)))
    (fun c => OwnFrom.and (OwnFrom.and (ownFrom_pure _ _) (Own.from (boxed_own _ _ _) _)) (ownFrom_below (Nat.le_refl _) (by omega)))
    ⟨⟨⟨_, bO, World.ownsRow_nil .., by simp⟩, bR⟩, hB0⟩
    (fun x a' W => ∃ Bx, w.heap.size + 1 < Bx ∧ W.heap[Bx]? = some (.cells #[.int .i64 x.1, .int .i64 x.2] 25 (0, 0)) ∧ a' = { tmps := #[.int .u64 (p : Int), undef, .pointer (some ⟨w.heap.size, 0, none⟩), .pointer (some ⟨w.heap.size + 1, 0, none⟩), .pointer (some ⟨Bx, 0, none⟩), .int .u64 (p : Int), .func (.func 60) #[] #[.pointer (some ⟨w.heap.size + 1 + 1, 0, none⟩)], .agg #[.int .i64 x.1, .int .i64 x.2], undef, undef, undef, undef, undef, undef, undef, undef], defers := [] })
    (fun x a' _ X Y row hs hg hr => by
      obtain ⟨Bx, h1, h2, h3⟩ := hs
      refine ⟨Bx, h1, ?_, h3⟩
      refine (hg.block Bx (Array.getElem?_eq_some_iff.1 h2).1 (fun e => ?_)).trans h2
      obtain ⟨_, o, ho, hc⟩ := hr Bx e.symm
      rw [h2] at ho; cases ho; cases hc)
    ?assign ?body ?done ?stop
  case assign =>
    rintro l pre x W K ⟨⟨⟨v, bO1, hrow1, hlen1⟩, bR1⟩, hB1⟩ hK
    gi_wp2
    exact hK _ _ ((KeepsOthers.alloc _ _).from _) (kept_below hB1.size bO1.lt ((Below.refl _ W).alloc (Nat.le_refl _) _)) ⟨⟨⟨v, bO1.alloc _, hrow1.alloc _, hlen1⟩, bR1.alloc _⟩, hB1.alloc hB1.size _⟩ ⟨W.heap.size, bO1.lt, World.alloc_heap_new W _, rfl⟩
  case body =>
    rintro l pre x a' W hl ⟨r, hr⟩ ⟨⟨⟨v, bO1, hrow1, hlen1⟩, bR1⟩, hB1⟩ ⟨Bx, hBx, bX, rfl⟩ hlt
    obtain ⟨ptr, cap, rfl⟩ := row_form hrow1
    have cO := bO1.cell
    have fO := bO1.frozen
    have cR := bR1.cell
    have fR := bR1.frozen
    have x1 : W.cell? ⟨Bx, 0, none⟩ = some (.int .i64 x.1) := by simp [World.cell?, bX]
    have x2 : W.cell? ⟨Bx, 1, none⟩ = some (.int .i64 x.2) := by simp [World.cell?, bX]
    by_cases h12 : pre.length = 12
    · have hb : ((pre.length : Int) == 12) = true := by simp [h12]
      gi_wp2
      exact ⟨(KeepsOthers.setCell _ _ _).from _, ⟨⟨rfl, by simp; omega⟩, bR1.set _⟩, hB1.setCell (p := ⟨w.heap.size, 0, none⟩) (Nat.le_refl _) _⟩
    · have hb : ((pre.length : Int) == 12) = false := by simp; omega
      have hsW := hB1.size
      gi_wp2_with (gi_at_builtin; refine wpListIn_append_lies _ rfl _ _ 23 rfl w.heap.size 25 i0 (.agg #[.int .i64 0, .int .i64 0]) 2 16 Tryd.underlying23 hi hz0 hz1 hz2 rfl (by decide) _ _ _ rfl (hrow1.alloc _) ⟨W.heap.size, 0, none⟩ 1 1 [.int .i64 x.1, .int .i64 x.2] rfl rfl (two_new _ _ _ _) (by simp [Value.oneCell']) (by omega) (by unfold maxLen; omega) (by omega) (by simp; omega) (W.heap.size + 1) (by simp) ?_; intro g' cap' w1 hown' hgrow hat hltg; have hkept := kept_append bO1 (by decide) hrow1 hsW (by omega) hown' hgrow hat hltg (R := w.heap.size); obtain ⟨hv1, hv2, hr2, hk2, hb2⟩ := bO1.appended (by decide) hrow1 hsW (by omega) hown' hgrow; have hc1 := hv1.cell; have hf1 := hv1.frozen)
      refine ⟨hk2.from _, hkept, ⟨⟨⟨_, hv2, ?_, by simp; omega⟩, ?_⟩, hB1.trans hb2⟩⟩
      · rw [List.length_append, flat_append]
        exact hr2
      · exact ((bR1.alloc _).kept hgrow (bR1.not_row (by decide) hrow1)).other (by omega) _
  case done =>
    rintro D ys W hD rfl ⟨⟨⟨v, bO1, hrow1, hlen1⟩, bR1⟩, hB1⟩ hK
    obtain ⟨ptr, cap, rfl⟩ := row_form hrow1
    have cO := bO1.cell
    have cR := bR1.cell
    have fR := bR1.frozen
    have HL : lst (fun i => p.testBit i) = rg (fun i => p.testBit i) 48 := if_pos hlen1
    have HL := Lib.hid HL
    clear hlen1
    gi_wp2
    have hK' := (KeepsOthers.setCell W ⟨w.heap.size, 0, none⟩ (.slice ptr (rg (fun i => p.testBit i) 48).length cap)).same D _ hK rfl
    refine ⟨by simp, .inl ⟨_, _, rfl, run_takeDeferred hK', ?_⟩⟩
    have hc5 := cell_kept (bR1.set (.slice ptr (rg (fun i => p.testBit i) 48).length cap)).cell (grownBy_putObj' _ D (.deferred none)) (fun r e => by cases e; exact ⟨_, hK', rfl⟩)
    have hr3 := hrow1.kept (grownBy_setCell' W w.heap.size (.slice ptr (rg (fun i => p.testBit i) 48).length cap)) (.inr (bR1.not_row (by decide) hrow1).symm)
    refine ⟨.slice ptr (rg (fun i => p.testBit i) 48).length cap, ?_, ⟨_, rfl, by rw [HL.out]; exact ownsRow_putObj hr3 _ hK' rfl, (hB1.setCell (p := ⟨w.heap.size, 0, none⟩) (Nat.le_refl _) _).trans (belowK_b (w := w) (Nat.le_refl _) _ D _ _ (by omega) hK' rfl rfl)⟩⟩
    simp [results, Tryd.f26, go_sem, hc5]
  case stop =>
    rintro D c pre W hD hpre ⟨⟨⟨rfl, hlen⟩, bR1⟩, hB1⟩ hK
    have HL : lst (fun i => p.testBit i) = [] := if_neg (by have := hpre.length_le; omega)
    have HL := Lib.hid HL
    gi_wp2
    refine ⟨by simp, .inl ⟨_, _, rfl, run_takeDeferred hK, ?_⟩⟩
    have hc5 := cell_kept bR1.cell (grownBy_putObj' _ D (.deferred none)) (fun r e => by cases e; exact ⟨_, hK, rfl⟩)
    refine ⟨.slice none 0 0, ?_, ⟨_, rfl, by rw [HL.out]; exact World.ownsRow_nil .., hB1.trans (belowK_b (w := w) (Nat.le_refl _) W D _ _ (by omega) hK rfl rfl)⟩⟩
    simp [results, Tryd.f26, go_sem, hc5]

end Go.Proofs.YteglfdcoeogilaaDoor
