/-
  barred: is a conflict anywhere in a range of an ordered list?
-/
import Derived.Test.YteabigobnjebaaaVals
namespace Go.Proofs.Yteabigobnjebaaa
open Go.RowKit

attribute [local go_sem] Oper.semAt_some

set_option maxHeartbeats 400000 in
theorem mbars_any (m want : Int) (w : World) :
    Calls Try.prog 118 #[.int .i64 m, .int .i64 want] w fun e w' => e = .returned (.bool (brs m want)) ∧ w = w' := by
  by_cases h1 : m = 2 <;> by_cases h2 : m = 1 <;> by_cases h3 : want = 2
  all_goals
    first
    | (exfalso; omega)
    | (have d1 : (m == 2) = decide (m = 2) := rfl
       have e1 : (m == 2) = true ∨ (m == 2) = false := by cases (m == 2) <;> simp
       go_enter Try.func118, Try.ntmps118
       go_wp2
       go_ret
       exact ⟨ret_bool (by unfold brs; simp [h1, h2, h3]), rfl⟩)

def anyB (l : List Int) (want : Int) : Bool := l.any fun m => brs m want
theorem anyB_no {l : List Int} {want : Int} (h : ∀ x ∈ l, brs x want = false) : anyB l want = false := by
  unfold anyB; rw [List.any_eq_false]; intro x hx; rw [h x hx]; simp
theorem anyB_yes {l p : List Int} {want : Int} (hp : p <+: l) (h : ∃ x ∈ p, brs x want = true) : anyB l want = true := by
  obtain ⟨x, hx, hb⟩ := h
  unfold anyB; rw [List.any_eq_true]
  exact ⟨x, hp.subset hx, hb⟩

set_option maxRecDepth 100000 in
set_option maxHeartbeats 4000000 in
theorem barred_any (g cap : Nat) (R : List RunT) (want lo hi : Int) (w : World) (h : OwnAt w g cap R) (hl : R.length ≤ 100) :
    Calls Try.prog 102 #[(.slice (some ⟨g, 0, none⟩) R.length cap), .int .i64 want, .agg #[.int .i64 lo, .int .i64 hi]] w fun e w' => e = .returned (.bool (anyB (vsR lo hi R) want)) ∧ Below w.heap.size w w' := by
  have hgw := h.lt
  refine (callsIn_wide (n := 4)).1 ?_
  refine callsIn_of_wp_marks Try.func102 rfl trivial ?_ rfl
  simp only [Try.ntmps102, List.size_toArray, List.length_cons, List.length_nil, Nat.reduceAdd, Nat.reduceSub, Array.replicate_succ, Array.replicate_zero, List.push_toArray, List.append_toArray, List.nil_append, List.cons_append]
  have HO := Lib.hid h
  clear h
  gi_wp2_with fail
  refine ⟨trivial, (callsIn_wide.2 (values_any (.slice (some ⟨g, 0, none⟩) R.length cap) lo hi _ ⟨_, _, _, rfl⟩)).mono ?_⟩; rintro e w' ⟨rfl, rfl⟩
  simp only [World.size_alloc]
  obtain ⟨W0, hW0⟩ : ∃ W0, ((((w.alloc (.cells #[.int .i64 want] 94)).alloc (.cells #[.int .i64 lo, .int .i64 hi] 43)).alloc (.cells #[.bool false] 4)).alloc (.cells #[(.slice (some ⟨g, 0, none⟩) R.length cap)] 92)).alloc (.cells #[.int .i64 lo, .int .i64 hi] 43) = W0 := ⟨_, rfl⟩
  have hB0 : Below w.heap.size w W0 := by rw [← hW0]; exact (((((Below.refl _ w).alloc (Nat.le_refl _) _).alloc (by simp) _).alloc (by simp; omega) _).alloc (by simp; omega) _).alloc (by simp; omega) _
  have hsz : W0.heap.size = w.heap.size + 5 := by rw [← hW0]; simp
  have bW : Boxed W0 w.heap.size 94 (.int .i64 want) := by rw [← hW0]; exact ((((Boxed.new w 94 (.int .i64 want)).alloc _).alloc _).alloc _).alloc _
  have bR : Boxed W0 (w.heap.size + 1 + 1) 4 (.bool false) := by
    rw [← hW0]
    have := ((Boxed.new ((w.alloc (.cells #[.int .i64 want] 94)).alloc (.cells #[.int .i64 lo, .int .i64 hi] 43)) 4 (.bool false)).alloc (.cells #[(.slice (some ⟨g, 0, none⟩) R.length cap)] 92)).alloc (.cells #[.int .i64 lo, .int .i64 hi] 43)
    simpa using this
  have bO : W0.cell? ⟨w.heap.size + 1 + 1 + 1, 0, none⟩ = some (.slice (some ⟨g, 0, none⟩) R.length cap) := by
    rw [← hW0]
    have := ((Boxed.new (((w.alloc (.cells #[.int .i64 want] 94)).alloc (.cells #[.int .i64 lo, .int .i64 hi] 43)).alloc (.cells #[.bool false] 4)) 92 (.slice (some ⟨g, 0, none⟩) R.length cap)).alloc (.cells #[.int .i64 lo, .int .i64 hi] 43)).cell
    simpa using this
  have bS : Box2 W0 (w.heap.size + 1 + 1 + 1 + 1) lo hi := by
    rw [← hW0]
    have := new_box ((((w.alloc (.cells #[.int .i64 want] 94)).alloc (.cells #[.int .i64 lo, .int .i64 hi] 43)).alloc (.cells #[.bool false] 4)).alloc (.cells #[(.slice (some ⟨g, 0, none⟩) R.length cap)] 92)) lo hi 43
    simpa using this
  have hO0 := HO.out.keep hB0
  rw [hW0]
  clear hW0
  gi_wp2_with fail
  refine wpIn_rangeFunc_ownH rfl (by omega) (gf := 98) (lb := #[.pointer (some ⟨w.heap.size + 1 + 1 + 1, 0, none⟩), .pointer (some ⟨w.heap.size + 1 + 1 + 1 + 1, 0, none⟩)]) rfl trivial (enters_of Try.func98 (by kernel_rfl) rfl)
    (vals_stops (4 - 1) (by omega) (w.heap.size + 1 + 1 + 1) (w.heap.size + 1 + 1 + 1 + 1) g cap W0.heap.size R lo hi hl W0 bO bS hO0 (by omega) (by omega) (by omega)) belowK_t (belowK_b (Nat.le_refl _)) (Below.refl _ _) (fun _ => rfl)
    (fun pre W => (∀ x ∈ pre, brs x want = false) ∧ Below W0.heap.size W0 W)
    (fun c pre W => ((c = .ret ∧ ∃ x ∈ pre, brs x want = true) ∧ Boxed W (w.heap.size + 1 + 1) 4 (.bool true)) ∧ Below w.heap.size w W)
    (OwnFrom.and (ownFrom_pure _ _) (ownFrom_below (Nat.le_refl _) (Nat.le_refl _)))
    (fun c => OwnFrom.and (OwnFrom.and (ownFrom_pure _ _) (Own.from (boxed_own _ _ _) _)) (ownFrom_below (Nat.le_refl _) (by omega)))
    ⟨fun _ h => (by cases h), Below.refl _ _⟩
    (fun x a' _ => a' = { tmps := #[(.slice (some ⟨g, 0, none⟩) R.length cap), .int .i64 want, .agg #[.int .i64 lo, .int .i64 hi], undef, .pointer (some ⟨w.heap.size, 0, none⟩), .pointer (some ⟨w.heap.size + 1, 0, none⟩), .pointer (some ⟨w.heap.size + 1 + 1, 0, none⟩), .int .i64 x, (.slice (some ⟨g, 0, none⟩) R.length cap), .agg #[.int .i64 lo, .int .i64 hi], .func (.func 98) #[] #[.pointer (some ⟨w.heap.size + 1 + 1 + 1, 0, none⟩), .pointer (some ⟨w.heap.size + 1 + 1 + 1 + 1, 0, none⟩)], .int .i64 x, undef, undef, undef], defers := [] })
    (fun x a' _ X Y row hs hg hr => hs)
    ?assign ?body ?done ?stop
  case assign =>
    rintro l pre x W K hI hK
    gi_wp2
    exact hK _ _ ((KeepsOthers.refl _).from _) (Below.refl _ W) hI rfl
  case body =>
    rintro l pre x a' W hl' hr ⟨hP, hB1⟩ rfl hlt
    have cW := (show Boxed W w.heap.size 94 (.int .i64 want) from (hB1.block _ (by omega)).trans bW).cell
    have bR1 : Boxed W (w.heap.size + 1 + 1) 4 (.bool false) := (hB1.block _ (by omega)).trans bR
    have cR := bR1.cell
    have fR := bR1.frozen
    have hB2 := hB0.trans (hB1.mono hB0.size)
    have KM := Lib.hid (mbars_any x want W)
    have HPP := Lib.hid hP
    clear hP
    generalize hq : brs x want = q at *
    cases q
    · gi_wp2_with fail
      refine ⟨trivial, (callsIn_wide.2 KM.out).mono ?_⟩; rintro e w' ⟨rfl, rfl⟩
      gi_wp2
      refine ⟨(KeepsOthers.refl _).from _, Below.refl _ _, fun y hy => ?_, hB1⟩
      rcases List.mem_append.1 hy with hy | hy
      · exact HPP.out y hy
      · obtain rfl : y = x := by simpa using hy
        exact hq
    · gi_wp2_with fail
      refine ⟨trivial, (callsIn_wide.2 KM.out).mono ?_⟩; rintro e w' ⟨rfl, rfl⟩
      gi_wp2
      exact ⟨(KeepsOthers.setCell _ _ _).from _, ⟨⟨rfl, x, by simp, hq⟩, bR1.set _⟩, hB2.setCell (p := ⟨w.heap.size + 1 + 1, 0, none⟩) (by show w.heap.size ≤ w.heap.size + 1 + 1; omega) _⟩
  case done =>
    rintro D ys W hD rfl ⟨hP, hB1⟩ hK
    have bR1 : Boxed W (w.heap.size + 1 + 1) 4 (.bool false) := (hB1.block _ (by omega)).trans bR
    have cR := bR1.cell
    have fR := bR1.frozen
    have hB2 := hB0.trans (hB1.mono hB0.size)
    have HE := Lib.hid (anyB_no hP)
    clear hP
    gi_wp2
    have hK' := (KeepsOthers.setCell W ⟨w.heap.size + 1 + 1, 0, none⟩ (.bool false)).same D _ hK rfl
    refine ⟨by simp, .inl ⟨_, _, rfl, run_takeDeferred hK', ?_⟩⟩
    have hc5 := cell_kept (bR1.set (.bool false)).cell (grownBy_putObj' _ D (.deferred none)) (fun r e => by cases e; exact ⟨_, hK', rfl⟩)
    refine ⟨.bool false, ?_, ⟨by rw [HE.out], (hB2.setCell (p := ⟨w.heap.size + 1 + 1, 0, none⟩) (by show w.heap.size ≤ w.heap.size + 1 + 1; omega) _).trans (belowK_b (w := W0) (by omega) _ D _ _ hD hK' rfl rfl)⟩⟩
    simp [results, Try.f102, go_sem, hc5]
  case stop =>
    rintro D c pre W hD hpre ⟨⟨⟨rfl, hx⟩, bR1⟩, hB1⟩ hK
    have HE := Lib.hid (anyB_yes hpre hx)
    clear hx
    gi_wp2
    refine ⟨by simp, .inl ⟨_, _, rfl, run_takeDeferred hK, ?_⟩⟩
    have hc5 := cell_kept bR1.cell (grownBy_putObj' _ D (.deferred none)) (fun r e => by cases e; exact ⟨_, hK, rfl⟩)
    refine ⟨.bool true, ?_, ⟨by rw [HE.out], hB1.trans (belowK_b (w := W0) (by omega) W D _ _ hD hK rfl rfl)⟩⟩
    simp [results, Try.f102, go_sem, hc5]

end Go.Proofs.Yteabigobnjebaaa
