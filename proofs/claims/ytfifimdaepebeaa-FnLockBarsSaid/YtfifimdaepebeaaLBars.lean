/-
  The iterator over the values that an ordered list has somewhere in a range (values, and its function literal), for every loop body.
  barred: is a conflict anywhere in a range of an ordered list?
  The iterator over the other clients that stand in the way (locks.bars, and its function literal), for every loop body; locks.free.
-/
import Derived.Test.YtfifimdaepebeaaChg
import Derived.RangeFuncNested
import Derived.RangeFuncBound
import Derived.RangeFuncCalls
import Derived.RangeFuncLeaves
import Derived.Shelf.Abstract
import Derived.OwnWalkIn
import Derived.TacticsInMore
import Derived.LoopNIn
import Derived.LoopIn
import Derived.BigRegionIn
namespace Go.Proofs.Ytfifimdaepebeaa
open Go.RowKit

attribute [local go_sem] Oper.semAt_some

/-- The values of the runs that are somewhere in a range. -/
def vsR (lo hi : Int) (R : List RunT) : List Int := (R.filter (mtgB lo hi)).map (·.2.2)
theorem vsR_yes {lo hi : Int} {R : List RunT} {k : Nat} (h : k < R.length) (hm : mtgB lo hi (R.getD k r0) = true) : vsR lo hi (R.take (k + 1)) = vsR lo hi (R.take k) ++ [(R.getD k r0).2.2] := by
  have hg : R.getD k r0 = R[k] := by rw [List.getD_eq_getElem?_getD, List.getElem?_eq_getElem h]; rfl
  rw [hg] at hm ⊢
  unfold vsR
  rw [List.take_add_one, List.getElem?_eq_getElem h, Option.toList_some, List.filter_append]
  simp [hm]
theorem vsR_no {lo hi : Int} {R : List RunT} {k : Nat} (h : k < R.length) (hm : mtgB lo hi (R.getD k r0) = false) : vsR lo hi (R.take (k + 1)) = vsR lo hi (R.take k) := by
  have hg : R.getD k r0 = R[k] := by rw [List.getD_eq_getElem?_getD, List.getElem?_eq_getElem h]; rfl
  rw [hg] at hm
  unfold vsR
  rw [List.take_add_one, List.getElem?_eq_getElem h, Option.toList_some, List.filter_append]
  simp [hm]
theorem vsR_len (lo hi : Int) (R : List RunT) (k : Nat) : (vsR lo hi (R.take k)).length ≤ k := by
  unfold vsR
  rw [List.length_map]
  refine Nat.le_trans (List.length_filter_le _ _) ?_
  rw [List.length_take]; omega
theorem vsR_pre (lo hi : Int) (R : List RunT) (k : Nat) : vsR lo hi (R.take k) <+: vsR lo hi R := by
  have : R = R.take k ++ R.drop k := (List.take_append_drop k R).symm
  conv => rhs; rw [this]
  unfold vsR
  rw [List.filter_append, List.map_append]
  exact List.prefix_append _ _

set_option maxRecDepth 100000 in
set_option maxHeartbeats 4000000 in
theorem vals_in (n : Nat) (hn : 1 ≤ n) (l Bo Bs g cap : Nat) (R : List RunT) (lo hi : Int) (hl : R.length ≤ 100) (Kp : World → World → Prop)
    (hKo : ∀ A B, Kp A B → A.cell? ⟨Bo, 0, none⟩ = some (.slice (some ⟨g, 0, none⟩) R.length cap) → B.cell? ⟨Bo, 0, none⟩ = some (.slice (some ⟨g, 0, none⟩) R.length cap))
    (hKs : ∀ A B, Kp A B → Box2 A Bs lo hi → Box2 B Bs lo hi) (hKg : ∀ A B, Kp A B → OwnAt A g cap R → OwnAt B g cap R) (hKz : ∀ A B, Kp A B → A.heap.size ≤ B.heap.size) (J Jx : List Int → World → Prop)
    (hY : ∀ pre x W, J pre W → pre.length < 100 → YieldAt Fence.wide (n - 1) Try.prog l #[.int .i64 x] W fun e W' =>
      (e = .returned (.bool true) ∧ J (pre ++ [x]) W' ∧ Kp W W') ∨ (e = .returned (.bool false) ∧ Jx (pre ++ [x]) W'))
    (W : World) (hJ : AbidesFrom W.heap.size J) (bo : W.cell? ⟨Bo, 0, none⟩ = some (.slice (some ⟨g, 0, none⟩) R.length cap)) (bs : Box2 W Bs lo hi) (og : OwnAt W g cap R) (hJ0 : J [] W) :
    CallsIn Fence.wide n Try.prog 83 #[.func (.yield l) #[] #[], .pointer (some ⟨Bo, 0, none⟩), .pointer (some ⟨Bs, 0, none⟩)] W fun e W' => (∃ v, e = .returned v) ∧
      ((∃ ys, ys = vsR lo hi R ∧ J ys W') ∨ (∃ pre, pre <+: vsR lo hi R ∧ Jx pre W')) := by
  have HJ := Lib.hid hJ
  have HY := Lib.hid hY
  have HKo := Lib.hid hKo
  have HKs := Lib.hid hKs
  have HKg := Lib.hid hKg
  have HKz := Lib.hid hKz
  have HBO : Hid (W.cell? ⟨Bo, 0, none⟩ = some (.slice (some ⟨g, 0, none⟩) R.length cap)) := bo
  have HBS := Lib.hid bs
  have HOG := Lib.hid og
  obtain ⟨hc1, hc2⟩ := og.cap
  clear hJ hY hKo hKs hKg hKz bs og
  refine callsIn_of_wp Try.func83 rfl trivial ?_ rfl
  simp only [Try.ntmps83, List.size_toArray, List.length_cons, List.length_nil, Nat.reduceAdd, Nat.reduceSub, Array.replicate_succ, Array.replicate_zero, List.push_toArray, List.append_toArray, List.nil_append, List.cons_append]
  gi_wp2
  gi_loopw [8] (fun s8 wr => ∃ k : Nat, s8 = .int .i64 k ∧ k ≤ R.length ∧ J (vsR lo hi (R.take k)) wr ∧ Hid (Box2 wr Bs lo hi) ∧ Hid (OwnAt wr g cap R) ∧ W.heap.size ≤ wr.heap.size ∧ Hid (wr.cell? ⟨Bo, 0, none⟩ = some (.slice (some ⟨g, 0, none⟩) R.length cap)))
    (fun s8 wr => R.length - (intOf s8).toNat)
  case atStart => exact ⟨0, rfl, Nat.zero_le _, hJ0, HBS, HOG, Nat.le_refl _, HBO⟩
  case round =>
    obtain ⟨k, rfl, hk, hJs, HS1, HO1, hsz, HB1⟩ := hrel
    clear bo
    by_cases hlt : k < R.length
    · obtain ⟨s1, s2, -, -⟩ := id HS1.out
      obtain ⟨c1, c2, c3⟩ := HO1.out.cells hlt
      have hgl := HO1.out.lt
      have hbl := World.block_lt_of_cell? wr _ s1
      have HYes := Lib.hid (vsR_yes (lo := lo) (hi := hi) hlt)
      have HNo := Lib.hid (vsR_no (lo := lo) (hi := hi) hlt)
      have HLn := Lib.hid (vsR_len lo hi R k)
      have HPr := Lib.hid (vsR_pre lo hi R (k + 1))
      generalize R.getD k r0 = r at *
      obtain ⟨rl, rh, rv⟩ := r
      simp only at c1 c2 c3
      have hal : Below wr.heap.size wr (wr.alloc (.cells #[.int .i64 rl, .int .i64 rh, .int .i64 rv] 101)) := (Below.refl _ _).alloc (Nat.le_refl _) _
      have K1 := Lib.hid (fun W => meetI_any rl rh lo hi W)
      have K2 := Lib.hid (fun W => implSpanOk_any (mx rl lo) (mn rh hi) W)
      by_cases hm : spanOkB (mx rl lo) (mn rh hi) = true
      · have HE := Lib.hid (HYes.out hm)
        rw [hm] at K2
        have hlen : (vsR lo hi (R.take k)).length < 100 := by have := HLn.out; omega
        clear HYes HNo hm
        gi_wp2_with fail
        refine ⟨trivial, (callsIn_wide.2 (K1.out _)).mono ?_⟩; rintro e w3 ⟨rfl, hb3⟩
        have e3 := hal.trans (hb3.mono hal.size)
        have b1 := cell_keep hb3 (show (wr.alloc (.cells #[.int .i64 rl, .int .i64 rh, .int .i64 rv] 101)).cell? ⟨wr.heap.size, 2, none⟩ = some (.int .i64 rv) by go_simp)
        gi_wp2_with fail
        refine ⟨trivial, (callsIn_wide.2 (K2.out _)).mono ?_⟩; rintro e w4 ⟨rfl, hb4⟩
        have e4 := e3.trans (hb4.mono e3.size)
        have b2 := cell_keep hb4 b1
        have hJ1 := HJ.out _ wr _ none hJs ⟨e4.os, e4.tape, e4.output, e4.size, fun i hi _ => e4.block i hi⟩ (fun r e => by cases e)
        obtain ⟨fn, tmps, assign, body, hy, hRR⟩ := HY.out _ rv _ hJ1 hlen
        have HRR := Lib.hid hRR
        have HS2 := Lib.hid (HS1.out.keep e4)
        have HO2 := Lib.hid (HO1.out.keep e4)
        have HB2 : Hid (w4.cell? ⟨Bo, 0, none⟩ = some (.slice (some ⟨g, 0, none⟩) R.length cap)) := cell_keep e4 HB1.out
        have hsz2 := e4.size
        clear hRR hJ1 s1 s2 c1 c2 c3 b1
        gi_wp2_with fail
        refine HRR.out.mono ?_
        rintro e W3 (⟨rfl, hJ3, hk3⟩ | ⟨rfl, hJx3⟩)
        · have HS3 := Lib.hid (HKs.out _ _ hk3 HS2.out)
          have HO3 := Lib.hid (HKg.out _ _ hk3 HO2.out)
          have HB3 : Hid (W3.cell? ⟨Bo, 0, none⟩ = some (.slice (some ⟨g, 0, none⟩) R.length cap)) := HKo.out _ _ hk3 HB2.out
          have hz3 := HKz.out _ _ hk3
          have HJ3 := Lib.hid hJ3
          clear hJ3 hk3 hy b2
          gi_wp2
          go_roundw
          case rel => exact ⟨k + 1, by go_num, by omega, by rw [HE.out]; exact HJ3.out, HS3, HO3, by omega, HB3⟩
          case measure => simp [intOf]; omega
        · gi_wp2
          refine bodyPost_ret (results_none rfl _ _ _) rfl ?_
          exact ⟨⟨_, rfl⟩, .inr ⟨_, by rw [← HE.out]; exact HPr.out, hJx3⟩⟩
      · replace hm : spanOkB (mx rl lo) (mn rh hi) = false := by simpa using hm
        have HE := Lib.hid (HNo.out hm)
        rw [hm] at K2
        clear HYes HNo hm
        gi_wp2_with fail
        refine ⟨trivial, (callsIn_wide.2 (K1.out _)).mono ?_⟩; rintro e w3 ⟨rfl, hb3⟩
        have e3 := hal.trans (hb3.mono hal.size)
        gi_wp2_with fail
        refine ⟨trivial, (callsIn_wide.2 (K2.out _)).mono ?_⟩; rintro e w4 ⟨rfl, hb4⟩
        have e4 := e3.trans (hb4.mono e3.size)
        have hJ1 := Lib.hid (HJ.out _ wr _ none hJs ⟨e4.os, e4.tape, e4.output, e4.size, fun i hi _ => e4.block i hi⟩ (fun r e => by cases e))
        have HS2 := Lib.hid (HS1.out.keep e4)
        have HO2 := Lib.hid (HO1.out.keep e4)
        have HB2 : Hid (w4.cell? ⟨Bo, 0, none⟩ = some (.slice (some ⟨g, 0, none⟩) R.length cap)) := cell_keep e4 HB1.out
        have hsz2 := e4.size
        clear s1 s2 c1 c2 c3
        gi_wp2_with fail
        refine ⟨(fun f h => by cases h), ?_⟩
        gi_wp2
        go_roundw
        case rel => exact ⟨k + 1, by go_num, by omega, by rw [HE.out]; exact hJ1.out, HS2, HO2, by omega, HB2⟩
        case measure => simp [intOf]; omega
    · obtain rfl : k = R.length := by omega
      have HF : Hid (vsR lo hi (R.take R.length) = vsR lo hi R) := by rw [List.take_length]; exact Lib.hid rfl
      gi_wp2
      go_end0
      exact ⟨⟨_, rfl⟩, .inl ⟨_, HF.out, hJs⟩⟩

theorem values_any (v : Value) (lo hi : Int) (w : World) (hv : ∃ a n c, v = .slice a n c) :
    Calls Try.prog 61 #[v, .agg #[.int .i64 lo, .int .i64 hi]] w fun e w' =>
      e = .returned (.func (.func 83) #[] #[.pointer (some ⟨w.heap.size, 0, none⟩), .pointer (some ⟨w.heap.size + 1, 0, none⟩)]) ∧
      w' = (w.alloc (.cells #[v] 74)).alloc (.cells #[.int .i64 lo, .int .i64 hi] 25) := by
  obtain ⟨a, n, c, rfl⟩ := hv
  go_enter Try.func61, Try.ntmps61
  go_wp2
  go_ret
  exact ⟨rfl, rfl⟩

theorem box_below {n b : Nat} {A B : World} {x y : Int} (h : Below n A B) (hb : b < n) (k : Box2 A b x y) : Box2 B b x y := by
  obtain ⟨h0, h1, h2, h3⟩ := k
  exact ⟨(h.cell (p := ⟨b, 0, none⟩) hb).trans h0, (h.cell (p := ⟨b, 1, none⟩) hb).trans h1, (h.frozen (p := ⟨b, 0, none⟩) hb).trans h2, (h.frozen (p := ⟨b, 1, none⟩) hb).trans h3⟩

/-- The iterator as the law for a range over a function asks it: a round keeps all that lay below n₀. -/
theorem vals_stops (n : Nat) (hn : 1 ≤ n) (Bo Bs g cap n₀ : Nat) (R : List RunT) (lo hi : Int) (hl : R.length ≤ 100) (w : World) (bo : w.cell? ⟨Bo, 0, none⟩ = some (.slice (some ⟨g, 0, none⟩) R.length cap)) (bs : Box2 w Bs lo hi) (og : OwnAt w g cap R) (h1 : Bo < n₀) (h2 : Bs < n₀) (h3 : g < n₀) :
    SeqStopsK Fence.wide n Try.prog 83 #[.pointer (some ⟨Bo, 0, none⟩), .pointer (some ⟨Bs, 0, none⟩)] (fun x : Int => #[Value.int .i64 x]) (Below n₀) (fun ys => ys = vsR lo hi R) (fun pre => pre <+: vsR lo hi R) 100 w := fun l J Jx W hW hJ _ hY hJ0 =>
  vals_in n hn l Bo Bs g cap R lo hi hl (Below n₀) (fun _ _ h k => (h.cell (p := ⟨Bo, 0, none⟩) h1).trans k) (fun _ _ h k => box_below h h2 k) (fun _ _ h k => k.block (h.block g h3)) (fun _ _ h => h.size) J Jx hY W hJ (cell_keep hW bo) (bs.keep hW) (og.keep hW) hJ0

end Go.Proofs.Ytfifimdaepebeaa

namespace Go.Proofs.Ytfifimdaepebeaa
open Go.RowKit

attribute [local go_sem] Oper.semAt_some

set_option maxHeartbeats 400000 in
theorem mbars_any (m want : Int) (w : World) :
    Calls Try.prog 99 #[.int .i64 m, .int .i64 want] w fun e w' => e = .returned (.bool (brs m want)) ∧ w = w' := by
  by_cases h1 : m = 2 <;> by_cases h2 : m = 1 <;> by_cases h3 : want = 2
  all_goals
    first
    | (exfalso; omega)
    | (have d1 : (m == 2) = decide (m = 2) := rfl
       have e1 : (m == 2) = true ∨ (m == 2) = false := by cases (m == 2) <;> simp
       go_enter Try.func99, Try.ntmps99
       go_wp2
       go_ret
       exact ⟨ret_bool (by unfold brs; simp [h1, h2, h3]), rfl⟩)

def anyB (l : List Int) (want : Int) : Bool := l.any fun m => brs m want
theorem anyB_no {l : List Int} {want : Int} (h : ∀ x ∈ l, brs x want = false) : anyB l want = false := by
  unfold anyB; rw [List.any_eq_false]; intro x hx; rw [h x hx]; simp
theorem anyB_yes {l p : List Int} {want : Int} (hp : p <+: l) (h : ∃ x ∈ p, brs x want = true) : anyB l want = true := by
  obtain ⟨x, hx, hb⟩ := h
  unfold anyB; rw [List.any_eq_true]
  exact ⟨x, hp.subset hx, hb⟩

set_option maxRecDepth 100000 in
set_option maxHeartbeats 4000000 in
theorem barred_any (g cap : Nat) (R : List RunT) (want lo hi : Int) (w : World) (h : OwnAt w g cap R) (hl : R.length ≤ 100) :
    Calls Try.prog 89 #[(.slice (some ⟨g, 0, none⟩) R.length cap), .int .i64 want, .agg #[.int .i64 lo, .int .i64 hi]] w fun e w' => e = .returned (.bool (anyB (vsR lo hi R) want)) ∧ Below w.heap.size w w' := by
  have hgw := h.lt
  refine (callsIn_wide (n := 4)).1 ?_
  refine callsIn_of_wp_marks Try.func89 rfl trivial ?_ rfl
  simp only [Try.ntmps89, List.size_toArray, List.length_cons, List.length_nil, Nat.reduceAdd, Nat.reduceSub, Array.replicate_succ, Array.replicate_zero, List.push_toArray, List.append_toArray, List.nil_append, List.cons_append]
  have HO := Lib.hid h
  clear h
  gi_wp2_with fail
  refine ⟨trivial, (callsIn_wide.2 (values_any (.slice (some ⟨g, 0, none⟩) R.length cap) lo hi _ ⟨_, _, _, rfl⟩)).mono ?_⟩; rintro e w' ⟨rfl, rfl⟩
  simp only [World.size_alloc]
  obtain ⟨W0, hW0⟩ : ∃ W0, ((((w.alloc (.cells #[.int .i64 want] 56)).alloc (.cells #[.int .i64 lo, .int .i64 hi] 25)).alloc (.cells #[.bool false] 4)).alloc (.cells #[(.slice (some ⟨g, 0, none⟩) R.length cap)] 74)).alloc (.cells #[.int .i64 lo, .int .i64 hi] 25) = W0 := ⟨_, rfl⟩
  have hB0 : Below w.heap.size w W0 := by rw [← hW0]; exact (((((Below.refl _ w).alloc (Nat.le_refl _) _).alloc (by simp) _).alloc (by simp; omega) _).alloc (by simp; omega) _).alloc (by simp; omega) _
  have hsz : W0.heap.size = w.heap.size + 5 := by rw [← hW0]; simp
  have bW : Boxed W0 w.heap.size 56 (.int .i64 want) := by rw [← hW0]; exact ((((Boxed.new w 56 (.int .i64 want)).alloc _).alloc _).alloc _).alloc _
  have bR : Boxed W0 (w.heap.size + 1 + 1) 4 (.bool false) := by
    rw [← hW0]
    have := ((Boxed.new ((w.alloc (.cells #[.int .i64 want] 56)).alloc (.cells #[.int .i64 lo, .int .i64 hi] 25)) 4 (.bool false)).alloc (.cells #[(.slice (some ⟨g, 0, none⟩) R.length cap)] 74)).alloc (.cells #[.int .i64 lo, .int .i64 hi] 25)
    simpa using this
  have bO : W0.cell? ⟨w.heap.size + 1 + 1 + 1, 0, none⟩ = some (.slice (some ⟨g, 0, none⟩) R.length cap) := by
    rw [← hW0]
    have := ((Boxed.new (((w.alloc (.cells #[.int .i64 want] 56)).alloc (.cells #[.int .i64 lo, .int .i64 hi] 25)).alloc (.cells #[.bool false] 4)) 74 (.slice (some ⟨g, 0, none⟩) R.length cap)).alloc (.cells #[.int .i64 lo, .int .i64 hi] 25)).cell
    simpa using this
  have bS : Box2 W0 (w.heap.size + 1 + 1 + 1 + 1) lo hi := by
    rw [← hW0]
    have := new_box ((((w.alloc (.cells #[.int .i64 want] 56)).alloc (.cells #[.int .i64 lo, .int .i64 hi] 25)).alloc (.cells #[.bool false] 4)).alloc (.cells #[(.slice (some ⟨g, 0, none⟩) R.length cap)] 74)) lo hi 25
    simpa using this
  have hO0 := HO.out.keep hB0
  rw [hW0]
  clear hW0
  gi_wp2_with fail
  refine wpIn_rangeFunc_ownH rfl (by omega) (gf := 83) (lb := #[.pointer (some ⟨w.heap.size + 1 + 1 + 1, 0, none⟩), .pointer (some ⟨w.heap.size + 1 + 1 + 1 + 1, 0, none⟩)]) rfl trivial (enters_of Try.func83 (by kernel_rfl) rfl)
    (vals_stops (4 - 1) (by omega) (w.heap.size + 1 + 1 + 1) (w.heap.size + 1 + 1 + 1 + 1) g cap W0.heap.size R lo hi hl W0 bO bS hO0 (by omega) (by omega) (by omega)) belowK_t (belowK_b (Nat.le_refl _)) (Below.refl _ _) (fun _ => rfl)
    (fun pre W => (∀ x ∈ pre, brs x want = false) ∧ Below W0.heap.size W0 W)
    (fun c pre W => ((c = .ret ∧ ∃ x ∈ pre, brs x want = true) ∧ Boxed W (w.heap.size + 1 + 1) 4 (.bool true)) ∧ Below w.heap.size w W)
    (OwnFrom.and (ownFrom_pure _ _) (ownFrom_below (Nat.le_refl _) (Nat.le_refl _)))
    (fun c => OwnFrom.and (OwnFrom.and (ownFrom_pure _ _) (Own.from (boxed_own _ _ _) _)) (ownFrom_below (Nat.le_refl _) (by omega)))
    ⟨fun _ h => (by cases h), Below.refl _ _⟩
    (fun x a' _ => a' = { tmps := #[(.slice (some ⟨g, 0, none⟩) R.length cap), .int .i64 want, .agg #[.int .i64 lo, .int .i64 hi], undef, .pointer (some ⟨w.heap.size, 0, none⟩), .pointer (some ⟨w.heap.size + 1, 0, none⟩), .pointer (some ⟨w.heap.size + 1 + 1, 0, none⟩), .int .i64 x, (.slice (some ⟨g, 0, none⟩) R.length cap), .agg #[.int .i64 lo, .int .i64 hi], .func (.func 83) #[] #[.pointer (some ⟨w.heap.size + 1 + 1 + 1, 0, none⟩), .pointer (some ⟨w.heap.size + 1 + 1 + 1 + 1, 0, none⟩)], .int .i64 x, undef, undef, undef], defers := [] })
    (fun x a' _ X Y row hs hg hr => hs)
    ?assign ?body ?done ?stop
  case assign =>
    rintro l pre x W K hI hK
    gi_wp2
    exact hK _ _ ((KeepsOthers.refl _).from _) (Below.refl _ W) hI rfl
  case body =>
    rintro l pre x a' W hl' hr ⟨hP, hB1⟩ rfl hlt
    have cW := (show Boxed W w.heap.size 56 (.int .i64 want) from (hB1.block _ (by omega)).trans bW).cell
    have bR1 : Boxed W (w.heap.size + 1 + 1) 4 (.bool false) := (hB1.block _ (by omega)).trans bR
    have cR := bR1.cell
    have fR := bR1.frozen
    have hB2 := hB0.trans (hB1.mono hB0.size)
    have KM := Lib.hid (mbars_any x want W)
    have HPP := Lib.hid hP
    clear hP
    generalize hq : brs x want = q at *
    cases q
    · gi_wp2_with fail
      refine ⟨trivial, (callsIn_wide.2 KM.out).mono ?_⟩; rintro e w' ⟨rfl, rfl⟩
      gi_wp2
      refine ⟨(KeepsOthers.refl _).from _, Below.refl _ _, fun y hy => ?_, hB1⟩
      rcases List.mem_append.1 hy with hy | hy
      · exact HPP.out y hy
      · obtain rfl : y = x := by simpa using hy
        exact hq
    · gi_wp2_with fail
      refine ⟨trivial, (callsIn_wide.2 KM.out).mono ?_⟩; rintro e w' ⟨rfl, rfl⟩
      gi_wp2
      exact ⟨(KeepsOthers.setCell _ _ _).from _, ⟨⟨rfl, x, by simp, hq⟩, bR1.set _⟩, hB2.setCell (p := ⟨w.heap.size + 1 + 1, 0, none⟩) (by show w.heap.size ≤ w.heap.size + 1 + 1; omega) _⟩
  case done =>
    rintro D ys W hD rfl ⟨hP, hB1⟩ hK
    have bR1 : Boxed W (w.heap.size + 1 + 1) 4 (.bool false) := (hB1.block _ (by omega)).trans bR
    have cR := bR1.cell
    have fR := bR1.frozen
    have hB2 := hB0.trans (hB1.mono hB0.size)
    have HE := Lib.hid (anyB_no hP)
    clear hP
    gi_wp2
    have hK' := (KeepsOthers.setCell W ⟨w.heap.size + 1 + 1, 0, none⟩ (.bool false)).same D _ hK rfl
    refine ⟨by simp, .inl ⟨_, _, rfl, run_takeDeferred hK', ?_⟩⟩
    have hc5 := cell_kept (bR1.set (.bool false)).cell (grownBy_putObj' _ D (.deferred none)) (fun r e => by cases e; exact ⟨_, hK', rfl⟩)
    refine ⟨.bool false, ?_, ⟨by rw [HE.out], (hB2.setCell (p := ⟨w.heap.size + 1 + 1, 0, none⟩) (by show w.heap.size ≤ w.heap.size + 1 + 1; omega) _).trans (belowK_b (w := W0) (by omega) _ D _ _ hD hK' rfl rfl)⟩⟩
    simp [results, Try.f89, go_sem, hc5]
  case stop =>
    rintro D c pre W hD hpre ⟨⟨⟨rfl, hx⟩, bR1⟩, hB1⟩ hK
    have HE := Lib.hid (anyB_yes hpre hx)
    clear hx
    gi_wp2
    refine ⟨by simp, .inl ⟨_, _, rfl, run_takeDeferred hK, ?_⟩⟩
    have hc5 := cell_kept bR1.cell (grownBy_putObj' _ D (.deferred none)) (fun r e => by cases e; exact ⟨_, hK, rfl⟩)
    refine ⟨.bool true, ?_, ⟨by rw [HE.out], hB1.trans (belowK_b (w := W0) (by omega) W D _ _ hD hK rfl rfl)⟩⟩
    simp [results, Try.f89, go_sem, hc5]

end Go.Proofs.Ytfifimdaepebeaa

namespace Go.Proofs.Ytfifimdaepebeaa
open Go.RowKit

attribute [local go_sem] Oper.semAt_some

/-- A slice of ordered lists in memory: block gl holds m slice values, each a row of the call's own. -/
def LksAt (w : World) (gl m : Nat) (gs cs : Nat → Nat) (Rs : Nat → List RunT) : Prop :=
  ∀ i, i < m → w.cell? ⟨gl, i, none⟩ = some (.slice (some ⟨gs i, 0, none⟩) (Rs i).length (cs i)) ∧ OwnAt w (gs i) (cs i) (Rs i)
theorem LksAt.below {n₀ : Nat} {A B : World} {gl m : Nat} {gs cs : Nat → Nat} {Rs : Nat → List RunT} (h : LksAt A gl m gs cs Rs) (hb : Below n₀ A B) (h5 : gl < n₀) (h6 : ∀ i, i < m → gs i < n₀) : LksAt B gl m gs cs Rs := fun i hi =>
  ⟨(hb.cell (p := ⟨gl, i, none⟩) h5).trans (h i hi).1, (h i hi).2.block (hb.block _ (h6 i hi))⟩
theorem LksAt.lt {A : World} {gl m : Nat} {gs cs : Nat → Nat} {Rs : Nat → List RunT} (h : LksAt A gl m gs cs Rs) (hm : 0 < m) : gl < A.heap.size ∧ ∀ i, i < m → gs i < A.heap.size :=
  ⟨World.block_lt_of_cell? A _ (h 0 hm).1, fun i hi => (h i hi).2.lt⟩
theorem LksAt.keep {A B : World} {gl m : Nat} {gs cs : Nat → Nat} {Rs : Nat → List RunT} (h : LksAt A gl m gs cs Rs) (hb : Below A.heap.size A B) : LksAt B gl m gs cs Rs := fun i hi =>
  ⟨cell_keep hb (h i hi).1, (h i hi).2.keep hb⟩

/-- The numbers under k, but who, where b holds. -/
def brK (who : Int) (b : Nat → Bool) : Nat → List Int
  | 0 => []
  | k + 1 => if (k : Int) ≠ who ∧ b k = true then brK who b k ++ [(k : Int)] else brK who b k
theorem brK_len (who : Int) (b : Nat → Bool) : ∀ k, (brK who b k).length ≤ k
  | 0 => Nat.le_refl _
  | k + 1 => by
    have := brK_len who b k
    unfold brK
    split
    · simp; omega
    · omega
theorem brK_step (who : Int) (b : Nat → Bool) (k : Nat) : brK who b k <+: brK who b (k + 1) := by
  conv => rhs; unfold brK
  split
  · exact List.prefix_append _ _
  · exact List.prefix_rfl
theorem brK_pre (who : Int) (b : Nat → Bool) (k : Nat) : ∀ d, brK who b k <+: brK who b (k + d)
  | 0 => List.prefix_rfl
  | d + 1 => (brK_pre who b k d).trans (brK_step who b (k + d))

abbrev brOf (Rs : Nat → List RunT) (want lo hi : Int) (i : Nat) : Bool := anyB (vsR lo hi (Rs i)) want

set_option maxRecDepth 100000 in
set_option maxHeartbeats 4000000 in
theorem lbars_in (n : Nat) (hn : 1 ≤ n) (l Bl Bw Bm Bs gl cl m n₀ : Nat) (gs cs : Nat → Nat) (Rs : Nat → List RunT) (who want lo hi : Int) (hl : ∀ i, i < m → (Rs i).length ≤ 100) (hm : m ≤ 100) (hmc : m ≤ cl) (_hcl : cl ≤ 9223372036854775807)
    (J Jx : List Int → World → Prop)
    (hY : ∀ pre x W, J pre W → pre.length < 100 → YieldAt Fence.wide (n - 1) Try.prog l #[.int .i64 x] W fun e W' =>
      (e = .returned (.bool true) ∧ J (pre ++ [x]) W' ∧ Below n₀ W W') ∨ (e = .returned (.bool false) ∧ Jx (pre ++ [x]) W'))
    (W : World) (hJ : AbidesFrom W.heap.size J) (fl : W.cell? ⟨Bl, 0, none⟩ = some (.slice (some ⟨gl, 0, none⟩) m cl)) (fw : W.cell? ⟨Bw, 0, none⟩ = some (.int .i64 who)) (fm : W.cell? ⟨Bm, 0, none⟩ = some (.int .i64 want)) (fs : Box2 W Bs lo hi) (ft : LksAt W gl m gs cs Rs)
    (_h1 : Bl < n₀) (h2 : Bw < n₀) (h3 : Bm < n₀) (h4 : Bs < n₀) (h5 : gl < n₀) (h6 : ∀ i, i < m → gs i < n₀) (h0 : n₀ ≤ W.heap.size) (hJ0 : J [] W) :
    CallsIn Fence.wide n Try.prog 88 #[.func (.yield l) #[] #[], .pointer (some ⟨Bl, 0, none⟩), .pointer (some ⟨Bw, 0, none⟩), .pointer (some ⟨Bm, 0, none⟩), .pointer (some ⟨Bs, 0, none⟩)] W fun e W' => (∃ v, e = .returned v) ∧
      ((∃ ys, ys = brK who (brOf Rs want lo hi) m ∧ J ys W') ∨ (∃ pre, pre <+: brK who (brOf Rs want lo hi) m ∧ Jx pre W')) := by
  have HJ := Lib.hid hJ
  have HY := Lib.hid hY
  have HL := Lib.hid hl
  have HT := Lib.hid ft
  have HS := Lib.hid fs
  have HG := Lib.hid h6
  have Hfl := Lib.hid fl
  have Hfw := Lib.hid fw
  have Hfm := Lib.hid fm
  clear hJ hY hl ft fs h6 fw fm
  refine callsIn_of_wp Try.func88 rfl trivial ?_ rfl
  simp only [Try.ntmps88, List.size_toArray, List.length_cons, List.length_nil, Nat.reduceAdd, Nat.reduceSub, Array.replicate_succ, Array.replicate_zero, List.push_toArray, List.append_toArray, List.nil_append, List.cons_append]
  gi_wp2
  clear fl
  gi_loopw [10] (fun s10 wr => ∃ k : Nat, s10 = .int .i64 k ∧ k ≤ m ∧ J (brK who (brOf Rs want lo hi) k) wr ∧ Hid (Below n₀ W wr) ∧ W.heap.size ≤ wr.heap.size)
    (fun s10 wr => m - (intOf s10).toNat)
  case atStart => exact ⟨0, rfl, Nat.zero_le _, hJ0, Lib.hid (Below.refl _ _), Nat.le_refl _⟩
  case round =>
    obtain ⟨k, rfl, hk, hJs, HB, hsz⟩ := hrel
    by_cases hlt : k < m
    · have c1 := (HB.out.cell (p := ⟨gl, k, none⟩) h5).trans (HT.out k hlt).1
      have c2 := (HB.out.cell (p := ⟨Bw, 0, none⟩) h2).trans Hfw.out
      have c3 := (HB.out.cell (p := ⟨Bm, 0, none⟩) h3).trans Hfm.out
      obtain ⟨s1, s2, -, -⟩ := box_below HB.out h4 HS.out
      have KB := Lib.hid (barred_any (gs k) (cs k) (Rs k) want lo hi wr ((HT.out k hlt).2.block (HB.out.block _ (HG.out k hlt))) (HL.out k hlt))
      have HLn := Lib.hid (brK_len who (brOf Rs want lo hi) k)
      have HPr : Hid (brK who (brOf Rs want lo hi) (k + 1) <+: brK who (brOf Rs want lo hi) m) := by
        have := brK_pre who (brOf Rs want lo hi) (k + 1) (m - (k + 1))
        rw [show k + 1 + (m - (k + 1)) = m by omega] at this
        exact this
      have HSt : Hid (brK who (brOf Rs want lo hi) (k + 1) = if (k : Int) ≠ who ∧ brOf Rs want lo hi k = true then brK who (brOf Rs want lo hi) k ++ [(k : Int)] else brK who (brOf Rs want lo hi) k) := rfl
      by_cases hw : (k : Int) = who
      · have HE : Hid (brK who (brOf Rs want lo hi) (k + 1) = brK who (brOf Rs want lo hi) k) := by show _ = _; rw [HSt.out, if_neg (fun c => c.1 hw)]
        have hd : ((k : Int) != who) = false := by simp [hw]
        clear HSt hw KB
        gi_wp2_with fail
        repeat ((first | refine ⟨trivial, ?_⟩ | refine ⟨(fun f h => by cases h), ?_⟩); gi_wp2_with fail)
        gi_wp2
        go_roundw
        case rel => exact ⟨k + 1, by go_num, by omega, by rw [HE.out]; exact hJs, HB, hsz⟩
        case measure => simp [intOf]; omega
      · have hd : ((k : Int) != who) = true := by simpa using hw
        generalize hq : brOf Rs want lo hi k = q at *
        rw [show anyB (vsR lo hi (Rs k)) want = q from hq] at KB
        cases q
        · have HE : Hid (brK who (brOf Rs want lo hi) (k + 1) = brK who (brOf Rs want lo hi) k) := by show _ = _; rw [HSt.out, if_neg (fun c => by cases c.2)]
          clear HSt hw hq
          gi_wp2_with fail
          refine ⟨trivial, (callsIn_wide.2 KB.out).mono ?_⟩; rintro e w4 ⟨rfl, e4⟩
          have hJ1 := Lib.hid (HJ.out _ wr _ none hJs ⟨e4.os, e4.tape, e4.output, e4.size, fun i hi _ => e4.block i hi⟩ (fun r e => by cases e))
          have HB4 := Lib.hid (HB.out.trans (e4.mono (Nat.le_trans h0 hsz)))
          have hsz4 := e4.size
          clear c1 c2 c3 s1 s2
          gi_wp2_with fail
          repeat ((first | refine ⟨trivial, ?_⟩ | refine ⟨(fun f h => by cases h), ?_⟩); gi_wp2_with fail)
          gi_wp2
          go_roundw
          case rel => exact ⟨k + 1, by go_num, by omega, by rw [HE.out]; exact hJ1.out, HB4, by omega⟩
          case measure => simp [intOf]; omega
        · have HE : Hid (brK who (brOf Rs want lo hi) (k + 1) = brK who (brOf Rs want lo hi) k ++ [(k : Int)]) := by show _ = _; rw [HSt.out, if_pos ⟨hw, rfl⟩]
          have hlen : (brK who (brOf Rs want lo hi) k).length < 100 := by have := HLn.out; omega
          clear HSt hw hq
          gi_wp2_with fail
          refine ⟨trivial, (callsIn_wide.2 KB.out).mono ?_⟩; rintro e w4 ⟨rfl, e4⟩
          have hJ1 := HJ.out _ wr _ none hJs ⟨e4.os, e4.tape, e4.output, e4.size, fun i hi _ => e4.block i hi⟩ (fun r e => by cases e)
          obtain ⟨fn, tmps, assign, body, hy, hRR⟩ := HY.out _ (k : Int) _ hJ1 hlen
          have HRR := Lib.hid hRR
          have HB4 := Lib.hid (HB.out.trans (e4.mono (Nat.le_trans h0 hsz)))
          have hsz4 := e4.size
          clear hRR hJ1 c1 c2 c3 s1 s2
          gi_wp2_with fail
          refine HRR.out.mono ?_
          rintro e W3 (⟨rfl, hJ3, hk3⟩ | ⟨rfl, hJx3⟩)
          · have HJ3 := Lib.hid hJ3
            have HB5 := Lib.hid (HB4.out.trans hk3)
            have hsz5 := hk3.size
            clear hJ3 hk3 hy
            gi_wp2
            go_roundw
            case rel => exact ⟨k + 1, by go_num, by omega, by rw [HE.out]; exact HJ3.out, HB5, by omega⟩
            case measure => simp [intOf]; omega
          · gi_wp2
            refine bodyPost_ret (results_none rfl _ _ _) rfl ?_
            exact ⟨⟨_, rfl⟩, .inr ⟨_, by rw [← HE.out]; exact HPr.out, hJx3⟩⟩
    · obtain rfl : k = m := by omega
      gi_wp2
      go_end0
      exact ⟨⟨_, rfl⟩, .inl ⟨_, rfl, hJs⟩⟩

theorem lbars_stops (n : Nat) (hn : 1 ≤ n) (Bl Bw Bm Bs gl cl m n₀ : Nat) (gs cs : Nat → Nat) (Rs : Nat → List RunT) (who want lo hi : Int) (hl : ∀ i, i < m → (Rs i).length ≤ 100) (hm : m ≤ 100) (hmc : m ≤ cl) (hcl : cl ≤ 9223372036854775807) (w : World) (fl : w.cell? ⟨Bl, 0, none⟩ = some (.slice (some ⟨gl, 0, none⟩) m cl)) (fw : w.cell? ⟨Bw, 0, none⟩ = some (.int .i64 who)) (fm : w.cell? ⟨Bm, 0, none⟩ = some (.int .i64 want)) (fs : Box2 w Bs lo hi) (ft : LksAt w gl m gs cs Rs)
    (h1 : Bl < n₀) (h2 : Bw < n₀) (h3 : Bm < n₀) (h4 : Bs < n₀) (h5 : gl < n₀) (h6 : ∀ i, i < m → gs i < n₀) (h0 : n₀ ≤ w.heap.size) :
    SeqStopsK Fence.wide n Try.prog 88 #[.pointer (some ⟨Bl, 0, none⟩), .pointer (some ⟨Bw, 0, none⟩), .pointer (some ⟨Bm, 0, none⟩), .pointer (some ⟨Bs, 0, none⟩)] (fun x : Int => #[Value.int .i64 x]) (Below n₀) (fun ys => ys = brK who (brOf Rs want lo hi) m) (fun pre => pre <+: brK who (brOf Rs want lo hi) m) 100 w := fun l J Jx W hW hJ _ hY hJ0 =>
  lbars_in n hn l Bl Bw Bm Bs gl cl m n₀ gs cs Rs who want lo hi hl hm hmc hcl J Jx hY W hJ (cell_keep hW fl) (cell_keep hW fw) (cell_keep hW fm) (fs.keep hW) (ft.keep hW) h1 h2 h3 h4 h5 h6 (Nat.le_trans h0 hW.size) hJ0

theorem bars_any (v : Value) (who want lo hi : Int) (w : World) (hv : ∃ a n c, v = .slice a n c) :
    Calls Try.prog 66 #[v, .int .i64 who, .int .i64 want, .agg #[.int .i64 lo, .int .i64 hi]] w fun e w' =>
      e = .returned (.func (.func 88) #[] #[.pointer (some ⟨w.heap.size, 0, none⟩), .pointer (some ⟨w.heap.size + 1, 0, none⟩), .pointer (some ⟨w.heap.size + 1 + 1, 0, none⟩), .pointer (some ⟨w.heap.size + 1 + 1 + 1, 0, none⟩)]) ∧
      w' = (((w.alloc (.cells #[v] 67)).alloc (.cells #[.int .i64 who] 3)).alloc (.cells #[.int .i64 want] 56)).alloc (.cells #[.int .i64 lo, .int .i64 hi] 25) := by
  obtain ⟨a, n, c, rfl⟩ := hv
  go_enter Try.func66, Try.ntmps66
  go_wp2
  go_ret
  exact ⟨rfl, rfl⟩

/-- What bars leaves in memory: the four boxes that its iterator has captured. -/
theorem bars_boxes (gl cl m : Nat) (who want lo hi : Int) (w W : World) (hW : (((w.alloc (.cells #[(.slice (some ⟨gl, 0, none⟩) m cl)] 67)).alloc (.cells #[.int .i64 who] 3)).alloc (.cells #[.int .i64 want] 56)).alloc (.cells #[.int .i64 lo, .int .i64 hi] 25) = W) :
    W.cell? ⟨w.heap.size, 0, none⟩ = some (.slice (some ⟨gl, 0, none⟩) m cl) ∧ W.cell? ⟨w.heap.size + 1, 0, none⟩ = some (.int .i64 who) ∧ W.cell? ⟨w.heap.size + 1 + 1, 0, none⟩ = some (.int .i64 want) ∧ Box2 W (w.heap.size + 1 + 1 + 1) lo hi ∧ W.heap.size = w.heap.size + 4 ∧ Below w.heap.size w W := by
  subst hW
  refine ⟨?_, ?_, ?_, ?_, by simp, ((((Below.refl _ w).alloc (Nat.le_refl _) _).alloc (by simp) _).alloc (by simp; omega) _).alloc (by simp; omega) _⟩
  · exact ((((Boxed.new w 67 (.slice (some ⟨gl, 0, none⟩) m cl)).alloc _).alloc _).alloc _).cell
  · have := (((Boxed.new (w.alloc (.cells #[(.slice (some ⟨gl, 0, none⟩) m cl)] 67)) 3 (.int .i64 who)).alloc (.cells #[.int .i64 want] 56)).alloc (.cells #[.int .i64 lo, .int .i64 hi] 25)).cell
    simpa using this
  · have := ((Boxed.new ((w.alloc (.cells #[(.slice (some ⟨gl, 0, none⟩) m cl)] 67)).alloc (.cells #[.int .i64 who] 3)) 56 (.int .i64 want)).alloc (.cells #[.int .i64 lo, .int .i64 hi] 25)).cell
    simpa using this
  · have := new_box (((w.alloc (.cells #[(.slice (some ⟨gl, 0, none⟩) m cl)] 67)).alloc (.cells #[.int .i64 who] 3)).alloc (.cells #[.int .i64 want] 56)) lo hi 25
    simpa using this

set_option maxRecDepth 100000 in
set_option maxHeartbeats 4000000 in
theorem free_any (gl cl m : Nat) (gs cs : Nat → Nat) (Rs : Nat → List RunT) (who want lo hi : Int) (hl : ∀ i, i < m → (Rs i).length ≤ 100) (hm : m ≤ 100) (hm0 : 0 < m) (hmc : m ≤ cl) (hcl : cl ≤ 9223372036854775807) (w : World) (ft : LksAt w gl m gs cs Rs) :
    Calls Try.prog 81 #[(.slice (some ⟨gl, 0, none⟩) m cl), .int .i64 who, .int .i64 want, .agg #[.int .i64 lo, .int .i64 hi]] w fun e w' => e = .returned (.bool (decide (brK who (brOf Rs want lo hi) m = []))) ∧ Below w.heap.size w w' := by
  obtain ⟨hgl, hgs⟩ := ft.lt hm0
  refine (callsIn_wide (n := 4)).1 ?_
  refine callsIn_of_wp_marks Try.func81 rfl trivial ?_ rfl
  simp only [Try.ntmps81, List.size_toArray, List.length_cons, List.length_nil, Nat.reduceAdd, Nat.reduceSub, Array.replicate_succ, Array.replicate_zero, List.push_toArray, List.append_toArray, List.nil_append, List.cons_append]
  have HT := Lib.hid ft
  clear ft
  gi_wp2_with fail
  refine ⟨trivial, (callsIn_wide.2 (bars_any (.slice (some ⟨gl, 0, none⟩) m cl) who want lo hi _ ⟨_, _, _, rfl⟩)).mono ?_⟩; rintro e w' ⟨rfl, rfl⟩
  simp only [World.size_alloc]
  obtain ⟨w1, hw1⟩ : ∃ w1, (w.alloc (.cells #[.int .i64 lo, .int .i64 hi] 25)).alloc (.cells #[.bool false] 4) = w1 := ⟨_, rfl⟩
  have hB1 : Below w.heap.size w w1 := by rw [← hw1]; exact ((Below.refl _ w).alloc (Nat.le_refl _) _).alloc (by simp) _
  have hz1 : w1.heap.size = w.heap.size + 1 + 1 := by rw [← hw1]; simp
  have bR1 : Boxed w1 (w.heap.size + 1) 4 (.bool false) := by
    rw [← hw1]
    have := Boxed.new (w.alloc (.cells #[.int .i64 lo, .int .i64 hi] 25)) 4 (.bool false)
    simpa using this
  rw [hw1]
  clear hw1
  obtain ⟨W0, hW0⟩ : ∃ W0, (((w1.alloc (.cells #[(.slice (some ⟨gl, 0, none⟩) m cl)] 67)).alloc (.cells #[.int .i64 who] 3)).alloc (.cells #[.int .i64 want] 56)).alloc (.cells #[.int .i64 lo, .int .i64 hi] 25) = W0 := ⟨_, rfl⟩
  obtain ⟨f1, f2, f3, f4, hsz, hbb⟩ := bars_boxes gl cl m who want lo hi w1 W0 hW0
  rw [hz1] at f1 f2 f3 f4 hsz
  have hB0 : Below w.heap.size w W0 := hB1.trans (hbb.mono hB1.size)
  have bR : Boxed W0 (w.heap.size + 1) 4 (.bool false) := (hbb.block _ (by omega)).trans bR1
  have ft0 := HT.out.keep hB0
  rw [hW0]
  clear hW0 bR1
  gi_wp2_with fail
  refine wpIn_rangeFunc_ownH rfl (by omega) (gf := 88) (lb := #[.pointer (some ⟨w.heap.size + 1 + 1, 0, none⟩), .pointer (some ⟨w.heap.size + 1 + 1 + 1, 0, none⟩), .pointer (some ⟨w.heap.size + 1 + 1 + 1 + 1, 0, none⟩), .pointer (some ⟨w.heap.size + 1 + 1 + 1 + 1 + 1, 0, none⟩)]) rfl trivial (enters_of Try.func88 (by kernel_rfl) rfl)
    (lbars_stops (4 - 1) (by omega) (w.heap.size + 1 + 1) (w.heap.size + 1 + 1 + 1) (w.heap.size + 1 + 1 + 1 + 1) (w.heap.size + 1 + 1 + 1 + 1 + 1) gl cl m W0.heap.size gs cs Rs who want lo hi hl hm hmc hcl W0 f1 f2 f3 f4 ft0 (by omega) (by omega) (by omega) (by omega) (by omega) (fun i hi => by have := hgs i hi; omega) (Nat.le_refl _)) belowK_t (belowK_b (Nat.le_refl _)) (Below.refl _ _) (fun _ => rfl)
    (fun pre W => pre = [] ∧ Below W0.heap.size W0 W)
    (fun c pre W => ((c = .ret ∧ pre ≠ []) ∧ Boxed W (w.heap.size + 1) 4 (.bool false)) ∧ Below w.heap.size w W)
    (OwnFrom.and (ownFrom_pure _ _) (ownFrom_below (Nat.le_refl _) (Nat.le_refl _)))
    (fun c => OwnFrom.and (OwnFrom.and (ownFrom_pure _ _) (Own.from (boxed_own _ _ _) _)) (ownFrom_below (Nat.le_refl _) (by omega)))
    ⟨rfl, Below.refl _ _⟩
    (fun x a' _ => a' = { tmps := #[(.slice (some ⟨gl, 0, none⟩) m cl), .int .i64 who, .int .i64 want, .agg #[.int .i64 lo, .int .i64 hi], undef, undef, undef, .pointer (some ⟨w.heap.size, 0, none⟩), .pointer (some ⟨w.heap.size + 1, 0, none⟩), (.slice (some ⟨gl, 0, none⟩) m cl), .int .i64 who, .int .i64 want, .agg #[.int .i64 lo, .int .i64 hi], .func (.func 88) #[] #[.pointer (some ⟨w.heap.size + 1 + 1, 0, none⟩), .pointer (some ⟨w.heap.size + 1 + 1 + 1, 0, none⟩), .pointer (some ⟨w.heap.size + 1 + 1 + 1 + 1, 0, none⟩), .pointer (some ⟨w.heap.size + 1 + 1 + 1 + 1 + 1, 0, none⟩)], .int .i64 x], defers := [] })
    (fun x a' _ X Y row hs hg hr => hs)
    ?assign ?body ?done ?stop
  case assign =>
    rintro l pre x W K hI hK
    gi_wp2
    exact hK _ _ ((KeepsOthers.refl _).from _) (Below.refl _ W) hI (by simp)
  case body =>
    rintro l pre x a' W hl' hr ⟨hP, hBW⟩ rfl hlt
    have bR2 : Boxed W (w.heap.size + 1) 4 (.bool false) := (hBW.block _ (by omega)).trans bR
    have cR := bR2.cell
    have fR := bR2.frozen
    have hB2 := hB0.trans (hBW.mono hB0.size)
    clear hP
    gi_wp2
    exact ⟨(KeepsOthers.setCell _ _ _).from _, ⟨⟨rfl, by simp⟩, bR2.set _⟩, hB2.setCell (p := ⟨w.heap.size + 1, 0, none⟩) (by show w.heap.size ≤ w.heap.size + 1; omega) _⟩
  case done =>
    rintro D ys W hD hys ⟨hP, hBW⟩ hK
    have bR2 : Boxed W (w.heap.size + 1) 4 (.bool false) := (hBW.block _ (by omega)).trans bR
    have cR := bR2.cell
    have fR := bR2.frozen
    have hB2 := hB0.trans (hBW.mono hB0.size)
    have HE : Hid (decide (brK who (brOf Rs want lo hi) m = []) = true) := by show _ = _; rw [← hys, hP]; rfl
    clear hP hys
    gi_wp2
    have hK' := (KeepsOthers.setCell W ⟨w.heap.size + 1, 0, none⟩ (.bool true)).same D _ hK rfl
    refine ⟨by simp, .inl ⟨_, _, rfl, run_takeDeferred hK', ?_⟩⟩
    have hc5 := cell_kept (bR2.set (.bool true)).cell (grownBy_putObj' _ D (.deferred none)) (fun r e => by cases e; exact ⟨_, hK', rfl⟩)
    refine ⟨.bool true, ?_, ⟨by rw [HE.out], (hB2.setCell (p := ⟨w.heap.size + 1, 0, none⟩) (by show w.heap.size ≤ w.heap.size + 1; omega) _).trans (belowK_b (w := W0) (by omega) _ D _ _ hD hK' rfl rfl)⟩⟩
    simp [results, Try.f81, go_sem, hc5]
  case stop =>
    rintro D c pre W hD hpre ⟨⟨⟨rfl, hx⟩, bR2⟩, hBW⟩ hK
    have HE : Hid (decide (brK who (brOf Rs want lo hi) m = []) = false) := by
      refine decide_eq_false (fun e => ?_)
      rw [e] at hpre
      exact hx (List.prefix_nil.1 hpre)
    clear hx hpre
    gi_wp2
    refine ⟨by simp, .inl ⟨_, _, rfl, run_takeDeferred hK, ?_⟩⟩
    have hc5 := cell_kept bR2.cell (grownBy_putObj' _ D (.deferred none)) (fun r e => by cases e; exact ⟨_, hK, rfl⟩)
    refine ⟨.bool false, ?_, ⟨by rw [HE.out], hBW.trans (belowK_b (w := W0) (by omega) W D _ _ hD hK rfl rfl)⟩⟩
    simp [results, Try.f81, go_sem, hc5]

end Go.Proofs.Ytfifimdaepebeaa
