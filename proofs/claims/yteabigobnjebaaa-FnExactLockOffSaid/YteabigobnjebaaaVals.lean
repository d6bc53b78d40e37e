/-
  The iterator over the values that an ordered list has somewhere in a range (values, and its function literal), for every loop body.
-/
import Derived.Test.YteabigobnjebaaaChg
import Derived.RangeFuncNested
import Derived.RangeFuncBound
import Derived.RangeFuncCalls
import Derived.RangeFuncLeaves
import Derived.Shelf.Abstract
import Derived.OwnWalkIn
import Derived.TacticsInMore
import Derived.LoopNIn
import Derived.LoopIn
import Derived.BigRegionIn
namespace Go.Proofs.Yteabigobnjebaaa
open Go.RowKit

attribute [local go_sem] Oper.semAt_some

/-- The values of the runs that are somewhere in a range. -/
def vsR (lo hi : Int) (R : List RunT) : List Int := (R.filter (mtgB lo hi)).map (·.2.2)
theorem vsR_yes {lo hi : Int} {R : List RunT} {k : Nat} (h : k < R.length) (hm : mtgB lo hi (R.getD k r0) = true) : vsR lo hi (R.take (k + 1)) = vsR lo hi (R.take k) ++ [(R.getD k r0).2.2] := by
  have hg : R.getD k r0 = R[k] := by rw [List.getD_eq_getElem?_getD, List.getElem?_eq_getElem h]; rfl
  rw [hg] at hm ⊢
  unfold vsR
  rw [List.take_add_one, List.getElem?_eq_getElem h, Option.toList_some, List.filter_append]
  simp [hm]
theorem vsR_no {lo hi : Int} {R : List RunT} {k : Nat} (h : k < R.length) (hm : mtgB lo hi (R.getD k r0) = false) : vsR lo hi (R.take (k + 1)) = vsR lo hi (R.take k) := by
  have hg : R.getD k r0 = R[k] := by rw [List.getD_eq_getElem?_getD, List.getElem?_eq_getElem h]; rfl
  rw [hg] at hm
  unfold vsR
  rw [List.take_add_one, List.getElem?_eq_getElem h, Option.toList_some, List.filter_append]
  simp [hm]
theorem vsR_len (lo hi : Int) (R : List RunT) (k : Nat) : (vsR lo hi (R.take k)).length ≤ k := by
  unfold vsR
  rw [List.length_map]
  refine Nat.le_trans (List.length_filter_le _ _) ?_
  rw [List.length_take]; omega
theorem vsR_pre (lo hi : Int) (R : List RunT) (k : Nat) : vsR lo hi (R.take k) <+: vsR lo hi R := by
  have : R = R.take k ++ R.drop k := (List.take_append_drop k R).symm
  conv => rhs; rw [this]
  unfold vsR
  rw [List.filter_append, List.map_append]
  exact List.prefix_append _ _

set_option maxRecDepth 100000 in
set_option maxHeartbeats 4000000 in
theorem vals_in (n : Nat) (hn : 1 ≤ n) (l Bo Bs g cap : Nat) (R : List RunT) (lo hi : Int) (hl : R.length ≤ 100) (Kp : World → World → Prop)
    (hKo : ∀ A B, Kp A B → A.cell? ⟨Bo, 0, none⟩ = some (.slice (some ⟨g, 0, none⟩) R.length cap) → B.cell? ⟨Bo, 0, none⟩ = some (.slice (some ⟨g, 0, none⟩) R.length cap))
    (hKs : ∀ A B, Kp A B → Box2 A Bs lo hi → Box2 B Bs lo hi) (hKg : ∀ A B, Kp A B → OwnAt A g cap R → OwnAt B g cap R) (hKz : ∀ A B, Kp A B → A.heap.size ≤ B.heap.size) (J Jx : List Int → World → Prop)
    (hY : ∀ pre x W, J pre W → pre.length < 100 → YieldAt Fence.wide (n - 1) Try.prog l #[.int .i64 x] W fun e W' =>
      (e = .returned (.bool true) ∧ J (pre ++ [x]) W' ∧ Kp W W') ∨ (e = .returned (.bool false) ∧ Jx (pre ++ [x]) W'))
    (W : World) (hJ : AbidesFrom W.heap.size J) (bo : W.cell? ⟨Bo, 0, none⟩ = some (.slice (some ⟨g, 0, none⟩) R.length cap)) (bs : Box2 W Bs lo hi) (og : OwnAt W g cap R) (hJ0 : J [] W) :
    CallsIn Fence.wide n Try.prog 98 #[.func (.yield l) #[] #[], .pointer (some ⟨Bo, 0, none⟩), .pointer (some ⟨Bs, 0, none⟩)] W fun e W' => (∃ v, e = .returned v) ∧
      ((∃ ys, ys = vsR lo hi R ∧ J ys W') ∨ (∃ pre, pre <+: vsR lo hi R ∧ Jx pre W')) := by
  have HJ := Lib.hid hJ
  have HY := Lib.hid hY
  have HKo := Lib.hid hKo
  have HKs := Lib.hid hKs
  have HKg := Lib.hid hKg
  have HKz := Lib.hid hKz
  have HBO : Hid (W.cell? ⟨Bo, 0, none⟩ = some (.slice (some ⟨g, 0, none⟩) R.length cap)) := bo
  have HBS := Lib.hid bs
  have HOG := Lib.hid og
  obtain ⟨hc1, hc2⟩ := og.cap
  clear hJ hY hKo hKs hKg hKz bs og
  refine callsIn_of_wp Try.func98 rfl trivial ?_ rfl
  simp only [Try.ntmps98, List.size_toArray, List.length_cons, List.length_nil, Nat.reduceAdd, Nat.reduceSub, Array.replicate_succ, Array.replicate_zero, List.push_toArray, List.append_toArray, List.nil_append, List.cons_append]
  gi_wp2
  gi_loopw [8] (fun s8 wr => ∃ k : Nat, s8 = .int .i64 k ∧ k ≤ R.length ∧ J (vsR lo hi (R.take k)) wr ∧ Hid (Box2 wr Bs lo hi) ∧ Hid (OwnAt wr g cap R) ∧ W.heap.size ≤ wr.heap.size ∧ Hid (wr.cell? ⟨Bo, 0, none⟩ = some (.slice (some ⟨g, 0, none⟩) R.length cap)))
    (fun s8 wr => R.length - (intOf s8).toNat)
  case atStart => exact ⟨0, rfl, Nat.zero_le _, hJ0, HBS, HOG, Nat.le_refl _, HBO⟩
  case round =>
    obtain ⟨k, rfl, hk, hJs, HS1, HO1, hsz, HB1⟩ := hrel
    clear bo
    by_cases hlt : k < R.length
    · obtain ⟨s1, s2, -, -⟩ := id HS1.out
      obtain ⟨c1, c2, c3⟩ := HO1.out.cells hlt
      have hgl := HO1.out.lt
      have hbl := World.block_lt_of_cell? wr _ s1
      have HYes := Lib.hid (vsR_yes (lo := lo) (hi := hi) hlt)
      have HNo := Lib.hid (vsR_no (lo := lo) (hi := hi) hlt)
      have HLn := Lib.hid (vsR_len lo hi R k)
      have HPr := Lib.hid (vsR_pre lo hi R (k + 1))
      generalize R.getD k r0 = r at *
      obtain ⟨rl, rh, rv⟩ := r
      simp only at c1 c2 c3
      have hal : Below wr.heap.size wr (wr.alloc (.cells #[.int .i64 rl, .int .i64 rh, .int .i64 rv] 126)) := (Below.refl _ _).alloc (Nat.le_refl _) _
      have K1 := Lib.hid (fun W => meetI_any rl rh lo hi W)
      have K2 := Lib.hid (fun W => implSpanOk_any (mx rl lo) (mn rh hi) W)
      by_cases hm : spanOkB (mx rl lo) (mn rh hi) = true
      · have HE := Lib.hid (HYes.out hm)
        rw [hm] at K2
        have hlen : (vsR lo hi (R.take k)).length < 100 := by have := HLn.out; omega
        clear HYes HNo hm
        gi_wp2_with fail
        refine ⟨trivial, (callsIn_wide.2 (K1.out _)).mono ?_⟩; rintro e w3 ⟨rfl, hb3⟩
        have e3 := hal.trans (hb3.mono hal.size)
        have b1 := cell_keep hb3 (show (wr.alloc (.cells #[.int .i64 rl, .int .i64 rh, .int .i64 rv] 126)).cell? ⟨wr.heap.size, 2, none⟩ = some (.int .i64 rv) by go_simp)
        gi_wp2_with fail
        refine ⟨trivial, (callsIn_wide.2 (K2.out _)).mono ?_⟩; rintro e w4 ⟨rfl, hb4⟩
        have e4 := e3.trans (hb4.mono e3.size)
        have b2 := cell_keep hb4 b1
        have hJ1 := HJ.out _ wr _ none hJs ⟨e4.os, e4.tape, e4.output, e4.size, fun i hi _ => e4.block i hi⟩ (fun r e => by cases e)
        obtain ⟨fn, tmps, assign, body, hy, hRR⟩ := HY.out _ rv _ hJ1 hlen
        have HRR := Lib.hid hRR
        have HS2 := Lib.hid (HS1.out.keep e4)
        have HO2 := Lib.hid (HO1.out.keep e4)
        have HB2 : Hid (w4.cell? ⟨Bo, 0, none⟩ = some (.slice (some ⟨g, 0, none⟩) R.length cap)) := cell_keep e4 HB1.out
        have hsz2 := e4.size
        clear hRR hJ1 s1 s2 c1 c2 c3 b1
        gi_wp2_with fail
        refine HRR.out.mono ?_
        rintro e W3 (⟨rfl, hJ3, hk3⟩ | ⟨rfl, hJx3⟩)
        · have HS3 := Lib.hid (HKs.out _ _ hk3 HS2.out)
          have HO3 := Lib.hid (HKg.out _ _ hk3 HO2.out)
          have HB3 : Hid (W3.cell? ⟨Bo, 0, none⟩ = some (.slice (some ⟨g, 0, none⟩) R.length cap)) := HKo.out _ _ hk3 HB2.out
          have hz3 := HKz.out _ _ hk3
          have HJ3 := Lib.hid hJ3
          clear hJ3 hk3 hy b2
          gi_wp2
          go_roundw
          case rel => exact ⟨k + 1, by go_num, by omega, by rw [HE.out]; exact HJ3.out, HS3, HO3, by omega, HB3⟩
          case measure => simp [intOf]; omega
        · gi_wp2
          refine bodyPost_ret (results_none rfl _ _ _) rfl ?_
          exact ⟨⟨_, rfl⟩, .inr ⟨_, by rw [← HE.out]; exact HPr.out, hJx3⟩⟩
      · replace hm : spanOkB (mx rl lo) (mn rh hi) = false := by simpa using hm
        have HE := Lib.hid (HNo.out hm)
        rw [hm] at K2
        clear HYes HNo hm
        gi_wp2_with fail
        refine ⟨trivial, (callsIn_wide.2 (K1.out _)).mono ?_⟩; rintro e w3 ⟨rfl, hb3⟩
        have e3 := hal.trans (hb3.mono hal.size)
        gi_wp2_with fail
        refine ⟨trivial, (callsIn_wide.2 (K2.out _)).mono ?_⟩; rintro e w4 ⟨rfl, hb4⟩
        have e4 := e3.trans (hb4.mono e3.size)
        have hJ1 := Lib.hid (HJ.out _ wr _ none hJs ⟨e4.os, e4.tape, e4.output, e4.size, fun i hi _ => e4.block i hi⟩ (fun r e => by cases e))
        have HS2 := Lib.hid (HS1.out.keep e4)
        have HO2 := Lib.hid (HO1.out.keep e4)
        have HB2 : Hid (w4.cell? ⟨Bo, 0, none⟩ = some (.slice (some ⟨g, 0, none⟩) R.length cap)) := cell_keep e4 HB1.out
        have hsz2 := e4.size
        clear s1 s2 c1 c2 c3
        gi_wp2_with fail
        refine ⟨(fun f h => by cases h), ?_⟩
        gi_wp2
        go_roundw
        case rel => exact ⟨k + 1, by go_num, by omega, by rw [HE.out]; exact hJ1.out, HS2, HO2, by omega, HB2⟩
        case measure => simp [intOf]; omega
    · obtain rfl : k = R.length := by omega
      have HF : Hid (vsR lo hi (R.take R.length) = vsR lo hi R) := by rw [List.take_length]; exact Lib.hid rfl
      gi_wp2
      go_end0
      exact ⟨⟨_, rfl⟩, .inl ⟨_, HF.out, hJs⟩⟩

theorem values_any (v : Value) (lo hi : Int) (w : World) (hv : ∃ a n c, v = .slice a n c) :
    Calls Try.prog 62 #[v, .agg #[.int .i64 lo, .int .i64 hi]] w fun e w' =>
      e = .returned (.func (.func 98) #[] #[.pointer (some ⟨w.heap.size, 0, none⟩), .pointer (some ⟨w.heap.size + 1, 0, none⟩)]) ∧
      w' = (w.alloc (.cells #[v] 92)).alloc (.cells #[.int .i64 lo, .int .i64 hi] 43) := by
  obtain ⟨a, n, c, rfl⟩ := hv
  go_enter Try.func62, Try.ntmps62
  go_wp2
  go_ret
  exact ⟨rfl, rfl⟩

theorem box_below {n b : Nat} {A B : World} {x y : Int} (h : Below n A B) (hb : b < n) (k : Box2 A b x y) : Box2 B b x y := by
  obtain ⟨h0, h1, h2, h3⟩ := k
  exact ⟨(h.cell (p := ⟨b, 0, none⟩) hb).trans h0, (h.cell (p := ⟨b, 1, none⟩) hb).trans h1, (h.frozen (p := ⟨b, 0, none⟩) hb).trans h2, (h.frozen (p := ⟨b, 1, none⟩) hb).trans h3⟩

/-- The iterator as the law for a range over a function asks it: a round keeps all that lay below n₀. -/
theorem vals_stops (n : Nat) (hn : 1 ≤ n) (Bo Bs g cap n₀ : Nat) (R : List RunT) (lo hi : Int) (hl : R.length ≤ 100) (w : World) (bo : w.cell? ⟨Bo, 0, none⟩ = some (.slice (some ⟨g, 0, none⟩) R.length cap)) (bs : Box2 w Bs lo hi) (og : OwnAt w g cap R) (h1 : Bo < n₀) (h2 : Bs < n₀) (h3 : g < n₀) :
    SeqStopsK Fence.wide n Try.prog 98 #[.pointer (some ⟨Bo, 0, none⟩), .pointer (some ⟨Bs, 0, none⟩)] (fun x : Int => #[Value.int .i64 x]) (Below n₀) (fun ys => ys = vsR lo hi R) (fun pre => pre <+: vsR lo hi R) 100 w := fun l J Jx W hW hJ _ hY hJ0 =>
  vals_in n hn l Bo Bs g cap R lo hi hl (Below n₀) (fun _ _ h k => (h.cell (p := ⟨Bo, 0, none⟩) h1).trans k) (fun _ _ h k => box_below h h2 k) (fun _ _ h k => k.block (h.block g h3)) (fun _ _ h => h.size) J Jx hY W hJ (cell_keep hW bo) (bs.keep hW) (og.keep hW) hJ0

end Go.Proofs.Yteabigobnjebaaa
