/-
  The iterator (Lay.parts's function literal), as PartIter; each part comes with what it is good for.
-/
import Derived.Test.YtjbkahfbaploaaaPartIter
import Derived.Test.YtjbkahfbaploaaaPartChain
namespace Go.Proofs.Ytjbkahfbaploaaa
open Go.RowKit

attribute [local go_sem] Oper.semAt_some

abbrev GPart (size many hi : Int) := {x : PartT // GoodAt size many hi x.2.2.2 x ∧ 0 ≤ x.2.2.2}

theorem good_step {size many hi f e : Int} (hy : layOkB size many = true) (h0 : 0 ≤ f) (h1 : f < e) (h2 : e ≤ f - f % size + size) (h3 : e ≤ hi) (h4 : hi ≤ 48) : GoodAt size many hi f (objF size many f, atF size many f, atF size many f + e - f, f) := by
  have b := at_bd (p := f) hy h0
  obtain ⟨c1, -, -, -⟩ := layOkB_iff.1 hy
  have r := rem_bd (n := f) (k := size) (by omega)
  refine ⟨rfl, b.2.2.1, ?_, ?_, ?_, ?_, fun j j0 j1 => ?_⟩
  · show atF size many f < atF size many f + e - f; omega
  · show atF size many f + e - f ≤ 48; omega
  · show atF size many f + e - f - atF size many f ≤ size; omega
  · show f + (atF size many f + e - f - atF size many f) ≤ hi; omega
  · replace j1 : j < atF size many f + e - f - atF size many f := j1
    obtain ⟨k, rfl⟩ : ∃ k : Nat, j = k := ⟨j.toNat, by omega⟩
    exact unit_at (many := many) hy k (by omega)

set_option maxRecDepth 100000 in
set_option maxHeartbeats 4000000 in
theorem parts_inG (n : Nat) (hn : 1 ≤ n) (l Bs Bl : Nat) (size many lo hi : Int) (hy : layOkB size many = true) (h0 : 0 ≤ lo) (h1 : lo ≤ hi) (h2 : hi ≤ 48) (Kp : World → World → Prop)
    (hKs : ∀ A B, Kp A B → Box2 A Bs lo hi → Box2 B Bs lo hi) (hKl : ∀ A B, Kp A B → Box2 A Bl size many → Box2 B Bl size many) (hKz : ∀ A B, Kp A B → A.heap.size ≤ B.heap.size) (J Jx : List (GPart size many hi) → World → Prop)
    (hY : ∀ pre x W, J pre W → pre.length < 48 → YieldAt Fence.wide (n - 1) Try.prog l #[.agg #[.int .i64 x.1.1, .int .i64 x.1.2.1, .int .i64 x.1.2.2.1, .int .i64 x.1.2.2.2]] W fun e W' =>
      (e = .returned (.bool true) ∧ J (pre ++ [x]) W' ∧ Kp W W') ∨ (e = .returned (.bool false) ∧ Jx (pre ++ [x]) W'))
    (W : World) (hJ : AbidesFrom W.heap.size J) (bS : Box2 W Bs lo hi) (bL : Box2 W Bl size many) (hJ0 : J [] W) :
    CallsIn Fence.wide n Try.prog 54 #[.func (.yield l) #[] #[], .pointer (some ⟨Bs, 0, none⟩), .pointer (some ⟨Bl, 0, none⟩)] W fun e W' => (∃ v, e = .returned v) ∧
      ((∃ ys : List (GPart size many hi), ys.map (fun x => x.1) = prts size many lo hi ∧ J ys W') ∨ (∃ pre, Jx pre W')) := by
  have HJ := Lib.hid hJ
  have HY := Lib.hid hY
  have HKs := Lib.hid hKs
  have HKl := Lib.hid hKl
  have HKz := Lib.hid hKz
  have HL := Lib.hid hy
  obtain ⟨c1, c2, c3, c4⟩ := layOkB_iff.1 hy
  have HBS := Lib.hid bS
  have HBL := Lib.hid bL
  obtain ⟨s1, s2, -, -⟩ := bS
  clear hJ hY hKs hKl hKz hy bL
  refine callsIn_of_wp Try.func54 rfl trivial ?_ rfl
  simp only [Try.ntmps54, List.size_toArray, List.length_cons, List.length_nil, Nat.reduceAdd, Nat.reduceSub, Array.replicate_succ, Array.replicate_zero, List.push_toArray, List.append_toArray, List.nil_append, List.cons_append]
  gi_wp2
  gi_loopw [4] (fun s4 wr => ∃ f : Int, s4 = .int .i64 f ∧ lo ≤ f ∧ f ≤ hi ∧ Hid (f = lo ∨ f % size = 0 ∨ f = hi) ∧ (∃ ys : List (GPart size many hi), ys.map (fun x => x.1) = prts size many lo f ∧ J ys wr) ∧ Hid (Box2 wr Bs lo hi) ∧ Hid (Box2 wr Bl size many) ∧ W.heap.size ≤ wr.heap.size)
    (fun s4 wr => (hi - intOf s4).toNat)
  case atStart =>
    exact ⟨lo, rfl, Int.le_refl _, h1, Or.inl rfl, ⟨[], by unfold prts; rw [Int.sub_self]; rfl, hJ0⟩, HBS, HBL, Nat.le_refl _⟩
  case round =>
    obtain ⟨f, rfl, hf1, hf2, HB, ⟨pre, hpre, hJs⟩, HS1, HL1, hsz⟩ := hrel
    clear s1 s2
    obtain ⟨s1, s2, -, -⟩ := id HS1.out
    obtain ⟨t1, t2, -, -⟩ := id HL1.out
    by_cases hlt : f < hi
    · have hz1 : (size == 0) = false := by simp; omega
      have hz2 : size ≠ 0 := by omega
      have hr := rem_bd (n := f) c1
      obtain ⟨r1, r2⟩ := hr
      have t2' : f.tmod size = f % size := Int.tmod_eq_emod_of_nonneg (by omega)
      have bd := at_bd (p := f) HL.out (by omega)
      obtain ⟨o1, o2, a1, a2⟩ := bd
      have hbn : f = lo ∨ f % size = 0 := by have := HB.out; omega
      have HBn := Lib.hid hbn
      clear hbn HB
      have HAt := Lib.hid (fun W => layAt_any size many f W HL.out (by omega) (by omega))
      have key : ∀ e : Int, f < e → e ≤ f - f % size + size → Hid (prts size many lo e = prts size many lo f ++ [(objF size many f, atF size many f, atF size many f + e - f, f)]) := fun e he1 he2 => prts_step HL.out hf1 he1 HBn.out he2
      have hlen : Hid (pre.length < 48) := by
        show _ < _
        have e : pre.length = (prts size many lo f).length := by rw [← hpre, List.length_map]
        have := prS_len (size := size) (many := many) (lo := lo) (f - lo).toNat
        rw [e]; unfold prts; omega
      have HGd := Lib.hid (fun e h1 h2 h3 => good_step (e := e) (hi := hi) HL.out (show 0 ≤ f by omega) h1 h2 h3 (by omega))
      have hbnx : Hid ((f - f % size + size) % size = 0) := bound_next
      have HKey := Lib.hid key
      clear key
      rw [← hpre] at HKey
      clear hpre
      generalize objF size many f = O at *
      generalize atF size many f = A at *
      obtain ⟨m, hm⟩ : ∃ m, f % size = m := ⟨_, rfl⟩
      rw [hm] at HKey hbnx r1 r2 t2' HBn HGd
      clear hm
      by_cases hmin : hi < f - m + size
      · have hEe : f < hi ∧ hi ≤ f - m + size := ⟨hlt, by omega⟩
        have HK := Lib.hid (HKey.out hi hEe.1 hEe.2).out
        clear HKey hbnx
        gi_wp2_with fail
        gi_region
        gi_wp2_with fail
        refine ⟨trivial, (callsIn_wide.2 (HAt.out _)).mono ?_⟩; rintro e w1 ⟨rfl, hb1⟩
        have hbw : Below wr.heap.size wr w1 := (Below.drew (Below.refl _ _)).trans hb1
        have hal : Below wr.heap.size wr (w1.alloc (.cells #[.int .i64 O, .int .i64 A, .int .i64 (A + hi - f), .int .i64 f] 59)) := hbw.alloc hbw.size _
        have hJ1 := HJ.out _ wr _ none hJs ⟨hal.os, hal.tape, hal.output, hal.size, fun i hi _ => hal.block i hi⟩ (fun r e => by cases e)
        obtain ⟨fn, tmps, assign, body, hy, hRR⟩ := HY.out _ ⟨(O, A, A + hi - f, f), HGd.out hi (by omega) (by omega) (by omega), (by show 0 ≤ f; omega)⟩ _ hJ1 hlen.out
        dsimp only at hy
        have HRR := Lib.hid hRR
        have HS2 := Lib.hid (HS1.out.keep hal)
        have HL2 := Lib.hid (HL1.out.keep hal)
        have hsz2 := hal.size
        clear hRR hJ1 s1 s2 t1 t2 hal hbw
        have i1 : IntKind.i64.wrap (A + hi) = A + hi := IntWalk.i64_in _ (by omega)
        have i2 : IntKind.i64.wrap (A + hi - f) = A + hi - f := IntWalk.i64_in _ (by omega)
        gi_wp2_with fail
        refine HRR.out.mono ?_
        rintro e W3 (⟨rfl, hJ3, hk3⟩ | ⟨rfl, hJx3⟩)
        · have HS3 := Lib.hid (HKs.out _ _ hk3 HS2.out)
          have HL3 := Lib.hid (HKl.out _ _ hk3 HL2.out)
          have hz3 := HKz.out _ _ hk3
          have HJ3 := Lib.hid hJ3
          clear hJ3 hk3 hy i1 i2
          gi_wp2
          go_roundw
          case rel => exact ⟨_, rfl, by omega, by omega, Or.inr (Or.inr rfl), ⟨_, by rw [HK.out, List.map_append]; rfl, HJ3.out⟩, HS3, HL3, by omega⟩
          case measure => simp [intOf]; omega
        · gi_wp2
          refine bodyPost_ret (results_none rfl _ _ _) rfl ?_
          exact ⟨⟨_, rfl⟩, .inr ⟨_, hJx3⟩⟩
      · by_cases heq : f - m + size = hi
        · have HK := Lib.hid (HKey.out hi hlt (by omega)).out
          clear HKey hbnx
          gi_wp2_with fail
          gi_region
          gi_wp2_with fail
          refine ⟨trivial, (callsIn_wide.2 (HAt.out _)).mono ?_⟩; rintro e w1 ⟨rfl, hb1⟩
          have hbw : Below wr.heap.size wr w1 := (Below.drew (Below.refl _ _)).trans hb1
          have hal : Below wr.heap.size wr (w1.alloc (.cells #[.int .i64 O, .int .i64 A, .int .i64 (A + hi - f), .int .i64 f] 59)) := hbw.alloc hbw.size _
          have hJ1 := HJ.out _ wr _ none hJs ⟨hal.os, hal.tape, hal.output, hal.size, fun i hi _ => hal.block i hi⟩ (fun r e => by cases e)
          obtain ⟨fn, tmps, assign, body, hy, hRR⟩ := HY.out _ ⟨(O, A, A + hi - f, f), HGd.out hi (by omega) (by omega) (by omega), (by show 0 ≤ f; omega)⟩ _ hJ1 hlen.out
          dsimp only at hy
          have HRR := Lib.hid hRR
          have HS2 := Lib.hid (HS1.out.keep hal)
          have HL2 := Lib.hid (HL1.out.keep hal)
          have hsz2 := hal.size
          clear hRR hJ1 s1 s2 t1 t2 hal hbw
          have i1 : IntKind.i64.wrap (A + hi) = A + hi := IntWalk.i64_in _ (by omega)
          have i2 : IntKind.i64.wrap (A + hi - f) = A + hi - f := IntWalk.i64_in _ (by omega)
          gi_wp2_with fail
          refine HRR.out.mono ?_
          rintro e W3 (⟨rfl, hJ3, hk3⟩ | ⟨rfl, hJx3⟩)
          · have HS3 := Lib.hid (HKs.out _ _ hk3 HS2.out)
            have HL3 := Lib.hid (HKl.out _ _ hk3 HL2.out)
            have hz3 := HKz.out _ _ hk3
            have HJ3 := Lib.hid hJ3
            clear hJ3 hk3 hy i1 i2
            gi_wp2
            go_roundw
            case rel => exact ⟨_, rfl, by omega, by omega, Or.inr (Or.inr rfl), ⟨_, by rw [HK.out, List.map_append]; rfl, HJ3.out⟩, HS3, HL3, by omega⟩
            case measure => simp [intOf]; omega
          · gi_wp2
            refine bodyPost_ret (results_none rfl _ _ _) rfl ?_
            exact ⟨⟨_, rfl⟩, .inr ⟨_, hJx3⟩⟩
        · have hmin2 : f - m + size < hi := by omega
          have HK := Lib.hid (HKey.out (f - m + size) (by omega) (Int.le_refl _)).out
          have HNx : Hid (f - m + size = lo ∨ (f - m + size) % size = 0 ∨ f - m + size = hi) := Or.inr (Or.inl hbnx.out)
          clear HKey hbnx
          gi_wp2_with fail
          gi_region
          gi_wp2_with fail
          refine ⟨trivial, (callsIn_wide.2 (HAt.out _)).mono ?_⟩; rintro e w1 ⟨rfl, hb1⟩
          have hbw : Below wr.heap.size wr w1 := (Below.drew (Below.refl _ _)).trans hb1
          have hal : Below wr.heap.size wr (w1.alloc (.cells #[.int .i64 O, .int .i64 A, .int .i64 (A + (f - m + size) - f), .int .i64 f] 59)) := hbw.alloc hbw.size _
          have hJ1 := HJ.out _ wr _ none hJs ⟨hal.os, hal.tape, hal.output, hal.size, fun i hi _ => hal.block i hi⟩ (fun r e => by cases e)
          obtain ⟨fn, tmps, assign, body, hy, hRR⟩ := HY.out _ ⟨(O, A, A + (f - m + size) - f, f), HGd.out (f - m + size) (by omega) (by omega) (by omega), (by show 0 ≤ f; omega)⟩ _ hJ1 hlen.out
          dsimp only at hy
          have HRR := Lib.hid hRR
          have HS2 := Lib.hid (HS1.out.keep hal)
          have HL2 := Lib.hid (HL1.out.keep hal)
          have hsz2 := hal.size
          clear hRR hJ1 s1 s2 t1 t2 hal hbw
          have i1 : IntKind.i64.wrap (A + (f - m + size)) = A + (f - m + size) := IntWalk.i64_in _ (by omega)
          have i2 : IntKind.i64.wrap (A + (f - m + size) - f) = A + (f - m + size) - f := IntWalk.i64_in _ (by omega)
          gi_wp2_with fail
          refine HRR.out.mono ?_
          rintro e W3 (⟨rfl, hJ3, hk3⟩ | ⟨rfl, hJx3⟩)
          · have HS3 := Lib.hid (HKs.out _ _ hk3 HS2.out)
            have HL3 := Lib.hid (HKl.out _ _ hk3 HL2.out)
            have hz3 := HKz.out _ _ hk3
            have HJ3 := Lib.hid hJ3
            clear hJ3 hk3 hy i1 i2
            gi_wp2
            go_roundw
            case rel => exact ⟨_, rfl, by omega, by omega, HNx, ⟨_, by rw [HK.out, List.map_append]; rfl, HJ3.out⟩, HS3, HL3, by omega⟩
            case measure => simp [intOf]; omega
          · gi_wp2
            refine bodyPost_ret (results_none rfl _ _ _) rfl ?_
            exact ⟨⟨_, rfl⟩, .inr ⟨_, hJx3⟩⟩
    · obtain rfl : f = hi := by omega
      gi_wp2
      go_end0
      exact ⟨⟨_, rfl⟩, .inl ⟨pre, hpre, hJs⟩⟩

end Go.Proofs.Ytjbkahfbaploaaa
