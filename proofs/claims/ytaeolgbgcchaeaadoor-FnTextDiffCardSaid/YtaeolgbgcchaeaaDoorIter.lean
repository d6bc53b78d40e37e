/-
  The iterator (spots.spans's function literal): for every loop body, the ranges of the set come one by one, in their order. (Begun.)
-/
import Derived.Test.YtaeolgbgcchaeaaDoorTz
import Derived.Test.YtaeolgbgcchaeaaDoorSpots
import Derived.Test.YtaeolgbgcchaeaaDoorRunMath
import Derived.RangeFuncNested
import Derived.RangeFuncBound
import Derived.RangeFuncCalls
import Derived.RangeFuncLeaves
import Derived.Shelf.Abstract
import Derived.OwnWalkIn
import Derived.TacticsInMore
import Derived.LoopNIn
import Derived.LoopIn
namespace Go.Proofs.YtaeolgbgcchaeaaDoor
open Go.RowKit

attribute [local go_sem] Oper.semAt_some

/-- The block of the slice that the caller's box O holds. -/
def rowOf (O : Nat) (W : World) : Option Nat := (W.cell? ⟨O, 0, none⟩).bind Value.ownBlock
def rowOk (O : Nat) (W : World) : Prop := ∀ g, rowOf O W = some g → g < W.heap.size

/-- What a round keeps: all that lay below n₀; every block of cells but the caller's two boxes and its row; the row is the old one or a new one. -/
structure Kept (n₀ R O : Nat) (A B : World) : Prop where
  below : Below n₀ A B
  keep : ∀ (b : Nat) (o : Obj), b < A.heap.size → b ≠ R → b ≠ O → rowOf O A ≠ some b → A.heap[b]? = some o → o.isCells = true → B.heap[b]? = some o
  row : rowOf O B = rowOf O A ∨ ∃ g, rowOf O B = some g ∧ A.heap.size ≤ g
  ok : rowOk O A → rowOk O B

theorem Kept.trans {n₀ R O : Nat} {A B C : World} (h : Kept n₀ R O A B) (k : Kept n₀ R O B C) : Kept n₀ R O A C :=
  ⟨h.below.trans k.below,
   fun b o hb h1 h2 h3 h4 h5 => k.keep b o (Nat.lt_of_lt_of_le hb h.below.size) h1 h2 (fun e => by
     rcases h.row with hr | ⟨g, hr, hg⟩
     · rw [hr] at e; exact h3 e
     · rw [hr] at e; injection e with e; omega) (h.keep b o hb h1 h2 h3 h4 h5) h5,
   by
     rcases k.row with hr | ⟨g, hr, hg⟩
     · rw [hr]; exact h.row
     · exact .inr ⟨g, hr, Nat.le_trans h.below.size hg⟩,
   fun hA => k.ok (h.ok hA)⟩

theorem rowOf_below {A B : World} {O : Nat} (h : Below A.heap.size A B) (hO : O < A.heap.size) : rowOf O B = rowOf O A := by
  unfold rowOf; rw [h.cell (p := ⟨O, 0, none⟩) hO]

theorem xor_max (x lo : Nat) (hx : x < 2 ^ 48) : bits .xor .u64 IntKind.u64.max ((x : Int) / 2 ^ lo) = ((18446744073709551615 - x / 2 ^ lo : Nat) : Int) := by
  have hm : IntKind.u64.max = ((18446744073709551615 : Nat) : Int) := by rfl
  have hd : x / 2 ^ lo ≤ x := Nat.div_le_self _ _
  have e : (x : Int) / 2 ^ lo = ((x / 2 ^ lo : Nat) : Int) := by simp
  rw [hm, e, u64_xor_nat _ _ (by omega) (by omega)]
  congr 1
  generalize x / 2 ^ lo = y at *
  apply Nat.eq_of_testBit_eq
  intro i
  rw [Nat.testBit_xor, show 18446744073709551615 - y = 2 ^ 64 - (y + 1) by omega, Nat.testBit_two_pow_sub_succ (by omega), show (18446744073709551615 : Nat) = 2 ^ 64 - 1 by rfl, Nat.testBit_two_pow_sub_one]
  by_cases hi : i < 64
  · simp [hi]
  · have : y.testBit i = false := Nat.testBit_lt_two_pow (Nat.lt_of_lt_of_le (by omega : y < 2 ^ 64) (pow_le (by omega)))
    simp [hi, this]

set_option maxRecDepth 100000 in
set_option maxHeartbeats 1000000 in
theorem iter_in (n : Nat) (hn : 1 ≤ n) (l Bn n₀ R O p : Nat) (hp : p < 2 ^ 48) (J Jx : List Rng → World → Prop)
    (hY : ∀ pre x W, J pre W → pre.length < 48 → YieldAt Fence.wide (n - 1) Tryd.prog l #[.agg #[.int .i64 x.1, .int .i64 x.2]] W fun e W' =>
      (e = .returned (.bool true) ∧ J (pre ++ [x]) W' ∧ Kept n₀ R O W W') ∨ (e = .returned (.bool false) ∧ Jx (pre ++ [x]) W'))
    (W : World) (hJ : AbidesFrom W.heap.size J) (hBn : W.cell? ⟨Bn, 0, none⟩ = some (.int .u64 (p : Int))) (hT : TabAt W) (hg0 : 0 < n₀) (hR : R < W.heap.size) (hO : O < W.heap.size) (hrow : rowOk O W) (h0 : J [] W) :
    CallsIn Fence.wide n Tryd.prog 47 #[.func (.yield l) #[] #[], .pointer (some ⟨Bn, 0, none⟩)] W fun e W' => (∃ v, e = .returned v) ∧
      ((∃ ys, ys = rg (fun i => p.testBit i) 48 ∧ J ys W') ∨ (∃ pre, pre <+: rg (fun i => p.testBit i) 48 ∧ Jx pre W')) := by
  have HJ := Lib.hid hJ
  have HY := Lib.hid hY
  have HT := Lib.hid hT
  have HR := Lib.hid hrow
  have HS : Hid (rg (fun i => p.testBit i) 48 = [] ++ rg (fun i => p.testBit i) 48) := rfl
  clear hJ hY hT hrow
  refine callsIn_of_wp Tryd.func47 rfl trivial ?_ rfl
  simp only [Tryd.ntmps47, List.size_toArray, List.length_cons, List.length_nil, Nat.reduceAdd, Nat.reduceSub, Array.replicate_succ, Array.replicate_zero, List.push_toArray, List.append_toArray, List.nil_append, List.cons_append]
  gi_wp2
  gi_loopw [3] (fun s3 wr => ∃ (pre : List Rng) (x : Nat), s3 = .int .u64 (x : Int) ∧ x < 2 ^ 48 ∧ Hid (rg (fun i => p.testBit i) 48 = pre ++ rg (fun i => x.testBit i) 48) ∧ J pre wr ∧ Hid (TabAt wr) ∧ Hid (rowOk O wr) ∧ W.heap.size ≤ wr.heap.size)
    (fun s3 wr => (intOf s3).toNat)
  case atStart =>
    exact ⟨[], p, rfl, hp, HS, h0, HT, HR, Nat.le_refl _⟩
  case round =>
    obtain ⟨pre, x, rfl, hx, HK, hJs, HT1, HR1, hsz⟩ := hrel
    by_cases hx0 : x = 0
    · subst hx0
      have HF : Hid (rg (fun i => p.testBit i) 48 = pre) := by
        have e := HK.out
        rw [rg_zero, List.append_nil] at e
        exact e
      gi_wp2
      go_end0
      exact ⟨⟨_, rfl⟩, .inl ⟨pre, HF.out.symm, hJs⟩⟩
    · have hb : ((x : Int) != 0) = true := by simp; omega
      have F := run_facts x hx0 hx
      obtain ⟨f1, f2, -, -, -⟩ := F
      have hsp : spanOkB (runLo x : Int) ((runLo x : Int) + (runLen x : Int)) = true := by have := run_span x hx0 hx; rwa [Int.natCast_add] at this
      have HG : Hid (rg (fun i => p.testBit i) 48 = (pre ++ [((runLo x : Int), (runLo x : Int) + (runLen x : Int))]) ++ rg (fun i => (runRest x).testBit i) 48) := by
        have e := HK.out
        rw [rg_step x hx0 hx, Int.natCast_add] at e
        show rg _ 48 = _
        rw [e]; simp
      have hlen : pre.length < 48 := by
        have e := HG.out
        have := rg_len (fun i => p.testBit i) 48
        rw [e] at this
        simp at this
        omega
      have hrest := (run_rest x hx0 hx).1
      have hl48 := msk_lt ((runLo x : Int), (runLo x : Int) + (runLen x : Int)) hsp
      have ha : bits .andNot .u64 (x : Int) ((msk ((runLo x : Int), (runLo x : Int) + (runLen x : Int)) : Nat) : Int) = ((runRest x : Nat) : Int) := by
        rw [u64_andNot_nat _ _ (by omega) (by omega)]
        unfold runRest
        rw [Int.natCast_add]
      have t1 : ∀ W, TabAt W → Calls Tryd.prog 48 #[.int .u64 (x : Int)] W fun e w' => e = .returned (.int .i64 (runLo x : Int)) ∧ W = w' := fun W h => tz_any x (by omega) W h
      have t2 : ∀ W, TabAt W → Calls Tryd.prog 48 #[.int .u64 ((18446744073709551615 - x / 2 ^ runLo x : Nat) : Int)] W fun e w' => e = .returned (.int .i64 (runLen x : Int)) ∧ W = w' := fun W h => tz_any _ (Nat.lt_of_le_of_lt (Nat.sub_le _ _) (by omega)) W h
      have t3 := fun W => spots_any (runLo x : Int) ((runLo x : Int) + (runLen x : Int)) W hsp
      have hxo : bits .xor .u64 IntKind.u64.max ((x : Int) / 2 ^ runLo x) = ((18446744073709551615 - x / 2 ^ runLo x : Nat) : Int) := xor_max x (runLo x) hx
      have T1 := Lib.hid t1
      have T2 := Lib.hid t2
      have T3 := Lib.hid t3
      clear t1 t2 t3 hx0 hsp HK
      generalize (18446744073709551615 - x / 2 ^ runLo x : Nat) = y at *
      generalize runLo x = lo at *
      generalize runLen x = lg at *
      generalize runRest x = x' at *
      generalize msk ((lo : Int), (lo : Int) + (lg : Int)) = M at *
      have hal : wr.grownBy (wr.alloc (.cells #[.int .i64 (lo : Int), .int .i64 ((lo : Int) + (lg : Int))] 33)) none := World.grownBy_alloc wr _ none
      have hJ1 := HJ.out pre wr _ none hJs (by exact hal) (fun r e => by cases e)
      have hroA : rowOf O (wr.alloc (.cells #[.int .i64 (lo : Int), .int .i64 ((lo : Int) + (lg : Int))] 33)) = rowOf O wr := rowOf_below ((Below.refl _ _).alloc (Nat.le_refl _) _) (by omega)
      have hokA : rowOk O (wr.alloc (.cells #[.int .i64 (lo : Int), .int .i64 ((lo : Int) + (lg : Int))] 33)) := fun g e => by rw [hroA] at e; have := HR1.out g e; simp; omega
      have hkey : ∀ W3, Kept n₀ R O (wr.alloc (.cells #[.int .i64 (lo : Int), .int .i64 ((lo : Int) + (lg : Int))] 33)) W3 → W3.heap[wr.heap.size]? = some (.cells #[.int .i64 (lo : Int), .int .i64 ((lo : Int) + (lg : Int))] 33 (0, 0)) := fun W3 hk =>
        hk.keep wr.heap.size _ (by simp) (by omega) (by omega) (fun e => by rw [hroA] at e; have := HR1.out _ e; omega) (World.alloc_heap_new wr _) rfl
      have HA := Lib.hid hJ1
      have HK1 := Lib.hid hkey
      have HOK := Lib.hid hokA
      clear hJ1 hkey hokA hroA hal
      obtain ⟨fn, tmps, assign, body, hy, hRR⟩ := HY.out pre ((lo : Int), (lo : Int) + (lg : Int)) _ HA.out hlen
      dsimp only at hy
      have HRR := Lib.hid hRR
      clear hRR
      gi_wp2_with fail
      refine ⟨trivial, (callsIn_wide.2 (T1.out _ HT1.out)).mono ?_⟩; rintro e w' ⟨rfl, rfl⟩
      gi_wp2_with fail
      refine ⟨trivial, (callsIn_wide.2 (T2.out _ HT1.out)).mono ?_⟩; rintro e w' ⟨rfl, rfl⟩
      gi_wp2_with fail
      refine HRR.out.mono ?_
      rintro e W3 (⟨rfl, hJ3, hk3⟩ | ⟨rfl, hJx3⟩)
      · have hbx := HK1.out W3 hk3
        have y1 : W3.cell? ⟨wr.heap.size, 0, none⟩ = some (.int .i64 (lo : Int)) := by simp [World.cell?, hbx]
        have y2 : W3.cell? ⟨wr.heap.size, 1, none⟩ = some (.int .i64 ((lo : Int) + (lg : Int))) := by simp [World.cell?, hbx]
        have hT3 : TabAt W3 := fun j hj => by
          have h1 := hk3.below.cell (p := ⟨0, j, none⟩) hg0
          rw [h1]
          exact cell_keep ((Below.refl _ _).alloc (Nat.le_refl _) _) (HT1.out j hj)
        have HT3 := Lib.hid hT3
        have HOK3 := Lib.hid (hk3.ok HOK.out)
        have hs3 : wr.heap.size + 1 ≤ W3.heap.size := by have := hk3.below.size; simpa using this
        have HJ3 := Lib.hid hJ3
        clear hbx hT3 hk3 hJ3 hy
        gi_wp2_with fail
        refine ⟨trivial, (callsIn_wide.2 (T3.out _)).mono ?_⟩; rintro e W4 ⟨rfl, hb4⟩
        have hJ4 := HJ.out _ W3 W4 none HJ3.out ⟨hb4.os, hb4.tape, hb4.output, hb4.size, fun i hi _ => hb4.block i hi⟩ (fun r e => by cases e)
        have HT4 := Lib.hid (HT3.out.keep hb4)
        have HOK4 : Hid (rowOk O W4) := fun g e => by
          rw [rowOf_below hb4 (by omega)] at e
          exact Nat.lt_of_lt_of_le (HOK3.out g e) hb4.size
        have hs4 := hb4.size
        clear y1 y2
        gi_wp2
        go_roundw
        case rel => exact ⟨pre ++ [((lo : Int), (lo : Int) + (lg : Int))], x', rfl, by omega, HG, hJ4, HT4, HOK4, by omega⟩
        case measure => simp [intOf]; omega
      · gi_wp2
        refine bodyPost_ret (results_none rfl _ _ _) rfl ?_
        exact ⟨⟨_, rfl⟩, .inr ⟨_, ⟨_, HG.out.symm⟩, hJx3⟩⟩

end Go.Proofs.YtaeolgbgcchaeaaDoor
