/-
  A region that draws its order, by an invariant: what holds of the operations that have come up, of the frame and of the world; each operation that may come up keeps it.
  Contracts of the small functions on one range (toSpan, SpanOk of both sides, eqSpan, l1Max, l1Min): what each returns at any two numbers, and that nothing that existed has changed.
  Nothing has changed but blocks between two places of the heap.
  Operations of a region that draws its order, one by one: what each leaves.
-/
import Derived.Test.YtadoihddmbbjoaaDoorRows
import Derived.Orders
import Derived.StillTail
import Derived.WalkKit
import Derived.WalkSpells
import Derived.WalkLawsBesides
import Derived.Deep.RegionHeld3
import Derived.Laws.Tables
namespace Go.Proofs.YtadoihddmbbjoaaDoor
open Go

section
variable {P : Program} {ops : Array Oper} {Q : Exit → Act → World → Prop}

/-- Every edge that binds in whatever order leads back. -/
def backB (ops : Array Oper) : Bool := (List.range ops.size).all fun i => match ops[i]? with | some o => o.after.all fun e => !Region.binds .any e || decide (e.on < i) | none => true
theorem backB_spec (h : backB ops = true) {i : Nat} {o : Oper} (ho : ops[i]? = some o) : ∀ e ∈ o.after, Region.binds .any e = true → e.on < i := by
  intro e he hbd
  have hi : i < ops.size := (Array.getElem?_eq_some_iff.1 ho).1
  have := List.all_eq_true.1 h i (List.mem_range.2 hi)
  simp only [ho] at this
  have h2 := Array.all_eq_true_iff_forall_mem.1 this e he
  simpa [hbd] using h2

theorem ready_all (hb : backB ops = true) {listed : Array Bool} (hs : listed.size = ops.size) (hr : Region.ready .any ops listed = []) : ∀ i, i < ops.size → listed.getD i false = true := by
  intro i
  induction i using Nat.strongRecOn with
  | _ i ih =>
    intro hi
    cases hl : listed.getD i false with
    | true => rfl
    | false =>
      exfalso
      have ho : ops[i]? = some ops[i] := Array.getElem?_eq_getElem hi
      have : i ∈ Region.ready .any ops listed := mem_ready.2 ⟨getD_in (by omega) hl, _, ho, fun e he hbd => ih e.on (backB_spec hb ho e he hbd) (Nat.lt_trans (backB_spec hb ho e he hbd) hi)⟩
      rw [hr] at this
      cases this

theorem wpAny_inv (hb : backB ops = true) (I : (Nat → Bool) → Act → World → Prop)
    (hstep : ∀ (L : Nat → Bool) a w i oi, I L a w → ops[i]? = some oi → L i = false → (∀ e ∈ oi.after, Region.binds .any e = true → L e.on = true) →
      if Region.wanted oi (yielded ops a.tmps) = true then oi.wp P a w (fun a' w' => I (fun j => if j = i then true else L j) a' w') Q else I (fun j => if j = i then true else L j) (a.put oi.dst undef) w)
    (hend : ∀ L a w, I L a w → (∀ i, i < ops.size → L i = true) → Q .normal a w) :
    ∀ (fuel : Nat) (listed : Array Bool) (a : Act) (w : World), listed.size = ops.size → listed.toList.count false ≤ fuel → I (fun j => listed.getD j false) a w → wpAny P .any ops Q fuel listed a w := by
  intro fuel
  induction fuel with
  | zero =>
    intro listed a w hs hc hI
    have hall : ∀ i, i < ops.size → listed.getD i false = true := by
      intro i hi
      cases hl : listed.getD i false with
      | true => rfl
      | false =>
        exfalso
        have hi' : i < listed.toList.length := by simpa [hs] using hi
        have hm : false ∈ listed.toList := by
          have : listed.toList[i] = false := by
            have := hl
            rw [Array.getD_eq_getD_getElem?, Array.getElem?_eq_getElem (by omega)] at this
            simpa using this
          rw [← this]; exact List.getElem_mem hi'
        have := List.count_pos_iff.2 hm
        omega
    refine ⟨?_, hend _ _ _ hI hall⟩
    cases hr : Region.ready .any ops listed with
    | nil => rfl
    | cons x xs =>
      exfalso
      have hx : x ∈ Region.ready .any ops listed := by rw [hr]; simp
      obtain ⟨h1, o, ho, -⟩ := mem_ready.1 hx
      have hlt : x < ops.size := (Array.getElem?_eq_some_iff.1 ho).1
      have h2 := hall x hlt
      rw [getD_both h1] at h2
      cases h2
  | succ fuel ih =>
    intro listed a w hs hc hI
    refine ⟨fun hr => hend _ _ _ hI (ready_all hb hs hr), fun i hi => ?_⟩
    obtain ⟨h1, o, ho, hall⟩ := mem_ready.1 hi
    have hlt : i < ops.size := (Array.getElem?_eq_some_iff.1 ho).1
    have hst := hstep _ a w i o hI ho (getD_both h1) hall
    have hnext : ∀ a' w', I (fun j => if j = i then true else listed.getD j false) a' w' → wpAny P .any ops Q fuel (listed.setIfInBounds i true) a' w' := by
      intro a' w' h
      refine ih _ a' w' (by simpa using hs) ?_ ?_
      · have hi' : i < listed.toList.length := by simpa [hs] using hlt
        have hli : listed.toList[i] = false := by
          have := getD_both h1
          rw [Array.getD_eq_getD_getElem?, Array.getElem?_eq_getElem (by omega)] at this
          simpa using this
        have hpos : 0 < listed.toList.count false := List.count_pos_iff.2 (by rw [← hli]; exact List.getElem_mem hi')
        rw [Array.toList_setIfInBounds, List.count_set hi', hli]
        show List.count false listed.toList - 1 + 0 ≤ fuel
        omega
      · have e : (fun j => (listed.setIfInBounds i true).getD j false) = fun j => if j = i then true else listed.getD j false := by
          funext j
          by_cases hj : j = i
          · subst hj
            simp [hs, hlt]
          · rw [if_neg hj, getD_set_ne false (fun e => hj e.symm)]
        rw [e]; exact h
    unfold wpOp
    simp only [ho]
    split
    · rename_i hw
      rw [if_pos hw] at hst
      exact .inl (Oper.wp_mono hnext hst)
    · rename_i hw
      rw [if_neg hw] at hst
      exact hnext _ _ hst

theorem wp_region_inv {id : Nat} {a : Act} {w : World} (hm : P.follows .mixedOrders = true) (hb : backB ops = true) (I : (Nat → Bool) → Act → World → Prop) (h0 : I (fun _ => false) a w.drew)
    (hstep : ∀ (L : Nat → Bool) a w i oi, I L a w → ops[i]? = some oi → L i = false → (∀ e ∈ oi.after, Region.binds .any e = true → L e.on = true) →
      if Region.wanted oi (yielded ops a.tmps) = true then oi.wp P a w (fun a' w' => I (fun j => if j = i then true else L j) a' w') Q else I (fun j => if j = i then true else L j) (a.put oi.dst undef) w)
    (hend : ∀ L a w, I L a w → (∀ i, i < ops.size → L i = true) → Q .normal a w) : (Code.region id ops true).wp P Q a w := by
  refine wp_region_any hm (wpAny_inv hb I hstep hend ops.size _ a _ (by simp) (by simp) ?_)
  have e : (fun j => (Array.replicate ops.size false).getD j false) = fun _ => false := by funext j; exact getD_replicate_false _ _
  rw [e]; exact h0
end

end Go.Proofs.YtadoihddmbbjoaaDoor

namespace Go.Proofs.YtadoihddmbbjoaaDoor
open Go.RowKit

/-- A range is one: the Bool that both sides return. -/
def spanOkB (lo hi : Int) : Bool := decide (0 ≤ lo ∧ lo < hi ∧ hi ≤ 48)

theorem spanOkB_true {lo hi : Int} (h : 0 ≤ lo ∧ lo < hi ∧ hi ≤ 48) : spanOkB lo hi = true := by unfold spanOkB; simpa using h
theorem spanOkB_false {lo hi : Int} (h : ¬ (0 ≤ lo ∧ lo < hi ∧ hi ≤ 48)) : spanOkB lo hi = false := by unfold spanOkB; simpa using h
theorem spanOkB_iff {lo hi : Int} : spanOkB lo hi = true ↔ (0 ≤ lo ∧ lo < hi ∧ hi ≤ 48) := by unfold spanOkB; simp

/-- Behind a call that left all that existed alone: the old cells and marks, as two rules for the walk. -/
theorem bcell {W w1 : World} (hb : Below W.heap.size W w1) : (∀ b o, b < W.heap.size → w1.cell? ⟨b, o, none⟩ = W.cell? ⟨b, o, none⟩) ∧ (∀ b o, b < W.heap.size → w1.frozen? ⟨b, o, none⟩ = W.frozen? ⟨b, o, none⟩) :=
  ⟨fun b o h => hb.cell (p := ⟨b, o, none⟩) h, fun b o h => hb.frozen (p := ⟨b, o, none⟩) h⟩

/-- A cell that is there stays as it is behind such a call. -/
theorem cell_keep {W w1 : World} (hb : Below W.heap.size W w1) {b o : Nat} {v : Value} (h : W.cell? ⟨b, o, none⟩ = some v) : w1.cell? ⟨b, o, none⟩ = some v := by
  by_cases hlt : b < W.heap.size
  · rw [hb.cell (p := ⟨b, o, none⟩) hlt]; exact h
  · have e : W.heap[b]? = none := by simpa using hlt
    simp [World.cell?, e] at h

/-- A box of two numbers that may be written: its two cells. -/
def Box2 (w : World) (b : Nat) (x y : Int) : Prop :=
  w.cell? ⟨b, 0, none⟩ = some (.int .i64 x) ∧ w.cell? ⟨b, 1, none⟩ = some (.int .i64 y) ∧ w.frozen? ⟨b, 0, none⟩ = false ∧ w.frozen? ⟨b, 1, none⟩ = false
theorem Box2.keep {W w1 : World} {b : Nat} {x y : Int} (h : Box2 W b x y) (hb : Below W.heap.size W w1) : Box2 w1 b x y := by
  obtain ⟨h0, h1, h2, h3⟩ := h
  have hlt := World.block_lt_of_cell? W _ h0
  exact ⟨cell_keep hb h0, cell_keep hb h1, (hb.frozen (p := ⟨b, 0, none⟩) hlt).trans h2, (hb.frozen (p := ⟨b, 1, none⟩) hlt).trans h3⟩

theorem box_alloc {X w' : World} {x y : Int} {T : TypeId} (hb : Below (X.alloc (.cells #[.int .i64 x, .int .i64 y] T)).heap.size (X.alloc (.cells #[.int .i64 x, .int .i64 y] T)) w') : Box2 w' X.heap.size x y :=
  Box2.keep (W := X.alloc (.cells #[.int .i64 x, .int .i64 y] T)) ⟨by go_simp, by go_simp, by go_simp, by go_simp⟩ hb
theorem box_alloc_drew {X w' : World} {x y : Int} {T : TypeId} (hb : Below (X.alloc (.cells #[.int .i64 x, .int .i64 y] T)).drew.heap.size (X.alloc (.cells #[.int .i64 x, .int .i64 y] T)).drew w') : Box2 w' X.heap.size x y :=
  Box2.keep (W := (X.alloc (.cells #[.int .i64 x, .int .i64 y] T)).drew) ⟨by go_simp, by go_simp, by go_simp, by go_simp⟩ hb
theorem alloc_swap {w' : World} {o o' : Obj} {b f : Nat} {v : Value} (hlt : b < w'.heap.size) (h : (w'.alloc o).cell? ⟨b, f, none⟩ = some v) : (w'.alloc o').cell? ⟨b, f, none⟩ = some v := by
  rw [World.cell?_alloc_lt _ _ _ hlt] at h ⊢; exact h
theorem set2_far {w' : World} {g b f : Nat} {x y v : Value} (hne : g ≠ b) (h : w'.cell? ⟨b, f, none⟩ = some v) : ((w'.setCell ⟨g, 0, none⟩ x).setCell ⟨g, 1, none⟩ y).cell? ⟨b, f, none⟩ = some v := by
  rw [World.cell?_setCell_far _ _ _ _ hne, World.cell?_setCell_far _ _ _ _ hne]; exact h

theorem set2_box {w' : World} {g : Nat} {x y u v : Int} (h : Box2 w' g u v) : Box2 ((w'.setCell ⟨g, 0, none⟩ (.int .i64 x)).setCell ⟨g, 1, none⟩ (.int .i64 y)) g x y := by
  obtain ⟨h1, h2, h3, h4⟩ := h
  exact ⟨by go_simp, by go_simp, by go_simp, by go_simp⟩
theorem new_box (w' : World) (x y : Int) (T : TypeId) : Box2 (w'.alloc (.cells #[.int .i64 x, .int .i64 y] T)) w'.heap.size x y := ⟨by go_simp, by go_simp, by go_simp, by go_simp⟩

/-- .. and the heap has not shrunk. -/
theorem size_keep {W w1 : World} (hb : Below W.heap.size W w1) {n : Nat} (h : n < W.heap.size) : n < w1.heap.size := Nat.lt_of_lt_of_le h hb.size

theorem ret_bool {a b : Bool} (h : a = b) : Ending.returned (.bool a) = .returned (.bool b) := by rw [h]



set_option maxHeartbeats 400000 in
theorem implSpanOk_any (lo hi : Int) (w : World) :
    Calls Tryd.prog 50 #[.agg #[.int .i64 lo, .int .i64 hi]] w fun e w' => e = .returned (.bool (spanOkB lo hi)) ∧ Below w.heap.size w w' := by
  by_cases h1 : 0 ≤ lo <;> by_cases h2 : lo < hi <;> by_cases h3 : hi ≤ 48 <;> first | (exfalso; omega) | skip
  all_goals
    go_enter Tryd.func50, Tryd.ntmps50
    go_wp2
    go_ret
    refine ⟨ret_bool ?_, (Below.refl _ _).alloc (Nat.le_refl _) _⟩
    first | exact (spanOkB_true (by omega)).symm | exact (spanOkB_false (by omega)).symm

end Go.Proofs.YtadoihddmbbjoaaDoor

namespace Go.Proofs.YtadoihddmbbjoaaDoor
open Go.RowKit

/-- Only blocks between lo and hi have changed. -/
structure Btn (lo hi : Nat) (w w' : World) : Prop where
  os : w'.os = w.os
  tape : w'.tape = w.tape
  output : w'.output = w.output
  size : w.heap.size ≤ w'.heap.size
  block : ∀ i, i < w.heap.size → ¬ (lo ≤ i ∧ i < hi) → w'.heap[i]? = w.heap[i]?
theorem Btn.refl (lo hi : Nat) (w : World) : Btn lo hi w w := ⟨rfl, rfl, rfl, Nat.le_refl _, fun _ _ _ => rfl⟩
theorem Btn.trans {lo hi : Nat} {a b c : World} (h : Btn lo hi a b) (k : Btn lo hi b c) : Btn lo hi a c :=
  ⟨k.os.trans h.os, k.tape.trans h.tape, k.output.trans h.output, Nat.le_trans h.size k.size, fun i hi' hn => (k.block i (Nat.lt_of_lt_of_le hi' h.size) hn).trans (h.block i hi' hn)⟩
theorem Btn.below {lo hi n : Nat} {w w' : World} (h : Btn lo hi w w') (hn : n ≤ lo) (hw : n ≤ w.heap.size) : Below n w w' :=
  ⟨h.os, h.tape, h.output, h.size, fun i hi' => h.block i (by omega) (by omega)⟩
theorem Btn.of_below {lo hi : Nat} {w w' : World} (h : Below w.heap.size w w') : Btn lo hi w w' :=
  ⟨h.os, h.tape, h.output, h.size, fun i hi' _ => h.block i hi'⟩
theorem Btn.of_grown {lo hi : Nat} {w w' : World} {r : Option Nat} (h : w.grownBy w' r) (hb : ∀ b, r = some b → lo ≤ b ∧ b < hi) : Btn lo hi w w' :=
  ⟨h.os, h.tape, h.output, h.size, fun i hi' hn => h.block i hi' (fun e => hn (hb i e.symm))⟩
theorem btn_set (w : World) (b o : Nat) (x : Value) : Btn b (b + 1) w (w.setCell ⟨b, o, none⟩ x) :=
  ⟨rfl, rfl, rfl, by simp, fun i _ hn => Below.heap_setCell w _ x i (fun e => hn (by subst e; exact ⟨Nat.le_refl _, Nat.lt_succ_self _⟩))⟩

end Go.Proofs.YtadoihddmbbjoaaDoor

namespace Go.Proofs.YtadoihddmbbjoaaDoor
open Go.RowKit

/-- A slot set. -/
def upd (x : Nat → Value) (i : Nat) (v : Value) : Nat → Value := fun j => if j = i then v else x j
theorem upd_eq (x : Nat → Value) (i : Nat) (v : Value) : upd x i v i = v := if_pos rfl
theorem upd_ne {x : Nat → Value} {i j : Nat} {v : Value} (h : j ≠ i) : upd x i v j = x j := if_neg h

abbrev lset (L : Nat → Bool) (i : Nat) : Nat → Bool := fun j => if j = i then true else L j
theorem lset_ne {L : Nat → Bool} {i j : Nat} (h : j ≠ i) : lset L i j = L j := if_neg h

theorem wp_value {P : Program} {o : Oper} {a : Act} {w w' : World} {v : Value} {K : Act → World → Prop} {Q : Exit → Act → World → Prop} (h : (execOp a.eval o).run P w = .ok (.value v) w') (hK : K (a.put o.dst v) w') : o.wp P a w K Q := by
  unfold Oper.wp; rw [h]; exact hK
theorem wp_skip {P : Program} {o : Oper} {a : Act} {w w' : World} {K : Act → World → Prop} {Q : Exit → Act → World → Prop} (h : (execOp a.eval o).run P w = .ok .skip w') (hK : K (a.put o.dst undef) w') : o.wp P a w K Q := by
  unfold Oper.wp; rw [h]; exact hK

theorem lset_mono {L : Nat → Bool} {i j : Nat} (h : L j = true) : lset L i j = true := by
  unfold lset; split
  · rfl
  · exact h
theorem wp_build2 {P : Program} {o : Oper} {a : Act} {w : World} {K : Act → World → Prop} {Q : Exit → Act → World → Prop} (t : TypeId) (parts : Array (Nat × Operand)) (ho : o.op = .build t parts) (cells : Array Value)
    (hp : P.built t (parts.map fun (i, x) => (i, a.eval x)).toList = some cells) (h : K (a.put o.dst (.agg cells)) w) : o.wp P a w K Q :=
  wp_build t parts ho (by rw [hp]; rfl) (by rw [hp]; exact h)
theorem setRow_btnV (w : World) (g : Nat) (cells : Array Value) : Btn g (g + 1) w (w.setRow g cells) :=
  ⟨rfl, rfl, rfl, by simp [World.setRow], fun i hi hn => setRow_other w g i cells (by omega)⟩
theorem wp_load1 {o : Oper} {a : Act} {w : World} {K : Act → World → Prop} {Q : Exit → Act → World → Prop} (ty : TypeId) (y : Operand) (ho : o.op = .load ty y) (ad : Addr) (hy : a.eval y = .pointer (some ad)) (v : Value) (hc : w.cell? ad = some v)
    (hr : ∀ w, w.cell? ad = some v → (Instr.loadAt ty (.pointer (some ad))).run Tryd.prog w = .ok v w) (h : K (a.put o.dst v) w) : o.wp Tryd.prog a w K Q := by
  unfold Oper.wp execOp
  simp only [ho, hy, Sem.run_bind, hr w hc, Result.andThen_ok, Sem.run_pure]
  exact h
theorem wp_enter {P : Program} {o : Oper} {a : Act} {w : World} {K : Act → World → Prop} {Q : Exit → Act → World → Prop} (f : FuncId) (args : Array Value) (h : (execOp a.eval o).run P w = .ok (.enter f args) w)
    (hc : Calls P f args w fun e w' => ∃ v, e = .returned v ∧ K (a.put o.dst v) w') : o.wp P a w K Q := by
  unfold Oper.wp; rw [h]
  exact hc.mono fun e w' ⟨v, he, hk⟩ => by subst he; exact hk
theorem wp_arr {P : Program} {o : Oper} {a : Act} {w : World} {K : Act → World → Prop} {Q : Exit → Act → World → Prop} (ty : TypeId) (y : Operand) (ho : o.op = .sliceToArrayPointer ty y) (s v : Value) (hy : a.eval y = s)
    (hr : (Instr.arrayAt ty s).run P w = .ok v w) (h : K (a.put o.dst v) w) : o.wp P a w K Q := by
  unfold Oper.wp execOp
  simp only [ho, hy, Sem.run_bind, hr, Result.andThen_ok, Sem.run_pure]
  exact h

/-! A region that draws its order, each of whose operations yields one value whatever ran ahead of it; calls may make memory; the operation n comes behind all others but the late ones, and may write; the late ones look at no memory. -/
open Go
section
variable {P : Program} {ops : Array Oper} {Q : Exit → Act → World → Prop}

/-- Each operation that is not late is waited for by a later one that is not, or by n. -/
def foreB (ops : Array Oper) (n : Nat) (late : Nat → Bool) : Bool := (List.range n).all fun j => late j || (List.range (n + 1)).any fun k => decide (j < k) && (!late k && match ops[k]? with | some o => o.after.any (fun e => e.on == j && Region.binds .any e) | none => false)
theorem foreB_spec {n : Nat} {late : Nat → Bool} (h : foreB ops n late = true) {j : Nat} (hj : j < n) (hlj : late j = false) : ∃ k o e, j < k ∧ k ≤ n ∧ late k = false ∧ ops[k]? = some o ∧ e ∈ o.after ∧ e.on = j ∧ Region.binds .any e = true := by
  have h1 := List.all_eq_true.1 h j (List.mem_range.2 hj)
  rw [hlj, Bool.false_or] at h1
  obtain ⟨k, hk, h2⟩ := List.any_eq_true.1 h1
  rw [Bool.and_eq_true, Bool.and_eq_true] at h2
  obtain ⟨h3, h6, h4⟩ := h2
  cases ho : ops[k]? with
  | none => rw [ho] at h4; cases h4
  | some o =>
    rw [ho] at h4
    obtain ⟨e, he, h5⟩ := Array.any_eq_true'.1 h4
    rw [Bool.and_eq_true] at h5
    exact ⟨k, o, e, by simpa using h3, by have := List.mem_range.1 hk; omega, by simpa using h6, ho, he, by simpa using h5.1, h5.2⟩

theorem wp_region_fix {id : Nat} {a : Act} {w : World} (n : Nat) (late : Nat → Bool) (Fr : (Nat → Value) → Act) (V : Nat → Value) (R : World → Prop) {x0 : Nat → Value} (ha : a = Fr x0) (hm : P.follows .mixedOrders = true) (hb : backB ops = true) (hg : ops.all (fun o => o.guard.isNone) = true) (hn : ops.size = n + 1)
    (hl : foreB ops n late = true) (hx : ∀ x y : Nat → Value, (∀ j, j ≤ n → x j = y j) → Fr x = Fr y)
    (hstep : ∀ i oi (x : Nat → Value) w', i < n → ops[i]? = some oi → Below w.heap.size w w' → (∀ e ∈ oi.after, Region.binds .any e = true → x e.on = V e.on) → oi.wp P (Fr x) w' (fun a' w2 => a' = Fr (upd x i (V i)) ∧ Below w'.heap.size w' w2) Q)
    (hlate : ∀ i oi (x : Nat → Value) w', i < n → late i = true → ops[i]? = some oi → (∀ e ∈ oi.after, Region.binds .any e = true → x e.on = V e.on) → oi.wp P (Fr x) w' (fun a' w2 => a' = Fr (upd x i (V i)) ∧ w2 = w') Q)
    (hlast : ∀ oi (x : Nat → Value) w', ops[n]? = some oi → Below w.heap.size w w' → (∀ j, j < n → late j = false → x j = V j) → oi.wp P (Fr x) w' (fun a' w2 => a' = Fr (upd x n (V n)) ∧ R w2) Q)
    (hend : ∀ w', R w' → Q .normal (Fr V) w') : (Code.region id ops true).wp P Q a w := by
  subst ha
  refine wp_region_inv hm hb (fun L a w' => (∀ k o e, ops[k]? = some o → L k = true → e ∈ o.after → Region.binds .any e = true → L e.on = true) ∧ (∃ x : Nat → Value, a = Fr x ∧ (∀ j, j ≤ n → L j = true → x j = V j) ∧ ((L n = false ∧ Below w.heap.size w w') ∨ (L n = true ∧ (∀ j, j < n → late j = false → L j = true) ∧ R w')))) ?_ ?_ ?_
  · exact ⟨fun k o e _ h => (by cases h), _, rfl, fun j _ h => (by cases h), .inl ⟨rfl, (Below.refl _ _).drew⟩⟩
  · rintro L a w' i oi ⟨hclo, x, rfl, hv, hI⟩ ho hli hall
    have hi : i < n + 1 := by rw [← hn]; exact (Array.getElem?_eq_some_iff.1 ho).1
    have hw : Region.wanted oi (yielded ops (Fr x).tmps) = true := by
      have h := Array.all_eq_true_iff_forall_mem.1 hg oi (Array.mem_of_getElem? ho)
      have h2 : oi.guard = none := by simpa using h
      simp [Region.wanted, h2]
    rw [if_pos hw]
    have hclo' : ∀ k o e, ops[k]? = some o → (if k = i then true else L k) = true → e ∈ o.after → Region.binds .any e = true → (if e.on = i then true else L e.on) = true := fun k o e hk hlk he hbd => by
      by_cases c : e.on = i
      · rw [if_pos c]
      · rw [if_neg c]
        by_cases d : k = i
        · subst d
          rw [ho] at hk; cases hk
          exact hall e he hbd
        · rw [if_neg d] at hlk
          exact hclo k o e hk hlk he hbd
    have hv' : ∀ j, j ≤ n → (if j = i then true else L j) = true → upd x i (V i) j = V j := fun j hj hlj => by
      by_cases d : j = i
      · subst d; exact upd_eq _ _ _
      · rw [upd_ne d]; rw [if_neg d] at hlj; exact hv j hj hlj
    have hon : ∀ e ∈ oi.after, Region.binds .any e = true → x e.on = V e.on := fun e he hbd => hv _ (by have := backB_spec hb ho e he hbd; omega) (hall e he hbd)
    rcases hI with ⟨hLn, hbe⟩ | ⟨hLn, hLj, hR⟩
    · by_cases c : i = n
      · subst c
        have hd : ∀ m j, i - j ≤ m → j < i → late j = false → L j = true := by
          intro m
          induction m with
          | zero => intro j h1 h2; omega
          | succ m ih =>
            intro j h1 h2 h0
            obtain ⟨k, o, e, h3, h4, h9, h5, h6, h7, h8⟩ := foreB_spec hl h2 h0
            subst h7
            by_cases d : k = i
            · subst d
              rw [ho] at h5; cases h5
              exact hall e h6 h8
            · exact hclo k o e h5 (ih k (by omega) (by omega) h9) h6 h8
        exact Oper.wp_mono (fun a' w2 h => ⟨hclo', _, h.1, hv', .inr ⟨if_pos rfl, fun j hj h0 => by dsimp only; rw [if_neg (by omega)]; exact hd _ j (Nat.le_refl _) hj h0, h.2⟩⟩) (hlast oi x w' ho hbe fun j hj h0 => hv j (by omega) (hd _ j (Nat.le_refl _) hj h0))
      · exact Oper.wp_mono (fun a' w2 h => ⟨hclo', _, h.1, hv', .inl ⟨by dsimp only; rw [if_neg (fun e => c e.symm)]; exact hLn, hbe.trans (h.2.mono hbe.size)⟩⟩) (hstep i oi x w' (by omega) ho hbe hon)
    · have c : i ≠ n := fun e => by subst e; rw [hLn] at hli; cases hli
      have hlt : late i = true := by
        cases h0 : late i with
        | true => rfl
        | false => rw [hLj i (by omega) h0] at hli; cases hli
      refine Oper.wp_mono (fun a' w2 h => ⟨hclo', _, h.1, hv', .inr ⟨by dsimp only; rw [if_neg (fun e => c e.symm)]; exact hLn, fun j hj h0 => ?_, by rw [h.2]; exact hR⟩⟩) (hlate i oi x w' (by omega) hlt ho hon)
      dsimp only
      by_cases d : j = i
      · rw [if_pos d]
      · rw [if_neg d]; exact hLj j hj h0
  · rintro L a w' ⟨-, x, rfl, hv, hI⟩ hall
    rcases hI with ⟨hLn, -⟩ | ⟨-, -, hR⟩
    · rw [hall n (by omega)] at hLn; cases hLn
    · rw [hx x V fun j hj => hv j hj (hall j (by omega))]
      exact hend _ hR
end

end Go.Proofs.YtadoihddmbbjoaaDoor
