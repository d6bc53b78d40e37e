/-
  Rows of runs in memory, in a block of the call's own (OwnAt); slices.Insert at such a row: one run put in.
-/
import Derived.Test.YteabigobnjebaaaLockMath
import Derived.Laws.CopyRow
import Derived.Laws.Externs
import Derived.Lib.Overlaps
import Derived.Lib.AppendZeros
import Derived.Lib.Walk
import Derived.Deep.AppendLies
import Derived.Deep.RegionLaw
import Derived.Lib.Hide
import Derived.IntWalk
namespace Go.Proofs.Yteabigobnjebaaa
open Go.RowKit

def flat3 : List RunT → List Value
  | [] => []
  | r :: rs => .int .i64 r.1 :: .int .i64 r.2.1 :: .int .i64 r.2.2 :: flat3 rs
abbrev r0 : RunT := (0, 0, 0)

theorem flat3_len : ∀ R : List RunT, (flat3 R).length = R.length * 3
  | [] => rfl
  | r :: rs => by simp [flat3, flat3_len rs]; omega
theorem flat3_app : ∀ A B : List RunT, flat3 (A ++ B) = flat3 A ++ flat3 B
  | [], B => rfl
  | r :: rs, B => by simp [flat3, flat3_app rs B]
theorem flat3_take : ∀ (R : List RunT) (k : Nat), (flat3 R).take (k * 3) = flat3 (R.take k)
  | [], k => by simp [flat3]
  | r :: rs, 0 => by simp [flat3]
  | r :: rs, k + 1 => by
    rw [show (k + 1) * 3 = k * 3 + 1 + 1 + 1 by omega]
    simp [flat3, flat3_take rs k]
theorem flat3_drop : ∀ (R : List RunT) (k : Nat), (flat3 R).drop (k * 3) = flat3 (R.drop k)
  | [], k => by simp [flat3]
  | r :: rs, 0 => by simp [flat3]
  | r :: rs, k + 1 => by
    rw [show (k + 1) * 3 = k * 3 + 1 + 1 + 1 by omega]
    simp [flat3, flat3_drop rs k]
theorem flat3_at : ∀ (R : List RunT) (i : Nat), i < R.length → (flat3 R)[i * 3]? = some (.int .i64 (R.getD i r0).1) ∧ (flat3 R)[i * 3 + 1]? = some (.int .i64 (R.getD i r0).2.1) ∧ (flat3 R)[i * 3 + 2]? = some (.int .i64 (R.getD i r0).2.2)
  | r :: rs, 0, _ => ⟨rfl, rfl, rfl⟩
  | r :: rs, i + 1, h => by
    have := flat3_at rs i (by simpa using h)
    rw [show (i + 1) * 3 = i * 3 + 1 + 1 + 1 by omega, show i * 3 + 1 + 1 + 1 + 1 = i * 3 + 1 + 1 + 1 + 1 by omega, show i * 3 + 1 + 1 + 1 + 2 = i * 3 + 2 + 1 + 1 + 1 by omega]
    simpa [flat3] using this

/-- Block g, of the call's own, is a row that reads as R and has room for cap runs. -/
def OwnAt (w : World) (g cap : Nat) (R : List RunT) : Prop :=
  ∃ cur, w.heap[g]? = some (.cells cur 126 (0, 0)) ∧ R.length ≤ cap ∧ cap ≤ maxLen ∧ cur.size = cap * 3 ∧ cur.toList.take (R.length * 3) = flat3 R

theorem OwnAt.block {w w1 : World} {g cap : Nat} {R : List RunT} (h : OwnAt w g cap R) (e : w1.heap[g]? = w.heap[g]?) : OwnAt w1 g cap R := by
  obtain ⟨cur, h1, h2⟩ := h
  exact ⟨cur, e.trans h1, h2⟩
theorem OwnAt.lt {w : World} {g cap : Nat} {R : List RunT} (h : OwnAt w g cap R) : g < w.heap.size := by
  obtain ⟨cur, h1, _⟩ := h
  exact (Array.getElem?_eq_some_iff.1 h1).1
theorem OwnAt.keep {w w1 : World} {g cap : Nat} {R : List RunT} (h : OwnAt w g cap R) (hb : Below w.heap.size w w1) : OwnAt w1 g cap R := h.block (hb.block g h.lt)
theorem OwnAt.grown {w w1 : World} {g cap : Nat} {R : List RunT} {row : Option Nat} (h : OwnAt w g cap R) (hb : w.grownBy w1 row) (hne : row ≠ some g) : OwnAt w1 g cap R := h.block (hb.block g h.lt (fun e => hne e.symm))
theorem OwnAt.own {w : World} {g cap base : Nat} {R : List RunT} (h : OwnAt w g cap R) (hb : base ≤ g) : w.ownsRow base 126 3 (.slice (some ⟨g, 0, none⟩) R.length cap) R.length (flat3 R) := by
  obtain ⟨cur, h1, h2, h3, h4, h5⟩ := h
  exact ⟨flat3_len R, .inr ⟨g, cap, cur, rfl, hb, h1, h2, h3, h4, h5⟩⟩
theorem OwnAt.of_own {w : World} {g cap base : Nat} {R : List RunT} (h : w.ownsRow base 126 3 (.slice (some ⟨g, 0, none⟩) R.length cap) R.length (flat3 R)) : OwnAt w g cap R := by
  rcases h.2 with ⟨e, _⟩ | ⟨g', cap', cur, e, hb, h1, h2, h3, h4, h5⟩
  · cases e
  · cases e
    exact ⟨cur, h1, h2, h3, h4, h5⟩
theorem OwnAt.cap {w : World} {g cap : Nat} {R : List RunT} (h : OwnAt w g cap R) : R.length ≤ cap ∧ cap ≤ 9223372036854775807 := by
  obtain ⟨cur, h1, h2, h3, h4, h5⟩ := h
  unfold maxLen at h3
  exact ⟨h2, by omega⟩

theorem OwnAt.cells {w : World} {g cap : Nat} {R : List RunT} (h : OwnAt w g cap R) {i : Nat} (hi : i < R.length) :
    w.cell? ⟨g, i * 3, none⟩ = some (.int .i64 (R.getD i r0).1) ∧ w.cell? ⟨g, i * 3 + 1, none⟩ = some (.int .i64 (R.getD i r0).2.1) ∧ w.cell? ⟨g, i * 3 + 2, none⟩ = some (.int .i64 (R.getD i r0).2.2) := by
  obtain ⟨cur, h1, h2, h3, h4, h5⟩ := h
  obtain ⟨a, b, c⟩ := flat3_at R i hi
  have key : ∀ j v, (flat3 R)[j]? = some v → w.cell? ⟨g, j, none⟩ = some v := fun j v hj => by
    rw [← h5, List.getElem?_take] at hj
    split at hj
    · simp only [World.cell?, h1]
      simpa using hj
    · cases hj
  exact ⟨key _ _ a, key _ _ b, key _ _ c⟩
theorem OwnAt.free {w : World} {g cap : Nat} {R : List RunT} (h : OwnAt w g cap R) (o : Nat) : w.frozen? ⟨g, o, none⟩ = false := by
  obtain ⟨cur, h1, _⟩ := h
  simp [World.frozen?, h1]

theorem infoRun : (Try.prog.info? 126).map (fun i => (i.zero, i.size, i.bytes)) = some (some (.agg #[.int .i64 0, .int .i64 0, .int .i64 0]), 3, 24) := by kernel_rfl

/-- 'copy' of elements of several cells into a row: all is read before anything is written. -/
theorem run_copy_rowN {P : Program} (w : World) (dT sT ty elem : TypeId) (size g o dLen dCap : Nat) (a : Addr) (sLen sCap : Nat) (cur : Array Value) (t : TypeId) (cs : List Value)
    (hu : P.underlying dT = some (.slice elem)) (hs : (P.info? elem).map (·.size) = some size)
    (hg : w.heap[g]? = some (.cells cur t (0, 0))) (hn : cs.length = Nat.min sLen dLen * size)
    (hsrc : ∀ j v, cs[j]? = some v → w.cell? (a.add j) = some v) (hfit : o + cs.length ≤ cur.size) (h1 : ∀ v ∈ cs, v.oneCell' = true) :
    (Builtin.copy_ #[dT, sT] ty #[.slice (some ⟨g, o, none⟩) dLen dCap, .slice (some a) sLen sCap]).run P w =
      .ok (goInt (Nat.min sLen dLen)) (w.setRow g (cur.toList.take o ++ cs ++ cur.toList.drop (o + cs.length)).toArray) := by
  have hl := run_loadCells_list (P := P) w a cs hsrc
  have hst := run_storeCells_at P g o t cs 0 cur w hg (by simpa using hfit) h1
  cases hq : P.info? elem with
  | none => simp [hq] at hs
  | some i =>
    have hi : i.size = size := by simpa [hq] using hs
    simp [Builtin.copy_, run_underlying hu, Builtin.lenOf, Builtin.firstCells, sizeOf, typeInfo, hq, hi, ← hn, hl, hst]

/-- The operation 'copy(d, s)' in the walk, where its run is known. -/
theorem wpList_copy_known {P : Program} (w : World) {ops : Array Oper} {rest : List Oper} {o : Oper} {a : Act} {Q : Exit → Act → World → Prop} (hgd : o.guard = none) (d s : Operand) (t t' : TypeId)
    (ho : o.op = .call { callee := .builtin .copy, args := #[d, s], argTypes := #[t, t'] }) (v u : Value) (hd : a.eval d = v) (hs : a.eval s = u) {v' : Value} {w' : World}
    (hr : (Builtin.copy_ #[t, t'] o.type #[v, u]).run P w = .ok v' w') (h : wpList P ops Q rest (a.put o.dst v') w') : wpList P ops Q (o :: rest) a w :=
  wpList_plain hgd fun _ hK => by
    unfold Oper.wp execOp
    simp only [ho, resolve, invoke, builtin, Sem.run_bind, Sem.run_pure, Result.andThen_ok, List.map_toArray, List.map_cons, List.map_nil, hd, hs, hr]
    exact hK _ _ h
theorem step_copy_known {P : Program} {ops : Array Oper} {o : Oper} {a : Act} {w : World} {K : Act → World → Prop} {Q : Exit → Act → World → Prop} {E : Prop}
    (hg : o.guard = none) (d x : Operand) (dT sT : TypeId) (hop : o.op = Op.call { callee := Callee.builtin Builtin.copy, args := #[d, x], argTypes := #[dT, sT] })
    (v u : Value) (hd : a.eval d = v) (hx : a.eval x = u) {v' : Value} {w' : World} (hr : (Builtin.copy_ #[dT, sT] o.type #[v, u]).run P w = .ok v' w') (hK : K (a.put o.dst v') w') :
    if Region.wanted o (yielded ops a.tmps) = true then Oper.wp P o a w K Q else E := by
  have hw : Region.wanted o (yielded ops a.tmps) = true := by simp [Region.wanted, hg]
  rw [if_pos hw]
  unfold Oper.wp
  simp [execOp, hop, resolve, invoke, builtin, hd, hx, hr, Result.andThen]
  exact hK

theorem setRow_at (w : World) (g : Nat) (cur cs : Array Value) (t : TypeId) (fr : Nat × Nat) (hg : w.heap[g]? = some (.cells cur t fr)) : (w.setRow g cs).heap[g]? = some (.cells cs t fr) := by
  have hlt : g < w.heap.size := (Array.getElem?_eq_some_iff.1 hg).1
  have hv : w.heap[g] = .cells cur t fr := (Array.getElem?_eq_some_iff.1 hg).2
  simp [World.setRow, hlt, Array.getElem_modify, hv]
theorem setRow_far (w : World) (g b : Nat) (cs : Array Value) (hne : b ≠ g) : (w.setRow g cs).heap[b]? = w.heap[b]? := by
  simp only [World.setRow, Array.getElem?_modify]
  rw [if_neg (fun e => hne e.symm)]
theorem grown_setRow {a w : World} {g : Nat} {row : Option Nat} (cs : Array Value) (h : a.grownBy w row) (hrow : row = some g ∨ a.heap.size ≤ g) : a.grownBy (w.setRow g cs) row :=
  ⟨h.os, h.tape, h.output, by simpa [World.setRow] using h.size, fun k hk hne => by
    rw [setRow_far w g k cs (fun e => by
      rcases hrow with h | h
      · exact hne (by rw [h, e])
      · omega)]
    exact h.block k hk hne⟩

def insL (R : List RunT) (k : Nat) (x : RunT) : List RunT := R.take k ++ x :: R.drop k
theorem insL_len {R : List RunT} {k : Nat} {x : RunT} (h : k ≤ R.length) : (insL R k x).length = R.length + 1 := by unfold insL; simp; omega
theorem insL_end {R : List RunT} {x : RunT} : insL R R.length x = R ++ [x] := by unfold insL; simp

/-- What slices.Insert leaves. -/
def InsAt (w : World) (g : Nat) (R : List RunT) (e : Ending) (w' : World) : Prop :=
  ∃ g' cap', e = .returned (.slice (some ⟨g', 0, none⟩) R.length cap') ∧ OwnAt w' g' cap' R ∧ w.grownBy w' (some g) ∧ (g' = g ∨ w.heap.size ≤ g')

end Go.Proofs.Yteabigobnjebaaa
