/-
  Rows of runs in memory, in a block of the call's own (OwnAt); slices.Insert at such a row: one run put in.
  slices.Insert of one run into a row of the call's own: at the end, in place, and where there is no room.
-/
import Derived.Test.YtfifimdaepebeaaLockMath
import Derived.Laws.CopyRow
import Derived.Laws.Externs
import Derived.Lib.Overlaps
import Derived.Lib.AppendZeros
import Derived.Lib.Walk
import Derived.Deep.AppendLies
import Derived.Deep.RegionLaw
import Derived.Lib.Hide
import Derived.IntWalk
import Derived.Lib.AppendZerosOnto
namespace Go.Proofs.Ytfifimdaepebeaa
open Go.RowKit

def flat3 : List RunT → List Value
  | [] => []
  | r :: rs => .int .i64 r.1 :: .int .i64 r.2.1 :: .int .i64 r.2.2 :: flat3 rs
abbrev r0 : RunT := (0, 0, 0)

theorem flat3_len : ∀ R : List RunT, (flat3 R).length = R.length * 3
  | [] => rfl
  | r :: rs => by simp [flat3, flat3_len rs]; omega
theorem flat3_app : ∀ A B : List RunT, flat3 (A ++ B) = flat3 A ++ flat3 B
  | [], B => rfl
  | r :: rs, B => by simp [flat3, flat3_app rs B]
theorem flat3_take : ∀ (R : List RunT) (k : Nat), (flat3 R).take (k * 3) = flat3 (R.take k)
  | [], k => by simp [flat3]
  | r :: rs, 0 => by simp [flat3]
  | r :: rs, k + 1 => by
    rw [show (k + 1) * 3 = k * 3 + 1 + 1 + 1 by omega]
    simp [flat3, flat3_take rs k]
theorem flat3_drop : ∀ (R : List RunT) (k : Nat), (flat3 R).drop (k * 3) = flat3 (R.drop k)
  | [], k => by simp [flat3]
  | r :: rs, 0 => by simp [flat3]
  | r :: rs, k + 1 => by
    rw [show (k + 1) * 3 = k * 3 + 1 + 1 + 1 by omega]
    simp [flat3, flat3_drop rs k]
theorem flat3_at : ∀ (R : List RunT) (i : Nat), i < R.length → (flat3 R)[i * 3]? = some (.int .i64 (R.getD i r0).1) ∧ (flat3 R)[i * 3 + 1]? = some (.int .i64 (R.getD i r0).2.1) ∧ (flat3 R)[i * 3 + 2]? = some (.int .i64 (R.getD i r0).2.2)
  | r :: rs, 0, _ => ⟨rfl, rfl, rfl⟩
  | r :: rs, i + 1, h => by
    have := flat3_at rs i (by simpa using h)
    rw [show (i + 1) * 3 = i * 3 + 1 + 1 + 1 by omega, show i * 3 + 1 + 1 + 1 + 1 = i * 3 + 1 + 1 + 1 + 1 by omega, show i * 3 + 1 + 1 + 1 + 2 = i * 3 + 2 + 1 + 1 + 1 by omega]
    simpa [flat3] using this

/-- Block g, of the call's own, is a row that reads as R and has room for cap runs. -/
def OwnAt (w : World) (g cap : Nat) (R : List RunT) : Prop :=
  ∃ cur, w.heap[g]? = some (.cells cur 101 (0, 0)) ∧ R.length ≤ cap ∧ cap ≤ maxLen ∧ cur.size = cap * 3 ∧ cur.toList.take (R.length * 3) = flat3 R

theorem OwnAt.block {w w1 : World} {g cap : Nat} {R : List RunT} (h : OwnAt w g cap R) (e : w1.heap[g]? = w.heap[g]?) : OwnAt w1 g cap R := by
  obtain ⟨cur, h1, h2⟩ := h
  exact ⟨cur, e.trans h1, h2⟩
theorem OwnAt.lt {w : World} {g cap : Nat} {R : List RunT} (h : OwnAt w g cap R) : g < w.heap.size := by
  obtain ⟨cur, h1, _⟩ := h
  exact (Array.getElem?_eq_some_iff.1 h1).1
theorem OwnAt.keep {w w1 : World} {g cap : Nat} {R : List RunT} (h : OwnAt w g cap R) (hb : Below w.heap.size w w1) : OwnAt w1 g cap R := h.block (hb.block g h.lt)
theorem OwnAt.grown {w w1 : World} {g cap : Nat} {R : List RunT} {row : Option Nat} (h : OwnAt w g cap R) (hb : w.grownBy w1 row) (hne : row ≠ some g) : OwnAt w1 g cap R := h.block (hb.block g h.lt (fun e => hne e.symm))
theorem OwnAt.own {w : World} {g cap base : Nat} {R : List RunT} (h : OwnAt w g cap R) (hb : base ≤ g) : w.ownsRow base 101 3 (.slice (some ⟨g, 0, none⟩) R.length cap) R.length (flat3 R) := by
  obtain ⟨cur, h1, h2, h3, h4, h5⟩ := h
  exact ⟨flat3_len R, .inr ⟨g, cap, cur, rfl, hb, h1, h2, h3, h4, h5⟩⟩
theorem OwnAt.of_own {w : World} {g cap base : Nat} {R : List RunT} (h : w.ownsRow base 101 3 (.slice (some ⟨g, 0, none⟩) R.length cap) R.length (flat3 R)) : OwnAt w g cap R := by
  rcases h.2 with ⟨e, _⟩ | ⟨g', cap', cur, e, hb, h1, h2, h3, h4, h5⟩
  · cases e
  · cases e
    exact ⟨cur, h1, h2, h3, h4, h5⟩
theorem OwnAt.cap {w : World} {g cap : Nat} {R : List RunT} (h : OwnAt w g cap R) : R.length ≤ cap ∧ cap ≤ 9223372036854775807 := by
  obtain ⟨cur, h1, h2, h3, h4, h5⟩ := h
  unfold maxLen at h3
  exact ⟨h2, by omega⟩

theorem OwnAt.cells {w : World} {g cap : Nat} {R : List RunT} (h : OwnAt w g cap R) {i : Nat} (hi : i < R.length) :
    w.cell? ⟨g, i * 3, none⟩ = some (.int .i64 (R.getD i r0).1) ∧ w.cell? ⟨g, i * 3 + 1, none⟩ = some (.int .i64 (R.getD i r0).2.1) ∧ w.cell? ⟨g, i * 3 + 2, none⟩ = some (.int .i64 (R.getD i r0).2.2) := by
  obtain ⟨cur, h1, h2, h3, h4, h5⟩ := h
  obtain ⟨a, b, c⟩ := flat3_at R i hi
  have key : ∀ j v, (flat3 R)[j]? = some v → w.cell? ⟨g, j, none⟩ = some v := fun j v hj => by
    rw [← h5, List.getElem?_take] at hj
    split at hj
    · simp only [World.cell?, h1]
      simpa using hj
    · cases hj
  exact ⟨key _ _ a, key _ _ b, key _ _ c⟩
theorem OwnAt.free {w : World} {g cap : Nat} {R : List RunT} (h : OwnAt w g cap R) (o : Nat) : w.frozen? ⟨g, o, none⟩ = false := by
  obtain ⟨cur, h1, _⟩ := h
  simp [World.frozen?, h1]

theorem infoRun : (Try.prog.info? 101).map (fun i => (i.zero, i.size, i.bytes)) = some (some (.agg #[.int .i64 0, .int .i64 0, .int .i64 0]), 3, 24) := by kernel_rfl

/-- 'copy' of elements of several cells into a row: all is read before anything is written. -/
theorem run_copy_rowN {P : Program} (w : World) (dT sT ty elem : TypeId) (size g o dLen dCap : Nat) (a : Addr) (sLen sCap : Nat) (cur : Array Value) (t : TypeId) (cs : List Value)
    (hu : P.underlying dT = some (.slice elem)) (hs : (P.info? elem).map (·.size) = some size)
    (hg : w.heap[g]? = some (.cells cur t (0, 0))) (hn : cs.length = Nat.min sLen dLen * size)
    (hsrc : ∀ j v, cs[j]? = some v → w.cell? (a.add j) = some v) (hfit : o + cs.length ≤ cur.size) (h1 : ∀ v ∈ cs, v.oneCell' = true) :
    (Builtin.copy_ #[dT, sT] ty #[.slice (some ⟨g, o, none⟩) dLen dCap, .slice (some a) sLen sCap]).run P w =
      .ok (goInt (Nat.min sLen dLen)) (w.setRow g (cur.toList.take o ++ cs ++ cur.toList.drop (o + cs.length)).toArray) := by
  have hl := run_loadCells_list (P := P) w a cs hsrc
  have hst := run_storeCells_at P g o t cs 0 cur w hg (by simpa using hfit) h1
  cases hq : P.info? elem with
  | none => simp [hq] at hs
  | some i =>
    have hi : i.size = size := by simpa [hq] using hs
    simp [Builtin.copy_, run_underlying hu, Builtin.lenOf, Builtin.firstCells, sizeOf, typeInfo, hq, hi, ← hn, hl, hst]

/-- The operation 'copy(d, s)' in the walk, where its run is known. -/
theorem wpList_copy_known {P : Program} (w : World) {ops : Array Oper} {rest : List Oper} {o : Oper} {a : Act} {Q : Exit → Act → World → Prop} (hgd : o.guard = none) (d s : Operand) (t t' : TypeId)
    (ho : o.op = .call { callee := .builtin .copy, args := #[d, s], argTypes := #[t, t'] }) (v u : Value) (hd : a.eval d = v) (hs : a.eval s = u) {v' : Value} {w' : World}
    (hr : (Builtin.copy_ #[t, t'] o.type #[v, u]).run P w = .ok v' w') (h : wpList P ops Q rest (a.put o.dst v') w') : wpList P ops Q (o :: rest) a w :=
  wpList_plain hgd fun _ hK => by
    unfold Oper.wp execOp
    simp only [ho, resolve, invoke, builtin, Sem.run_bind, Sem.run_pure, Result.andThen_ok, List.map_toArray, List.map_cons, List.map_nil, hd, hs, hr]
    exact hK _ _ h
theorem step_copy_known {P : Program} {ops : Array Oper} {o : Oper} {a : Act} {w : World} {K : Act → World → Prop} {Q : Exit → Act → World → Prop} {E : Prop}
    (hg : o.guard = none) (d x : Operand) (dT sT : TypeId) (hop : o.op = Op.call { callee := Callee.builtin Builtin.copy, args := #[d, x], argTypes := #[dT, sT] })
    (v u : Value) (hd : a.eval d = v) (hx : a.eval x = u) {v' : Value} {w' : World} (hr : (Builtin.copy_ #[dT, sT] o.type #[v, u]).run P w = .ok v' w') (hK : K (a.put o.dst v') w') :
    if Region.wanted o (yielded ops a.tmps) = true then Oper.wp P o a w K Q else E := by
  have hw : Region.wanted o (yielded ops a.tmps) = true := by simp [Region.wanted, hg]
  rw [if_pos hw]
  unfold Oper.wp
  simp [execOp, hop, resolve, invoke, builtin, hd, hx, hr, Result.andThen]
  exact hK

theorem setRow_at (w : World) (g : Nat) (cur cs : Array Value) (t : TypeId) (fr : Nat × Nat) (hg : w.heap[g]? = some (.cells cur t fr)) : (w.setRow g cs).heap[g]? = some (.cells cs t fr) := by
  have hlt : g < w.heap.size := (Array.getElem?_eq_some_iff.1 hg).1
  have hv : w.heap[g] = .cells cur t fr := (Array.getElem?_eq_some_iff.1 hg).2
  simp [World.setRow, hlt, Array.getElem_modify, hv]
theorem setRow_far (w : World) (g b : Nat) (cs : Array Value) (hne : b ≠ g) : (w.setRow g cs).heap[b]? = w.heap[b]? := by
  simp only [World.setRow, Array.getElem?_modify]
  rw [if_neg (fun e => hne e.symm)]
theorem grown_setRow {a w : World} {g : Nat} {row : Option Nat} (cs : Array Value) (h : a.grownBy w row) (hrow : row = some g ∨ a.heap.size ≤ g) : a.grownBy (w.setRow g cs) row :=
  ⟨h.os, h.tape, h.output, by simpa [World.setRow] using h.size, fun k hk hne => by
    rw [setRow_far w g k cs (fun e => by
      rcases hrow with h | h
      · exact hne (by rw [h, e])
      · omega)]
    exact h.block k hk hne⟩

def insL (R : List RunT) (k : Nat) (x : RunT) : List RunT := R.take k ++ x :: R.drop k
theorem insL_len {R : List RunT} {k : Nat} {x : RunT} (h : k ≤ R.length) : (insL R k x).length = R.length + 1 := by unfold insL; simp; omega
theorem insL_end {R : List RunT} {x : RunT} : insL R R.length x = R ++ [x] := by unfold insL; simp

/-- What slices.Insert leaves. -/
def InsAt (w : World) (g : Nat) (R : List RunT) (e : Ending) (w' : World) : Prop :=
  ∃ g' cap', e = .returned (.slice (some ⟨g', 0, none⟩) R.length cap') ∧ OwnAt w' g' cap' R ∧ w.grownBy w' (some g) ∧ (g' = g ∨ w.heap.size ≤ g')

end Go.Proofs.Ytfifimdaepebeaa

namespace Go.Proofs.Ytfifimdaepebeaa
open Go.RowKit

abbrev cel (x : RunT) : List Value := [.int .i64 x.1, .int .i64 x.2.1, .int .i64 x.2.2]

theorem three_of {w : World} {vb : Nat} {x : RunT} (hv : w.heap[vb]? = some (.cells #[.int .i64 x.1, .int .i64 x.2.1, .int .i64 x.2.2] 101 (0, 0))) :
    ∀ (j : Nat) (u : Value), (cel x)[j]? = some u → w.cell? ((⟨vb, 0, none⟩ : Addr).add j) = some u :=
  World.news_of_block hv

theorem addr_at (b off i : Nat) : (⟨b, off, none⟩ : Addr).add i = ⟨b, off + i, none⟩ := by
  rcases Nat.eq_zero_or_pos i with e | e
  · subst e; simp [Addr.add]
  · simp [Addr.add, Nat.ne_of_gt e]

theorem flat3_insL (R : List RunT) (k : Nat) (x : RunT) : flat3 (insL R k x) = flat3 (R.take k) ++ (cel x ++ flat3 (R.drop k)) := by
  unfold insL; rw [flat3_app]; rfl

theorem take_more {c f : List Value} {n k : Nat} (h : c.take n = f) (hk : k ≤ n) : c.take k = f.take k := by
  rw [← h, List.take_take, Nat.min_eq_left hk]

theorem ins_row (c : List Value) (R : List RunT) (k : Nat) (x : RunT) (cap : Nat) (hc : c.length = cap * 3) (ht : c.take (R.length * 3) = flat3 R) (hk : k ≤ R.length) (hr : R.length + 1 ≤ cap) (c1 : List Value)
    (e1 : c1 = c.take ((k + 1) * 3) ++ flat3 (R.drop k) ++ c.drop ((k + 1) * 3 + (flat3 (R.drop k)).length)) :
    c1.length = cap * 3 ∧ (c1.take (k * 3) ++ cel x ++ c1.drop (k * 3 + (cel x).length)).length = cap * 3 ∧ (c1.take (k * 3) ++ cel x ++ c1.drop (k * 3 + (cel x).length)).take ((R.length + 1) * 3) = flat3 (insL R k x) := by
  have hD : (flat3 (R.drop k)).length = (R.length - k) * 3 := by rw [flat3_len, List.length_drop]
  have hT : (flat3 (R.take k)).length = k * 3 := by rw [flat3_len, List.length_take, Nat.min_eq_left hk]
  have hl1 : c1.length = cap * 3 := by
    rw [e1]; simp only [List.length_append, List.length_take, List.length_drop, hD]; omega
  have t1 : c1.take (k * 3) = flat3 (R.take k) := by
    rw [e1, List.append_assoc, List.take_append_of_le_length (by rw [List.length_take]; omega), List.take_take, Nat.min_eq_left (by omega), take_more ht (by omega), flat3_take]
  have hlt : (c.take ((k + 1) * 3)).length = k * 3 + 3 := by rw [List.length_take]; omega
  have t2 : c1.drop (k * 3 + (cel x).length) = flat3 (R.drop k) ++ c.drop ((k + 1) * 3 + (flat3 (R.drop k)).length) := by
    rw [e1, List.append_assoc, List.drop_append_of_le_length (by rw [hlt]; simp), List.drop_of_length_le (by rw [hlt]; simp), List.nil_append]
  refine ⟨hl1, ?_, ?_⟩
  · simp only [List.length_append, List.length_take, List.length_drop, hl1]; simp; omega
  · rw [t1, t2, flat3_insL]
    have hlen : (flat3 (R.take k) ++ (cel x ++ flat3 (R.drop k))).length = (R.length + 1) * 3 := by
      simp only [List.length_append, hT, hD]; simp; omega
    rw [← List.append_assoc (flat3 (R.take k) ++ cel x), List.append_assoc (flat3 (R.take k)) (cel x), List.take_append_of_le_length (by rw [hlen]; exact Nat.le_refl _), List.take_of_length_le (by rw [hlen]; exact Nat.le_refl _)]

theorem grow_row (r : List Value) (R : List RunT) (k : Nat) (x : RunT) (G : Nat) (hc : r.length = G * 3) (ht : r.take (k * 3) = flat3 (R.take k)) (hk : k ≤ R.length) (hr : R.length + 1 ≤ G) (r1 : List Value)
    (e1 : r1 = r.take (k * 3) ++ cel x ++ r.drop (k * 3 + (cel x).length)) :
    r1.length = G * 3 ∧ (r1.take ((k + 1) * 3) ++ flat3 (R.drop k) ++ r1.drop ((k + 1) * 3 + (flat3 (R.drop k)).length)).length = G * 3 ∧ (r1.take ((k + 1) * 3) ++ flat3 (R.drop k) ++ r1.drop ((k + 1) * 3 + (flat3 (R.drop k)).length)).take ((R.length + 1) * 3) = flat3 (insL R k x) := by
  have hD : (flat3 (R.drop k)).length = (R.length - k) * 3 := by rw [flat3_len, List.length_drop]
  have hT : (flat3 (R.take k)).length = k * 3 := by rw [flat3_len, List.length_take, Nat.min_eq_left hk]
  rw [ht] at e1
  have hl1 : r1.length = G * 3 := by
    rw [e1]; simp only [List.length_append, hT, List.length_drop, hc]; simp; omega
  have hTX : (flat3 (R.take k) ++ cel x).length = (k + 1) * 3 := by simp only [List.length_append, hT]; simp; omega
  have t1 : r1.take ((k + 1) * 3) = flat3 (R.take k) ++ cel x := by
    rw [e1, List.take_append_of_le_length (by rw [hTX]; exact Nat.le_refl _), List.take_of_length_le (by rw [hTX]; exact Nat.le_refl _)]
  refine ⟨hl1, ?_, ?_⟩
  · rw [t1]; simp only [List.length_append, List.length_drop, hl1, hT, hD]; simp; omega
  · rw [t1, flat3_insL]
    have hlen : (flat3 (R.take k) ++ cel x ++ flat3 (R.drop k)).length = (R.length + 1) * 3 := by
      simp only [List.length_append, hT, hD]; simp; omega
    rw [List.take_append_of_le_length (by rw [hlen]; exact Nat.le_refl _), List.take_of_length_le (by rw [hlen]; exact Nat.le_refl _), List.append_assoc]

theorem append_alike {P : Program} {w : World} {t tx ty e e' : TypeId} {base : Option Addr} {n c : Nat} {x : Value} (ht : P.underlying t = some (.slice e)) (hx : P.underlying tx = some (.slice e')) :
    (Builtin.append_ #[t, tx] ty #[.slice base n c, x]).run P w = (Builtin.append_ #[t, t] ty #[.slice base n c, x]).run P w := by
  unfold Builtin.append_
  simp only [List.getElem?_toArray, List.getElem?_cons_zero, List.getElem?_cons_succ, Sem.run_bind, run_underlying ht, Result.andThen_ok]
  generalize (sizeOf e).run P w = r
  cases r with
  | ok a w1 => simp only [Result.andThen_ok, run_underlying hx]
  | halt h w1 => rfl

theorem flat3_one : ∀ (Q : List RunT), ∀ v ∈ flat3 Q, v.oneCell' = true
  | [], v, hv => by cases hv
  | r :: rs, v, hv => by
    simp only [flat3, List.mem_cons] at hv
    rcases hv with rfl | rfl | rfl | hv
    · rfl
    · rfl
    · rfl
    · exact flat3_one rs v hv

theorem heap_new (w : World) (o : Obj) : (w.alloc o).heap[w.heap.size]? = some o := by show (w.heap.push o)[w.heap.size]? = some o; simp

theorem grownBy_drew (w : World) (row : Option Nat) : w.grownBy w.drew row := ⟨rfl, rfl, rfl, Nat.le_refl _, fun _ _ _ => rfl⟩

set_option maxRecDepth 100000 in
set_option maxHeartbeats 1000000 in
theorem insert_end (g cap vb vc : Nat) (R : List RunT) (x : RunT) (w : World) (h : OwnAt w g cap R) (hR : 0 < R.length) (hl : R.length ≤ 1000)
    (hv : w.heap[vb]? = some (.cells #[.int .i64 x.1, .int .i64 x.2.1, .int .i64 x.2.2] 101 (0, 0))) :
    Calls Try.prog 100 #[.slice (some ⟨g, 0, none⟩) R.length cap, .int .i64 R.length, .slice (some ⟨vb, 0, none⟩) 1 vc] w (InsAt w g (insL R R.length x)) := by
  obtain ⟨i0, hi, hz0, hz1, hz2⟩ := info_parts infoRun
  obtain ⟨hc1, hc2⟩ := h.cap
  have hgw := h.lt
  have hown := h.own (Nat.le_refl g)
  have hnew := three_of hv
  have E : Hid (insL R R.length x = R ++ [x]) := insL_end
  obtain ⟨g', cap', w1, hr, hown', hgrow, hat, hltg⟩ := run_append_lies (P := Try.prog) w 74 74 g 101 i0 (.agg #[.int .i64 0, .int .i64 0, .int .i64 0]) 3 24 Try.underlying74 hi hz0 hz1 hz2 rfl (by decide) (.slice (some ⟨g, 0, none⟩) R.length cap) R.length (flat3 R) hown ⟨vb, 0, none⟩ 1 vc (cel x) rfl hnew (by simp [Value.oneCell']) (by omega) (by unfold maxLen; omega) (by omega) (by omega) w.heap.size rfl
  rw [← append_alike (tx := 73) Try.underlying74 Try.underlying73] at hr
  have HR := Lib.hid hr
  have HOw := Lib.hid hown'
  have HGr := Lib.hid hgrow
  have HAt := Lib.hid hat
  clear h hv hown hnew hi hz0 hz1 hz2 hr hown' hgrow hat hltg
  by_cases hcl : cap = R.length
  all_goals
    go_enter Try.func100, Try.ntmps100
    go_wp2_with (at_builtin; refine Lib.wpList_append_run _ rfl (.tmp 23) (.tmp 24) _ _ rfl _ _ rfl rfl _ _ HR.out ?_)
    go_ret
    rw [E.out]
    have e3 : flat3 (R ++ [x]) = flat3 R ++ cel x := by rw [flat3_app]; rfl
    have e4 : (R ++ [x]).length = R.length + 1 := by simp
    refine ⟨g', cap', by rw [e4]; rfl, OwnAt.of_own (base := g) (by rw [e3, e4]; exact HOw.out), HGr.out, ?_⟩
    rcases HAt.out with e | e
    · injection e with e; exact .inl e.symm
    · exact .inr (by omega)

set_option maxRecDepth 100000 in
set_option maxHeartbeats 2000000 in
theorem insert_room (g cap vb vc k : Nat) (R : List RunT) (x : RunT) (w : World) (h : OwnAt w g cap R) (hk0 : 0 < k) (hk : k < R.length) (hroom : R.length + 1 ≤ cap) (hl : R.length ≤ 1000)
    (hv : w.heap[vb]? = some (.cells #[.int .i64 x.1, .int .i64 x.2.1, .int .i64 x.2.2] 101 (0, 0))) (hne : vb ≠ g) :
    Calls Try.prog 100 #[.slice (some ⟨g, 0, none⟩) R.length cap, .int .i64 k, .slice (some ⟨vb, 0, none⟩) 1 vc] w (InsAt w g (insL R k x)) := by
  obtain ⟨i0, hi, hz0, hz1, hz2⟩ := info_parts infoRun
  obtain ⟨hc1, hc2⟩ := h.cap
  have hgw := h.lt
  obtain ⟨cur, hg, -, hcm, hcs, hct⟩ := h
  have hsz : (Try.prog.info? 101).map (·.size) = some 3 := by rw [hi]; simp [hz1]
  have hD : (flat3 (R.drop k)).length = (R.length - k) * 3 := by rw [flat3_len, List.length_drop]
  have hone : ∀ (Q : List RunT), ∀ v ∈ flat3 Q, v.oneCell' = true := flat3_one
  have hov : ∀ lb cb, (callFunc 102 #[.slice (some ⟨vb, 0, none⟩) 1 vc, .slice (some ⟨g, (k + 1) * 3, none⟩) lb cb]).run Try.prog w = .ok (.value (.bool false)) w := fun lb cb => by
    rw [run_callFunc_extern Try.func102 (by kernel_rfl) (by kernel_rfl) (by kernel_rfl) (e := Extern.SlicesOverlaps.overlaps #[73, 73] #[4]) (by kernel_rfl),
      Lib.run_overlaps_apart w 73 4 101 Try.underlying73 3 Try.sizeOf101 ⟨vb, 0, none⟩ ⟨g, (k + 1) * 3, none⟩ 1 vc lb cb hne 101 101 3 cur.size (by simp [World.shape?, hv]) (by simp [World.shape?, hg]) (by omega) (by simp [World.frozen?, hv]) (by simp [World.frozen?, hv])]
    rfl
  obtain ⟨c1, hc1e⟩ : ∃ c1, c1 = cur.toList.take ((k + 1) * 3) ++ flat3 (R.drop k) ++ cur.toList.drop ((k + 1) * 3 + (flat3 (R.drop k)).length) := ⟨_, rfl⟩
  have hrow := ins_row cur.toList R k x cap (by simpa using hcs) hct (by omega) hroom c1 hc1e
  have hcp1 : ∀ ty dc sc, (Builtin.copy_ #[74, 74] ty #[.slice (some ⟨g, (k + 1) * 3, none⟩) (R.length - k) dc, .slice (some ⟨g, k * 3, none⟩) (R.length + 1 - k) sc]).run Try.prog w.drew = .ok (goInt (Nat.min (R.length + 1 - k) (R.length - k))) (w.drew.setRow g c1.toArray) := fun ty dc sc => by
    rw [hc1e]
    refine run_copy_rowN w.drew _ _ ty 101 3 g ((k + 1) * 3) (R.length - k) dc ⟨g, k * 3, none⟩ (R.length + 1 - k) sc cur 101 (flat3 (R.drop k)) Try.underlying74 hsz hg (by rw [hD]; simp only [Nat.min_def]; split <;> omega) (fun j v hj => ?_) (by rw [hD]; omega) (hone _)
    rw [addr_at]
    have e1 : (flat3 R)[k * 3 + j]? = some v := by rw [← flat3_drop, List.getElem?_drop] at hj; exact hj
    rw [← hct, List.getElem?_take] at e1
    split at e1
    · show w.cell? _ = _
      simp only [World.cell?, hg]
      simpa using e1
    · cases e1
  obtain ⟨W1, hW1⟩ : ∃ W1, W1 = w.drew.setRow g c1.toArray := ⟨_, rfl⟩
  have hg1 : W1.heap[g]? = some (.cells c1.toArray 101 (0, 0)) := by rw [hW1]; exact setRow_at w.drew g cur _ _ _ hg
  have hv1 : W1.heap[vb]? = some (.cells #[.int .i64 x.1, .int .i64 x.2.1, .int .i64 x.2.2] 101 (0, 0)) := by rw [hW1, setRow_far _ _ _ _ hne]; exact hv
  have hcp2 : ∀ ty dc, (Builtin.copy_ #[74, 73] ty #[.slice (some ⟨g, k * 3, none⟩) (R.length + 1 - k) dc, .slice (some ⟨vb, 0, none⟩) 1 vc]).run Try.prog W1 = .ok (goInt (Nat.min 1 (R.length + 1 - k))) (W1.setRow g (c1.take (k * 3) ++ cel x ++ c1.drop (k * 3 + (cel x).length)).toArray) := fun ty dc => by
    have := run_copy_rowN (P := Try.prog) W1 74 73 ty 101 3 g (k * 3) (R.length + 1 - k) dc ⟨vb, 0, none⟩ 1 vc c1.toArray 101 (cel x) Try.underlying74 hsz hg1 (by simp only [Nat.min_def]; split <;> simp <;> omega) (three_of hv1) (by have := hrow.1; simp; omega) (by simp [Value.oneCell'])
    simpa using this
  have HG : Hid (w.grownBy (W1.setRow g (c1.take (k * 3) ++ cel x ++ c1.drop (k * 3 + (cel x).length)).toArray) (some g)) := by
    refine grown_setRow _ ?_ (.inl rfl)
    rw [hW1]
    exact grown_setRow _ (grownBy_drew w _) (.inl rfl)
  have HO : Hid (OwnAt (W1.setRow g (c1.take (k * 3) ++ cel x ++ c1.drop (k * 3 + (cel x).length)).toArray) g cap (insL R k x)) := by
    refine ⟨_, setRow_at W1 g _ _ _ _ hg1, by rw [insL_len (by omega)]; exact hroom, hcm, ?_, ?_⟩
    · rw [List.size_toArray]; exact hrow.2.1
    · rw [insL_len (by omega)]; exact hrow.2.2
  obtain ⟨W2, hW2⟩ : ∃ W2, W2 = W1.setRow g (c1.take (k * 3) ++ cel x ++ c1.drop (k * 3 + (cel x).length)).toArray := ⟨_, rfl⟩
  rw [← hW2] at HG HO
  simp only [← hW2] at hcp2
  have hz2' : ¬ ((k : Int) = (R.length : Int)) := by omega
  have HE : Hid ((insL R k x).length = R.length + 1) := insL_len (by omega)
  have hw1 : IntKind.i64.wrap ((k : Int) + 1) = (k : Int) + 1 := by rw [IntKind.wrap_i64]; omega
  have hb1 : (0 : Int) ≤ (k : Int) + 1 := by omega
  have htn : ((k : Int) + 1).toNat = k + 1 := by omega
  have hb3 : (k : Int) ≤ (R.length : Int) := by omega
  have hb4 : ¬ (cap = k) := by omega
  have hb6 : (k : Int) ≤ (R.length : Int) + 1 := by omega
  have hb7 : (k : Int) + 1 ≤ (R.length : Int) + 1 := by omega
  have hb5 : ¬ (cap = k + 1) := by omega
  rw [← hW1] at hcp1
  clear hW1 hW2 hrow hD hone hg hv hg1 hv1 hcs hct hc1e hi hz0 hz1 hz2 hsz
  go_enter Try.func100, Try.ntmps100
  go_wp2_with (simp only [hov])
  go_region_law (refine step_copy_known rfl _ _ 74 74 rfl _ _ (by simp [Act.eval, Act.put]) (by simp [Act.eval, Act.put]) (hcp1 _ _ _) ?_)
  go_wp2_with (at_builtin; refine wpList_copy_known _ rfl (.tmp 80) (.tmp 81) 74 73 rfl _ _ rfl rfl (hcp2 _ _) ?_)
  go_ret
  exact ⟨g, cap, by rw [HE.out]; rfl, HO.out, HG.out, .inl rfl⟩

set_option maxRecDepth 100000 in
set_option maxHeartbeats 2000000 in
theorem insert_grow (g cap vb vc k : Nat) (R : List RunT) (x : RunT) (w : World) (h : OwnAt w g cap R) (hk0 : 0 < k) (hk : k < R.length) (hroom : cap < R.length + 1) (hl : R.length ≤ 1000)
    (hv : w.heap[vb]? = some (.cells #[.int .i64 x.1, .int .i64 x.2.1, .int .i64 x.2.2] 101 (0, 0))) :
    Calls Try.prog 100 #[.slice (some ⟨g, 0, none⟩) R.length cap, .int .i64 k, .slice (some ⟨vb, 0, none⟩) 1 vc] w (InsAt w g (insL R k x)) := by
  obtain ⟨i0, hi, hz0, hz1, hz2⟩ := info_parts infoRun
  obtain ⟨hc1, hc2⟩ := h.cap
  have hgw := h.lt
  obtain ⟨cur, hg, -, hcm, hcs, hct⟩ := h
  have hvw : vb < w.heap.size := (Array.getElem?_eq_some_iff.1 hv).1
  have hsz : (Try.prog.info? 101).map (·.size) = some 3 := by rw [hi]; simp [hz1]
  have hD : (flat3 (R.drop k)).length = (R.length - k) * 3 := by rw [flat3_len, List.length_drop]
  have hT : (flat3 (R.take k)).length = k * 3 := by rw [flat3_len, List.length_take, Nat.min_eq_left (by omega)]
  have hone : ∀ (Q : List RunT), ∀ v ∈ flat3 Q, v.oneCell' = true := flat3_one
  have hat : ∀ j v, (flat3 R)[j]? = some v → w.cell? ⟨g, j, none⟩ = some v := fun j v hj => by
    rw [← hct, List.getElem?_take] at hj
    split at hj
    · simp only [World.cell?, hg]; simpa using hj
    · cases hj
  have hold : (Builtin.firstCells i0.size k (.slice (some ⟨g, 0, none⟩) k cap)).run Try.prog w.drew = .ok (flat3 (R.take k)).toArray w.drew := by
    rw [hz1]
    exact run_firstCells_some w.drew 3 k ⟨g, 0, none⟩ k cap (flat3 (R.take k)) hT (fun j v hj => by
      rw [addr_at, Nat.zero_add]
      rw [← flat3_take, List.getElem?_take] at hj
      split at hj
      · exact hat j v hj
      · cases hj)
  obtain ⟨G, hG⟩ : ∃ G, G = grownCap w (R.length + 1) cap 101 := ⟨_, rfl⟩
  obtain ⟨ROW, hROW⟩ : ∃ ROW : Array Value, ROW = (flat3 (R.take k)).toArray ++ Builtin.zeroCells (Value.agg #[.int .i64 0, .int .i64 0, .int .i64 0]).cells (R.length + 1 - k) ++ Builtin.zeroCells (Value.agg #[.int .i64 0, .int .i64 0, .int .i64 0]).cells (G - (R.length + 1)) := ⟨_, rfl⟩
  have hik : k + (R.length + 1 - k) = R.length + 1 := by omega
  have hkk : (R.length : Int) + 1 - (k : Int) = ((R.length + 1 - k : Nat) : Int) := by omega
  have hrz : ∀ ty, (Builtin.append_ #[74, 3] ty #[.slice (some ⟨g, 0, none⟩) k cap, .int .i64 ((R.length : Int) + 1 - (k : Int))]).run Try.prog w = .ok (.slice (some ⟨w.heap.size, 0, none⟩) (R.length + 1) G) (w.drew.alloc (.cells ROW 101)) := fun ty => by
    have h := Lib.run_append_grow_zeros (P := Try.prog) w 74 3 ty 101 i0 _ .i64 .i64 Try.underlying74 Try.underlying3 hi hz0 (some ⟨g, 0, none⟩) k cap (flat3 (R.take k)) hold (R.length + 1 - k) (by omega) (by omega) (by omega) (by omega) (by rw [hz2]; omega) (by rw [hz2, hik]; exact growslice_fits hroom (by omega))
    rw [hik, ← hG, ← hROW] at h
    rw [hkk]
    exact h
  have hGn : R.length + 1 ≤ G := by rw [hG]; exact grownCap_ge w _ _ _
  have hGm : G ≤ maxLen := by rw [hG]; exact grownCap_le_maxLen w (R.length + 1) cap 101 (by unfold maxLen; omega)
  have hRl : ROW.size = G * 3 := by
    rw [hROW]
    simp only [Array.size_append, List.size_toArray, hT, Builtin.zeroCells, Array.size_map, Array.size_range]
    have : (Value.agg #[.int .i64 0, .int .i64 0, .int .i64 0]).cells.size = 3 := rfl
    rw [this]; omega
  have hRt : ROW.toList.take (k * 3) = flat3 (R.take k) := by
    rw [hROW]
    simp only [Array.toList_append, List.append_assoc]
    rw [List.take_append_of_le_length (by rw [hT]; exact Nat.le_refl _), List.take_of_length_le (by rw [hT]; exact Nat.le_refl _)]
  obtain ⟨W1, hW1⟩ : ∃ W1, W1 = w.drew.alloc (.cells ROW 101) := ⟨_, rfl⟩
  have hN : W1.heap[w.heap.size]? = some (.cells ROW 101 (0, 0)) := by rw [hW1]; exact heap_new w.drew _
  have hB1 : ∀ b, b < w.heap.size → W1.heap[b]? = w.heap[b]? := fun b hb => by rw [hW1]; exact Below.heap_alloc w.drew _ b hb
  have hGr1 : w.grownBy W1 (some g) := by
    rw [hW1]
    have := World.grownBy_alloc w.drew (.cells ROW 101) (some g)
    exact ⟨this.os, this.tape, this.output, this.size, this.block⟩
  have hv1 : W1.heap[vb]? = some (.cells #[.int .i64 x.1, .int .i64 x.2.1, .int .i64 x.2.2] 101 (0, 0)) := (hB1 vb hvw).trans hv
  obtain ⟨r1, hr1⟩ : ∃ r1, r1 = ROW.toList.take (k * 3) ++ cel x ++ ROW.toList.drop (k * 3 + (cel x).length) := ⟨_, rfl⟩
  have hrow := grow_row ROW.toList R k x G (by simpa using hRl) hRt (by omega) hGn r1 hr1
  have hcpA : ∀ ty dc, (Builtin.copy_ #[74, 73] ty #[.slice (some ⟨w.heap.size, k * 3, none⟩) (R.length + 1 - k) dc, .slice (some ⟨vb, 0, none⟩) 1 vc]).run Try.prog W1 = .ok (goInt (Nat.min 1 (R.length + 1 - k))) (W1.setRow w.heap.size r1.toArray) := fun ty dc => by
    rw [hr1]
    exact run_copy_rowN (P := Try.prog) W1 74 73 ty 101 3 w.heap.size (k * 3) (R.length + 1 - k) dc ⟨vb, 0, none⟩ 1 vc ROW 101 (cel x) Try.underlying74 hsz hN (by simp only [Nat.min_def]; split <;> simp <;> omega) (three_of hv1) (by rw [hRl]; simp; omega) (by simp [Value.oneCell'])
  obtain ⟨W2, hW2⟩ : ∃ W2, W2 = W1.setRow w.heap.size r1.toArray := ⟨_, rfl⟩
  have hN2 : W2.heap[w.heap.size]? = some (.cells r1.toArray 101 (0, 0)) := by rw [hW2]; exact setRow_at W1 _ ROW _ _ _ hN
  have hg2 : W2.heap[g]? = some (.cells cur 101 (0, 0)) := by rw [hW2, setRow_far _ _ _ _ (by omega)]; exact (hB1 g hgw).trans hg
  have hGr2 : w.grownBy W2 (some g) := by rw [hW2]; exact grown_setRow _ hGr1 (.inr (Nat.le_refl _))
  simp only [← hW2] at hcpA
  have hcpB : ∀ ty dc sc, (Builtin.copy_ #[74, 74] ty #[.slice (some ⟨w.heap.size, (k + 1) * 3, none⟩) (R.length - k) dc, .slice (some ⟨g, k * 3, none⟩) (R.length - k) sc]).run Try.prog W2.drew = .ok (goInt (Nat.min (R.length - k) (R.length - k))) (W2.drew.setRow w.heap.size (r1.take ((k + 1) * 3) ++ flat3 (R.drop k) ++ r1.drop ((k + 1) * 3 + (flat3 (R.drop k)).length)).toArray) := fun ty dc sc => by
    have := run_copy_rowN (P := Try.prog) W2.drew 74 74 ty 101 3 w.heap.size ((k + 1) * 3) (R.length - k) dc ⟨g, k * 3, none⟩ (R.length - k) sc r1.toArray 101 (flat3 (R.drop k)) Try.underlying74 hsz hN2 (by rw [hD]; simp only [Nat.min_def]; split <;> omega) (fun j v hj => ?_) (by have := hrow.1; simp; omega) (hone _)
    · simpa using this
    · rw [addr_at]
      have e1 : (flat3 R)[k * 3 + j]? = some v := by rw [← flat3_drop, List.getElem?_drop] at hj; exact hj
      rw [← hct, List.getElem?_take] at e1
      split at e1
      · show W2.cell? _ = _
        simp only [World.cell?, hg2]
        simpa using e1
      · cases e1
  obtain ⟨W3, hW3⟩ : ∃ W3, W3 = W2.drew.setRow w.heap.size (r1.take ((k + 1) * 3) ++ flat3 (R.drop k) ++ r1.drop ((k + 1) * 3 + (flat3 (R.drop k)).length)).toArray := ⟨_, rfl⟩
  have HO : Hid (OwnAt W3 w.heap.size G (insL R k x)) := by
    refine ⟨(r1.take ((k + 1) * 3) ++ flat3 (R.drop k) ++ r1.drop ((k + 1) * 3 + (flat3 (R.drop k)).length)).toArray, by rw [hW3]; exact setRow_at W2.drew _ _ _ _ _ hN2, by rw [insL_len (by omega)]; exact hGn, hGm, ?_, ?_⟩
    · rw [List.size_toArray]; exact hrow.2.1
    · rw [insL_len (by omega)]; exact hrow.2.2
  have HG : Hid (w.grownBy W3 (some g)) := by
    have : w.grownBy W2.drew (some g) := ⟨hGr2.os, hGr2.tape, hGr2.output, hGr2.size, hGr2.block⟩
    show _
    rw [hW3]; exact grown_setRow _ this (.inr (Nat.le_refl _))
  simp only [← hW3] at hcpB
  simp only [← hW1] at hrz
  have HE : Hid ((insL R k x).length = R.length + 1) := insL_len (by omega)
  have hz2' : ¬ ((k : Int) = (R.length : Int)) := by omega
  have hz3 : (cap : Int) < (R.length : Int) + 1 := by omega
  have hw1 : IntKind.i64.wrap ((k : Int) + 1) = (k : Int) + 1 := by rw [IntKind.wrap_i64]; omega
  have hb1 : (0 : Int) ≤ (k : Int) + 1 := by omega
  have htn : ((k : Int) + 1).toNat = k + 1 := by omega
  have hb3 : (k : Int) ≤ (R.length : Int) := by omega
  have hb4 : ¬ (cap = k) := by omega
  have hb5 : ¬ (G = k) := by omega
  have hb6 : ¬ (G = k + 1) := by omega
  have hb7 : (k : Int) ≤ (R.length : Int) + 1 := by omega
  have hb8 : (k : Int) + 1 ≤ (R.length : Int) + 1 := by omega
  have hb9 : (G : Int) ≤ 9223372036854775807 := by unfold maxLen at hGm; omega
  clear hW1 hW2 hW3 hrow hD hone hg hv hv1 hcs hct hi hz0 hz1 hz2 hsz hkk hik hold hROW hG hRl hRt hN hN2 hg2 hGr1 hGr2 hB1 hr1 hat hT hGm hcm
  go_enter Try.func100, Try.ntmps100
  go_wp2_with (first | (at_builtin; refine Lib.wpList_append_run _ rfl (.tmp 34) (.tmp 39) _ _ rfl _ _ rfl rfl _ _ (hrz _) ?_) | (at_builtin; refine wpList_copy_known _ rfl (.tmp 43) (.tmp 44) 74 73 rfl _ _ rfl rfl (hcpA _ _) ?_))
  go_region_law (refine step_copy_known rfl _ _ 74 74 rfl _ _ (by simp [Act.eval, Act.put]) (by simp [Act.eval, Act.put]) (hcpB _ _ _) ?_)
  go_wp2
  go_ret
  exact ⟨w.heap.size, G, by rw [HE.out]; rfl, HO.out, HG.out, .inr (Nat.le_refl _)⟩

/-- slices.Insert of one run behind the first k, 0 < k. -/
theorem insert_any (g cap vb vc k : Nat) (R : List RunT) (x : RunT) (w : World) (h : OwnAt w g cap R) (hk0 : 0 < k) (hk : k ≤ R.length) (hl : R.length ≤ 1000)
    (hv : w.heap[vb]? = some (.cells #[.int .i64 x.1, .int .i64 x.2.1, .int .i64 x.2.2] 101 (0, 0))) (hne : vb ≠ g) :
    Calls Try.prog 100 #[.slice (some ⟨g, 0, none⟩) R.length cap, .int .i64 k, .slice (some ⟨vb, 0, none⟩) 1 vc] w (InsAt w g (insL R k x)) := by
  by_cases e : k = R.length
  · subst e; exact insert_end g cap vb vc R x w h hk0 hl hv
  · by_cases hroom : R.length + 1 ≤ cap
    · exact insert_room g cap vb vc k R x w h hk0 (by omega) hroom hl hv hne
    · exact insert_grow g cap vb vc k R x w h hk0 (by omega) (by omega) hl hv

end Go.Proofs.Ytfifimdaepebeaa
