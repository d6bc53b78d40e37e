/-
  What a round keeps ('Kept'): at a block that is no cells, at new memory, at 'out = append(out, s)'. The append inside a fence, with the place of the new row. The iterator's contract in the form that the law for a range over a function asks.
-/
import Derived.Test.YtaeolgbgcchaeaaDoorIter
import Derived.Test.YtaeolgbgcchaeaaDoorOf
import Derived.Deep.AppendLies
namespace Go.Proofs.YtaeolgbgcchaeaaDoor
open Go.RowKit

attribute [local go_sem] Oper.semAt_some

theorem wpListIn_append_lies {F : Fence} {n : Nat} {P : Program} (w : World) {ops : Array Oper} {rest : List Oper} {o : Oper} {a : Act} {Q : Exit → Act → World → Prop}
    (hg : o.guard = none) (s x : Operand) (t : TypeId) (hop : o.op = Op.call { callee := Callee.builtin Builtin.append, args := #[s, x], argTypes := #[t, t] })
    (base : Nat) (e : TypeId) (i : TypeInfo) (z : Value) (size bytes : Nat) (h1 : P.underlying t = some (.slice e)) (h2 : P.info? e = some i) (h3 : i.zero = some z) (h4 : i.size = size) (h5 : i.bytes = bytes) (h6 : z.cells.size = size) (h7 : 0 < size)
    (v : Value) (k : Nat) (xs : List Value) (hs : a.eval s = v) (hown : w.ownsRow base e size v k xs) (ad : Addr) (m c : Nat) (news : List Value) (hx : a.eval x = .slice (some ad) m c) (hn : news.length = m * size)
    (hc : ∀ j u, news[j]? = some u → w.cell? (ad.add j) = some u) (h1c : ∀ u ∈ news, u.oneCell' = true) (hm : 0 < m) (b1 : k + m ≤ maxLen) (b2 : (k + m) * bytes ≤ 140737488355328) (b3 : base ≤ w.heap.size) (H : Nat) (hH : w.heap.size = H)
    (hK : ∀ g cap w', w'.ownsRow base e size (.slice (some ⟨g, 0, none⟩) (k + m) cap) (k + m) (xs ++ news) → w.grownBy w' v.ownBlock → (v.ownBlock = some g ∨ g = H) → g < w'.heap.size → wpListIn F n P ops Q rest (a.put o.dst (.slice (some ⟨g, 0, none⟩) (k + m) cap)) w') :
    wpListIn F n P ops Q (o :: rest) a w := by
  refine wpListIn_plain hg fun K hK' => ?_
  obtain ⟨g, cap, w', hrun, r1, r2, r3, r4⟩ := run_append_lies (P := P) w t o.type base e i z size bytes h1 h2 h3 h4 h5 h6 h7 v k xs hown ad m c news hn hc h1c hm b1 b2 b3 H hH
  unfold Oper.wpIn
  refine ⟨by simp [Oper.about, hop, resolve, Target.leads, Sem.run_pure], ?_⟩
  rw [Oper.semAt_plain F _ _ (by rw [hop]; intro c hc'; cases hc')]
  simp [execOp, hop, resolve, invoke, builtin, hs, hx, hrun, Result.andThen]
  exact hK' _ _ (hK g cap w' r1 r2 r3 r4)

theorem kept_put {n₀ R O : Nat} {w : World} (hn : n₀ ≤ w.heap.size) (hO : O < w.heap.size) (W : World) (l : Nat) (o o' : Obj) (hl : w.heap.size ≤ l) (h : W.heap[l]? = some o) (hc : o.isCells = false) (hw : o.isWalk = false) : Kept n₀ R O W (W.putObj l o') := by
  have hr : rowOf O (W.putObj l o') = rowOf O W := by
    have hb : Below w.heap.size W (W.putObj l o') := belowK_b (Nat.le_refl _) W l o o' hl h hc hw
    unfold rowOf; rw [hb.cell (p := ⟨O, 0, none⟩) hO]
  have hb : Below n₀ W (W.putObj l o') := belowK_b hn W l o o' hl h hc hw
  exact ⟨hb, fun b ob hlt h1 h2 h3 h4 h5 => ((grownBy_putObj' W l o').block b hlt (by intro e; cases e; rw [h] at h4; cases h4; rw [hc] at h5; cases h5)).trans h4, .inl hr,
    fun hA g e => by rw [hr] at e; exact Nat.lt_of_lt_of_le (hA g e) hb.size⟩

theorem kept_below {n₀ R O : Nat} {W W' : World} (hn : n₀ ≤ W.heap.size) (hO : O < W.heap.size) (h : Below W.heap.size W W') : Kept n₀ R O W W' :=
  ⟨h.mono hn, fun b ob hlt _ _ _ h4 _ => (h.block b hlt).trans h4, .inl (rowOf_below h hO),
    fun hA g e => by rw [rowOf_below h hO] at e; exact Nat.lt_of_lt_of_le (hA g e) h.size⟩

theorem kept_append {W w1 : World} {n₀ R O : Nat} {t e : TypeId} {size : Nat} {v : Value} {k m g cap mm : Nat} {xs ys : List Value} {tmp : Obj}
    (hv : Boxed W O t v) (hte : t ≠ e) (hrow : W.ownsRow n₀ e size v k xs) (hn₀ : n₀ ≤ W.heap.size) (hB : n₀ ≤ O)
    (hown' : w1.ownsRow n₀ e size (.slice (some ⟨g, 0, none⟩) mm cap) m ys) (hgrow : (W.alloc tmp).grownBy w1 v.ownBlock) (hat : v.ownBlock = some g ∨ g = W.heap.size + 1) (hlt : g < w1.heap.size) :
    Kept n₀ R O W (w1.setCell ⟨O, 0, none⟩ (.slice (some ⟨g, 0, none⟩) mm cap)) := by
  obtain ⟨a1, a2, a3, a4, a5⟩ := hv.appended hte hrow hn₀ hB hown' hgrow
  have r0 : rowOf O W = v.ownBlock := by unfold rowOf; rw [hv.cell]; rfl
  have r1 : rowOf O (w1.setCell ⟨O, 0, none⟩ (.slice (some ⟨g, 0, none⟩) mm cap)) = some g := by unfold rowOf; rw [a2.cell]; rfl
  refine ⟨a5, fun b ob hb h1 h2 h3 h4 h5 => ?_, ?_, fun _ g' e => ?_⟩
  · have e1 : (W.alloc tmp).heap[b]? = some ob := (Below.heap_alloc W _ b hb).trans h4
    have e2 : w1.heap[b]? = some ob := (hgrow.block b (by simp; omega) (fun e => h3 (r0.trans e.symm))).trans e1
    exact ((grownBy_setCell' w1 O _).block b (Array.getElem?_eq_some_iff.1 e2).1 (fun e => h2 (by injection e))).trans e2
  · rcases hat with h | h
    · exact .inl (by rw [r0, r1, h])
    · exact .inr ⟨g, r1, by omega⟩
  · rw [r1] at e; injection e with e
    have := (grownBy_setCell' w1 O (.slice (some ⟨g, 0, none⟩) mm cap)).size
    omega

/-- The iterator as the law asks it. -/
theorem iter_stops (n : Nat) (hn : 1 ≤ n) (Bn n₀ R O p : Nat) (hp : p < 2 ^ 48) (w : World) (hBn : w.cell? ⟨Bn, 0, none⟩ = some (.int .u64 (p : Int))) (hT : TabAt w) (hg0 : 0 < n₀) (hR : R < w.heap.size) (hO : O < w.heap.size) (hrow : rowOk O w) :
    SeqStopsK Fence.wide n Tryd.prog 47 #[.pointer (some ⟨Bn, 0, none⟩)] (fun x : Rng => #[Value.agg #[.int .i64 x.1, .int .i64 x.2]]) (Kept n₀ R O) (fun ys => ys = rg (fun i => p.testBit i) 48) (fun pre => pre <+: rg (fun i => p.testBit i) 48) 48 w := fun l J Jx W hW hJ _ hY h0 =>
  iter_in n hn l Bn n₀ R O p hp J Jx hY W hJ (cell_keep hW hBn) ((Lib.hid hT).keep hW) hg0 (Nat.lt_of_lt_of_le hR hW.size) (Nat.lt_of_lt_of_le hO hW.size)
    (fun g e => by rw [rowOf_below hW hO] at e; exact Nat.lt_of_lt_of_le (hrow g e) hW.size) h0

set_option maxRecDepth 100000 in
set_option maxHeartbeats 1000000 in
theorem spans_any (p : Int) (w : World) :
    Calls Tryd.prog 41 #[.int .u64 p] w fun e w' => e = .returned (.func (.func 47) #[] #[.pointer (some ⟨w.heap.size, 0, none⟩)]) ∧ w' = w.alloc (.cells #[.int .u64 p] 72) := by
  go_enter Tryd.func41, Tryd.ntmps41
  go_wp2
  go_ret
  exact ⟨rfl, rfl⟩

end Go.Proofs.YtaeolgbgcchaeaaDoor
