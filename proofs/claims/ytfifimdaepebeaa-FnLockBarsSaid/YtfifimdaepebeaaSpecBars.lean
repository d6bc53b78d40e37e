/-
  slices.Collect over locks.bars: the numbers in a new row; impl.LockBars.
  spec.l4Bars, spec.LockBars.
-/
import Derived.Test.YtfifimdaepebeaaGiveMath
import Derived.Test.YtfifimdaepebeaaLocksOf
import Derived.Test.YtfifimdaepebeaaRow1
import Derived.Deep.AppendLies
import Derived.Deep.RegionHeld3
import Derived.Test.YtfifimdaepebeaaClear
import Derived.Test.YtfifimdaepebeaaSpecMay
namespace Go.Proofs.Ytfifimdaepebeaa
open Go.RowKit

attribute [local go_sem] Oper.semAt_some

theorem infoIntB : (Try.prog.info? 3).map (fun i => (i.zero, i.size, i.bytes)) = some (some (.int .i64 0), 1, 8) := by kernel_rfl

/-- What a function that makes a list of numbers leaves. -/
def IntC (w : World) (L : List Int) (e : Ending) (w' : World) : Prop :=
  ∃ v, e = .returned v ∧ Hid (w'.ownsRow w.heap.size 3 1 v L.length (intL L)) ∧ Below w.heap.size w w'
theorem IntC.base {w W : World} {L : List Int} {e : Ending} {w' : World} (h : IntC W L e w') (hb : Below w.heap.size w W) : IntC w L e w' := by
  obtain ⟨v, he, ho, hb2⟩ := h
  exact ⟨v, he, ⟨ho.out.1, ho.out.2.imp id fun ⟨g, cap, cur, h1, h2, h3⟩ => ⟨g, cap, cur, h1, Nat.le_trans hb.size h2, h3⟩⟩, hb.trans (hb2.mono hb.size)⟩
theorem intC_nil (w w' : World) (hb : Below w.heap.size w w') : IntC w [] (.returned (.slice none 0 0)) w' :=
  ⟨_, rfl, World.ownsRow_nil .., hb⟩

theorem wpListIn_append_lies {F : Fence} {n : Nat} {P : Program} (w : World) {ops : Array Oper} {rest : List Oper} {o : Oper} {a : Act} {Q : Exit → Act → World → Prop}
    (hg : o.guard = none) (s x : Operand) (t : TypeId) (hop : o.op = Op.call { callee := Callee.builtin Builtin.append, args := #[s, x], argTypes := #[t, t] })
    (base : Nat) (e : TypeId) (i : TypeInfo) (z : Value) (size bytes : Nat) (h1 : P.underlying t = some (.slice e)) (h2 : P.info? e = some i) (h3 : i.zero = some z) (h4 : i.size = size) (h5 : i.bytes = bytes) (h6 : z.cells.size = size) (h7 : 0 < size)
    (v : Value) (k : Nat) (xs : List Value) (hs : a.eval s = v) (hown : w.ownsRow base e size v k xs) (ad : Addr) (m c : Nat) (news : List Value) (hx : a.eval x = .slice (some ad) m c) (hn : news.length = m * size)
    (hc : ∀ j u, news[j]? = some u → w.cell? (ad.add j) = some u) (h1c : ∀ u ∈ news, u.oneCell' = true) (hm : 0 < m) (b1 : k + m ≤ maxLen) (b2 : (k + m) * bytes ≤ 140737488355328) (b3 : base ≤ w.heap.size) (H : Nat) (hH : w.heap.size = H)
    (hK : ∀ g cap w', w'.ownsRow base e size (.slice (some ⟨g, 0, none⟩) (k + m) cap) (k + m) (xs ++ news) → w.grownBy w' v.ownBlock → (v.ownBlock = some g ∨ g = H) → g < w'.heap.size → wpListIn F n P ops Q rest (a.put o.dst (.slice (some ⟨g, 0, none⟩) (k + m) cap)) w') :
    wpListIn F n P ops Q (o :: rest) a w := by
  refine wpListIn_plain hg fun K hK' => ?_
  obtain ⟨g, cap, w', hrun, r1, r2, r3, r4⟩ := run_append_lies (P := P) w t o.type base e i z size bytes h1 h2 h3 h4 h5 h6 h7 v k xs hown ad m c news hn hc h1c hm b1 b2 b3 H hH
  unfold Oper.wpIn
  refine ⟨by simp [Oper.about, hop, resolve, Target.leads, Sem.run_pure], ?_⟩
  rw [Oper.semAt_plain F _ _ (by rw [hop]; intro c hc'; cases hc')]
  simp [execOp, hop, resolve, invoke, builtin, hs, hx, hrun, Result.andThen]
  exact hK' _ _ (hK g cap w' r1 r2 r3 r4)

set_option maxRecDepth 100000 in
set_option maxHeartbeats 4000000 in
theorem appendSeqInt_any (Bl Bw Bm Bs gl cl m : Nat) (gs cs : Nat → Nat) (Rs : Nat → List RunT) (who want lo hi : Int) (hl : ∀ i, i < m → (Rs i).length ≤ 100) (hm : m ≤ 100) (hm0 : 0 < m) (hmc : m ≤ cl) (hcl : cl ≤ 9223372036854775807) (w : World) (fl : w.cell? ⟨Bl, 0, none⟩ = some (.slice (some ⟨gl, 0, none⟩) m cl)) (fw : w.cell? ⟨Bw, 0, none⟩ = some (.int .i64 who)) (fm : w.cell? ⟨Bm, 0, none⟩ = some (.int .i64 want)) (fs : Box2 w Bs lo hi) (ft : LksAt w gl m gs cs Rs) :
    Calls Try.prog 87 #[.slice none 0 0, .func (.func 88) #[] #[.pointer (some ⟨Bl, 0, none⟩), .pointer (some ⟨Bw, 0, none⟩), .pointer (some ⟨Bm, 0, none⟩), .pointer (some ⟨Bs, 0, none⟩)]] w (IntC w (brK who (brOf Rs want lo hi) m)) := by
  obtain ⟨i0, hi0, hz0, hz1, hz2⟩ := info_parts infoIntB
  obtain ⟨hgl, hgs⟩ := ft.lt hm0
  have q1 := World.block_lt_of_cell? w _ fl
  have q2 := World.block_lt_of_cell? w _ fw
  have q3 := World.block_lt_of_cell? w _ fm
  have q4 := World.block_lt_of_cell? w _ fs.1
  refine (callsIn_wide (n := 4)).1 ?_
  refine callsIn_of_wp_marks Try.func87 rfl trivial ?_ rfl
  simp only [Try.ntmps87, List.size_toArray, List.length_cons, List.length_nil, Nat.reduceAdd, Nat.reduceSub, Array.replicate_succ, Array.replicate_zero, List.push_toArray, List.append_toArray, List.nil_append, List.cons_append]
  have bO := Boxed.new w 36 (.slice none 0 0)
  have hB0 : Below w.heap.size w (w.alloc (.cells #[.slice none 0 0] 36)) := (Below.refl _ w).alloc (Nat.le_refl _) _
  have hsz : (w.alloc (.cells #[.slice none 0 0] 36)).heap.size = w.heap.size + 1 := by simp
  have fl0 := cell_keep hB0 fl
  have fw0 := cell_keep hB0 fw
  have fm0 := cell_keep hB0 fm
  have fs0 := fs.keep hB0
  have ft0 := Lib.hid (ft.keep hB0)
  clear fl fw fm fs ft
  gi_wp2_with fail
  obtain ⟨W0, hW0⟩ : ∃ W0, w.alloc (.cells #[.slice none 0 0] 36) = W0 := ⟨_, rfl⟩
  rw [hW0] at bO fl0 fw0 fm0 fs0 ft0 hB0 hsz ⊢
  clear hW0
  refine wpIn_rangeFunc_ownH rfl (by omega) (gf := 88) (lb := #[.pointer (some ⟨Bl, 0, none⟩), .pointer (some ⟨Bw, 0, none⟩), .pointer (some ⟨Bm, 0, none⟩), .pointer (some ⟨Bs, 0, none⟩)]) rfl trivial (enters_of Try.func88 (by kernel_rfl) rfl)
    (lbars_stops (4 - 1) (by omega) Bl Bw Bm Bs gl cl m w.heap.size gs cs Rs who want lo hi hl hm hmc hcl W0 fl0 fw0 fm0 fs0 ft0.out q1 q2 q3 q4 hgl hgs (by omega)) belowK_t (belowK_b (by omega)) (Below.refl _ _) (fun _ => rfl)
    (fun pre W => (∃ v, Boxed W w.heap.size 36 v ∧ W.ownsRow w.heap.size 3 1 v pre.length (intL pre) ∧ True) ∧ Below w.heap.size w W)
    (fun _ _ _ => False)
    (OwnFrom.and (Own.from (holdsRow_own _ _ _ _ _ _ _ (fun (pre : List Int) _ => True)) _) (ownFrom_below (Nat.le_refl _) (by omega)))
    (fun _ => fun _ _ _ _ h => h.elim)
    ⟨⟨_, bO, World.ownsRow_nil .., trivial⟩, hB0⟩
    (fun x a' W => a' = { tmps := #[.slice none 0 0, .func (.func 88) #[] #[.pointer (some ⟨Bl, 0, none⟩), .pointer (some ⟨Bw, 0, none⟩), .pointer (some ⟨Bm, 0, none⟩), .pointer (some ⟨Bs, 0, none⟩)], .pointer (some ⟨w.heap.size, 0, none⟩), undef, .slice none 0 0, .int .i64 x, .func (.func 88) #[] #[.pointer (some ⟨Bl, 0, none⟩), .pointer (some ⟨Bw, 0, none⟩), .pointer (some ⟨Bm, 0, none⟩), .pointer (some ⟨Bs, 0, none⟩)], .int .i64 x, undef, undef, undef, undef, undef], defers := [] })
    (fun x a' _ X Y row hs hg hr => hs)
    ?assign ?body ?done ?stop
  case assign =>
    rintro l pre x W K hI hK
    gi_wp2
    exact hK _ _ ((KeepsOthers.refl _).from _) (Below.refl _ W) hI rfl
  case body =>
    rintro l pre x a' W hl hr ⟨⟨v, bO1, hrow1, -⟩, hB1⟩ rfl hlt
    obtain ⟨ptr, cap, rfl⟩ : ∃ ptr cap, v = .slice ptr pre.length cap := by
      rcases hrow1.2 with ⟨rfl, h0⟩ | ⟨g, cap, cur, rfl, _⟩
      · exact ⟨none, 0, by rw [h0]⟩
      · exact ⟨_, cap, rfl⟩
    have cO := bO1.cell
    have fO := bO1.frozen
    have hsW := hB1.size
    gi_wp2_with (gi_at_builtin; refine wpListIn_append_lies _ rfl _ _ 36 rfl w.heap.size 3 i0 (.int .i64 0) 1 8 Try.underlying36 hi0 hz0 hz1 hz2 rfl (by decide) _ _ _ rfl (hrow1.alloc _) ⟨W.heap.size, 0, none⟩ 1 1 [.int .i64 x] rfl rfl (one_new _ _ _) (by simp [Value.oneCell']) (by omega) (by unfold maxLen; omega) (by omega) (by simp; omega) (W.heap.size + 1) (by simp) ?_; intro g' cap' w1 hown' hgrow hat hltg; obtain ⟨hv1, hv2, hr2, hk2, hb2⟩ := bO1.appended (by decide) hrow1 hsW (Nat.le_refl _) hown' hgrow; have hc1 := hv1.cell; have hf1 := hv1.frozen)
    refine ⟨hk2.from _, hb2, ⟨⟨_, hv2, ?_, trivial⟩, hB1.trans hb2⟩⟩
    rw [List.length_append]
    unfold intL
    rw [List.map_append]
    exact hr2
  case done =>
    rintro D ys W hD rfl ⟨⟨v, bO1, hrow1, -⟩, hB1⟩ hK
    have HR := Lib.hid hrow1
    clear hrow1
    have hln := brK_len who (brOf Rs want lo hi) m
    generalize brK who (brOf Rs want lo hi) m = Y at *
    obtain ⟨ptr, cap, rfl⟩ : ∃ ptr cap, v = .slice ptr Y.length cap := by
      rcases HR.out.2 with ⟨rfl, h0⟩ | ⟨g, cap, cur, rfl, _⟩
      · exact ⟨none, 0, by rw [h0]⟩
      · exact ⟨_, cap, rfl⟩
    have cO := bO1.cell
    gi_wp2
    refine ⟨by simp, .inl ⟨_, _, rfl, run_takeDeferred hK, ?_⟩⟩
    refine ⟨.slice ptr Y.length cap, ?_, ⟨_, rfl, Lib.hid (ownsRow_putObj HR.out _ hK rfl), hB1.trans (belowK_b (w := w) (Nat.le_refl _) W D _ _ (by omega) hK rfl rfl)⟩⟩
    simp [results, Try.f87, go_sem]
  case stop =>
    rintro D c pre W hD hpre h hK
    exact h.elim

theorem collectInt_any (Bl Bw Bm Bs gl cl m : Nat) (gs cs : Nat → Nat) (Rs : Nat → List RunT) (who want lo hi : Int) (hl : ∀ i, i < m → (Rs i).length ≤ 100) (hm : m ≤ 100) (hm0 : 0 < m) (hmc : m ≤ cl) (hcl : cl ≤ 9223372036854775807) (w : World) (fl : w.cell? ⟨Bl, 0, none⟩ = some (.slice (some ⟨gl, 0, none⟩) m cl)) (fw : w.cell? ⟨Bw, 0, none⟩ = some (.int .i64 who)) (fm : w.cell? ⟨Bm, 0, none⟩ = some (.int .i64 want)) (fs : Box2 w Bs lo hi) (ft : LksAt w gl m gs cs Rs) :
    Calls Try.prog 65 #[.func (.func 88) #[] #[.pointer (some ⟨Bl, 0, none⟩), .pointer (some ⟨Bw, 0, none⟩), .pointer (some ⟨Bm, 0, none⟩), .pointer (some ⟨Bs, 0, none⟩)]] w (IntC w (brK who (brOf Rs want lo hi) m)) := by
  have HA := Lib.hid (appendSeqInt_any Bl Bw Bm Bs gl cl m gs cs Rs who want lo hi hl hm hm0 hmc hcl w fl fw fm fs ft)
  clear hl fl fw fm fs ft
  go_enter Try.func65, Try.ntmps65
  go_wp2_with fail
  refine HA.out.mono ?_; rintro e w1 ⟨v, rfl, ho, hb⟩
  go_wp2
  go_ret
  exact ⟨v, rfl, ho, hb⟩

end Go.Proofs.Ytfifimdaepebeaa

namespace Go.Proofs.Ytfifimdaepebeaa
open Go.RowKit

theorem box_spn {w : World} {b : Nat} {lo hi : Int} (h : Box2 w b lo hi) : Spn w (.slice (some ⟨b, 0, none⟩) 1 1) [(lo, hi)] :=
  ⟨_, 1, rfl, by simp, by unfold maxLen; omega, fun _ => ⟨b, 0, rfl, fun i hi => by
    obtain rfl : i = 0 := by simp at hi; omega
    exact ⟨h.1, h.2.1⟩⟩⟩

theorem own_lower {W : World} {b b' : Nat} {e : TypeId} {size : Nat} {v : Value} {k : Nat} {xs : List Value} (h : W.ownsRow b e size v k xs) (hb : b' ≤ b) : W.ownsRow b' e size v k xs :=
  ⟨h.1, h.2.imp id fun ⟨g, cap, cur, h1, h2, h3⟩ => ⟨g, cap, cur, h1, Nat.le_trans hb h2, h3⟩⟩

/-- What holds at the head of a round of l4Bars: the row of numbers, the list of one range. -/
structure LBI (w wr : World) (lo hi : Int) (v : Value) (L : List Int) : Prop where
  own : wr.ownsRow (w.heap.size + 1) 3 1 v L.length (intL L)
  one : Box2 wr (w.heap.size + 1 + 1) lo hi
  ne : v.ownBlock ≠ some (w.heap.size + 1 + 1)
  bel : Below w.heap.size w wr
  sz : w.heap.size + 3 ≤ wr.heap.size
theorem LBI.keep {w wr w1 : World} {lo hi : Int} {v : Value} {L : List Int} (h : LBI w wr lo hi v L) (hb : Below wr.heap.size wr w1) : LBI w w1 lo hi v L :=
  ⟨own_below1 h.own hb, h.one.keep hb, h.ne, h.bel.trans (hb.mono h.bel.size), Nat.le_trans h.sz hb.size⟩

theorem LBI.added {w wr w9 : World} {lo hi : Int} {v : Value} {L : List Int} {x : Int} {g cap n : Nat} {C : Array Value} {U : TypeId} (h : LBI w wr lo hi v L) (hn : n = L.length)
    (hown : w9.ownsRow (w.heap.size + 1) 3 1 (.slice (some ⟨g, 0, none⟩) (n + 1) cap) (n + 1) (intL L ++ [.int .i64 x]))
    (hgrow : (wr.alloc (.cells C U)).grownBy w9 v.ownBlock) (hat : v.ownBlock = some g ∨ g = wr.heap.size + 1) : LBI w w9 lo hi (.slice (some ⟨g, 0, none⟩) (n + 1) cap) (L ++ [x]) := by
  have hb : Below wr.heap.size wr (wr.alloc (.cells C U)) := (Below.refl _ _).alloc (Nat.le_refl _) _
  have hk := h.keep hb
  have ho : w9.ownsRow (w.heap.size + 1) 3 1 (.slice (some ⟨g, 0, none⟩) (n + 1) cap) (L ++ [x]).length (intL (L ++ [x])) := by
    unfold intL at hown ⊢
    rw [List.map_append, List.length_append, ← hn]; exact hown
  have hne : ∀ b, b < w.heap.size + 1 → v.ownBlock ≠ some b := fun b hlt e => by have := (h.own.lt b e).1; omega
  have hsz := hgrow.size
  have hbx : Box2 w9 (w.heap.size + 1 + 1) lo hi := by
    obtain ⟨h0, h1, h2, h3⟩ := hk.one
    have hblk : w9.heap[w.heap.size + 1 + 1]? = (wr.alloc (.cells C U)).heap[w.heap.size + 1 + 1]? := hgrow.block _ (World.block_lt_of_cell? _ _ h0) (fun e => h.ne e.symm)
    exact ⟨(World.cell?_of_block (a := ⟨w.heap.size + 1 + 1, 0, none⟩) hblk).trans h0, (World.cell?_of_block (a := ⟨w.heap.size + 1 + 1, 1, none⟩) hblk).trans h1, (World.frozen?_of_block (a := ⟨w.heap.size + 1 + 1, 0, none⟩) hblk).trans h2, (World.frozen?_of_block (a := ⟨w.heap.size + 1 + 1, 1, none⟩) hblk).trans h3⟩
  have hs := h.sz
  refine ⟨ho, hbx, fun e => ?_, hk.bel.trans ⟨hgrow.os, hgrow.tape, hgrow.output, hgrow.size, fun i hi => hgrow.block i (Nat.lt_of_lt_of_le hi hk.bel.size) (fun e => hne i (by omega) e.symm)⟩, Nat.le_trans hk.sz hsz⟩
  have e : g = w.heap.size + 1 + 1 := by simpa [Value.ownBlock] using e
  rcases hat with h' | h'
  · exact h.ne (by rw [h', e])
  · omega

set_option maxRecDepth 100000 in
set_option maxHeartbeats 8000000 in
theorem l4Bars_any (v : Value) (T : List HoldT) (hT3 : T.length = 3) (who : Int) (wt : Bool) (lo hi : Int) (w : World) (h : Hds w v T) :
    Calls Try.prog 47 #[v, .int .i64 who, .bool wt, .agg #[.int .i64 lo, .int .i64 hi]] w (IntC w (brK who (fun i => stB (T.getD i hd0) wt lo hi) 3)) := by
  obtain ⟨i0, hi0, hz0, hz1, hz2⟩ := info_parts infoIntB
  have hh := h
  obtain ⟨a, cap, rfl, hlc, hmc, -⟩ := hh
  unfold maxLen at hmc
  rw [hT3] at h hlc ⊢
  have HD := Lib.hid h
  have HT3 := Lib.hid hT3
  clear h hT3
  obtain ⟨bf, hbfd⟩ : ∃ bf : Nat → Bool, (fun i => stB (T.getD i hd0) wt lo hi) = bf := ⟨_, rfl⟩
  rw [hbfd]
  have HBD := Lib.hid hbfd
  clear hbfd
  obtain ⟨W1, hW1⟩ : ∃ W1, w.alloc (.cells #[.int .i64 lo, .int .i64 hi] 25) = W1 := ⟨_, rfl⟩
  have z1 : W1.heap.size = w.heap.size + 1 := by rw [← hW1]; simp
  have b1 : Below w.heap.size w W1 := by rw [← hW1]; exact (Below.refl _ _).alloc (Nat.le_refl _) _
  have B0 : Box2 W1 w.heap.size lo hi := by rw [← hW1]; exact new_box w lo hi 25
  obtain ⟨W2, hW2⟩ : ∃ W2, W1.alloc (.cells #[] 3) = W2 := ⟨_, rfl⟩
  have z2 : W2.heap.size = w.heap.size + 1 + 1 := by rw [← hW2]; simp [z1]
  have b12 : Below W1.heap.size W1 W2 := by rw [← hW2]; exact (Below.refl _ _).alloc (Nat.le_refl _) _
  have o2 : W2.ownsRow (w.heap.size + 1) 3 1 (.slice (some ⟨w.heap.size + 1, 0, none⟩) 0 0) 0 [] := by
    have := new_row1 W1 3 (B := w.heap.size + 1) (by omega)
    rw [hW2, z1] at this; exact this
  have B2 := B0.keep b12
  obtain ⟨W3, hW3⟩ : ∃ W3, W2.alloc (.cells #[.int .i64 lo, .int .i64 hi] 25) = W3 := ⟨_, rfl⟩
  have b23 : Below W2.heap.size W2 W3 := by rw [← hW3]; exact (Below.refl _ _).alloc (Nat.le_refl _) _
  have z3 : W3.heap.size = w.heap.size + 3 := by rw [← hW3]; simp [z2]
  have B3 : Box2 W3 (w.heap.size + 1 + 1) lo hi := by
    rw [← hW3]
    have := new_box W2 lo hi 25
    rw [z2] at this; exact this
  have I0 : Hid (LBI w W3 lo hi (.slice (some ⟨w.heap.size + 1, 0, none⟩) 0 0) []) := ⟨own_below1 o2 b23, B3, by simp [Value.ownBlock], b1.trans ((b12.trans (b23.mono b12.size)).mono b1.size), by omega⟩
  have Z1 := Lib.hid z1
  have Z2 := Lib.hid z2
  obtain ⟨u1, u2, -, -⟩ := id B2
  clear b12 b23 o2 B3 B0 B2 b1 z3
  go_enter Try.func47, Try.ntmps47
  go_wp2_with fail
  have HI : Hid (Try.prog.info? 3 = some i0 ∧ i0.zero = some (.int .i64 0) ∧ i0.size = 1 ∧ i0.bytes = 8) := ⟨hi0, hz0, hz1, hz2⟩
  clear hi0 hz0 hz1 hz2 hW1 hW2 hW3 u1 u2 z1 z2 Z1 Z2
  go_loopg [9, 11] 3 (fun g s9 s11 wr => ∃ k : Nat, g = 3 - k ∧ k ≤ 3 ∧ s11 = .int .i64 k ∧ Hid (LBI w wr lo hi s9 (brK who bf k)))
  case atStart => exact ⟨0, rfl, by omega, rfl, I0⟩
  case round =>
    obtain ⟨k, rfl, hk, rfl, IK⟩ := hrel
    clear I0
    by_cases hlt : k < 3
    · obtain ⟨b, off, r, s, rfl, e1, e2, p1, p2, -, hcp1, hcp2⟩ := (HD.out.keep IK.out.bel).at (k := k) (by rw [HT3.out]; exact hlt)
      have KM := Lib.hid (l4Clear_any _ _ _ _ wr p2 (box_spn IK.out.one))
      have PL := Lib.hid p1
      clear p1 p2
      have HB : Hid (bf k = (!clrB (T.getD k hd0).2 [(lo, hi)] || (wt && !clrB (T.getD k hd0).1 [(lo, hi)]))) := by show _ = _; rw [← HBD.out]; rfl
      have HSt : Hid (brK who bf (k + 1) = if (k : Int) ≠ who ∧ bf k = true then brK who bf k ++ [(k : Int)] else brK who bf k) := rfl
      have HLn := brK_len who bf k
      have j1 : (0 : Int) ≤ (k : Int) := Int.natCast_nonneg _
      have j2 : (k : Int) < 3 := by omega
      have hq2 : ((k : Int) != who) = decide ((k : Int) ≠ who) := by by_cases c : (k : Int) = who <;> simp [c]
      generalize hY : brK who bf k = Y at *
      clear hY
      by_cases hw : (k : Int) = who
      · have HE : Hid (brK who bf (k + 1) = Y) := by show _ = _; rw [HSt.out, if_neg (fun c => c.1 hw)]
        have hd : ((k : Int) != who) = false := by simp [hw]
        clear hq2 HSt hw KM PL HB e1 e2
        go_wp2
        go_roundg (3 - (k + 1))
        case measure => omega
        case rel => exact ⟨k + 1, rfl, by omega, by go_num, by rw [HE.out]; exact IK⟩
      · have hd : ((k : Int) != who) = true := by simpa using hw
        clear hq2
        generalize hqm : clrB (T.getD k hd0).2 [(lo, hi)] = qm at *
        generalize hql : clrB (T.getD k hd0).1 [(lo, hi)] = ql at *
        clear hqm
        cases qm
        · have hbf : bf k = true := by rw [HB.out]; rfl
          have HE : Hid (brK who bf (k + 1) = Y ++ [(k : Int)]) := by show _ = _; rw [HSt.out, if_pos ⟨hw, hbf⟩]
          clear HSt hbf hw
          go_wp2_with fail
          refine KM.out.mono ?_; rintro e w2 ⟨rfl, hb2⟩
          have IK2 := Lib.hid (IK.out.keep hb2)
          clear e1 e2 KM
          go_wp2_with (at_builtin; refine wpList_append_lies _ rfl (.tmp 47) (.tmp 49) 36 rfl (w.heap.size + 1) 3 i0 (.int .i64 0) 1 8 Try.underlying36 HI.out.1 HI.out.2.1 HI.out.2.2.1 HI.out.2.2.2 rfl (by decide) _ _ _ rfl (IK2.out.own.alloc _) ⟨w2.heap.size, 0, none⟩ 1 1 [.int .i64 k] rfl rfl (one_new _ _ _) (by simp [Value.oneCell']) (by omega) (by unfold maxLen; omega) (by omega) (by have := IK2.out.sz; simp; omega) (w2.heap.size + 1) (by simp) ?_; intro g' cap' w9 hown' hgrow hat hltg)
          have I9 := Lib.hid (IK2.out.added (x := (k : Int)) rfl hown' hgrow hat)
          clear hown' hgrow hat IK2
          go_wp2
          go_roundg (3 - (k + 1))
          case measure => omega
          case rel => exact ⟨k + 1, rfl, by omega, by go_num, by rw [HE.out]; exact I9⟩
        · cases wt
          · have hbf : bf k = false := by rw [HB.out]; rfl
            have HE : Hid (brK who bf (k + 1) = Y) := by show _ = _; rw [HSt.out, if_neg (fun c => by have := c.2; rw [hbf] at this; cases this)]
            clear HSt hbf hw
            go_wp2_with fail
            refine KM.out.mono ?_; rintro e w2 ⟨rfl, hb2⟩
            have IK2 := Lib.hid (IK.out.keep hb2)
            clear e1 e2 KM
            go_wp2
            go_roundg (3 - (k + 1))
            case measure => omega
            case rel => exact ⟨k + 1, rfl, by omega, by go_num, by rw [HE.out]; exact IK2⟩
          · cases ql
            · have hbf : bf k = true := by rw [HB.out]; rfl
              have HE : Hid (brK who bf (k + 1) = Y ++ [(k : Int)]) := by show _ = _; rw [HSt.out, if_pos ⟨hw, hbf⟩]
              clear HSt hbf hw
              go_wp2_with fail
              refine KM.out.mono ?_; rintro e w2 ⟨rfl, hb2⟩
              have IK2 := Lib.hid (IK.out.keep hb2)
              have KL2 := Lib.hid (l4Clear_any _ _ _ _ w2 (PL.out.keep hb2) (box_spn IK2.out.one))
              rw [hql] at KL2
              replace e1 := cell_keep hb2 e1
              go_wp2_with fail
              refine KL2.out.mono ?_; rintro e w3 ⟨rfl, hb3⟩
              have IK3 := Lib.hid (IK2.out.keep hb3)
              clear e1 e2 KM
              go_wp2_with (at_builtin; refine wpList_append_lies _ rfl (.tmp 47) (.tmp 49) 36 rfl (w.heap.size + 1) 3 i0 (.int .i64 0) 1 8 Try.underlying36 HI.out.1 HI.out.2.1 HI.out.2.2.1 HI.out.2.2.2 rfl (by decide) _ _ _ rfl (IK3.out.own.alloc _) ⟨w3.heap.size, 0, none⟩ 1 1 [.int .i64 k] rfl rfl (one_new _ _ _) (by simp [Value.oneCell']) (by omega) (by unfold maxLen; omega) (by omega) (by have := IK3.out.sz; simp; omega) (w3.heap.size + 1) (by simp) ?_; intro g' cap' w9 hown' hgrow hat hltg)
              have I9 := Lib.hid (IK3.out.added (x := (k : Int)) rfl hown' hgrow hat)
              clear hown' hgrow hat IK3
              go_wp2
              go_roundg (3 - (k + 1))
              case measure => omega
              case rel => exact ⟨k + 1, rfl, by omega, by go_num, by rw [HE.out]; exact I9⟩
            · have hbf : bf k = false := by rw [HB.out]; rfl
              have HE : Hid (brK who bf (k + 1) = Y) := by show _ = _; rw [HSt.out, if_neg (fun c => by have := c.2; rw [hbf] at this; cases this)]
              clear HSt hbf hw
              go_wp2_with fail
              refine KM.out.mono ?_; rintro e w2 ⟨rfl, hb2⟩
              have IK2 := Lib.hid (IK.out.keep hb2)
              have KL2 := Lib.hid (l4Clear_any _ _ _ _ w2 (PL.out.keep hb2) (box_spn IK2.out.one))
              rw [hql] at KL2
              replace e1 := cell_keep hb2 e1
              go_wp2_with fail
              refine KL2.out.mono ?_; rintro e w3 ⟨rfl, hb3⟩
              have IK3 := Lib.hid (IK2.out.keep hb3)
              clear e1 e2 KM
              go_wp2
              go_roundg (3 - (k + 1))
              case measure => omega
              case rel => exact ⟨k + 1, rfl, by omega, by go_num, by rw [HE.out]; exact IK3⟩
    · obtain rfl : k = 3 := by omega
      have HOV := Lib.hid (own_lower IK.out.own (show w.heap.size ≤ w.heap.size + 1 by omega))
      have HBL := Lib.hid IK.out.bel
      go_wp2
      go_ret
      exact ⟨_, rfl, HOV, HBL.out⟩

theorem intC_made {w W : World} (hb : Below w.heap.size w W) : IntC w [] (.returned (.slice (some ⟨W.heap.size, 0, none⟩) 0 0)) (W.alloc (.cells #[] 3)) :=
  ⟨_, rfl, Lib.hid (new_row1 W 3 hb.size), hb.alloc hb.size _⟩

set_option maxRecDepth 100000 in
set_option maxHeartbeats 4000000 in
theorem specLockBars_any (v : Value) (T : List HoldT) (who : Int) (wt : Bool) (lo hi : Int) (w : World) (h : Hds w v T) :
    Calls Try.prog 26 #[v, .int .i64 who, .bool wt, .agg #[.int .i64 lo, .int .i64 hi]] w (IntC w (barsL T who wt lo hi)) := by
  obtain ⟨W0, hW0⟩ : ∃ W0, w.alloc (.cells #[.int .i64 lo, .int .i64 hi] 25) = W0 := ⟨_, rfl⟩
  have hal : Below w.heap.size w W0 := by rw [← hW0]; exact (Below.refl _ _).alloc (Nat.le_refl _) _
  have B0 : Box2 W0 w.heap.size lo hi := by rw [← hW0]; exact new_box w lo hi 25
  have HD := Lib.hid (h.keep hal)
  have K := Lib.hid (specLockOk_any v T W0 HD.out)
  have HBS := Lib.hid B0
  have Hal := Lib.hid hal
  clear B0 hal h
  by_cases hq0 : lockOkB T = true
  · have HQ0 := Lib.hid hq0
    rw [hq0] at K
    by_cases hq1 : whoB who = true
    · have C1 := Lib.hid (fun W => l4Who_any who W)
      rw [hq1] at C1
      by_cases hq2 : spanOkB lo hi = true
      · have C2 := Lib.hid (fun W => specSpanOk_any lo hi W)
        rw [hq2] at C2
        have HE : Hid (barsL T who wt lo hi = brK who (fun i => stB (T.getD i hd0) wt lo hi) 3) := by show _ = _; unfold barsL; rw [if_pos (by rw [hq0, hq1, hq2]; rfl)]
        clear hq0 hq1 hq2
        go_enter Try.func26, Try.ntmps26
        go_wp2_with fail
        clear hW0
        refine K.out.mono ?_; rintro e w1 ⟨rfl, hb1⟩
        go_wp2_with fail
        refine (C1.out _).mono ?_; rintro e w2 ⟨rfl, hb2⟩
        have hb12 := hb1.trans (hb2.mono hb1.size)
        obtain ⟨s1, s2, -, -⟩ := HBS.out.keep hb12
        go_wp2_with fail
        refine (C2.out _).mono ?_; rintro e w3 ⟨rfl, hb3⟩
        have hb13 := hb12.trans (hb3.mono hb12.size)
        clear s1 s2
        obtain ⟨s1, s2, -, -⟩ := HBS.out.keep hb13
        have KB := Lib.hid (l4Bars_any v T ((lockOk_iff T).1 HQ0.out).1 who wt lo hi w3 (HD.out.keep hb13))
        have hbW := Hal.out.trans (hb13.mono Hal.out.size)
        go_wp2_with fail
        refine KB.out.mono ?_; rintro e w4 hr
        obtain ⟨vr, rfl, ho, hb⟩ := hr.base hbW
        go_wp2
        go_ret
        rw [HE.out]
        exact ⟨_, rfl, ho, hb⟩
      · replace hq2 : spanOkB lo hi = false := by simpa using hq2
        have C2 := Lib.hid (fun W => specSpanOk_any lo hi W)
        rw [hq2] at C2
        have HF : Hid (barsL T who wt lo hi = []) := by show _ = _; unfold barsL; rw [hq2]; simp
        clear hq0 hq1 hq2
        go_enter Try.func26, Try.ntmps26
        go_wp2_with fail
        clear hW0
        refine K.out.mono ?_; rintro e w1 ⟨rfl, hb1⟩
        go_wp2_with fail
        refine (C1.out _).mono ?_; rintro e w2 ⟨rfl, hb2⟩
        have hb12 := hb1.trans (hb2.mono hb1.size)
        obtain ⟨s1, s2, -, -⟩ := HBS.out.keep hb12
        go_wp2_with fail
        refine (C2.out _).mono ?_; rintro e w3 ⟨rfl, hb3⟩
        have hb13 := hb12.trans (hb3.mono hb12.size)
        have hbW := Hal.out.trans (hb13.mono Hal.out.size)
        clear s1 s2
        go_wp2
        go_ret
        rw [HF.out]
        exact intC_made hbW
    · replace hq1 : whoB who = false := by simpa using hq1
      have C1 := Lib.hid (fun W => l4Who_any who W)
      rw [hq1] at C1
      have HF : Hid (barsL T who wt lo hi = []) := by show _ = _; unfold barsL; rw [hq1]; simp
      clear hq0 hq1
      go_enter Try.func26, Try.ntmps26
      go_wp2_with fail
      clear hW0
      refine K.out.mono ?_; rintro e w1 ⟨rfl, hb1⟩
      go_wp2_with fail
      refine (C1.out _).mono ?_; rintro e w2 ⟨rfl, hb2⟩
      have hb12 := hb1.trans (hb2.mono hb1.size)
      have hbW := Hal.out.trans (hb12.mono Hal.out.size)
      go_wp2
      go_ret
      rw [HF.out]
      exact intC_made hbW
  · replace hq0 : lockOkB T = false := by simpa using hq0
    rw [hq0] at K
    have HF : Hid (barsL T who wt lo hi = []) := by show _ = _; unfold barsL; rw [hq0]; rfl
    clear hq0
    go_enter Try.func26, Try.ntmps26
    go_wp2_with fail
    clear hW0
    refine K.out.mono ?_; rintro e w1 ⟨rfl, hb1⟩
    have hbW := Hal.out.trans (hb1.mono Hal.out.size)
    go_wp2
    go_ret
    rw [HF.out]
    exact intC_made hbW

end Go.Proofs.Ytfifimdaepebeaa
