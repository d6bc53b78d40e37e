/-
  slices.Collect over locks.bars: the numbers in a new row; impl.LockBars.
-/
import Derived.Test.YteabigobnjebaaaBarMath
import Derived.Test.YteabigobnjebaaaLocksOf
import Derived.Test.YteabigobnjebaaaRow1
import Derived.Deep.AppendLies
import Derived.Deep.RegionHeld3
namespace Go.Proofs.Yteabigobnjebaaa
open Go.RowKit

attribute [local go_sem] Oper.semAt_some

theorem infoIntB : (Try.prog.info? 3).map (fun i => (i.zero, i.size, i.bytes)) = some (some (.int .i64 0), 1, 8) := by kernel_rfl

/-- What a function that makes a list of numbers leaves. -/
def IntC (w : World) (L : List Int) (e : Ending) (w' : World) : Prop :=
  ∃ v, e = .returned v ∧ Hid (w'.ownsRow w.heap.size 3 1 v L.length (intL L)) ∧ Below w.heap.size w w'
theorem IntC.base {w W : World} {L : List Int} {e : Ending} {w' : World} (h : IntC W L e w') (hb : Below w.heap.size w W) : IntC w L e w' := by
  obtain ⟨v, he, ho, hb2⟩ := h
  exact ⟨v, he, ⟨ho.out.1, ho.out.2.imp id fun ⟨g, cap, cur, h1, h2, h3⟩ => ⟨g, cap, cur, h1, Nat.le_trans hb.size h2, h3⟩⟩, hb.trans (hb2.mono hb.size)⟩
theorem intC_nil (w w' : World) (hb : Below w.heap.size w w') : IntC w [] (.returned (.slice none 0 0)) w' :=
  ⟨_, rfl, World.ownsRow_nil .., hb⟩

theorem wpListIn_append_lies {F : Fence} {n : Nat} {P : Program} (w : World) {ops : Array Oper} {rest : List Oper} {o : Oper} {a : Act} {Q : Exit → Act → World → Prop}
    (hg : o.guard = none) (s x : Operand) (t : TypeId) (hop : o.op = Op.call { callee := Callee.builtin Builtin.append, args := #[s, x], argTypes := #[t, t] })
    (base : Nat) (e : TypeId) (i : TypeInfo) (z : Value) (size bytes : Nat) (h1 : P.underlying t = some (.slice e)) (h2 : P.info? e = some i) (h3 : i.zero = some z) (h4 : i.size = size) (h5 : i.bytes = bytes) (h6 : z.cells.size = size) (h7 : 0 < size)
    (v : Value) (k : Nat) (xs : List Value) (hs : a.eval s = v) (hown : w.ownsRow base e size v k xs) (ad : Addr) (m c : Nat) (news : List Value) (hx : a.eval x = .slice (some ad) m c) (hn : news.length = m * size)
    (hc : ∀ j u, news[j]? = some u → w.cell? (ad.add j) = some u) (h1c : ∀ u ∈ news, u.oneCell' = true) (hm : 0 < m) (b1 : k + m ≤ maxLen) (b2 : (k + m) * bytes ≤ 140737488355328) (b3 : base ≤ w.heap.size) (H : Nat) (hH : w.heap.size = H)
    (hK : ∀ g cap w', w'.ownsRow base e size (.slice (some ⟨g, 0, none⟩) (k + m) cap) (k + m) (xs ++ news) → w.grownBy w' v.ownBlock → (v.ownBlock = some g ∨ g = H) → g < w'.heap.size → wpListIn F n P ops Q rest (a.put o.dst (.slice (some ⟨g, 0, none⟩) (k + m) cap)) w') :
    wpListIn F n P ops Q (o :: rest) a w := by
  refine wpListIn_plain hg fun K hK' => ?_
  obtain ⟨g, cap, w', hrun, r1, r2, r3, r4⟩ := run_append_lies (P := P) w t o.type base e i z size bytes h1 h2 h3 h4 h5 h6 h7 v k xs hown ad m c news hn hc h1c hm b1 b2 b3 H hH
  unfold Oper.wpIn
  refine ⟨by simp [Oper.about, hop, resolve, Target.leads, Sem.run_pure], ?_⟩
  rw [Oper.semAt_plain F _ _ (by rw [hop]; intro c hc'; cases hc')]
  simp [execOp, hop, resolve, invoke, builtin, hs, hx, hrun, Result.andThen]
  exact hK' _ _ (hK g cap w' r1 r2 r3 r4)

set_option maxRecDepth 100000 in
set_option maxHeartbeats 4000000 in
theorem appendSeqInt_any (Bl Bw Bm Bs gl cl m : Nat) (gs cs : Nat → Nat) (Rs : Nat → List RunT) (who want lo hi : Int) (hl : ∀ i, i < m → (Rs i).length ≤ 100) (hm : m ≤ 100) (hm0 : 0 < m) (hmc : m ≤ cl) (hcl : cl ≤ 9223372036854775807) (w : World) (fl : w.cell? ⟨Bl, 0, none⟩ = some (.slice (some ⟨gl, 0, none⟩) m cl)) (fw : w.cell? ⟨Bw, 0, none⟩ = some (.int .i64 who)) (fm : w.cell? ⟨Bm, 0, none⟩ = some (.int .i64 want)) (fs : Box2 w Bs lo hi) (ft : LksAt w gl m gs cs Rs) :
    Calls Try.prog 100 #[.slice none 0 0, .func (.func 101) #[] #[.pointer (some ⟨Bl, 0, none⟩), .pointer (some ⟨Bw, 0, none⟩), .pointer (some ⟨Bm, 0, none⟩), .pointer (some ⟨Bs, 0, none⟩)]] w (IntC w (brK who (brOf Rs want lo hi) m)) := by
  obtain ⟨i0, hi0, hz0, hz1, hz2⟩ := info_parts infoIntB
  obtain ⟨hgl, hgs⟩ := ft.lt hm0
  have q1 := World.block_lt_of_cell? w _ fl
  have q2 := World.block_lt_of_cell? w _ fw
  have q3 := World.block_lt_of_cell? w _ fm
  have q4 := World.block_lt_of_cell? w _ fs.1
  refine (callsIn_wide (n := 4)).1 ?_
  refine callsIn_of_wp_marks Try.func100 rfl trivial ?_ rfl
  simp only [Try.ntmps100, List.size_toArray, List.length_cons, List.length_nil, Nat.reduceAdd, Nat.reduceSub, Array.replicate_succ, Array.replicate_zero, List.push_toArray, List.append_toArray, List.nil_append, List.cons_append]
  have bO := Boxed.new w 46 (.slice none 0 0)
  have hB0 : Below w.heap.size w (w.alloc (.cells #[.slice none 0 0] 46)) := (Below.refl _ w).alloc (Nat.le_refl _) _
  have hsz : (w.alloc (.cells #[.slice none 0 0] 46)).heap.size = w.heap.size + 1 := by simp
  have fl0 := cell_keep hB0 fl
  have fw0 := cell_keep hB0 fw
  have fm0 := cell_keep hB0 fm
  have fs0 := fs.keep hB0
  have ft0 := Lib.hid (ft.keep hB0)
  clear fl fw fm fs ft
  gi_wp2_with fail
  obtain ⟨W0, hW0⟩ : ∃ W0, w.alloc (.cells #[.slice none 0 0] 46) = W0 := ⟨_, rfl⟩
  rw [hW0] at bO fl0 fw0 fm0 fs0 ft0 hB0 hsz ⊢
  clear hW0
  refine wpIn_rangeFunc_ownH rfl (by omega) (gf := 101) (lb := #[.pointer (some ⟨Bl, 0, none⟩), .pointer (some ⟨Bw, 0, none⟩), .pointer (some ⟨Bm, 0, none⟩), .pointer (some ⟨Bs, 0, none⟩)]) rfl trivial (enters_of Try.func101 (by kernel_rfl) rfl)
    (lbars_stops (4 - 1) (by omega) Bl Bw Bm Bs gl cl m w.heap.size gs cs Rs who want lo hi hl hm hmc hcl W0 fl0 fw0 fm0 fs0 ft0.out q1 q2 q3 q4 hgl hgs (by omega)) belowK_t (belowK_b (by omega)) (Below.refl _ _) (fun _ => rfl)
    (fun pre W => (∃ v, Boxed W w.heap.size 46 v ∧ W.ownsRow w.heap.size 3 1 v pre.length (intL pre) ∧ True) ∧ Below w.heap.size w W)
    (fun _ _ _ => False)
    (OwnFrom.and (Own.from (holdsRow_own _ _ _ _ _ _ _ (fun (pre : List Int) _ => True)) _) (ownFrom_below (Nat.le_refl _) (by omega)))
    (fun _ => fun _ _ _ _ h => h.elim)
    ⟨⟨_, bO, World.ownsRow_nil .., trivial⟩, hB0⟩
    (fun x a' W => a' = { tmps := #[.slice none 0 0, .func (.func 101) #[] #[.pointer (some ⟨Bl, 0, none⟩), .pointer (some ⟨Bw, 0, none⟩), .pointer (some ⟨Bm, 0, none⟩), .pointer (some ⟨Bs, 0, none⟩)], .pointer (some ⟨w.heap.size, 0, none⟩), undef, .slice none 0 0, .int .i64 x, .func (.func 101) #[] #[.pointer (some ⟨Bl, 0, none⟩), .pointer (some ⟨Bw, 0, none⟩), .pointer (some ⟨Bm, 0, none⟩), .pointer (some ⟨Bs, 0, none⟩)], .int .i64 x, undef, undef, undef, undef, undef], defers := [] })
    (fun x a' _ X Y row hs hg hr => hs)
    ?assign ?body ?done ?stop
  case assign =>
    rintro l pre x W K hI hK
    gi_wp2
    exact hK _ _ ((KeepsOthers.refl _).from _) (Below.refl _ W) hI rfl
  case body =>
    rintro l pre x a' W hl hr ⟨⟨v, bO1, hrow1, -⟩, hB1⟩ rfl hlt
    obtain ⟨ptr, cap, rfl⟩ : ∃ ptr cap, v = .slice ptr pre.length cap := by
      rcases hrow1.2 with ⟨rfl, h0⟩ | ⟨g, cap, cur, rfl, _⟩
      · exact ⟨none, 0, by rw [h0]⟩
      · exact ⟨_, cap, rfl⟩
    have cO := bO1.cell
    have fO := bO1.frozen
    have hsW := hB1.size
    gi_wp2_with (gi_at_builtin; refine wpListIn_append_lies _ rfl _ _ 46 rfl w.heap.size 3 i0 (.int .i64 0) 1 8 Try.underlying46 hi0 hz0 hz1 hz2 rfl (by decide) _ _ _ rfl (hrow1.alloc _) ⟨W.heap.size, 0, none⟩ 1 1 [.int .i64 x] rfl rfl (one_new _ _ _) (by simp [Value.oneCell']) (by omega) (by unfold maxLen; omega) (by omega) (by simp; omega) (W.heap.size + 1) (by simp) ?_; intro g' cap' w1 hown' hgrow hat hltg; obtain ⟨hv1, hv2, hr2, hk2, hb2⟩ := bO1.appended (by decide) hrow1 hsW (Nat.le_refl _) hown' hgrow; have hc1 := hv1.cell; have hf1 := hv1.frozen)
    refine ⟨hk2.from _, hb2, ⟨⟨_, hv2, ?_, trivial⟩, hB1.trans hb2⟩⟩
    rw [List.length_append]
    unfold intL
    rw [List.map_append]
    exact hr2
  case done =>
    rintro D ys W hD rfl ⟨⟨v, bO1, hrow1, -⟩, hB1⟩ hK
    have HR := Lib.hid hrow1
    clear hrow1
    have hln := brK_len who (brOf Rs want lo hi) m
    generalize brK who (brOf Rs want lo hi) m = Y at *
    obtain ⟨ptr, cap, rfl⟩ : ∃ ptr cap, v = .slice ptr Y.length cap := by
      rcases HR.out.2 with ⟨rfl, h0⟩ | ⟨g, cap, cur, rfl, _⟩
      · exact ⟨none, 0, by rw [h0]⟩
      · exact ⟨_, cap, rfl⟩
    have cO := bO1.cell
    gi_wp2
    refine ⟨by simp, .inl ⟨_, _, rfl, run_takeDeferred hK, ?_⟩⟩
    refine ⟨.slice ptr Y.length cap, ?_, ⟨_, rfl, Lib.hid (ownsRow_putObj HR.out _ hK rfl), hB1.trans (belowK_b (w := w) (Nat.le_refl _) W D _ _ (by omega) hK rfl rfl)⟩⟩
    simp [results, Try.f100, go_sem]
  case stop =>
    rintro D c pre W hD hpre h hK
    exact h.elim

theorem collectInt_any (Bl Bw Bm Bs gl cl m : Nat) (gs cs : Nat → Nat) (Rs : Nat → List RunT) (who want lo hi : Int) (hl : ∀ i, i < m → (Rs i).length ≤ 100) (hm : m ≤ 100) (hm0 : 0 < m) (hmc : m ≤ cl) (hcl : cl ≤ 9223372036854775807) (w : World) (fl : w.cell? ⟨Bl, 0, none⟩ = some (.slice (some ⟨gl, 0, none⟩) m cl)) (fw : w.cell? ⟨Bw, 0, none⟩ = some (.int .i64 who)) (fm : w.cell? ⟨Bm, 0, none⟩ = some (.int .i64 want)) (fs : Box2 w Bs lo hi) (ft : LksAt w gl m gs cs Rs) :
    Calls Try.prog 65 #[.func (.func 101) #[] #[.pointer (some ⟨Bl, 0, none⟩), .pointer (some ⟨Bw, 0, none⟩), .pointer (some ⟨Bm, 0, none⟩), .pointer (some ⟨Bs, 0, none⟩)]] w (IntC w (brK who (brOf Rs want lo hi) m)) := by
  have HA := Lib.hid (appendSeqInt_any Bl Bw Bm Bs gl cl m gs cs Rs who want lo hi hl hm hm0 hmc hcl w fl fw fm fs ft)
  clear hl fl fw fm fs ft
  go_enter Try.func65, Try.ntmps65
  go_wp2_with fail
  refine HA.out.mono ?_; rintro e w1 ⟨v, rfl, ho, hb⟩
  go_wp2
  go_ret
  exact ⟨v, rfl, ho, hb⟩

end Go.Proofs.Yteabigobnjebaaa
