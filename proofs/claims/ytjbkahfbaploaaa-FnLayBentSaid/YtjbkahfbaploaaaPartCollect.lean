/-
  slices.Collect over Lay.parts; impl's LayParts.
-/
import Derived.Test.YtjbkahfbaploaaaPartIter
import Derived.Test.YtjbkahfbaploaaaPartRow
import Derived.Test.YtjbkahfbaploaaaLayFn
import Derived.RangeFuncBox
import Derived.Deep.AppendLies
namespace Go.Proofs.Ytjbkahfbaploaaa
open Go.RowKit

attribute [local go_sem] Oper.semAt_some

theorem wpListIn_append_lies {F : Fence} {n : Nat} {P : Program} (w : World) {ops : Array Oper} {rest : List Oper} {o : Oper} {a : Act} {Q : Exit → Act → World → Prop}
    (hg : o.guard = none) (s x : Operand) (t : TypeId) (hop : o.op = Op.call { callee := Callee.builtin Builtin.append, args := #[s, x], argTypes := #[t, t] })
    (base : Nat) (e : TypeId) (i : TypeInfo) (z : Value) (size bytes : Nat) (h1 : P.underlying t = some (.slice e)) (h2 : P.info? e = some i) (h3 : i.zero = some z) (h4 : i.size = size) (h5 : i.bytes = bytes) (h6 : z.cells.size = size) (h7 : 0 < size)
    (v : Value) (k : Nat) (xs : List Value) (hs : a.eval s = v) (hown : w.ownsRow base e size v k xs) (ad : Addr) (m c : Nat) (news : List Value) (hx : a.eval x = .slice (some ad) m c) (hn : news.length = m * size)
    (hc : ∀ j u, news[j]? = some u → w.cell? (ad.add j) = some u) (h1c : ∀ u ∈ news, u.oneCell' = true) (hm : 0 < m) (b1 : k + m ≤ maxLen) (b2 : (k + m) * bytes ≤ 140737488355328) (b3 : base ≤ w.heap.size) (H : Nat) (hH : w.heap.size = H)
    (hK : ∀ g cap w', w'.ownsRow base e size (.slice (some ⟨g, 0, none⟩) (k + m) cap) (k + m) (xs ++ news) → w.grownBy w' v.ownBlock → (v.ownBlock = some g ∨ g = H) → g < w'.heap.size → wpListIn F n P ops Q rest (a.put o.dst (.slice (some ⟨g, 0, none⟩) (k + m) cap)) w') :
    wpListIn F n P ops Q (o :: rest) a w := by
  refine wpListIn_plain hg fun K hK' => ?_
  obtain ⟨g, cap, w', hrun, r1, r2, r3, r4⟩ := run_append_lies (P := P) w t o.type base e i z size bytes h1 h2 h3 h4 h5 h6 h7 v k xs hown ad m c news hn hc h1c hm b1 b2 b3 H hH
  unfold Oper.wpIn
  refine ⟨by simp [Oper.about, hop, resolve, Target.leads, Sem.run_pure], ?_⟩
  rw [Oper.semAt_plain F _ _ (by rw [hop]; intro c hc'; cases hc')]
  simp [execOp, hop, resolve, invoke, builtin, hs, hx, hrun, Result.andThen]
  exact hK' _ _ (hK g cap w' r1 r2 r3 r4)

theorem box_below {n b : Nat} {A B : World} {x y : Int} (h : Below n A B) (hb : b < n) (k : Box2 A b x y) : Box2 B b x y := by
  obtain ⟨h0, h1, h2, h3⟩ := k
  exact ⟨(h.cell (p := ⟨b, 0, none⟩) hb).trans h0, (h.cell (p := ⟨b, 1, none⟩) hb).trans h1, (h.frozen (p := ⟨b, 0, none⟩) hb).trans h2, (h.frozen (p := ⟨b, 1, none⟩) hb).trans h3⟩

abbrev encPart (x : PartT) : Array Value := #[.agg #[.int .i64 x.1, .int .i64 x.2.1, .int .i64 x.2.2.1, .int .i64 x.2.2.2]]

/-- The iterator as the law asks it. -/
theorem parts_stops (n : Nat) (hn : 1 ≤ n) (Bs Bl n₀ : Nat) (size many lo hi : Int) (hy : layOkB size many = true) (h0 : 0 ≤ lo) (h1 : lo ≤ hi) (h2 : hi ≤ 48) (w : World) (bS : Box2 w Bs lo hi) (bL : Box2 w Bl size many) (hs : Bs < n₀) (hl : Bl < n₀) :
    SeqStopsK Fence.wide n Try.prog 54 #[.pointer (some ⟨Bs, 0, none⟩), .pointer (some ⟨Bl, 0, none⟩)] encPart (Below n₀) (fun ys => ys = prts size many lo hi) (fun _ => True) 48 w := fun l J Jx W hW hJ _ hY hJ0 =>
  (parts_in n hn l Bs Bl size many lo hi hy h0 h1 h2 (Below n₀) (fun _ _ h k => box_below h hs k) (fun _ _ h k => box_below h hl k) (fun _ _ h => h.size) J Jx hY W hJ (bS.keep hW) (bL.keep hW) hJ0).mono fun _ _ h => ⟨h.1, h.2.imp id fun ⟨pre, hp⟩ => ⟨pre, trivial, hp⟩⟩

set_option maxRecDepth 100000 in
set_option maxHeartbeats 4000000 in
theorem appendSeqPart_any (Bs Bl : Nat) (size many lo hi : Int) (hy : layOkB size many = true) (h0 : 0 ≤ lo) (h1 : lo ≤ hi) (h2 : hi ≤ 48) (w : World) (bS : Box2 w Bs lo hi) (bL : Box2 w Bl size many) :
    Calls Try.prog 53 #[.slice none 0 0, .func (.func 54) #[] #[.pointer (some ⟨Bs, 0, none⟩), .pointer (some ⟨Bl, 0, none⟩)]] w (RgP w (prts size many lo hi)) := by
  obtain ⟨i0, hi0, hz0, hz1, hz2⟩ := info_parts infoPart
  have hs := World.block_lt_of_cell? w _ bS.1
  have hl := World.block_lt_of_cell? w _ bL.1
  refine (callsIn_wide (n := 4)).1 ?_
  refine callsIn_of_wp_marks Try.func53 rfl trivial ?_ rfl
  simp only [Try.ntmps53, List.size_toArray, List.length_cons, List.length_nil, Nat.reduceAdd, Nat.reduceSub, Array.replicate_succ, Array.replicate_zero, List.push_toArray, List.append_toArray, List.nil_append, List.cons_append]
  have bO := Boxed.new w 33 (.slice none 0 0)
  have hB0 : Below w.heap.size w (w.alloc (.cells #[.slice none 0 0] 33)) := (Below.refl _ w).alloc (Nat.le_refl _) _
  have hsz : (w.alloc (.cells #[.slice none 0 0] 33)).heap.size = w.heap.size + 1 := by simp
  have bS0 := bS.keep hB0
  have bL0 := bL.keep hB0
  gi_wp2_with fail
  obtain ⟨W0, hW0⟩ : ∃ W0, w.alloc (.cells #[.slice none 0 0] 33) = W0 := ⟨_, rfl⟩
  rw [hW0] at bO bS0 bL0 hB0 hsz ⊢
  clear hW0
  refine wpIn_rangeFunc_ownH rfl (by omega) (gf := 54) (lb := #[.pointer (some ⟨Bs, 0, none⟩), .pointer (some ⟨Bl, 0, none⟩)]) rfl trivial (enters_of Try.func54 (by kernel_rfl) rfl)
    (parts_stops (4 - 1) (by omega) Bs Bl w.heap.size size many lo hi hy h0 h1 h2 W0 bS0 bL0 hs hl) belowK_t (belowK_b (by omega)) (Below.refl _ _) (fun _ => rfl)
    (fun pre W => (∃ v, Boxed W w.heap.size 33 v ∧ W.ownsRow w.heap.size 59 4 v pre.length (flat4 pre) ∧ True) ∧ Below w.heap.size w W)
    (fun _ _ _ => False)
    (OwnFrom.and (Own.from (holdsRow_own _ _ _ _ _ _ _ (fun (pre : List PartT) _ => True)) _) (ownFrom_below (Nat.le_refl _) (by omega)))
    (fun _ => fun _ _ _ _ h => h.elim)
    ⟨⟨_, bO, World.ownsRow_nil .., trivial⟩, hB0⟩
    (fun x a' W => ∃ Bx, w.heap.size < Bx ∧ W.heap[Bx]? = some (.cells #[.int .i64 x.1, .int .i64 x.2.1, .int .i64 x.2.2.1, .int .i64 x.2.2.2] 59 (0, 0)) ∧ a' = { tmps := #[.slice none 0 0, .func (.func 54) #[] #[.pointer (some ⟨Bs, 0, none⟩), .pointer (some ⟨Bl, 0, none⟩)], .pointer (some ⟨w.heap.size, 0, none⟩), undef, .slice none 0 0, .pointer (some ⟨Bx, 0, none⟩), .func (.func 54) #[] #[.pointer (some ⟨Bs, 0, none⟩), .pointer (some ⟨Bl, 0, none⟩)], .agg #[.int .i64 x.1, .int .i64 x.2.1, .int .i64 x.2.2.1, .int .i64 x.2.2.2], undef, undef, undef, undef, undef], defers := [] })
    (fun x a' _ X Y row hs hg hr => by
      obtain ⟨Bx, h1, h2, h3⟩ := hs
      refine ⟨Bx, h1, ?_, h3⟩
      refine (hg.block Bx (Array.getElem?_eq_some_iff.1 h2).1 (fun e => ?_)).trans h2
      obtain ⟨_, o, ho, hc⟩ := hr Bx e.symm
      rw [h2] at ho; cases ho; cases hc)
    ?assign ?body ?done ?stop
  case assign =>
    rintro l pre x W K ⟨⟨v, bO1, hrow1, -⟩, hB1⟩ hK
    gi_wp2
    exact hK _ _ ((KeepsOthers.alloc _ _).from _) ((Below.refl _ W).alloc hB1.size _) ⟨⟨v, bO1.alloc _, hrow1.alloc _, trivial⟩, hB1.alloc hB1.size _⟩ ⟨W.heap.size, bO1.lt, World.alloc_heap_new W _, rfl⟩
  case body =>
    rintro l pre x a' W hl ⟨r, hr⟩ ⟨⟨v, bO1, hrow1, -⟩, hB1⟩ ⟨Bx, hBx, bX, rfl⟩ hlt
    obtain ⟨ptr, cap, rfl⟩ : ∃ ptr cap, v = .slice ptr pre.length cap := by
      rcases hrow1.2 with ⟨rfl, h0⟩ | ⟨g, cap, cur, rfl, _⟩
      · exact ⟨none, 0, by rw [h0]⟩
      · exact ⟨_, cap, rfl⟩
    have cO := bO1.cell
    have fO := bO1.frozen
    have x1 : W.cell? ⟨Bx, 0, none⟩ = some (.int .i64 x.1) := by simp [World.cell?, bX]
    have x2 : W.cell? ⟨Bx, 1, none⟩ = some (.int .i64 x.2.1) := by simp [World.cell?, bX]
    have x3 : W.cell? ⟨Bx, 2, none⟩ = some (.int .i64 x.2.2.1) := by simp [World.cell?, bX]
    have x4 : W.cell? ⟨Bx, 3, none⟩ = some (.int .i64 x.2.2.2) := by simp [World.cell?, bX]
    have hsW := hB1.size
    gi_wp2_with (gi_at_builtin; refine wpListIn_append_lies _ rfl _ _ 33 rfl w.heap.size 59 i0 (.agg #[.int .i64 0, .int .i64 0, .int .i64 0, .int .i64 0]) 4 32 Try.underlying33 hi0 hz0 hz1 hz2 rfl (by decide) _ _ _ rfl (hrow1.alloc _) ⟨W.heap.size, 0, none⟩ 1 1 [.int .i64 x.1, .int .i64 x.2.1, .int .i64 x.2.2.1, .int .i64 x.2.2.2] rfl rfl (four_new _ _ _ _ _ _) (by simp [Value.oneCell']) (by omega) (by unfold maxLen; omega) (by omega) (by simp; omega) (W.heap.size + 1) (by simp) ?_; intro g' cap' w1 hown' hgrow hat hltg; obtain ⟨hv1, hv2, hr2, hk2, hb2⟩ := bO1.appended (by decide) hrow1 hsW (Nat.le_refl _) hown' hgrow; have hc1 := hv1.cell; have hf1 := hv1.frozen)
    refine ⟨hk2.from _, hb2, ⟨⟨_, hv2, ?_, trivial⟩, hB1.trans hb2⟩⟩
    rw [List.length_append, flat4_append]
    exact hr2
  case done =>
    rintro D ys W hD rfl ⟨⟨v, bO1, hrow1, -⟩, hB1⟩ hK
    obtain ⟨ptr, cap, rfl⟩ : ∃ ptr cap, v = .slice ptr (prts size many lo hi).length cap := by
      rcases hrow1.2 with ⟨rfl, h0⟩ | ⟨g, cap, cur, rfl, _⟩
      · exact ⟨none, 0, by rw [h0]⟩
      · exact ⟨_, cap, rfl⟩
    have cO := bO1.cell
    gi_wp2
    refine ⟨by simp, .inl ⟨_, _, rfl, run_takeDeferred hK, ?_⟩⟩
    refine ⟨.slice ptr (prts size many lo hi).length cap, ?_, ⟨_, rfl, Lib.hid (ownsRow_putObj hrow1 _ hK rfl), hB1.trans (belowK_b (w := w) (Nat.le_refl _) W D _ _ (by omega) hK rfl rfl)⟩⟩
    simp [results, Try.f53, go_sem]
  case stop =>
    rintro D c pre W hD hpre h hK
    exact h.elim

theorem collectPart_any (Bs Bl : Nat) (size many lo hi : Int) (hy : layOkB size many = true) (h0 : 0 ≤ lo) (h1 : lo ≤ hi) (h2 : hi ≤ 48) (w : World) (bS : Box2 w Bs lo hi) (bL : Box2 w Bl size many) :
    Calls Try.prog 27 #[.func (.func 54) #[] #[.pointer (some ⟨Bs, 0, none⟩), .pointer (some ⟨Bl, 0, none⟩)]] w (RgP w (prts size many lo hi)) := by
  have HA := Lib.hid (appendSeqPart_any Bs Bl size many lo hi hy h0 h1 h2 w bS bL)
  clear hy bS bL
  go_enter Try.func27, Try.ntmps27
  go_wp2_with fail
  refine HA.out.mono ?_; rintro e w1 ⟨v, rfl, ho, hb⟩
  go_wp2
  go_ret
  exact ⟨v, rfl, ho, hb⟩

theorem parts_any (size many lo hi : Int) (w : World) :
    Calls Try.prog 28 #[.agg #[.int .i64 size, .int .i64 many], .agg #[.int .i64 lo, .int .i64 hi]] w fun e w' =>
      e = .returned (.func (.func 54) #[] #[.pointer (some ⟨w.heap.size + 1, 0, none⟩), .pointer (some ⟨w.heap.size, 0, none⟩)]) ∧
      w' = (w.alloc (.cells #[.int .i64 size, .int .i64 many] 24)).alloc (.cells #[.int .i64 lo, .int .i64 hi] 36) := by
  go_enter Try.func28, Try.ntmps28
  go_wp2
  go_ret
  exact ⟨rfl, rfl⟩

theorem rgp_base {w W : World} {L : List PartT} {e : Ending} {w' : World} (h : RgP W L e w') (hb : Below w.heap.size w W) : RgP w L e w' := by
  obtain ⟨v, he, ho, hb2⟩ := h
  exact ⟨v, he, ⟨ho.out.1, ho.out.2.imp id fun ⟨g, cap, cur, h1, h2, h3⟩ => ⟨g, cap, cur, h1, Nat.le_trans hb.size h2, h3⟩⟩, hb.trans (hb2.mono hb.size)⟩
theorem rgp_nil (w w' : World) (hb : Below w.heap.size w w') : RgP w [] (.returned (.slice none 0 0)) w' :=
  ⟨_, rfl, World.ownsRow_nil .., hb⟩

set_option maxHeartbeats 1000000 in
theorem implLayParts_any (size many lo hi : Int) (w : World) :
    Calls Try.prog 11 #[.agg #[.int .i64 size, .int .i64 many], .agg #[.int .i64 lo, .int .i64 hi]] w (RgP w (lpL size many lo hi)) := by
  have k : Box2 ((w.alloc (.cells #[.int .i64 size, .int .i64 many] 24)).alloc (.cells #[.int .i64 lo, .int .i64 hi] 36)) w.heap.size size many :=
    (new_box w size many 24).keep ((Below.refl _ _).alloc (Nat.le_refl _) _)
  have m : Box2 ((w.alloc (.cells #[.int .i64 size, .int .i64 many] 24)).alloc (.cells #[.int .i64 lo, .int .i64 hi] 36)) (w.heap.size + 1) lo hi := by
    simpa using new_box (w.alloc (.cells #[.int .i64 size, .int .i64 many] 24)) lo hi 36
  have hal : Below w.heap.size w ((w.alloc (.cells #[.int .i64 size, .int .i64 many] 24)).alloc (.cells #[.int .i64 lo, .int .i64 hi] 36)) := ((Below.refl _ _).alloc (Nat.le_refl _) _).alloc (by simp) _
  have hok := fun W => implLayOk_any size many W
  have hsp := fun W => implSpanOk_any lo hi W
  have HK := Lib.hid k
  have HM := Lib.hid m
  by_cases hy : layOkB size many = true
  · by_cases hs : spanOkB lo hi = true
    · rw [hy] at hok
      rw [hs] at hsp
      have HO := Lib.hid hok
      have HS := Lib.hid hsp
      have HY := Lib.hid hy
      have hL : lpL size many lo hi = prts size many lo hi := if_pos ⟨hy, hs⟩
      rw [hL]
      obtain ⟨b1, b2, b3⟩ := spanOkB_iff.1 hs
      clear hL hok hsp hy hs k m
      go_enter Try.func11, Try.ntmps11
      go_wp2_with fail
      refine (HO.out _).mono ?_; rintro e w1 ⟨rfl, hb1⟩
      have e1 := hal.trans (hb1.mono hal.size)
      have k1 := HK.out.keep hb1
      have m1 := HM.out.keep hb1
      obtain ⟨x1, x2, -, -⟩ := id k1
      obtain ⟨y1, y2, -, -⟩ := id m1
      go_wp2_with fail
      refine (HS.out _).mono ?_; rintro e w2 ⟨rfl, hb2⟩
      have e2 := e1.trans (hb2.mono e1.size)
      have k2 := k1.keep hb2
      have m2 := m1.keep hb2
      clear x1 x2 y1 y2
      obtain ⟨x1, x2, -, -⟩ := id k2
      obtain ⟨y1, y2, -, -⟩ := id m2
      go_wp2_with fail
      refine (parts_any size many lo hi w2).mono ?_; rintro e w3 ⟨rfl, rfl⟩
      have kk : Box2 ((w2.alloc (.cells #[.int .i64 size, .int .i64 many] 24)).alloc (.cells #[.int .i64 lo, .int .i64 hi] 36)) w2.heap.size size many :=
        (new_box w2 size many 24).keep ((Below.refl _ _).alloc (Nat.le_refl _) _)
      have mm : Box2 ((w2.alloc (.cells #[.int .i64 size, .int .i64 many] 24)).alloc (.cells #[.int .i64 lo, .int .i64 hi] 36)) (w2.heap.size + 1) lo hi := by
        simpa using new_box (w2.alloc (.cells #[.int .i64 size, .int .i64 many] 24)) lo hi 36
      have hsz2 := e2.size
      have e3 : Below w.heap.size w ((w2.alloc (.cells #[.int .i64 size, .int .i64 many] 24)).alloc (.cells #[.int .i64 lo, .int .i64 hi] 36)) := (e2.alloc hsz2 _).alloc (by simp; omega) _
      have HC := Lib.hid (collectPart_any (w2.heap.size + 1) w2.heap.size size many lo hi HY.out b1 (by omega) b3 _ mm kk)
      have HE := Lib.hid e3
      clear kk mm e3
      go_wp2_with fail
      refine HC.out.mono ?_; rintro e w4 hr
      obtain ⟨v, rfl, ho, hb⟩ := rgp_base hr HE.out
      go_wp2
      go_ret
      exact ⟨v, rfl, ho, hb⟩
    · replace hs : spanOkB lo hi = false := by simpa using hs
      rw [hy] at hok
      rw [hs] at hsp
      have HO := Lib.hid hok
      have HS := Lib.hid hsp
      have hL : lpL size many lo hi = [] := if_neg (fun c => by rw [hs] at c; exact absurd c.2 (by simp))
      rw [hL]
      clear hL hok hsp hy hs k m
      go_enter Try.func11, Try.ntmps11
      go_wp2_with fail
      refine (HO.out _).mono ?_; rintro e w1 ⟨rfl, hb1⟩
      have e1 := hal.trans (hb1.mono hal.size)
      have m1 := HM.out.keep hb1
      obtain ⟨y1, y2, -, -⟩ := id m1
      go_wp2_with fail
      refine (HS.out _).mono ?_; rintro e w2 ⟨rfl, hb2⟩
      have e2 := e1.trans (hb2.mono e1.size)
      go_wp2
      go_ret
      exact rgp_nil _ _ e2
  · replace hy : layOkB size many = false := by simpa using hy
    rw [hy] at hok
    have HO := Lib.hid hok
    have hL : lpL size many lo hi = [] := if_neg (fun c => by rw [hy] at c; exact absurd c.1 (by simp))
    rw [hL]
    clear hL hok hsp hy k m
    go_enter Try.func11, Try.ntmps11
    go_wp2_with fail
    refine (HO.out _).mono ?_; rintro e w1 ⟨rfl, hb1⟩
    have e1 := hal.trans (hb1.mono hal.size)
    go_wp2
    go_ret
    exact rgp_nil _ _ e1

end Go.Proofs.Ytjbkahfbaploaaa
