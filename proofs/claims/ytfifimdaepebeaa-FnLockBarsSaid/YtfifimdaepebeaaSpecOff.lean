/-
  spec.l4Copy: a table's copy in new memory.
  spec.l4Put: a table with another hold of one client's, if it is valid.
  spec.LockOff.
-/
import Derived.Test.YtfifimdaepebeaaTable
import Derived.Test.YtfifimdaepebeaaClear
import Derived.Deep.AppendSrc
import Derived.Deep.Upon
import Derived.Deep.AppendLies
import Derived.Deep.RegionHeld3
import Derived.Test.YtfifimdaepebeaaGiveMath
import Derived.Test.YtfifimdaepebeaaSpecMay
namespace Go.Proofs.Ytfifimdaepebeaa
open Go.RowKit

theorem infoSpan2 : (Try.prog.info? 25).map (fun i => (i.zero, i.size, i.bytes)) = some (some (.agg #[.int .i64 0, .int .i64 0]), 2, 16) := by kernel_rfl

theorem flat_one : ∀ (L : List Rng), ∀ u ∈ flat L, u.oneCell' = true
  | [], u, h => by simp [flat] at h
  | x :: r, u, h => by
    simp only [flat, List.mem_cons] at h
    rcases h with rfl | rfl | h
    · rfl
    · rfl
    · exact flat_one r u h

theorem flat_cells {w : World} {b off : Nat} : ∀ (L : List Rng), (∀ i, i < L.length → w.cell? ⟨b, off + i * 2, none⟩ = some (.int .i64 (L.getD i (0, 0)).1) ∧ w.cell? ⟨b, off + i * 2 + 1, none⟩ = some (.int .i64 (L.getD i (0, 0)).2)) →
    ∀ j u, (flat L)[j]? = some u → w.cell? ((⟨b, off, none⟩ : Addr).add j) = some u := by
  intro L h j u hu
  have hl : (flat L).length = L.length * 2 := flat_length L
  have hj : j < L.length * 2 := by rw [← hl]; exact (List.getElem?_eq_some_iff.1 hu).1
  have ha : (⟨b, off, none⟩ : Addr).add j = ⟨b, off + j, none⟩ := by
    rcases Nat.eq_zero_or_pos j with e | e
    · subst e; simp [Addr.add]
    · simp [Addr.add, Nat.ne_of_gt e]
  rw [ha]
  obtain ⟨i, hi | hi⟩ : ∃ i, j = i * 2 ∨ j = i * 2 + 1 := ⟨j / 2, by omega⟩
  · subst hi
    have := flat_get0 L i (by omega)
    rw [this] at hu; injection hu with hu; subst hu
    exact (h i (by omega)).1
  · subst hi
    have := flat_get1 L i (by omega)
    rw [this] at hu; injection hu with hu; subst hu
    have := (h i (by omega)).2
    rwa [Nat.add_assoc] at this

set_option maxRecDepth 100000 in
/-- append([]Span{}, x...): a new slice that reads as x. -/
theorem run_append_spn (w : World) (ty : TypeId) (g B : Nat) (hB : B ≤ g) (hg : w.heap[g]? = some (.cells #[] 25 (0, 0))) (v : Value) (L : List Rng) (hv : Spn w v L) (hL : L.length ≤ 1048576) :
    ∃ v' w', (Builtin.append_ #[46, 46] ty #[.slice (some ⟨g, 0, none⟩) 0 0, v]).run Try.prog w = .ok v' w' ∧ w'.ownsRow B 25 2 v' L.length (flat L) ∧ w.grownBy w' (some g) ∧ (v'.ownBlock = some g ∨ v'.ownBlock = some w.heap.size) ∧ ∃ a' c', v' = .slice a' L.length c' := by
  obtain ⟨i0, hi, hz0, hz1, hz2⟩ := info_parts infoSpan2
  have hglt := (Array.getElem?_eq_some_iff.1 hg).1
  have hown : w.ownsRow B 25 2 (.slice (some ⟨g, 0, none⟩) 0 0) 0 [] := ⟨rfl, .inr ⟨g, 0, #[], rfl, hB, hg, Nat.le_refl _, by unfold maxLen; omega, rfl, rfl⟩⟩
  obtain ⟨a, cap, rfl, c1, c2, hc⟩ := hv
  cases a with
  | none =>
    have h0 : L = [] := by
      cases L with
      | nil => rfl
      | cons x r => obtain ⟨b, off, e, _⟩ := hc (by simp); cases e
    subst h0
    refine ⟨_, w, run_append_nothing (P := Try.prog) w 46 46 ty 25 i0 Try.underlying46 hi (some ⟨g, 0, none⟩) 0 0 (Nat.le_refl _) _ (Src.ofNil w Try.underlying46 cap), hown, ?_, .inl rfl, _, _, rfl⟩
    exact grown_of_below (Below.refl _ _)
  | some ad =>
    have hnews : ∀ j u, (flat L)[j]? = some u → w.cell? (ad.add j) = some u := by
      intro j u hu
      cases L with
      | nil => simp [flat] at hu
      | cons x r =>
        obtain ⟨b, off, e, hcc⟩ := hc (by simp)
        injection e with e
        subst e
        exact flat_cells _ hcc j u hu
    obtain ⟨v', w', h1, h2, h3, -, h5⟩ := run_append_own_at (P := Try.prog) w B 46 ty 25 i0 (.agg #[.int .i64 0, .int .i64 0]) 2 16 Try.underlying46 hi hz0 hz1 hz2 rfl (by decide) _ 0 [] hown ad L.length cap (flat L) (flat_length L) hnews (flat_one L) (by unfold maxLen; omega) (by omega) (by omega)
    rw [Nat.zero_add, List.nil_append] at h2
    have hf : ∃ a' c', v' = .slice a' L.length c' := by
      rcases h2.2 with ⟨rfl, h0⟩ | ⟨g', cap', cur, rfl, _⟩
      · exact ⟨_, _, by rw [h0]⟩
      · exact ⟨_, _, rfl⟩
    exact ⟨v', w', h1, h2, h3, h5.imp (fun e => e.trans rfl) id, hf⟩

theorem step_append_spn {ops : Array Oper} {o : Oper} {a : Act} {w : World} {K : Act → World → Prop} {Q : Exit → Act → World → Prop} {E : Prop} (hgd : o.guard = none) (s x : Operand)
    (ho : o.op = .call { callee := .builtin .append, args := #[s, x], argTypes := #[46, 46] })
    (g B : Nat) (hB : B ≤ g) (hs : a.eval s = .slice (some ⟨g, 0, none⟩) 0 0) (hg : w.heap[g]? = some (.cells #[] 25 (0, 0))) (v : Value) (L : List Rng) (hx : a.eval x = v) (hv : Spn w v L) (hL : L.length ≤ 1048576)
    (h : ∀ v' w', w'.ownsRow B 25 2 v' L.length (flat L) → w.grownBy w' (some g) → (v'.ownBlock = some g ∨ v'.ownBlock = some w.heap.size) → (∃ a' c', v' = .slice a' L.length c') → K (a.put o.dst v') w') :
    if Region.wanted o (yielded ops a.tmps) = true then Oper.wp Try.prog o a w K Q else E := by
  have hw : Region.wanted o (yielded ops a.tmps) = true := by simp [Region.wanted, hgd]
  rw [if_pos hw]
  obtain ⟨v', w', hr, h2, h3, h4, h5⟩ := run_append_spn w o.type g B hB hg v L hv hL
  unfold Oper.wp execOp
  simp only [ho, resolve, invoke, builtin, Sem.run_bind, Sem.run_pure, Result.andThen_ok, List.map_toArray, List.map_cons, List.map_nil, hs, hx, hr]
  exact h v' w' h2 h3 h4 h5

theorem heap_new1 (w : World) (o o' : Obj) : ((w.alloc o).alloc o').heap[w.heap.size + 1]? = some o' := by have := heap_new (w.alloc o) o'; simpa using this
theorem heap_new0 (w : World) (o o' : Obj) : ((w.alloc o).alloc o').heap[w.heap.size]? = some o := (Below.heap_alloc _ _ _ (by simp)).trans (heap_new _ _)
theorem below_al {w w' : World} {o : Obj} (h : Below w.heap.size w w') : Below w.heap.size w (w'.alloc o) := h.alloc h.size o
theorem below_gr {w w' w1 : World} {g : Nat} (h : Below w.heap.size w w') (hg : w'.grownBy w1 (some g)) (h0 : w.heap.size ≤ g) : Below w.heap.size w w1 :=
  h.trans ⟨hg.os, hg.tape, hg.output, hg.size, fun i hi => hg.block i (Nat.lt_of_lt_of_le hi h.size) (fun e => by injection e with e; omega)⟩

/-- What append([]Span{}, x...) leaves: x's row in memory made since W. -/
structure AppS (W : World) (L : List Rng) (g : Nat) (w : World) (v : Value) (w' : World) : Prop where
  own : w'.ownsRow W.heap.size 25 2 v L.length (flat L)
  grow : w.grownBy w' (some g)
  blk : ∀ b, v.ownBlock = some b → b = g ∨ b = w.heap.size
  bel : Below W.heap.size W w'

theorem step_append_spn2 {ops : Array Oper} {o : Oper} {a : Act} {w : World} {K : Act → World → Prop} {Q : Exit → Act → World → Prop} {E : Prop} (hgd : o.guard = none) (s x : Operand)
    (ho : o.op = .call { callee := .builtin .append, args := #[s, x], argTypes := #[46, 46] })
    (W : World) (g : Nat) (v : Value) (hs : a.eval s = .slice (some ⟨g, 0, none⟩) 0 0) (hx : a.eval x = v) (hB : W.heap.size ≤ g) (hg : w.heap[g]? = some (.cells #[] 25 (0, 0))) (hW : Below W.heap.size W w) (L : List Rng) (hv : Spn W v L) (hL : L.length ≤ 1048576)
    (h : ∀ v' w', AppS W L g w v' w' → (∃ a' c', v' = .slice a' L.length c') → K (a.put o.dst v') w') :
    if Region.wanted o (yielded ops a.tmps) = true then Oper.wp Try.prog o a w K Q else E :=
  step_append_spn hgd s x ho g W.heap.size hB hs hg v L hx (hv.keep hW) hL fun v' w' h1 h2 h3 h4 => h v' w' ⟨h1, h2, fun b e => by
    rcases h3 with h3 | h3 <;> rw [h3] at e <;> injection e with e
    · exact .inl e.symm
    · exact .inr e.symm, below_gr hW h2 hB⟩ h4

/-- What l4Copy leaves: each list in a row of the call's own. -/
def TbK (w : World) (T : List HoldT) (e : Ending) (w' : World) : Prop :=
  ∃ v vR vS, e = .returned v ∧ Hid (TB w w' T.length (fun i => T.getD i hd0) vR vS v)

theorem TB.made (w : World) (F : Nat → HoldT) : TB w (w.alloc (.cells #[] 48)) 0 F (fun _ => .slice none 0 0) (fun _ => .slice none 0 0) (.slice (some ⟨w.heap.size, 0, none⟩) 0 0) :=
  ⟨World.ownsRow_made w #[] 0 (Nat.le_refl _) (by unfold maxLen; omega) rfl, fun i hi => absurd hi (by omega), ⟨fun i _ hi => absurd hi (by omega), fun i _ hi => absurd hi (by omega)⟩, (Below.refl _ _).alloc (Nat.le_refl _) _⟩

theorem appS_stay {W w1 w2 w3 w4 : World} {L M : List Rng} {g g2 : Nat} {x y : Value} (h1 : AppS W L g w1 x w2) (h2 : AppS W M g2 w3 y w4) (hb : Below w2.heap.size w2 w3) (hn : ∀ b, x.ownBlock = some b → b ≠ g2) : w4.ownsRow W.heap.size 25 2 x L.length (flat L) :=
  own_stay (rowBel h1.own hb) h2.grow (fun b hb' e => hn b hb' (by injection e with e; exact e.symm))
theorem appS_dis {W w1 w2 w3 w4 : World} {L M : List Rng} {g g2 : Nat} {x y : Value} (_h1 : AppS W L g w1 x w2) (h2 : AppS W M g2 w3 y w4) (hn : ∀ b, x.ownBlock = some b → ¬ (b = g2 ∨ b = w3.heap.size)) : ∀ b, x.ownBlock = some b → y.ownBlock ≠ some b :=
  fun b hb e => hn b hb (h2.blk b e)

set_option maxRecDepth 100000 in
set_option maxHeartbeats 4000000 in
theorem l4Copy_tb (v : Value) (T : List HoldT) (w : World) (h : Hds w v T) (hT : T.length ≤ 1000) (hL : ∀ i, i < T.length → (T.getD i hd0).1.length ≤ 1048576 ∧ (T.getD i hd0).2.length ≤ 1048576) :
    Calls Try.prog 48 #[v] w (TbK w T) := by
  obtain ⟨i0, hi0, hz0, hz1, hz2⟩ := info_parts infoHoldT
  have HI : Hid (Try.prog.info? 48 = some i0 ∧ i0.zero = some (.agg #[.slice none 0 0, .slice none 0 0]) ∧ i0.size = 2 ∧ i0.bytes = 48) := ⟨hi0, hz0, hz1, hz2⟩
  obtain ⟨a, cap, rfl, c1, c2, -⟩ := id h
  have HT := Lib.hid h
  have HL := Lib.hid hL
  clear h hL hi0 hz0 hz1 hz2
  go_enter Try.func48, Try.ntmps48
  go_wp2
  go_loopg [3, 4] T.length (fun q s3 s4 wr => ∃ (k : Nat) (vR vS : Nat → Value), q = T.length - k ∧ k ≤ T.length ∧ s4 = .int .i64 k ∧ Hid (TB w wr k (fun i => T.getD i hd0) vR vS s3))
  case atStart => exact ⟨0, fun _ => .slice none 0 0, fun _ => .slice none 0 0, rfl, Nat.zero_le _, rfl, Lib.hid (TB.made w _)⟩
  case round =>
    obtain ⟨k, vR, vS, rfl, hk, rfl, HB⟩ := hrel
    by_cases hlt : k < T.length
    · obtain ⟨b, off, r, s, rfl, e1w, e2w, p1, p2, -, -, -⟩ := HT.out.at hlt
      replace p1 := p1.keep HB.out.bel
      replace p2 := p2.keep HB.out.bel
      have e1 := cell_keep HB.out.bel e1w
      have e2 := cell_keep HB.out.bel e2w
      have hL1 := HL.out k hlt
      generalize hh : T.getD k hd0 = H at *
      obtain ⟨L, M⟩ := H
      dsimp only at p1 p2 hL1
      have P1 := Lib.hid p1
      have P2 := Lib.hid p2
      have HH := Lib.hid hh
      have HL1 := Lib.hid hL1
      clear hh hL1
      obtain ⟨ar, cr, rfl⟩ := p1.form
      obtain ⟨as', cs, rfl⟩ := p2.form
      obtain ⟨ao, co, rfl⟩ := rowForm HB.out.own
      clear p1 p2
      have HO := Lib.hid HB.out.own
      go_wp2_with fail
      go_region_held3 (fun w' => w'.cell? ⟨b, off + k * 2, none⟩ = some (.slice ar L.length cr) ∧ w'.cell? ⟨b, off + k * 2 + 1, none⟩ = some (.slice as' M.length cs))
        (refine ⟨?_, ?_⟩ <;> first | (go_keep; done) | (refine cell_keep hb ?_; assumption))
        (first
          | (refine step_append_spn2 rfl (.tmp 13) (.tmp 18) rfl wr _ _ rfl rfl (by first | exact Nat.le_refl _ | (simp; done) | (simp; omega)) (by first | exact heap_new _ _ | exact heap_new1 wr.drew _ _ | exact heap_new0 wr.drew _ _) (by first | exact below_al (Below.refl _ _).drew | exact below_al (below_al (Below.refl _ _).drew)) _ P1.out HL1.out.1 ?_; rintro x1 wx1 hx1 ⟨ax, cx, rfl⟩; have hb := hx1.bel; have HX1 := Lib.hid hx1; clear hx1)
          | (refine step_append_spn2 rfl (.tmp 20) (.tmp 25) rfl wr _ _ rfl rfl (by first | exact HX1.out.bel.size | exact Nat.le_refl _ | (simp; done) | (simp; omega)) (by first | exact heap_new _ _ | exact (HX1.out.grow.block _ (by first | (simp; done) | (simp; omega)) (by simp)).trans (heap_new1 wr.drew _ _) | exact (HX1.out.grow.block _ (by first | (simp; done) | (simp; omega)) (by simp)).trans (heap_new0 wr.drew _ _)) (by first | exact HX1.out.bel | exact below_al HX1.out.bel) _ P2.out HL1.out.2 ?_; rintro x2 wx2 hx2 ⟨ay, cy, rfl⟩; have hb := hx2.bel; have HXS := Lib.hid (appS_stay HX1.out hx2 (by first | exact Below.refl _ _ | exact (Below.refl _ _).alloc (Nat.le_refl _) _) (by intro b hb'; have h1 := HX1.out.blk b hb'; have h2 := (own_lt HX1.out.own hb').2; simp at h1 h2; omega)); have HXY := Lib.hid (appS_dis HX1.out hx2 (by intro b hb' h3; have h1 := HX1.out.blk b hb'; have h2 := (own_lt HX1.out.own hb').2; have h4 := HX1.out.grow.size; simp at h1 h2 h3 h4; omega)); have HX2 := Lib.hid hx2; clear hx2)
          | (refine step_append_lies _ rfl (.tmp 12) (.tmp 28) 23 rfl w.heap.size 48 i0 (.agg #[.slice none 0 0, .slice none 0 0]) 2 48 Try.underlying23 HI.out.1 HI.out.2.1 HI.out.2.2.1 HI.out.2.2.2 rfl (by decide) _ _ _ rfl ((rowBel HO.out HX2.out.bel).alloc _) ⟨wx2.heap.size, 0, none⟩ 1 1 [.slice ax L.length cx, .slice ay M.length cy] rfl rfl (twoNew _ _ _ _) (by simp [Value.oneCell']) (by omega) (by unfold maxLen; omega) (by omega) (by have := HX2.out.bel.size; have := HB.out.bel.size; simp; omega) (wx2.heap.size + 1) (by simp) ?_; intro g' cap' w9 hown' hgrow hat hltg; have H9 := Lib.hid (HB.out.added2 HX2.out.bel (by rw [HH.out]; exact HXS.out) (by rw [HH.out]; exact HX2.out.own) HXY.out hown' hgrow); have hb := H9.out.bel; clear hown' hgrow hat hltg))
      all_goals (
        have HC := Lib.hid H9
        clear H9 hb HX1 HXS HXY HX2 HO HB P1 P2 e1 e2 e1w e2w
        go_wp2
        go_roundg (T.length - (k + 1))
        case measure => omega
        case rel => exact ⟨k + 1, _, _, rfl, by omega, by go_num, HC.out⟩)
    · obtain rfl : k = T.length := by omega
      have HR := Lib.hid HB.out
      obtain ⟨ao, co, rfl⟩ := rowForm HB.out.own
      go_wp2
      go_ret
      exact ⟨_, vR, vS, rfl, HR⟩

theorem l4Copy_any (v : Value) (T : List HoldT) (w : World) (h : Hds w v T) (hT : T.length ≤ 1000) (hL : ∀ i, i < T.length → (T.getD i hd0).1.length ≤ 1048576 ∧ (T.getD i hd0).2.length ≤ 1048576) :
    Calls Try.prog 48 #[v] w (TbC w T) := by
  refine (l4Copy_tb v T w h hT hL).mono ?_
  rintro e w' ⟨v', vR, vS, rfl, hb⟩
  exact ⟨v', rfl, Lib.hid (TB.tab hb.out (fun i hi => rfl)), hb.out.bel⟩

end Go.Proofs.Ytfifimdaepebeaa

namespace Go.Proofs.Ytfifimdaepebeaa
open Go.RowKit

theorem lock_len {T : List HoldT} (h : lockOkB T = true) {i : Nat} (hi : i < T.length) : (T.getD i hd0).1.length ≤ 1048576 ∧ (T.getD i hd0).2.length ≤ 1048576 := by
  obtain ⟨h3, hok, -⟩ := (lockOk_iff T).1 h
  have ho := okH_iff.1 (hok i (by omega))
  have h1 := ho.1
  have h2 := ho.2.1
  simp only [spansOkB, Bool.and_eq_true, decide_eq_true_eq] at h1 h2
  omega

/-- The table with one hold in the place of another one, if that is valid. -/
def putT (T : List HoldT) (k : Nat) (h : HoldT) : List HoldT × Bool := if lockOkB (T.set k h) = true then (T.set k h, true) else (T, false)

theorem hds_put {w1 : World} {nb lo hi cap k : Nat} {vR vS : Nat → Value} {T : List HoldT} {r s : Value} {R S : List Rng} (c1 : T.length ≤ cap) (c2 : cap ≤ maxLen) (hk : k < T.length)
    (hm : MTab w1 nb lo hi T.length vR vS (lR T) (lS T) (cR T) (cS T)) (hd : Dist nb T.length vR vS) (hcap : ∀ i, i < T.length → capOk (vR i) ∧ capOk (vS i))
    (hr : Spn ((w1.setCell ⟨nb, k * 2, none⟩ r).setCell ⟨nb, k * 2 + 1, none⟩ s) r R) (hs : Spn ((w1.setCell ⟨nb, k * 2, none⟩ r).setCell ⟨nb, k * 2 + 1, none⟩ s) s S) :
    Hds ((w1.setCell ⟨nb, k * 2, none⟩ r).setCell ⟨nb, k * 2 + 1, none⟩ s) (.slice (some ⟨nb, 0, none⟩) T.length cap) (T.set k (R, S)) := by
  have hrow := hm.1.set (x := r) (y := s) hk
  have hblk : ∀ b, b ≠ nb → ((w1.setCell ⟨nb, k * 2, none⟩ r).setCell ⟨nb, k * 2 + 1, none⟩ s).heap[b]? = w1.heap[b]? := fun b hb => (Below.heap_setCell _ _ _ b hb).trans (Below.heap_setCell _ _ _ b hb)
  refine ⟨_, cap, by rw [List.length_set], by rw [List.length_set]; exact c1, c2, fun _ => ⟨nb, 0, rfl, fun i hi => ?_⟩⟩
  rw [List.length_set] at hi
  obtain ⟨x1, x2, -, -⟩ := hrow i hi
  simp only [Nat.zero_add]
  dsimp only at x1 x2
  by_cases e : i = k
  · subst e
    rw [set_at hi]
    rw [if_pos rfl] at x1 x2
    exact ⟨r, s, x1, x2, hr, hs⟩
  · rw [set_off e]
    rw [if_neg e] at x1 x2
    obtain ⟨m1, m2⟩ := hm.2 i hi
    refine ⟨_, _, x1, x2, spn_of (m1.same fun b hb _ => hblk b (fun c => ?_)) (hcap i hi).1, spn_of (m2.same fun b hb _ => hblk b (fun c => ?_)) (hcap i hi).2⟩
    · subst c; exact (hd.1 i hi).1 hb
    · subst c; exact (hd.1 i hi).2 hb

set_option maxRecDepth 100000 in
set_option maxHeartbeats 4000000 in
theorem l4Put_any (v : Value) (T : List HoldT) (k : Nat) (r s : Value) (R S : List Rng) (w : World) (h : Hds w v T) (hq : lockOkB T = true) (hk : k < 3) (hr : Spn w r R) (hs : Spn w s S) :
    Calls Try.prog 49 #[v, .int .i64 k, .agg #[r, s]] w (TbB w (putT T k (R, S)).1 (putT T k (R, S)).2) := by
  obtain ⟨h3, -, -⟩ := (lockOk_iff T).1 hq
  obtain ⟨ar, cr, rfl⟩ := hr.form
  obtain ⟨as', cs, rfl⟩ := hs.form
  obtain ⟨W0, hW0⟩ : ∃ W0, w.alloc (.cells #[.slice ar R.length cr, .slice as' S.length cs] 48) = W0 := ⟨_, rfl⟩
  have hal : Below w.heap.size w W0 := by rw [← hW0]; exact (Below.refl _ _).alloc (Nat.le_refl _) _
  have hsz : W0.heap.size = w.heap.size + 1 := by rw [← hW0]; simp
  have B0 : BoxV W0 w.heap.size (.slice ar R.length cr) (.slice as' S.length cs) := by rw [← hW0]; exact new_boxV w _ _ _
  have K1 := Lib.hid (l4Copy_any v T W0 (h.keep hal) (by omega) (fun i hi => lock_len hq hi))
  have KT := Lib.hid (fun W h => l4Copy_any v T W h (by omega) (fun i hi => lock_len hq hi))
  have HD := Lib.hid h
  have HR := Lib.hid hr
  have HS := Lib.hid hs
  have HB0 := Lib.hid B0
  have Hal := Lib.hid hal
  have HN : Hid (lockOkB (T.set k (R, S)) = true → ∀ i, i < (T.set k (R, S)).length → ((T.set k (R, S)).getD i hd0).1.length ≤ 1048576 ∧ ((T.set k (R, S)).getD i hd0).2.length ≤ 1048576) := fun h i hi => lock_len h hi
  have Z0 := Lib.hid hsz
  clear h hr hs B0 hal hq hsz
  go_enter Try.func49, Try.ntmps49
  go_wp2_with fail
  clear hW0
  refine K1.out.mono ?_; rintro e w1 ⟨v1, rfl, ht1, hb1⟩
  have HT1 := Lib.hid ht1.out
  obtain ⟨a, cap, vR, vS, rfl, c1, c2, hc⟩ := ht1.out
  obtain ⟨nb, rfl, hn1, hn2, hm, hd, hcap⟩ := hc (by omega)
  obtain ⟨x1, x2, x3, x4⟩ := hm.1 k (by omega)
  obtain ⟨y1, y2, -, -⟩ := HB0.out.keep hb1
  have hb1' := Hal.out.trans (hb1.mono Hal.out.size)
  have hz := Z0.out
  have hbs : Below w.heap.size w ((w1.setCell ⟨nb, k * 2, none⟩ (.slice ar R.length cr)).setCell ⟨nb, k * 2 + 1, none⟩ (.slice as' S.length cs)) := (hb1'.setCell (by show w.heap.size ≤ nb; omega) _).setCell (by show w.heap.size ≤ nb; omega) _
  have HH := Lib.hid (hds_put c1 c2 (by omega) hm hd hcap (HR.out.keep hbs) (HS.out.keep hbs))
  have HBS := Lib.hid hbs
  have hk3 : (k : Int) < (T.length : Int) := by omega
  clear hm hd hcap hc HT1 ht1 hb1 hb1' hbs K1 HB0 hz
  rw [h3] at HH
  have HC : Hid (putT T k (R, S) = if lockOkB (T.set k (R, S)) = true then (T.set k (R, S), true) else (T, false)) := rfl
  generalize T.set k (R, S) = N at *
  generalize putT T k (R, S) = C at *
  generalize hW2 : (w1.setCell ⟨nb, k * 2, none⟩ (.slice ar R.length cr)).setCell ⟨nb, k * 2 + 1, none⟩ (.slice as' S.length cs) = W2 at *
  have KO := Lib.hid (specLockOk_any _ N _ HH.out)
  by_cases hN : lockOkB N = true
  · rw [hN] at KO
    have HC1 : Hid (C = (N, true)) := by show _ = _; rw [HC.out, if_pos hN]
    have hN3 : N.length = 3 := ((lockOk_iff N).1 hN).1
    have HNL := Lib.hid (HN.out hN)
    clear hN HC HN KT
    go_wp2_with fail
    clear hW2
    refine KO.out.mono ?_; rintro e w3 ⟨rfl, hb3⟩
    have HB3 := Lib.hid (HBS.out.trans (hb3.mono HBS.out.size))
    have K2 := Lib.hid (l4Copy_any _ N w3 (HH.out.keep hb3) (by omega) HNL.out)
    clear x1 x2 x3 x4 y1 y2 KO HH HBS hb3
    go_wp2_with fail
    refine K2.out.mono ?_; rintro e w4 ⟨v4, rfl, ht4, hb4⟩
    have T4 := Lib.hid (ht4.out.wide (lo' := w.heap.size) HB3.out.size)
    have HB4 := Lib.hid (HB3.out.trans (hb4.mono HB3.out.size))
    go_wp2
    rw [HC1.out]
    exact bodyPost_ret (v := .tuple #[v4, .bool true]) (by simp [results, Try.results49, go_sem]) rfl ⟨v4, rfl, T4, HB4.out⟩
  · have hN0 : lockOkB N = false := by simpa using hN
    rw [hN0] at KO
    have HC1 : Hid (C = (T, false)) := by show _ = _; rw [HC.out, if_neg hN]
    clear hN hN0 HC HN
    go_wp2_with fail
    clear hW2
    refine KO.out.mono ?_; rintro e w3 ⟨rfl, hb3⟩
    have HB3 := Lib.hid (HBS.out.trans (hb3.mono HBS.out.size))
    have K2 := Lib.hid (KT.out w3 (HD.out.keep HB3.out))
    clear x1 x2 x3 x4 y1 y2 KO HH HBS hb3 KT
    go_wp2_with fail
    refine K2.out.mono ?_; rintro e w4 ⟨v4, rfl, ht4, hb4⟩
    have T4 := Lib.hid (ht4.out.wide (lo' := w.heap.size) HB3.out.size)
    have HB4 := Lib.hid (HB3.out.trans (hb4.mono HB3.out.size))
    go_wp2
    rw [HC1.out]
    exact bodyPost_ret (v := .tuple #[v4, .bool false]) (by simp [results, Try.results49, go_sem]) rfl ⟨v4, rfl, T4, HB4.out⟩

end Go.Proofs.Ytfifimdaepebeaa

namespace Go.Proofs.Ytfifimdaepebeaa
open Go.RowKit

theorem spn_nil (w : World) : Spn w (.slice none 0 0) [] := ⟨none, 0, rfl, by simp, by unfold maxLen; omega, fun h => absurd rfl h⟩
theorem TbB.base {w w1 : World} {T : List HoldT} {q : Bool} {e : Ending} {w' : World} (h : TbB w1 T q e w') (hb : Below w.heap.size w w1) : TbB w T q e w' := by
  obtain ⟨v, he, ht, hb1⟩ := h
  exact ⟨v, he, Lib.hid (ht.out.wide hb.size), hb.trans (hb1.mono hb.size)⟩

theorem chT_put {T : List HoldT} {k : Nat} {lo hi : Int} {f : Int → Int} {h : HoldT} (hq : lockOkB T = true) (hk : k < 3) (hs : spanOkB lo hi = true) (he : mH (putM (T.getD k hd0) lo hi f) = h) : chT T (k : Int) lo hi f = putT T k h := by
  unfold chT putT
  rw [if_pos hq, if_pos (by rw [hs, whoB_iff.2 (by omega)]; rfl), Int.toNat_natCast, he]
theorem lock_okH {T : List HoldT} (hq : lockOkB T = true) {k : Nat} (hk : k < 3) : okH (T.getD k hd0) = true := ((lockOk_iff T).1 hq).2.1 k hk

set_option maxRecDepth 100000 in
set_option maxHeartbeats 4000000 in
theorem specOff_any (v : Value) (T : List HoldT) (who : Int) (w : World) (h : Hds w v T) :
    Calls Try.prog 36 #[v, .int .i64 who] w (TbB w (chT T who 0 48 (fun x => mn x 0)).1 (chT T who 0 48 (fun x => mn x 0)).2) := by
  have K1 := Lib.hid (specLockOk_any v T w h)
  have K2 := Lib.hid (fun W => l4Who_any who W)
  have HD := Lib.hid h
  by_cases hq0 : lockOkB T = true
  · have h3 := ((lockOk_iff T).1 hq0).1
    by_cases hq1 : whoB who = true
    · obtain ⟨w01, w02⟩ := whoB_iff.1 hq1
      obtain ⟨k, rfl⟩ : ∃ k : Nat, who = (k : Int) := ⟨who.toNat, by omega⟩
      have hk : k < 3 := by omega
      rw [chT_put hq0 hk (by decide) (off_mH (lock_okH hq0 hk))]
      have KP := Lib.hid (fun W hW => l4Put_any v T k (.slice none 0 0) (.slice none 0 0) [] [] W hW hq0 hk (spn_nil W) (spn_nil W))
      rw [hq0] at K1
      rw [hq1] at K2
      generalize putT T k ([], []) = C at *
      clear hq0 hq1 h h3
      go_enter Try.func36, Try.ntmps36
      go_wp2_with fail
      refine K1.out.mono ?_; rintro e w1 ⟨rfl, hb1⟩
      go_wp2_with fail
      refine (K2.out _).mono ?_; rintro e w2 ⟨rfl, hb2⟩
      have hb12 := hb1.trans (hb2.mono hb1.size)
      have KQ := Lib.hid (KP.out w2 (HD.out.keep hb12))
      clear KP K1 K2
      go_wp2_with fail
      refine KQ.out.mono ?_; rintro e w3 h0
      obtain ⟨v3, rfl, h1⟩ := h0.base hb12
      clear KQ
      go_wp2
      exact bodyPost_ret (v := .tuple #[v3, .bool C.2]) (by simp [results, Try.results36, go_sem]) rfl ⟨v3, rfl, h1⟩
    · have HC1 : Hid (chT T who 0 48 (fun x => mn x 0) = (T, false)) := by show _ = _; unfold chT; rw [if_pos hq0, if_neg (by simp [hq1])]
      have KP := Lib.hid (fun W hW => l4Copy_any v T W hW (by omega) (fun i hi => lock_len hq0 hi))
      replace hq1 : whoB who = false := by simpa using hq1
      rw [hq0] at K1
      rw [hq1] at K2
      clear hq0 hq1 h h3
      go_enter Try.func36, Try.ntmps36
      go_wp2_with fail
      refine K1.out.mono ?_; rintro e w1 ⟨rfl, hb1⟩
      go_wp2_with fail
      refine (K2.out _).mono ?_; rintro e w2 ⟨rfl, hb2⟩
      have hb12 := hb1.trans (hb2.mono hb1.size)
      have KQ := Lib.hid (KP.out w2 (HD.out.keep hb12))
      clear KP K1 K2
      go_wp2_with fail
      refine KQ.out.mono ?_; rintro e w3 ⟨v3, rfl, h1, hb3⟩
      have H1 := Lib.hid (h1.out.wide (lo' := w.heap.size) hb12.size)
      have HB := Lib.hid (hb12.trans (hb3.mono hb12.size))
      clear KQ h1
      go_wp2
      rw [HC1.out]
      exact bodyPost_ret (v := .tuple #[v3, .bool false]) (by simp [results, Try.results36, go_sem]) rfl ⟨v3, rfl, H1, HB.out⟩
  · have HC1 : Hid (chT T who 0 48 (fun x => mn x 0) = ([], false)) := by show _ = _; unfold chT; rw [if_neg hq0]
    replace hq0 : lockOkB T = false := by simpa using hq0
    rw [hq0] at K1
    clear hq0 h K2
    go_enter Try.func36, Try.ntmps36
    go_wp2_with fail
    refine K1.out.mono ?_; rintro e w1 ⟨rfl, hb1⟩
    clear K1
    have HB := Lib.hid ((hb1.alloc hb1.size (.cells #[] 48)))
    go_wp2
    rw [HC1.out]
    exact bodyPost_ret (v := .tuple #[.slice (some ⟨w1.heap.size, 0, none⟩) 0 0, .bool false]) (by simp [results, Try.results36, go_sem]) rfl ⟨_, rfl, Lib.hid (otab_nil _ _ _ _ _ (by unfold maxLen; omega)), HB.out⟩

end Go.Proofs.Ytfifimdaepebeaa
