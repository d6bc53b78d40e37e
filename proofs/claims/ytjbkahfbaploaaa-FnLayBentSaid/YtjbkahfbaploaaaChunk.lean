/-
  slices.Chunk's function literal at impl.sheet, slices.Collect over it, and Lay.units: the units of a sheet come one by one, in their order.
-/
import Derived.Test.YtjbkahfbaploaaaSheet
import Derived.Test.YtjbkahfbaploaaaPartCollect
import Derived.Test.YtjbkahfbaploaaaConv
namespace Go.Proofs.Ytjbkahfbaploaaa
open Go.RowKit

attribute [local go_sem] Oper.semAt_some

/-- The first j units of L bytes: where each begins, and how long it is. -/
def chs (sz L j : Nat) : List (Nat × Nat) := (List.range j).map fun i => (i * sz, min sz (L - i * sz))
theorem chs_succ (sz L j : Nat) : chs sz L (j + 1) = chs sz L j ++ [(j * sz, min sz (L - j * sz))] := by unfold chs; rw [List.range_succ]; simp
theorem chs_len (sz L j : Nat) : (chs sz L j).length = j := by unfold chs; simp

def ChsAll (sz L : Nat) (ys : List (Nat × Nat)) : Prop := ∃ j, ys = chs sz L j ∧ L ≤ j * sz ∧ ∀ i, i < j → i * sz < L

abbrev encCh (g : Nat) (x : Nat × Nat) : Value := .slice (some ⟨g, x.1, none⟩) x.2 x.2

set_option maxRecDepth 100000 in
set_option maxHeartbeats 4000000 in
theorem chunk_in (n : Nat) (hn : 1 ≤ n) (l Bs Bn g sz L cap n₀ : Nat) (hsz : 1 ≤ sz) (hsz8 : sz ≤ 8) (hL : L ≤ 48) (hcap : L ≤ cap) (hBs : Bs < n₀) (hBn : Bn < n₀) (J Jx : List (Nat × Nat) → World → Prop)
    (hY : ∀ pre x W, J pre W → pre.length < 48 → YieldAt Fence.wide (n - 1) Try.prog l #[encCh g x] W fun e W' =>
      (e = .returned (.bool true) ∧ J (pre ++ [x]) W' ∧ Below n₀ W W') ∨ (e = .returned (.bool false) ∧ Jx (pre ++ [x]) W'))
    (W : World) (hbS : W.cell? ⟨Bs, 0, none⟩ = some (.slice (some ⟨g, 0, none⟩) L cap)) (hbN : W.cell? ⟨Bn, 0, none⟩ = some (.int .i64 sz)) (hJ0 : J [] W) (hJd : AbidesFrom W.heap.size J) :
    CallsIn Fence.wide n Try.prog 69 #[.func (.yield l) #[] #[], .pointer (some ⟨Bs, 0, none⟩), .pointer (some ⟨Bn, 0, none⟩)] W fun e W' => (∃ v, e = .returned v) ∧
      ((∃ ys, ChsAll sz L ys ∧ J ys W') ∨ (∃ pre, Jx pre W')) := by
  have HY := Lib.hid hY
  have HJ := Lib.hid hJd
  have HS0 := Lib.hid (And.intro hbS hbN)
  clear hY hJd
  refine callsIn_of_wp Try.func69 rfl trivial ?_ rfl
  simp only [Try.ntmps69, List.size_toArray, List.length_cons, List.length_nil, Nat.reduceAdd, Nat.reduceSub, Array.replicate_succ, Array.replicate_zero, List.push_toArray, List.append_toArray, List.nil_append, List.cons_append]
  gi_wp2
  gi_loopw [4] (fun s4 wr => ∃ j c : Nat, s4 = .int .i64 c ∧ Hid (c = j * sz) ∧ Hid (∀ i, i < j → i * sz < L) ∧ c ≤ 64 ∧ J (chs sz L j) wr ∧ Hid (wr.cell? ⟨Bs, 0, none⟩ = some (.slice (some ⟨g, 0, none⟩) L cap) ∧ wr.cell? ⟨Bn, 0, none⟩ = some (.int .i64 sz)) ∧ W.heap.size ≤ wr.heap.size)
    (fun s4 wr => 64 - (intOf s4).toNat)
  case atStart =>
    exact ⟨0, 0, rfl, (by show 0 = 0 * sz; omega), (fun i hi => by omega), by omega, hJ0, HS0, Nat.le_refl _⟩
  case round =>
    obtain ⟨j, c, rfl, HC, HI, hc64, hJs, HS, hszW⟩ := hrel
    clear hbS hbN
    obtain ⟨s1, s2⟩ := id HS.out
    by_cases hlt : c < L
    · have hlen : Hid ((chs sz L j).length < 48) := by
        show _ < _
        rw [chs_len]
        have h1 := HC.out
        have : j ≤ j * sz := Nat.le_mul_of_pos_right j (by omega)
        omega
      have i0 : (0 : Int) ≤ (c : Int) := by omega
      have i1 : (c : Int) < (L : Int) := by omega
      have i2 : c < cap := by omega
      by_cases hmin : L - c < sz
      · have hmi : ((L : Int) - (c : Int)) < (sz : Int) := by omega
        have HE : Hid (min sz (L - j * sz) = L - c) := by show _ = _; rw [← HC.out]; omega
        have HN : Hid (chs sz L (j + 1) = chs sz L j ++ [(c, L - c)]) := by show _ = _; rw [chs_succ, HE.out, ← HC.out]
        gi_wp2_with fail
        gi_region
        have hbd : Below wr.heap.size wr wr.drew := (Below.refl _ _).drew
        have hJ1 := HJ.out _ wr wr.drew none hJs ⟨hbd.os, hbd.tape, hbd.output, hbd.size, fun i hi _ => hbd.block i hi⟩ (fun r e => by cases e)
        obtain ⟨fn, tmps, assign, body, hy, hRR⟩ := HY.out _ (c, L - c) _ hJ1 hlen.out
        dsimp only [encCh] at hy
        have HRR := Lib.hid hRR
        clear hRR hJ1
        have k1 : IntKind.i64.wrap ((c : Int) + (((L - c : Nat) : Int))) = (c : Int) + (((L - c : Nat) : Int)) := IntWalk.i64_in _ (by omega)
        gi_wp2_with fail
        refine HRR.out.mono ?_
        rintro e W3 (⟨rfl, hJ3, hk3⟩ | ⟨rfl, hJx3⟩)
        · have HS3 : Hid (W3.cell? ⟨Bs, 0, none⟩ = some (.slice (some ⟨g, 0, none⟩) L cap) ∧ W3.cell? ⟨Bn, 0, none⟩ = some (.int .i64 sz)) := ⟨(hk3.cell (p := ⟨Bs, 0, none⟩) hBs).trans HS.out.1, (hk3.cell (p := ⟨Bn, 0, none⟩) hBn).trans HS.out.2⟩
          have hz3 := hk3.size
          have HJ3 := Lib.hid hJ3
          clear hJ3 hk3 hy k1 s1 s2
          obtain ⟨s1, s2⟩ := id HS3.out
          gi_wp2
          go_roundw
          case rel => exact ⟨j + 1, c + sz, by go_num, (by show c + sz = (j + 1) * sz; rw [Nat.add_mul, ← HC.out]; omega), (fun i hi => by
              by_cases e : i = j
              · subst e; rw [← HC.out]; exact hlt
              · exact HI.out i (by omega)), by omega, by rw [HN.out]; exact HJ3.out, HS3, by simp at hz3; omega⟩
          case measure => simp [intOf]; omega
        · gi_wp2
          refine bodyPost_ret (results_none rfl _ _ _) rfl ?_
          exact ⟨⟨_, rfl⟩, .inr ⟨_, hJx3⟩⟩
      · by_cases heq : L - c = sz
        · have heqi : ((L : Int) - (c : Int)) = (sz : Int) := by omega
          have HE : Hid (min sz (L - j * sz) = sz) := by show _ = _; rw [← HC.out]; omega
          have HN : Hid (chs sz L (j + 1) = chs sz L j ++ [(c, sz)]) := by show _ = _; rw [chs_succ, HE.out, ← HC.out]
          gi_wp2_with fail
          gi_region
          have hbd : Below wr.heap.size wr wr.drew := (Below.refl _ _).drew
          have hJ1 := HJ.out _ wr wr.drew none hJs ⟨hbd.os, hbd.tape, hbd.output, hbd.size, fun i hi _ => hbd.block i hi⟩ (fun r e => by cases e)
          obtain ⟨fn, tmps, assign, body, hy, hRR⟩ := HY.out _ (c, sz) _ hJ1 hlen.out
          dsimp only [encCh] at hy
          have HRR := Lib.hid hRR
          clear hRR hJ1
          have k1 : IntKind.i64.wrap ((c : Int) + ((sz : Int))) = (c : Int) + ((sz : Int)) := IntWalk.i64_in _ (by omega)
          gi_wp2_with fail
          refine HRR.out.mono ?_
          rintro e W3 (⟨rfl, hJ3, hk3⟩ | ⟨rfl, hJx3⟩)
          · have HS3 : Hid (W3.cell? ⟨Bs, 0, none⟩ = some (.slice (some ⟨g, 0, none⟩) L cap) ∧ W3.cell? ⟨Bn, 0, none⟩ = some (.int .i64 sz)) := ⟨(hk3.cell (p := ⟨Bs, 0, none⟩) hBs).trans HS.out.1, (hk3.cell (p := ⟨Bn, 0, none⟩) hBn).trans HS.out.2⟩
            have hz3 := hk3.size
            have HJ3 := Lib.hid hJ3
            clear hJ3 hk3 hy k1 s1 s2
            obtain ⟨s1, s2⟩ := id HS3.out
            gi_wp2
            go_roundw
            case rel => exact ⟨j + 1, c + sz, by go_num, (by show c + sz = (j + 1) * sz; rw [Nat.add_mul, ← HC.out]; omega), (fun i hi => by
                by_cases e : i = j
                · subst e; rw [← HC.out]; exact hlt
                · exact HI.out i (by omega)), by omega, by rw [HN.out]; exact HJ3.out, HS3, by simp at hz3; omega⟩
            case measure => simp [intOf]; omega
          · gi_wp2
            refine bodyPost_ret (results_none rfl _ _ _) rfl ?_
            exact ⟨⟨_, rfl⟩, .inr ⟨_, hJx3⟩⟩
        · have hmi : (sz : Int) < ((L : Int) - (c : Int)) := by omega
          have HE : Hid (min sz (L - j * sz) = sz) := by show _ = _; rw [← HC.out]; omega
          have HN : Hid (chs sz L (j + 1) = chs sz L j ++ [(c, sz)]) := by show _ = _; rw [chs_succ, HE.out, ← HC.out]
          gi_wp2_with fail
          gi_region
          have hbd : Below wr.heap.size wr wr.drew := (Below.refl _ _).drew
          have hJ1 := HJ.out _ wr wr.drew none hJs ⟨hbd.os, hbd.tape, hbd.output, hbd.size, fun i hi _ => hbd.block i hi⟩ (fun r e => by cases e)
          obtain ⟨fn, tmps, assign, body, hy, hRR⟩ := HY.out _ (c, sz) _ hJ1 hlen.out
          dsimp only [encCh] at hy
          have HRR := Lib.hid hRR
          clear hRR hJ1
          have k1 : IntKind.i64.wrap ((c : Int) + ((sz : Int))) = (c : Int) + ((sz : Int)) := IntWalk.i64_in _ (by omega)
          gi_wp2_with fail
          refine HRR.out.mono ?_
          rintro e W3 (⟨rfl, hJ3, hk3⟩ | ⟨rfl, hJx3⟩)
          · have HS3 : Hid (W3.cell? ⟨Bs, 0, none⟩ = some (.slice (some ⟨g, 0, none⟩) L cap) ∧ W3.cell? ⟨Bn, 0, none⟩ = some (.int .i64 sz)) := ⟨(hk3.cell (p := ⟨Bs, 0, none⟩) hBs).trans HS.out.1, (hk3.cell (p := ⟨Bn, 0, none⟩) hBn).trans HS.out.2⟩
            have hz3 := hk3.size
            have HJ3 := Lib.hid hJ3
            clear hJ3 hk3 hy k1 s1 s2
            obtain ⟨s1, s2⟩ := id HS3.out
            gi_wp2
            go_roundw
            case rel => exact ⟨j + 1, c + sz, by go_num, (by show c + sz = (j + 1) * sz; rw [Nat.add_mul, ← HC.out]; omega), (fun i hi => by
                by_cases e : i = j
                · subst e; rw [← HC.out]; exact hlt
                · exact HI.out i (by omega)), by omega, by rw [HN.out]; exact HJ3.out, HS3, by simp at hz3; omega⟩
            case measure => simp [intOf]; omega
          · gi_wp2
            refine bodyPost_ret (results_none rfl _ _ _) rfl ?_
            exact ⟨⟨_, rfl⟩, .inr ⟨_, hJx3⟩⟩
    · have HAll : Hid (ChsAll sz L (chs sz L j)) := ⟨j, rfl, by rw [← HC.out]; omega, HI.out⟩
      gi_wp2
      go_end0
      exact ⟨⟨_, rfl⟩, .inl ⟨_, HAll.out, hJs⟩⟩

theorem own_base1' {W : World} {b b' : Nat} {e : TypeId} {size : Nat} {v : Value} {k : Nat} {xs : List Value} (h : W.ownsRow b e size v k xs) (hb : b' ≤ b) : W.ownsRow b' e size v k xs :=
  ⟨h.1, h.2.imp id fun ⟨g, cap, cur, h1, h2, h3⟩ => ⟨g, cap, cur, h1, Nat.le_trans hb h2, h3⟩⟩

theorem infoSheet : (Try.prog.info? 53).map (fun i => (i.zero, i.size, i.bytes)) = some (some (.slice none 0 0), 1, 24) := by kernel_rfl

theorem chunk_stops (n : Nat) (hn : 1 ≤ n) (Bs Bn g sz L cap n₀ : Nat) (hsz : 1 ≤ sz) (hsz8 : sz ≤ 8) (hL : L ≤ 48) (hcap : L ≤ cap) (w : World) (hbS : w.cell? ⟨Bs, 0, none⟩ = some (.slice (some ⟨g, 0, none⟩) L cap)) (hbN : w.cell? ⟨Bn, 0, none⟩ = some (.int .i64 sz)) (hBs : Bs < n₀) (hBn : Bn < n₀) :
    SeqStopsK Fence.wide n Try.prog 69 #[.pointer (some ⟨Bs, 0, none⟩), .pointer (some ⟨Bn, 0, none⟩)] (fun x => #[encCh g x]) (Below n₀) (ChsAll sz L) (fun _ => True) 48 w := fun l J Jx W hW hJ _ hY hJ0 =>
  (chunk_in n hn l Bs Bn g sz L cap n₀ hsz hsz8 hL hcap hBs hBn J Jx hY W (cell_keep hW hbS) (cell_keep hW hbN) hJ0 hJ).mono fun _ _ h => ⟨h.1, h.2.imp id fun ⟨pre, hp⟩ => ⟨pre, trivial, hp⟩⟩

/-- A row of units. -/
def RgU (w : World) (g sz L : Nat) (e : Ending) (w' : World) : Prop :=
  ∃ v j, e = .returned v ∧ L ≤ j * sz ∧ (∀ i, i < j → i * sz < L) ∧ Hid (w'.ownsRow w.heap.size 53 1 v j ((chs sz L j).map (encCh g))) ∧ Below w.heap.size w w'

set_option maxRecDepth 100000 in
set_option maxHeartbeats 4000000 in
theorem appendSeqSheet_any (Bs Bn g sz L cap : Nat) (hsz : 1 ≤ sz) (hsz8 : sz ≤ 8) (hL : L ≤ 48) (hcap : L ≤ cap) (w : World) (hbS : w.cell? ⟨Bs, 0, none⟩ = some (.slice (some ⟨g, 0, none⟩) L cap)) (hbN : w.cell? ⟨Bn, 0, none⟩ = some (.int .i64 sz)) :
    Calls Try.prog 68 #[.slice none 0 0, .func (.func 69) #[] #[.pointer (some ⟨Bs, 0, none⟩), .pointer (some ⟨Bn, 0, none⟩)]] w (RgU w g sz L) := by
  obtain ⟨i0, hi0, hz0, hz1, hz2⟩ := info_parts infoSheet
  have hBs := World.block_lt_of_cell? w _ hbS
  have hBn := World.block_lt_of_cell? w _ hbN
  refine (callsIn_wide (n := 4)).1 ?_
  refine callsIn_of_wp_marks Try.func68 rfl trivial ?_ rfl
  simp only [Try.ntmps68, List.size_toArray, List.length_cons, List.length_nil, Nat.reduceAdd, Nat.reduceSub, Array.replicate_succ, Array.replicate_zero, List.push_toArray, List.append_toArray, List.nil_append, List.cons_append]
  have bO := Boxed.new w 63 (.slice none 0 0)
  have hB0 : Below w.heap.size w (w.alloc (.cells #[.slice none 0 0] 63)) := (Below.refl _ w).alloc (Nat.le_refl _) _
  have hsz0 : (w.alloc (.cells #[.slice none 0 0] 63)).heap.size = w.heap.size + 1 := by simp
  have bS0 := cell_keep hB0 hbS
  have bN0 := cell_keep hB0 hbN
  gi_wp2_with fail
  obtain ⟨W0, hW0⟩ : ∃ W0, w.alloc (.cells #[.slice none 0 0] 63) = W0 := ⟨_, rfl⟩
  rw [hW0] at bO bS0 bN0 hB0 hsz0 ⊢
  clear hW0
  refine wpIn_rangeFunc_ownH rfl (by omega) (gf := 69) (lb := #[.pointer (some ⟨Bs, 0, none⟩), .pointer (some ⟨Bn, 0, none⟩)]) rfl trivial (enters_of Try.func69 (by kernel_rfl) rfl)
    (chunk_stops (4 - 1) (by omega) Bs Bn g sz L cap w.heap.size hsz hsz8 hL hcap W0 bS0 bN0 hBs hBn) belowK_t (belowK_b (by omega)) (Below.refl _ _) (fun _ => rfl)
    (fun pre W => (∃ v, Boxed W w.heap.size 63 v ∧ W.ownsRow w.heap.size 53 1 v pre.length (pre.map (encCh g)) ∧ True) ∧ Below w.heap.size w W)
    (fun _ _ _ => False)
    (OwnFrom.and (Own.from (holdsRow_own _ _ _ _ _ _ _ (fun (pre : List (Nat × Nat)) _ => True)) _) (ownFrom_below (Nat.le_refl _) (by omega)))
    (fun _ => fun _ _ _ _ h => h.elim)
    ⟨⟨_, bO, World.ownsRow_nil .., trivial⟩, hB0⟩
    (fun x a' _ => a' = { tmps := #[.slice none 0 0, .func (.func 69) #[] #[.pointer (some ⟨Bs, 0, none⟩), .pointer (some ⟨Bn, 0, none⟩)], .pointer (some ⟨w.heap.size, 0, none⟩), undef, .slice none 0 0, encCh g x, .func (.func 69) #[] #[.pointer (some ⟨Bs, 0, none⟩), .pointer (some ⟨Bn, 0, none⟩)], encCh g x, undef, undef, undef, undef, undef], defers := [] })
    (fun x a' _ X Y row hs hg hr => hs)
    ?assign ?body ?done ?stop
  case assign =>
    rintro l pre x W K ⟨⟨v, bO1, hrow1, -⟩, hB1⟩ hK
    gi_wp2
    exact hK _ _ ((KeepsOthers.refl _).from _) (Below.refl _ W) ⟨⟨v, bO1, hrow1, trivial⟩, hB1⟩ rfl
  case body =>
    rintro l pre x a' W hl ⟨r, hr⟩ ⟨⟨v, bO1, hrow1, -⟩, hB1⟩ rfl hlt
    obtain ⟨ptr, cap', rfl⟩ : ∃ ptr cap', v = .slice ptr pre.length cap' := by
      rcases hrow1.2 with ⟨rfl, h0⟩ | ⟨g', cap', cur, rfl, _⟩
      · exact ⟨none, 0, by rw [h0]⟩
      · exact ⟨_, cap', rfl⟩
    have cO := bO1.cell
    have fO := bO1.frozen
    have hsW := hB1.size
    gi_wp2_with (gi_at_builtin; refine wpListIn_append_lies _ rfl _ _ 63 rfl w.heap.size 53 i0 (.slice none 0 0) 1 24 Try.underlying63 hi0 hz0 hz1 hz2 rfl (by decide) _ _ _ rfl (hrow1.alloc _) ⟨W.heap.size, 0, none⟩ 1 1 [encCh g x] rfl rfl (one_new _ _ _) (by simp [Value.oneCell']) (by omega) (by unfold maxLen; omega) (by omega) (by simp; omega) (W.heap.size + 1) (by simp) ?_; intro g' cap' w1 hown' hgrow hat hltg; obtain ⟨hv1, hv2, hr2, hk2, hb2⟩ := bO1.appended (by decide) hrow1 hsW (Nat.le_refl _) hown' hgrow; have hc1 := hv1.cell; have hf1 := hv1.frozen)
    refine ⟨hk2.from _, hb2, ⟨⟨_, hv2, ?_, trivial⟩, hB1.trans hb2⟩⟩
    rw [List.length_append, List.map_append]
    exact hr2
  case done =>
    rintro D ys W hD ⟨j, rfl, hj1, hj2⟩ ⟨⟨v, bO1, hrow1, -⟩, hB1⟩ hK
    rw [chs_len] at hrow1
    obtain ⟨ptr, cap', rfl⟩ : ∃ ptr cap', v = .slice ptr j cap' := by
      rcases hrow1.2 with ⟨rfl, h0⟩ | ⟨g', cap', cur, rfl, _⟩
      · exact ⟨none, 0, by rw [h0]⟩
      · exact ⟨_, cap', rfl⟩
    have cO := bO1.cell
    have HJ2 := Lib.hid hj2
    clear hj2
    gi_wp2
    refine ⟨by simp, .inl ⟨_, _, rfl, run_takeDeferred hK, ?_⟩⟩
    refine ⟨.slice ptr j cap', ?_, ⟨_, j, rfl, hj1, HJ2.out, Lib.hid (ownsRow_putObj hrow1 _ hK rfl), hB1.trans (belowK_b (w := w) (Nat.le_refl _) W D _ _ (by omega) hK rfl rfl)⟩⟩
    simp [results, Try.f68, go_sem]
  case stop =>
    rintro D c pre W hD hpre h hK
    exact h.elim

theorem collectSheet_any (Bs Bn g sz L cap : Nat) (hsz : 1 ≤ sz) (hsz8 : sz ≤ 8) (hL : L ≤ 48) (hcap : L ≤ cap) (w : World) (hbS : w.cell? ⟨Bs, 0, none⟩ = some (.slice (some ⟨g, 0, none⟩) L cap)) (hbN : w.cell? ⟨Bn, 0, none⟩ = some (.int .i64 sz)) :
    Calls Try.prog 55 #[.func (.func 69) #[] #[.pointer (some ⟨Bs, 0, none⟩), .pointer (some ⟨Bn, 0, none⟩)]] w (RgU w g sz L) := by
  have HA := Lib.hid (appendSeqSheet_any Bs Bn g sz L cap hsz hsz8 hL hcap w hbS hbN)
  clear hbS hbN
  go_enter Try.func55, Try.ntmps55
  go_wp2_with fail
  refine HA.out.mono ?_; rintro e w1 ⟨v, j, rfl, h1, h2, ho, hb⟩
  have H2 := Lib.hid h2
  clear h2
  go_wp2
  go_ret
  exact ⟨v, j, rfl, h1, H2.out, ho, hb⟩

theorem chunk_any (g sz L cap : Nat) (hsz : 1 ≤ sz) (w : World) :
    Calls Try.prog 56 #[.slice (some ⟨g, 0, none⟩) L cap, .int .i64 sz] w fun e w' =>
      e = .returned (.func (.func 69) #[] #[.pointer (some ⟨w.heap.size, 0, none⟩), .pointer (some ⟨w.heap.size + 1, 0, none⟩)]) ∧
      w' = (w.alloc (.cells #[.slice (some ⟨g, 0, none⟩) L cap] 53)).alloc (.cells #[.int .i64 sz] 3) := by
  have h1 : (1 : Int) ≤ (sz : Int) := by omega
  have h2 : ¬ sz < 1 := by omega
  go_enter Try.func56, Try.ntmps56
  go_wp2
  go_ret
  exact ⟨rfl, rfl⟩

/-- The units of a file: slices of one sheet that holds its bytes. -/
def RgUn (w : World) (sz : Nat) (l : List UInt8) (e : Ending) (w' : World) : Prop :=
  ∃ v j g, e = .returned v ∧ w.heap.size ≤ g ∧ l.length ≤ j * sz ∧ (∀ i, i < j → i * sz < l.length) ∧ Hid (w'.ownsRow w.heap.size 53 1 v j ((chs sz l.length j).map (encCh g))) ∧ (∀ p (hp : p < l.length), w'.cell? ⟨g, p, none⟩ = some (.int .u8 (l[p].toNat : Int))) ∧ Below w.heap.size w w'

set_option maxHeartbeats 1000000 in
theorem units_any (sz : Nat) (many : Int) (l : List UInt8) (hsz : 1 ≤ sz) (hsz8 : sz ≤ 8) (hL : l.length ≤ 48) (w : World) :
    Calls Try.prog 29 #[.agg #[.int .i64 sz, .int .i64 many], .string (mkB l)] w (RgUn w sz l) := by
  have k := new_box w sz many 24
  have hal : Below w.heap.size w (w.alloc (.cells #[.int .i64 sz, .int .i64 many] 24)) := (Below.refl _ _).alloc (Nat.le_refl _) _
  obtain ⟨cap, W1, hconv, hS, hB⟩ := sheet_of' l (w.alloc (.cells #[.int .i64 sz, .int .i64 many] 24))
  have e1 := hal.trans (hB.mono hal.size)
  obtain ⟨g, cap', hv, hlc, hg, hc⟩ := hS
  obtain ⟨hga, -, rfl⟩ := Value.slice.inj hv
  obtain ⟨x1, x2, -, -⟩ := k.keep hB
  have HC := Lib.hid hc
  clear hc hB hal k
  go_enter Try.func29, Try.ntmps29
  have hge : w.heap.size + 1 = g := by simpa using hga
  clear hga
  subst hge
  go_wp2_with fail
  refine (chunk_any (w.heap.size + 1) sz l.length cap hsz W1).mono ?_; rintro e w2 ⟨rfl, rfl⟩
  have hb2 : Below W1.heap.size W1 ((W1.alloc (.cells #[.slice (some ⟨w.heap.size + 1, 0, none⟩) l.length cap] 53)).alloc (.cells #[.int .i64 sz] 3)) := ((Below.refl _ _).alloc (Nat.le_refl _) _).alloc (by simp) _
  have q1 : ((W1.alloc (.cells #[.slice (some ⟨w.heap.size + 1, 0, none⟩) l.length cap] 53)).alloc (.cells #[.int .i64 sz] 3)).cell? ⟨W1.heap.size, 0, none⟩ = some (.slice (some ⟨w.heap.size + 1, 0, none⟩) l.length cap) := by go_simp
  have q2 : ((W1.alloc (.cells #[.slice (some ⟨w.heap.size + 1, 0, none⟩) l.length cap] 53)).alloc (.cells #[.int .i64 sz] 3)).cell? ⟨W1.heap.size + 1, 0, none⟩ = some (.int .i64 sz) := by go_simp
  have e2 := e1.trans (hb2.mono e1.size)
  have HCo := Lib.hid (collectSheet_any W1.heap.size (W1.heap.size + 1) (w.heap.size + 1) sz l.length cap hsz hsz8 hL hlc _ q1 q2)
  have HE := Lib.hid e2
  have HB2 := Lib.hid hb2
  clear q1 q2 e2 hb2 e1 x1 x2 hconv
  go_wp2_with fail
  refine HCo.out.mono ?_; rintro e w4 ⟨v, j, rfl, h1, h2, ho, hb4⟩
  have e4 := HE.out.trans (hb4.mono HE.out.size)
  have ho2 := Lib.hid (own_base1' ho.out HE.out.size)
  have hc4 : ∀ p (hp : p < l.length), w4.cell? ⟨w.heap.size + 1, p, none⟩ = some (.int .u8 (l[p].toNat : Int)) := fun p hp => cell_keep hb4 (cell_keep HB2.out (HC.out p hp))
  have HC4 := Lib.hid hc4
  have H2 := Lib.hid h2
  clear hc4 h2 HC HCo ho
  go_wp2
  go_ret
  exact ⟨v, j, _, rfl, by omega, h1, H2.out, ho2, HC4.out, e4⟩

end Go.Proofs.Ytjbkahfbaploaaa
