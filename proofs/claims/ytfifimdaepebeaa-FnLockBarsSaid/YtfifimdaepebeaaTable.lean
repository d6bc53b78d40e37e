/-
  ordered.list: the maximal ranges with a value, in a new row.
  A new table of holds, as a row of the call's own whose lists are rows of the call's own: how it is built, and that it is a table as MarkT says.
  locks.table: the table of holds that ordered lists say.
-/
import Derived.Test.YtfifimdaepebeaaChg
import Derived.Test.YtfifimdaepebeaaCalm
import Derived.Deep.AppendLies
import Derived.Test.YtfifimdaepebeaaMarkT
import Derived.Test.YtfifimdaepebeaaLocksOf
namespace Go.Proofs.Ytfifimdaepebeaa
open Go.RowKit

theorem infoSpanL : (Try.prog.info? 25).map (fun i => (i.zero, i.size, i.bytes)) = some (some (.agg #[.int .i64 0, .int .i64 0]), 2, 16) := by kernel_rfl
theorem twoNew (w : World) (x y : Value) (T : TypeId) : ∀ (j : Nat) (u : Value), [x, y][j]? = some u → (w.alloc (.cells #[x, y] T)).cell? ((⟨w.heap.size, 0, none⟩ : Addr).add j) = some u := by
  intro j u h
  match j, h with
  | 0, h => simp at h; subst h; simp [Addr.add]
  | 1, h => simp at h; subst h; simp [Addr.add]
theorem rowForm {W : World} {base : Nat} {e : TypeId} {size : Nat} {v : Value} {k : Nat} {xs : List Value} (h : W.ownsRow base e size v k xs) : ∃ ptr cap, v = .slice ptr k cap := by
  rcases h.2 with ⟨rfl, rfl⟩ | ⟨g, cap, cur, rfl, _⟩
  · exact ⟨none, 0, rfl⟩
  · exact ⟨_, cap, rfl⟩
theorem rowBel {W W' : World} {b : Nat} {e : TypeId} {size : Nat} {v : Value} {k : Nat} {xs : List Value} (h : W.ownsRow b e size v k xs) (hb : Below W.heap.size W W') : W'.ownsRow b e size v k xs :=
  ⟨h.1, h.2.imp id fun ⟨g, cap, cur, h1, h2, h3, h4⟩ => ⟨g, cap, cur, h1, h2, (hb.block g (Array.getElem?_eq_some_iff.1 h3).1).trans h3, h4⟩⟩

theorem rowPos {W : World} {base : Nat} {e : TypeId} {size : Nat} {a : Option Addr} {n cap : Nat} {k : Nat} {xs : List Value} (h : W.ownsRow base e size (.slice a n cap) k xs) (hk : 0 < k) : ∃ g, a = some ⟨g, 0, none⟩ := by
  rcases h.2 with ⟨e0, e1⟩ | ⟨g, cap', cur, e0, _⟩
  · omega
  · injection e0 with e0; exact ⟨g, e0⟩

/-- What a function that makes a list of ranges leaves. -/
def SpC (w : World) (L : List Rng) (e : Ending) (w' : World) : Prop :=
  ∃ v, e = .returned v ∧ Hid (w'.ownsRow w.heap.size 25 2 v L.length (flat L)) ∧ Below w.heap.size w w'

theorem lsR_step {v : Int} {R : List RunT} {k : Nat} (h : k < R.length) : lsR v (R.take (k + 1)) = addR v (lsR v (R.take k)) (R.getD k r0) := by
  have hg : R.getD k r0 = R[k] := by rw [List.getD_eq_getElem?_getD, List.getElem?_eq_getElem h]; rfl
  rw [hg]
  unfold lsR
  rw [List.take_add_one, List.getElem?_eq_getElem h, Option.toList_some, List.foldl_append]
  rfl
theorem lsR_bd (v : Int) (R : List RunT) : ∀ k, k ≤ R.length → (lsR v (R.take k)).length ≤ k
  | 0, _ => by simp [lsR]
  | k + 1, h => by
    rw [lsR_step (by omega)]
    have := lsR_bd v R k (by omega)
    have := addR_len v (lsR v (R.take k)) (R.getD k r0)
    omega

set_option maxRecDepth 100000 in
set_option maxHeartbeats 4000000 in
theorem olist_any (g cap : Nat) (R : List RunT) (v : Int) (w : World) (h : OwnAt w g cap R) (hl : R.length ≤ 900) :
    Calls Try.prog 92 #[.slice (some ⟨g, 0, none⟩) R.length cap, .int .i64 v] w (SpC w (lsR v R)) := by
  obtain ⟨hc1, hc2⟩ := h.cap
  obtain ⟨i0, hi0, hz0, hz1, hz2⟩ := info_parts infoSpanL
  have HI : Hid (Try.prog.info? 25 = some i0 ∧ i0.zero = some (.agg #[.int .i64 0, .int .i64 0]) ∧ i0.size = 2 ∧ i0.bytes = 16) := ⟨hi0, hz0, hz1, hz2⟩
  have HO := Lib.hid h
  clear h hi0 hz0 hz1 hz2
  go_enter Try.func92, Try.ntmps92
  go_wp2
  go_loopg [5, 11] R.length (fun q s5 s11 wr => ∃ k : Nat, q = R.length - k ∧ k ≤ R.length ∧ s11 = .int .i64 k ∧ Hid (wr.ownsRow w.heap.size 25 2 s5 (lsR v (R.take k)).length (flat (lsR v (R.take k)))) ∧ Below w.heap.size w wr)
  case atStart => exact ⟨0, rfl, Nat.zero_le _, rfl, Lib.hid (World.ownsRow_nil ..), Below.refl _ _⟩
  case round =>
    obtain ⟨k, rfl, hk, rfl, HY, hb⟩ := hrel
    have HLb := lsR_bd v R k hk
    by_cases hlt : k < R.length
    · have hO := HO.out.keep hb
      obtain ⟨c1, c2, c3⟩ := hO.cells hlt
      have hsb := hb.size
      have HS := Lib.hid (lsR_step (v := v) hlt)
      clear hO
      generalize hr : R.getD k r0 = r at *
      obtain ⟨lo, hi, x⟩ := r
      simp only at c1 c2 c3
      clear hr
      obtain ⟨L, hL⟩ : ∃ L, lsR v (R.take k) = L := ⟨_, rfl⟩
      rw [hL] at HY HS HLb
      clear hL
      obtain ⟨a, cp, rfl⟩ := rowForm HY.out
      obtain ⟨W1, hW1⟩ : ∃ W1, wr.alloc (.cells #[.int .i64 lo, .int .i64 hi, .int .i64 x] 101) = W1 := ⟨_, rfl⟩
      have hb1 : Below wr.heap.size wr W1 := by rw [← hW1]; exact (Below.refl _ _).alloc (Nat.le_refl _) _
      have hz1 : W1.heap.size = wr.heap.size + 1 := by rw [← hW1]; simp
      have r1 : W1.cell? ⟨wr.heap.size, 0, none⟩ = some (.int .i64 lo) := by rw [← hW1]; simp
      have r2 : W1.cell? ⟨wr.heap.size, 1, none⟩ = some (.int .i64 hi) := by rw [← hW1]; simp
      have r3 : W1.cell? ⟨wr.heap.size, 2, none⟩ = some (.int .i64 x) := by rw [← hW1]; simp
      have HY1 := Lib.hid (rowBel HY.out hb1)
      have hbw := hb.trans (hb1.mono hsb)
      by_cases hx : x = v
      · subst hx
        have hd : (x != x) = false := by simp
        by_cases hn : L.length = 0
        · have HE : Hid (lsR x (R.take (k + 1)) = L ++ [(lo, hi)]) := by
            show _ = _
            rw [HS.out]
            unfold addR endI
            simp [hn]
          clear HS
          obtain ⟨n, hn'⟩ : ∃ n, L.length = n := ⟨_, rfl⟩
          have HN := Lib.hid hn'
          rw [hn'] at HY1 hn HLb ⊢
          clear hn' HY
          subst hn
          go_wp2_with fail
          clear hW1
          refine wp_region_calm (by kernel_rfl) (by kernel_rfl) ?_
          repeat (go_big_quiet_step (fail))
          refine wpQuiet_nil ?_
          rintro _ ⟨y, rfl⟩
          have HY2 := Lib.hid (rowBel HY1.out y.below)
          have q1 := y.cell r1
          have q2 := y.cell r2
          have hb2 := hbw.trans (y.below.mono hbw.size)
          have hs2 := hb2.size
          clear r1 r2 r3 hb hb1 hsb
          go_wp2_with (at_builtin; refine wpList_append_lies _ rfl (.tmp 18) (.tmp 21) 46 rfl w.heap.size 25 i0 (.agg #[.int .i64 0, .int .i64 0]) 2 16 Try.underlying46 HI.out.1 HI.out.2.1 HI.out.2.2.1 HI.out.2.2.2 rfl (by decide) _ _ _ rfl (HY2.out.alloc _) ⟨y.w.heap.size, 0, none⟩ 1 1 [.int .i64 lo, .int .i64 hi] rfl rfl (twoNew _ _ _ _) (by simp [Value.oneCell']) (by omega) (by unfold maxLen; omega) (by omega) (by simp; omega) (y.w.heap.size + 1) (by simp) ?_; intro g' cap' w9 hown' hgrow hat hltg)
          have HY9 : Hid (w9.ownsRow w.heap.size 25 2 (.slice (some ⟨g', 0, none⟩) (0 + 1) cap') (lsR x (R.take (k + 1))).length (flat (lsR x (R.take (k + 1))))) := by
            have e : (lsR x (R.take (k + 1))).length = 0 + 1 := by rw [HE.out]; simp [HN.out]
            show World.ownsRow _ _ _ _ _ _ _
            rw [e, HE.out, flat_append]
            exact hown'
          have hb9 := (hb2.alloc hs2 (.cells #[.int .i64 lo, .int .i64 hi] 25)).grown hgrow (by simp; omega) (fun j e => (HY2.out.lt j e).1)
          clear hown' hgrow hat HY2 HY1 q1 q2
          go_wp2
          go_roundg (R.length - (k + 1))
          case measure => omega
          case rel => exact ⟨k + 1, rfl, by omega, by go_num, HY9, hb9⟩
        · obtain ⟨g', rfl⟩ := rowPos HY1.out (by omega)
          have e1 : W1.cell? ⟨g', (L.length - 1) * 2 + 1, none⟩ = some (.int .i64 (L.getD (L.length - 1) (0, 0)).2) := by
            rw [HY1.out.cellAt _ (by omega), flat_get1 _ _ (by omega)]
          have e2 : ∀ y : BelowOf W1, y.w.frozen? ⟨g', (L.length - 1) * 2 + 1, none⟩ = false := fun y => (rowBel HY1.out y.below).frozenAt _
          have hen : endI L lo = decide ((L.getD (L.length - 1) (0, 0)).2 = lo) := by
            unfold endI; simp [show 0 < L.length by omega]
          by_cases hq : (L.getD (L.length - 1) (0, 0)).2 = lo
          · have HE : Hid (lsR x (R.take (k + 1)) = L.set (L.length - 1) ((L.getD (L.length - 1) (0, 0)).1, hi)) := by
              show _ = _
              rw [HS.out]
              unfold addR
              rw [if_pos rfl, if_pos (by rw [hen]; simpa using hq)]
            have HZ : Hid (∀ y : BelowOf W1, (y.w.setCell ⟨g', (L.length - 1) * 2 + 1, none⟩ (.int .i64 hi)).ownsRow w.heap.size 25 2 (.slice (some ⟨g', 0, none⟩) L.length cp) (lsR x (R.take (k + 1))).length (flat (lsR x (R.take (k + 1))))) := fun y => by
              have := ((rowBel HY1.out y.below).stored ((L.length - 1) * 2 + 1) (.int .i64 hi)).1
              rw [flat_set _ _ _ (by omega)] at this
              rw [HE.out, List.length_set]
              exact this
            have hgw := (HY1.out.lt g' rfl).1
            rw [hq] at e1
            clear HS HE hen hq HY
            obtain ⟨n, hn'⟩ : ∃ n, L.length = n := ⟨_, rfl⟩
            rw [hn'] at HY1 hn HLb HZ e1 e2 ⊢
            clear hn'
            have hp : 0 < n := by omega
            have hp1 : (1 : Int) ≤ (n : Int) := by omega
            have hp2 : (n : Int) - 1 < (n : Int) := by omega
            have hp3 : ((n : Int) - 1).toNat = n - 1 := by omega
            have d1 : ∀ y : BelowOf W1, y.w.cell? ⟨g', (n - 1) * 2 + 1, none⟩ = some (.int .i64 lo) := fun y => y.cell e1
            have d2 : ∀ y : BelowOf W1, y.w.cell? ⟨wr.heap.size, 0, none⟩ = some (.int .i64 lo) := fun y => y.cell r1
            have hd2 : (lo == lo) = true := by simp
            go_wp2_with fail
            clear hW1
            refine wp_region_calm (by kernel_rfl) (by kernel_rfl) ?_
            repeat (go_big_quiet_step (fail))
            refine wpQuiet_nil ?_
            rintro _ ⟨y, rfl⟩
            have q1 := y.cell r1
            have q2 := y.cell r2
            have q3 := y.cell e1
            have q4 := e2 y
            have HZ2 := Lib.hid (HZ.out y)
            have hb2 := hbw.trans (y.below.mono hbw.size)
            clear r1 r2 r3 hb hb1 hsb d1 d2 e1 e2 HZ HY1
            go_wp2
            go_roundg (R.length - (k + 1))
            case measure => omega
            case rel => exact ⟨k + 1, rfl, by omega, by go_num, HZ2, hb2.setCell hgw _⟩
          · have HE : Hid (lsR x (R.take (k + 1)) = L ++ [(lo, hi)]) := by
              show _ = _
              rw [HS.out]
              unfold addR
              rw [if_pos rfl, if_neg (by rw [hen]; simpa using hq)]
            clear HS hen HY
            generalize (L.getD (L.length - 1) (0, 0)).2 = last at *
            obtain ⟨n, hn'⟩ : ∃ n, L.length = n := ⟨_, rfl⟩
            have HN := Lib.hid hn'
            rw [hn'] at HY1 hn HLb e1 ⊢
            clear hn' e2
            have hp : 0 < n := by omega
            have hp1 : (1 : Int) ≤ (n : Int) := by omega
            have hp2 : (n : Int) - 1 < (n : Int) := by omega
            have hp3 : ((n : Int) - 1).toNat = n - 1 := by omega
            have d1 : ∀ y : BelowOf W1, y.w.cell? ⟨g', (n - 1) * 2 + 1, none⟩ = some (.int .i64 last) := fun y => y.cell e1
            have d2 : ∀ y : BelowOf W1, y.w.cell? ⟨wr.heap.size, 0, none⟩ = some (.int .i64 lo) := fun y => y.cell r1
            have hd2 : (last == lo) = false := by simpa using hq
            clear hq
            go_wp2_with fail
            clear hW1
            refine wp_region_calm (by kernel_rfl) (by kernel_rfl) ?_
            repeat (go_big_quiet_step (fail))
            refine wpQuiet_nil ?_
            rintro _ ⟨y, rfl⟩
            clear d1 d2 e1
            have HY2 := Lib.hid (rowBel HY1.out y.below)
            have q1 := y.cell r1
            have q2 := y.cell r2
            have hb2 := hbw.trans (y.below.mono hbw.size)
            have hs2 := hb2.size
            clear r1 r2 r3 hb hb1 hsb
            go_wp2_with (at_builtin; refine wpList_append_lies _ rfl (.tmp 18) (.tmp 21) 46 rfl w.heap.size 25 i0 (.agg #[.int .i64 0, .int .i64 0]) 2 16 Try.underlying46 HI.out.1 HI.out.2.1 HI.out.2.2.1 HI.out.2.2.2 rfl (by decide) _ _ _ rfl (HY2.out.alloc _) ⟨y.w.heap.size, 0, none⟩ 1 1 [.int .i64 lo, .int .i64 hi] rfl rfl (twoNew _ _ _ _) (by simp [Value.oneCell']) (by omega) (by unfold maxLen; omega) (by omega) (by simp; omega) (y.w.heap.size + 1) (by simp) ?_; intro g' cap' w9 hown' hgrow hat hltg)
            have HY9 : Hid (w9.ownsRow w.heap.size 25 2 (.slice (some ⟨g', 0, none⟩) (n + 1) cap') (lsR x (R.take (k + 1))).length (flat (lsR x (R.take (k + 1))))) := by
              have e : (lsR x (R.take (k + 1))).length = n + 1 := by rw [HE.out]; simp [HN.out]
              show World.ownsRow _ _ _ _ _ _ _
              rw [e, HE.out, flat_append]
              exact hown'
            have hb9 := (hb2.alloc hs2 (.cells #[.int .i64 lo, .int .i64 hi] 25)).grown hgrow (by simp; omega) (fun j e => (HY2.out.lt j e).1)
            clear hown' hgrow hat HY2 HY1 q1 q2
            go_wp2
            go_roundg (R.length - (k + 1))
            case measure => omega
            case rel => exact ⟨k + 1, rfl, by omega, by go_num, HY9, hb9⟩
      · have HE : Hid (lsR v (R.take (k + 1)) = L) := by
          show _ = _
          rw [HS.out]
          unfold addR
          rw [if_neg hx]
        have hd : (x != v) = true := by simpa using hx
        have HY9 : Hid (W1.ownsRow w.heap.size 25 2 (.slice a L.length cp) (lsR v (R.take (k + 1))).length (flat (lsR v (R.take (k + 1))))) := by
          show World.ownsRow _ _ _ _ _ _ _
          rw [HE.out]; exact HY1.out
        clear HS HE HY HY1 hb hb1 hsb
        generalize L.length = n at *
        go_wp2
        go_roundg (R.length - (k + 1))
        case measure => omega
        case rel => exact ⟨k + 1, rfl, by omega, by go_num, HY9, hbw⟩
    · obtain rfl : k = R.length := by omega
      rw [List.take_length] at HY
      obtain ⟨a, cp, hf⟩ := rowForm HY.out
      subst hf
      go_wp2
      go_ret
      exact ⟨_, rfl, HY, hb⟩

end Go.Proofs.Ytfifimdaepebeaa

namespace Go.Proofs.Ytfifimdaepebeaa
open Go.RowKit

def prs (vR vS : Nat → Value) : Nat → List Value
  | 0 => []
  | k + 1 => prs vR vS k ++ [vR k, vS k]
theorem prs_len (vR vS : Nat → Value) : ∀ k, (prs vR vS k).length = k * 2
  | 0 => rfl
  | k + 1 => by simp [prs, prs_len vR vS k]; omega
theorem prs_congr {vR vS vR' vS' : Nat → Value} : ∀ k, (∀ i, i < k → vR i = vR' i ∧ vS i = vS' i) → prs vR vS k = prs vR' vS' k
  | 0, _ => rfl
  | k + 1, h => by unfold prs; rw [prs_congr k (fun i hi => h i (by omega)), (h k (by omega)).1, (h k (by omega)).2]
theorem prs_at (vR vS : Nat → Value) : ∀ (k i : Nat), i < k → (prs vR vS k)[i * 2]? = some (vR i) ∧ (prs vR vS k)[i * 2 + 1]? = some (vS i)
  | k + 1, i, h => by
    have hl := prs_len vR vS k
    unfold prs
    by_cases e : i = k
    · subst e
      refine ⟨?_, ?_⟩
      · rw [List.getElem?_append_right (by omega), show i * 2 - (prs vR vS i).length = 0 by omega]; rfl
      · rw [List.getElem?_append_right (by omega), show i * 2 + 1 - (prs vR vS i).length = 1 by omega]; rfl
    · have := prs_at vR vS k i (by omega)
      exact ⟨by rw [List.getElem?_append_left (by omega)]; exact this.1, by rw [List.getElem?_append_left (by omega)]; exact this.2⟩

/-- No two lists lie in one block. -/
def Dis (n : Nat) (vR vS : Nat → Value) : Prop :=
  (∀ i j, i < n → j < n → ∀ b, (vR i).ownBlock = some b → (vS j).ownBlock ≠ some b ∧ (i ≠ j → (vR j).ownBlock ≠ some b)) ∧
  (∀ i j, i < n → j < n → ∀ b, (vS i).ownBlock = some b → i ≠ j → (vS j).ownBlock ≠ some b)

theorem own_lt {W : World} {b : Nat} {e : TypeId} {size : Nat} {v : Value} {k : Nat} {xs : List Value} (h : W.ownsRow b e size v k xs) {g : Nat} (hg : v.ownBlock = some g) : b ≤ g ∧ g < W.heap.size := by
  rcases h.2 with ⟨rfl, _⟩ | ⟨g', cap, cur, rfl, h1, h2, _⟩
  · simp [Value.ownBlock] at hg
  · obtain rfl : g' = g := by simpa [Value.ownBlock] using hg
    exact ⟨h1, (Array.getElem?_eq_some_iff.1 h2).1⟩
theorem own_ne {W : World} {b b' : Nat} {e e' : TypeId} {size size' : Nat} {v v' : Value} {k k' : Nat} {xs xs' : List Value} (h : W.ownsRow b e size v k xs) (h' : W.ownsRow b' e' size' v' k' xs') (hne : e ≠ e') {g : Nat} (hg : v.ownBlock = some g) : v'.ownBlock ≠ some g := by
  intro hg'
  rcases h.2 with ⟨rfl, _⟩ | ⟨g1, cap, cur, rfl, _, h2, _⟩
  · simp [Value.ownBlock] at hg
  · obtain rfl : g1 = g := by simpa [Value.ownBlock] using hg
    rcases h'.2 with ⟨rfl, _⟩ | ⟨g2, cap', cur', rfl, _, h3, _⟩
    · simp [Value.ownBlock] at hg'
    · obtain rfl : g2 = g1 := by simpa [Value.ownBlock] using hg'
      rw [h2] at h3
      simp at h3
      exact hne h3.2
theorem own_stay {W W' : World} {b : Nat} {e : TypeId} {size : Nat} {v : Value} {k : Nat} {xs : List Value} {row : Option Nat} (h : W.ownsRow b e size v k xs) (hg : W.grownBy W' row) (hne : ∀ g, v.ownBlock = some g → row ≠ some g) : W'.ownsRow b e size v k xs :=
  ⟨h.1, h.2.imp id fun ⟨g, cap, cur, h1, h2, h3, h4⟩ => ⟨g, cap, cur, h1, h2, (hg.block g (Array.getElem?_eq_some_iff.1 h3).1 (fun e => hne g (by rw [h1]; rfl) e.symm)).trans h3, h4⟩⟩
theorem own_low {W : World} {b b' : Nat} {e : TypeId} {size : Nat} {v : Value} {k : Nat} {xs : List Value} (h : W.ownsRow b e size v k xs) (hb : b' ≤ b) : W.ownsRow b' e size v k xs :=
  ⟨h.1, h.2.imp id fun ⟨g, cap, cur, h1, h2, h3⟩ => ⟨g, cap, cur, h1, Nat.le_trans hb h2, h3⟩⟩

/-- A table of which k holds are built. -/
structure TB (w wr : World) (k : Nat) (F : Nat → HoldT) (vR vS : Nat → Value) (v : Value) : Prop where
  own : wr.ownsRow w.heap.size 48 2 v k (prs vR vS k)
  rows : ∀ i, i < k → wr.ownsRow w.heap.size 25 2 (vR i) (F i).1.length (flat (F i).1) ∧ wr.ownsRow w.heap.size 25 2 (vS i) (F i).2.length (flat (F i).2)
  dist : Dis k vR vS
  bel : Below w.heap.size w wr

theorem TB.keep {w wr w1 : World} {k : Nat} {F : Nat → HoldT} {vR vS : Nat → Value} {v : Value} (h : TB w wr k F vR vS v) (hb : Below wr.heap.size wr w1) : TB w w1 k F vR vS v :=
  ⟨rowBel h.own hb, fun i hi => ⟨rowBel (h.rows i hi).1 hb, rowBel (h.rows i hi).2 hb⟩, h.dist, h.bel.trans (hb.mono h.bel.size)⟩

theorem TB.added2 {w wr W w9 : World} {k g cap : Nat} {F : Nat → HoldT} {vR vS : Nat → Value} {v x y : Value} {o : Obj} (h : TB w wr k F vR vS v) (hb : Below wr.heap.size wr W)
    (hx : W.ownsRow wr.heap.size 25 2 x (F k).1.length (flat (F k).1)) (hy : W.ownsRow wr.heap.size 25 2 y (F k).2.length (flat (F k).2)) (hxy : ∀ b, x.ownBlock = some b → y.ownBlock ≠ some b)
    (hown : w9.ownsRow w.heap.size 48 2 (.slice (some ⟨g, 0, none⟩) (k + 1) cap) (k + 1) (prs vR vS k ++ [x, y])) (hgrow : (W.alloc o).grownBy w9 v.ownBlock) :
    TB w w9 (k + 1) F (upd vR k x) (upd vS k y) (.slice (some ⟨g, 0, none⟩) (k + 1) cap) := by
  have hk := h.keep hb
  have hal : Below W.heap.size W (W.alloc o) := (Below.refl _ _).alloc (Nat.le_refl _) _
  have hka := hk.keep hal
  have hxa := rowBel hx hal
  have hya := rowBel hy hal
  have hne : (25 : Nat) ≠ 48 := by decide
  have hw := h.bel.size
  refine ⟨?_, fun i hi => ?_, ⟨?_, ?_⟩, hka.bel.trans ⟨hgrow.os, hgrow.tape, hgrow.output, hgrow.size, fun i hi => hgrow.block i (Nat.lt_of_lt_of_le hi hka.bel.size) (fun e => by have := own_lt hka.own e.symm; omega)⟩⟩
  · have e : prs (upd vR k x) (upd vS k y) (k + 1) = prs vR vS k ++ [x, y] := by
      show prs (upd vR k x) (upd vS k y) k ++ [upd vR k x k, upd vS k y k] = _
      rw [upd_at, upd_at, prs_congr k (fun i hi => ⟨upd_ne vR x (by omega), upd_ne vS y (by omega)⟩)]
    rw [e]; exact hown
  · by_cases e : i = k
    · subst e
      rw [upd_at, upd_at]
      exact ⟨own_stay (own_low hxa hw) hgrow (fun b hb' => own_ne hxa hka.own hne hb'), own_stay (own_low hya hw) hgrow (fun b hb' => own_ne hya hka.own hne hb')⟩
    · rw [upd_ne _ _ e, upd_ne _ _ e]
      have r := hka.rows i (by omega)
      exact ⟨own_stay r.1 hgrow (fun b hb' => own_ne r.1 hka.own hne hb'), own_stay r.2 hgrow (fun b hb' => own_ne r.2 hka.own hne hb')⟩
  · intro i j hi hj b hb'
    by_cases ei : i = k
    · subst ei
      rw [upd_at] at hb'
      have hxb := own_lt hx hb'
      by_cases ej : j = i
      · subst ej
        rw [upd_at]
        exact ⟨hxy b hb', fun c => absurd rfl c⟩
      · rw [upd_ne _ _ ej, upd_ne _ _ ej]
        have r := h.rows j (by omega)
        exact ⟨fun e => by have := own_lt r.2 e; omega, fun _ e => by have := own_lt r.1 e; omega⟩
    · rw [upd_ne _ _ ei] at hb'
      have hib := own_lt (h.rows i (by omega)).1 hb'
      by_cases ej : j = k
      · subst ej
        rw [upd_at, upd_at]
        exact ⟨fun e => by have := own_lt hy e; omega, fun _ e => by have := own_lt hx e; omega⟩
      · rw [upd_ne _ _ ej, upd_ne _ _ ej]
        exact h.dist.1 i j (by omega) (by omega) b hb'
  · intro i j hi hj b hb' hij
    by_cases ei : i = k
    · subst ei
      rw [upd_at] at hb'
      have hyb := own_lt hy hb'
      rw [upd_ne _ _ (by omega)]
      exact fun e => by have := own_lt (h.rows j (by omega)).2 e; omega
    · rw [upd_ne _ _ ei] at hb'
      have hib := own_lt (h.rows i (by omega)).2 hb'
      by_cases ej : j = k
      · subst ej
        rw [upd_at]
        exact fun e => by have := own_lt hy e; omega
      · rw [upd_ne _ _ ej]
        exact h.dist.2 i j (by omega) (by omega) b hb' hij

theorem TB.added {w wr W w9 : World} {k g cap m : Nat} {F : Nat → HoldT} {vR vS : Nat → Value} {v x y : Value} {o : Obj} (h : TB w wr k F vR vS v) (hb : Below wr.heap.size wr W)
    (hx : W.ownsRow wr.heap.size 25 2 x (F k).1.length (flat (F k).1)) (hy : W.ownsRow m 25 2 y (F k).2.length (flat (F k).2)) (hm : ∀ b, x.ownBlock = some b → b < m) (hwm : wr.heap.size ≤ m)
    (hown : w9.ownsRow w.heap.size 48 2 (.slice (some ⟨g, 0, none⟩) (k + 1) cap) (k + 1) (prs vR vS k ++ [x, y])) (hgrow : (W.alloc o).grownBy w9 v.ownBlock) :
    TB w w9 (k + 1) F (upd vR k x) (upd vS k y) (.slice (some ⟨g, 0, none⟩) (k + 1) cap) :=
  h.added2 hb hx (own_low hy hwm) (fun b hb' e => by have := hm b hb'; have := own_lt hy e; omega) hown hgrow

def capOk (v : Value) : Prop := ∃ a n cap, v = .slice a n cap ∧ n ≤ cap ∧ cap ≤ maxLen

abbrev lR (T : List HoldT) (i : Nat) : Nat := (T.getD i hd0).1.length
abbrev lS (T : List HoldT) (i : Nat) : Nat := (T.getD i hd0).2.length
abbrev cR (T : List HoldT) (i j : Nat) : Rng := (T.getD i hd0).1.getD j (0, 0)
abbrev cS (T : List HoldT) (i j : Nat) : Rng := (T.getD i hd0).2.getD j (0, 0)

/-- A table whose blocks lie between lo and hi, which may be written; any empty slice if it is empty. -/
def OTab (w : World) (lo hi : Nat) (v : Value) (T : List HoldT) : Prop :=
  ∃ a cap vR vS, v = .slice a T.length cap ∧ T.length ≤ cap ∧ cap ≤ maxLen ∧ (0 < T.length → ∃ nb, a = some ⟨nb, 0, none⟩ ∧ lo ≤ nb ∧ nb < hi ∧
    MTab w nb lo hi T.length vR vS (lR T) (lS T) (cR T) (cS T) ∧ Dist nb T.length vR vS ∧ ∀ i, i < T.length → capOk (vR i) ∧ capOk (vS i))

theorem mrow_own {w : World} {B : Nat} {v : Value} {L : List Rng} (h : w.ownsRow B 25 2 v L.length (flat L)) : MRow w B w.heap.size v L.length (fun j => L.getD j (0, 0)) ∧ capOk v := by
  rcases h.2 with ⟨rfl, h0⟩ | ⟨g, cap, cur, rfl, h1, h2, h3, h4, _⟩
  · exact ⟨⟨none, 0, by rw [h0], fun hn => by omega⟩, none, 0, 0, rfl, Nat.le_refl _, by unfold maxLen; omega⟩
  · exact ⟨⟨_, cap, rfl, fun hn => ⟨g, rfl, h1, (Array.getElem?_eq_some_iff.1 h2).1, fun i hi' => ⟨by rw [h.cellAt _ (by omega)]; exact flat_get0 _ _ hi', by rw [h.cellAt _ (by omega)]; exact flat_get1 _ _ hi', h.frozenAt _, h.frozenAt _⟩⟩⟩, _, _, cap, rfl, h3, h4⟩

theorem TB.tab {w wr : World} {F : Nat → HoldT} {vR vS : Nat → Value} {v : Value} {T : List HoldT} (h : TB w wr T.length F vR vS v) (hF : ∀ i, i < T.length → F i = T.getD i hd0) : OTab wr w.heap.size wr.heap.size v T := by
  have hne : (25 : Nat) ≠ 48 := by decide
  have hr : ∀ i, i < T.length → wr.ownsRow w.heap.size 25 2 (vR i) (T.getD i hd0).1.length (flat (T.getD i hd0).1) ∧ wr.ownsRow w.heap.size 25 2 (vS i) (T.getD i hd0).2.length (flat (T.getD i hd0).2) := fun i hi => by
    have := h.rows i hi; rwa [hF i hi] at this
  have ho := h.own
  rcases h.own.2 with ⟨rfl, h0⟩ | ⟨g, cap, cur, rfl, h1, h2, h3, h4, _⟩
  · exact ⟨none, 0, vR, vS, by rw [h0], by omega, by unfold maxLen; omega, fun hn => by omega⟩
  · refine ⟨_, cap, vR, vS, rfl, h3, h4, fun hn => ⟨g, rfl, h1, (Array.getElem?_eq_some_iff.1 h2).1, ⟨fun i hi' => ?_, fun i hi' => ⟨(mrow_own (hr i hi').1).1, (mrow_own (hr i hi').2).1⟩⟩, ⟨fun i hi' => ?_, h.dist.1, h.dist.2⟩, fun i hi' => ⟨(mrow_own (hr i hi').1).2, (mrow_own (hr i hi').2).2⟩⟩⟩
    · have hp := prs_at vR vS T.length i hi'
      exact ⟨by rw [ho.cellAt _ (by omega)]; exact hp.1, by rw [ho.cellAt _ (by omega)]; exact hp.2, ho.frozenAt _, ho.frozenAt _⟩
    · exact ⟨fun e => own_ne (hr i hi').1 ho hne e rfl, fun e => own_ne (hr i hi').2 ho hne e rfl⟩

theorem spn_of {w : World} {lo hi : Nat} {v : Value} {L : List Rng} (h : MRow w lo hi v L.length (fun j => L.getD j (0, 0))) (hc : capOk v) : Spn w v L := by
  obtain ⟨a, cap, rfl, hr⟩ := h
  obtain ⟨a', n', cap', e, c1, c2⟩ := hc
  injection e with e1 e2 e3
  subst e1 e2 e3
  refine ⟨a, cap, rfl, c1, c2, fun hn => ?_⟩
  obtain ⟨b, rfl, -, -, h3⟩ := hr (by cases L with | nil => exact absurd rfl hn | cons _ _ => simp)
  exact ⟨b, 0, rfl, fun i hi => by rw [Nat.zero_add]; exact ⟨(h3 i hi).1, (h3 i hi).2.1⟩⟩
theorem OTab.hds {w : World} {lo hi : Nat} {v : Value} {T : List HoldT} (h : OTab w lo hi v T) : Hds w v T := by
  obtain ⟨a, cap, vR, vS, rfl, c1, c2, hc⟩ := h
  refine ⟨a, cap, rfl, c1, c2, fun hn => ?_⟩
  obtain ⟨nb, rfl, h1, h2, h3, h4, h5⟩ := hc (by cases T with | nil => exact absurd rfl hn | cons _ _ => simp)
  refine ⟨nb, 0, rfl, fun i hi' => ?_⟩
  obtain ⟨x1, x2, -, -⟩ := h3.1 i hi'
  simp only [Nat.zero_add]
  exact ⟨_, _, x1, x2, spn_of (h3.2 i hi').1 (h5 i hi').1, spn_of (h3.2 i hi').2 (h5 i hi').2⟩
theorem OTab.btw {w w1 : World} {lo hi l h : Nat} {v : Value} {T : List HoldT} (ht : OTab w lo hi v T) (hb : Btw l h w w1) (hd : hi ≤ l ∨ h ≤ lo) : OTab w1 lo hi v T := by
  obtain ⟨a, cap, vR, vS, rfl, c1, c2, hc⟩ := ht
  refine ⟨a, cap, vR, vS, rfl, c1, c2, fun hn => ?_⟩
  obtain ⟨nb, rfl, h1, h2, h3, h4, h5⟩ := hc hn
  exact ⟨nb, rfl, h1, h2, ⟨h3.1.same (hb.block nb (World.block_lt_of_cell? w _ (h3.1 0 hn).1) (by omega)), fun i hi' => ⟨(h3.2 i hi').1.btw hb hd, (h3.2 i hi').2.btw hb hd⟩⟩, h4, h5⟩
theorem OTab.keep {w w1 : World} {lo hi : Nat} {v : Value} {T : List HoldT} (ht : OTab w lo hi v T) (hb : Below w.heap.size w w1) : OTab w1 lo hi v T :=
  ht.btw (l := hi) (h := hi) (Btw.of_below hb) (.inl (Nat.le_refl _))
theorem OTab.wide {w : World} {lo lo' hi : Nat} {v : Value} {T : List HoldT} (ht : OTab w lo hi v T) (hl : lo' ≤ lo) : OTab w lo' hi v T := by
  obtain ⟨a, cap, vR, vS, rfl, c1, c2, hc⟩ := ht
  refine ⟨a, cap, vR, vS, rfl, c1, c2, fun hn => ?_⟩
  obtain ⟨nb, rfl, h1, h2, h3, h4, h5⟩ := hc hn
  have hw : ∀ {v : Value} {n : Nat} {f : Nat → Rng}, MRow w lo hi v n f → MRow w lo' hi v n f := fun ⟨a, cap, e, hr⟩ => ⟨a, cap, e, fun hn => by
    obtain ⟨b, e1, q1, q2, q3⟩ := hr hn
    exact ⟨b, e1, by omega, q2, q3⟩⟩
  exact ⟨nb, rfl, by omega, h2, ⟨h3.1, fun i hi' => ⟨hw (h3.2 i hi').1, hw (h3.2 i hi').2⟩⟩, h4, h5⟩
theorem otab_nil (w : World) (lo hi cap : Nat) (a : Option Addr) (hc : cap ≤ maxLen) : OTab w lo hi (.slice a 0 cap) [] :=
  ⟨a, cap, fun _ => .slice none 0 0, fun _ => .slice none 0 0, rfl, by simp, hc, fun h => absurd h (by simp)⟩

/-- What a function that makes a table leaves. -/
def TbC (w : World) (T : List HoldT) (e : Ending) (w' : World) : Prop :=
  ∃ v, e = .returned v ∧ Hid (OTab w' w.heap.size w'.heap.size v T) ∧ Below w.heap.size w w'
/-- .. a table and a bool. -/
def TbB (w : World) (T : List HoldT) (q : Bool) (e : Ending) (w' : World) : Prop :=
  ∃ v, e = .returned (.tuple #[v, .bool q]) ∧ Hid (OTab w' w.heap.size w'.heap.size v T) ∧ Below w.heap.size w w'

end Go.Proofs.Ytfifimdaepebeaa

namespace Go.Proofs.Ytfifimdaepebeaa
open Go.RowKit

theorem infoHoldT : (Try.prog.info? 48).map (fun i => (i.zero, i.size, i.bytes)) = some (some (.agg #[.slice none 0 0, .slice none 0 0]), 2, 48) := by kernel_rfl

abbrev rowH (Rs : Nat → List RunT) (i : Nat) : HoldT := (lsR 1 (Rs i), lsR 2 (Rs i))
def tabT (Rs : Nat → List RunT) (m : Nat) : List HoldT := (List.range m).map (rowH Rs)
theorem tabT_len (Rs : Nat → List RunT) (m : Nat) : (tabT Rs m).length = m := by unfold tabT; simp
theorem tabT_at (Rs : Nat → List RunT) (m i : Nat) (h : i < m) : (tabT Rs m).getD i hd0 = rowH Rs i := by
  unfold tabT
  rw [List.getD_eq_getElem?_getD, List.getElem?_map, List.getElem?_range h]; rfl

theorem TB.nil (w : World) (F : Nat → HoldT) : TB w w 0 F (fun _ => .slice none 0 0) (fun _ => .slice none 0 0) (.slice none 0 0) :=
  ⟨World.ownsRow_nil .., fun i hi => absurd hi (by omega), ⟨fun i _ hi => absurd hi (by omega), fun i _ hi => absurd hi (by omega)⟩, Below.refl _ _⟩

set_option maxRecDepth 100000 in
set_option maxHeartbeats 4000000 in
theorem table_any (gl cl m : Nat) (gs cs : Nat → Nat) (Rs : Nat → List RunT) (hl : ∀ i, i < m → (Rs i).length ≤ 100) (hm : m ≤ 100) (_hcl : cl ≤ 9223372036854775807) (w : World) (ft : LksAt w gl m gs cs Rs) :
    Calls Try.prog 78 #[.slice (some ⟨gl, 0, none⟩) m cl] w (TbC w (tabT Rs m)) := by
  obtain ⟨i0, hi0, hz0, hz1, hz2⟩ := info_parts infoHoldT
  have HI : Hid (Try.prog.info? 48 = some i0 ∧ i0.zero = some (.agg #[.slice none 0 0, .slice none 0 0]) ∧ i0.size = 2 ∧ i0.bytes = 48) := ⟨hi0, hz0, hz1, hz2⟩
  have HT := Lib.hid ft
  have HL := Lib.hid hl
  clear ft hl hi0 hz0 hz1 hz2
  go_enter Try.func78, Try.ntmps78
  go_wp2
  go_loopg [3, 8] m (fun q s3 s8 wr => ∃ (k : Nat) (vR vS : Nat → Value), q = m - k ∧ k ≤ m ∧ s8 = .int .i64 k ∧ Hid (TB w wr k (rowH Rs) vR vS s3))
  case atStart => exact ⟨0, _, _, rfl, Nat.zero_le _, rfl, Lib.hid (TB.nil w _)⟩
  case round =>
    obtain ⟨k, vR, vS, rfl, hk, rfl, HB⟩ := hrel
    by_cases hlt : k < m
    · have HTk := Lib.hid (HT.out.keep HB.out.bel)
      have c1 := (HTk.out k hlt).1
      have K1 := Lib.hid (olist_any (gs k) (cs k) (Rs k) 1 wr (HTk.out k hlt).2 (by have := HL.out k hlt; omega))
      obtain ⟨a, cp, rfl⟩ := rowForm HB.out.own
      go_wp2_with fail
      refine K1.out.mono ?_; rintro e w1 ⟨x, rfl, hx, hb1⟩
      obtain ⟨ax, cx, rfl⟩ := rowForm hx.out
      have K2 := Lib.hid (olist_any (gs k) (cs k) (Rs k) 2 w1 ((HTk.out k hlt).2.keep hb1) (by have := HL.out k hlt; omega))
      have HX := Lib.hid hx.out
      clear hx K1 c1
      go_wp2_with fail
      refine K2.out.mono ?_; rintro e w2 ⟨y, rfl, hy, hb2⟩
      obtain ⟨ay, cy, rfl⟩ := rowForm hy.out
      have hb12 := hb1.trans (hb2.mono hb1.size)
      have HX2 := Lib.hid (rowBel HX.out hb2)
      have HY2 := Lib.hid hy.out
      have HM : Hid (∀ b, (Value.slice ax (lsR 1 (Rs k)).length cx).ownBlock = some b → b < w1.heap.size) := fun b e => (own_lt HX.out e).2
      have s1 := hb1.size
      have s2 := hb2.size
      have s0 := HB.out.bel.size
      have HO2 := Lib.hid (rowBel HB.out.own hb12)
      clear HX K2 hy
      go_wp2_with (at_builtin; refine wpList_append_lies _ rfl (.tmp 12) (.tmp 18) 23 rfl w.heap.size 48 i0 (.agg #[.slice none 0 0, .slice none 0 0]) 2 48 Try.underlying23 HI.out.1 HI.out.2.1 HI.out.2.2.1 HI.out.2.2.2 rfl (by decide) _ _ _ rfl (HO2.out.alloc _) ⟨w2.heap.size, 0, none⟩ 1 1 [.slice ax (lsR 1 (Rs k)).length cx, .slice ay (lsR 2 (Rs k)).length cy] rfl rfl (twoNew _ _ _ _) (by simp [Value.oneCell']) (by omega) (by unfold maxLen; omega) (by omega) (by simp; omega) (w2.heap.size + 1) (by simp) ?_; intro g' cap' w9 hown' hgrow hat hltg)
      have HB9 := Lib.hid (HB.out.added hb12 HX2.out HY2.out HM.out s1 hown' hgrow)
      clear hown' hgrow hat HX2 HY2 HM HO2 HB HTk
      go_wp2
      go_roundg (m - (k + 1))
      case measure => omega
      case rel => exact ⟨k + 1, _, _, rfl, by omega, by go_num, HB9⟩
    · obtain rfl : k = m := by omega
      obtain ⟨a, cp, hf⟩ := rowForm HB.out.own
      subst hf
      have HR := Lib.hid (TB.tab (T := tabT Rs k) (by rw [tabT_len]; exact HB.out) (fun i hi => by rw [tabT_len] at hi; exact (tabT_at Rs k i hi).symm))
      have HBB := Lib.hid HB.out.bel
      go_wp2
      go_ret
      exact ⟨_, rfl, HR, HBB.out⟩

end Go.Proofs.Ytfifimdaepebeaa
