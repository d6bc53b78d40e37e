/-
  ordered.list: the maximal ranges with a value, in a new row.
-/
import Derived.Test.YteabigobnjebaaaChg
import Derived.Test.YteabigobnjebaaaCalm
import Derived.Deep.AppendLies
namespace Go.Proofs.Yteabigobnjebaaa
open Go.RowKit

theorem infoSpanL : (Try.prog.info? 43).map (fun i => (i.zero, i.size, i.bytes)) = some (some (.agg #[.int .i64 0, .int .i64 0]), 2, 16) := by kernel_rfl
theorem twoNew (w : World) (x y : Value) (T : TypeId) : ∀ (j : Nat) (u : Value), [x, y][j]? = some u → (w.alloc (.cells #[x, y] T)).cell? ((⟨w.heap.size, 0, none⟩ : Addr).add j) = some u := by
  intro j u h
  match j, h with
  | 0, h => simp at h; subst h; simp [Addr.add]
  | 1, h => simp at h; subst h; simp [Addr.add]
theorem rowForm {W : World} {base : Nat} {e : TypeId} {size : Nat} {v : Value} {k : Nat} {xs : List Value} (h : W.ownsRow base e size v k xs) : ∃ ptr cap, v = .slice ptr k cap := by
  rcases h.2 with ⟨rfl, rfl⟩ | ⟨g, cap, cur, rfl, _⟩
  · exact ⟨none, 0, rfl⟩
  · exact ⟨_, cap, rfl⟩
theorem rowBel {W W' : World} {b : Nat} {e : TypeId} {size : Nat} {v : Value} {k : Nat} {xs : List Value} (h : W.ownsRow b e size v k xs) (hb : Below W.heap.size W W') : W'.ownsRow b e size v k xs :=
  ⟨h.1, h.2.imp id fun ⟨g, cap, cur, h1, h2, h3, h4⟩ => ⟨g, cap, cur, h1, h2, (hb.block g (Array.getElem?_eq_some_iff.1 h3).1).trans h3, h4⟩⟩

theorem rowPos {W : World} {base : Nat} {e : TypeId} {size : Nat} {a : Option Addr} {n cap : Nat} {k : Nat} {xs : List Value} (h : W.ownsRow base e size (.slice a n cap) k xs) (hk : 0 < k) : ∃ g, a = some ⟨g, 0, none⟩ := by
  rcases h.2 with ⟨e0, e1⟩ | ⟨g, cap', cur, e0, _⟩
  · omega
  · injection e0 with e0; exact ⟨g, e0⟩

/-- What a function that makes a list of ranges leaves. -/
def SpC (w : World) (L : List Rng) (e : Ending) (w' : World) : Prop :=
  ∃ v, e = .returned v ∧ Hid (w'.ownsRow w.heap.size 43 2 v L.length (flat L)) ∧ Below w.heap.size w w'

theorem lsR_step {v : Int} {R : List RunT} {k : Nat} (h : k < R.length) : lsR v (R.take (k + 1)) = addR v (lsR v (R.take k)) (R.getD k r0) := by
  have hg : R.getD k r0 = R[k] := by rw [List.getD_eq_getElem?_getD, List.getElem?_eq_getElem h]; rfl
  rw [hg]
  unfold lsR
  rw [List.take_add_one, List.getElem?_eq_getElem h, Option.toList_some, List.foldl_append]
  rfl
theorem lsR_bd (v : Int) (R : List RunT) : ∀ k, k ≤ R.length → (lsR v (R.take k)).length ≤ k
  | 0, _ => by simp [lsR]
  | k + 1, h => by
    rw [lsR_step (by omega)]
    have := lsR_bd v R k (by omega)
    have := addR_len v (lsR v (R.take k)) (R.getD k r0)
    omega

set_option maxRecDepth 100000 in
set_option maxHeartbeats 4000000 in
theorem olist_any (g cap : Nat) (R : List RunT) (v : Int) (w : World) (h : OwnAt w g cap R) (hl : R.length ≤ 900) :
    Calls Try.prog 119 #[.slice (some ⟨g, 0, none⟩) R.length cap, .int .i64 v] w (SpC w (lsR v R)) := by
  obtain ⟨hc1, hc2⟩ := h.cap
  obtain ⟨i0, hi0, hz0, hz1, hz2⟩ := info_parts infoSpanL
  have HI : Hid (Try.prog.info? 43 = some i0 ∧ i0.zero = some (.agg #[.int .i64 0, .int .i64 0]) ∧ i0.size = 2 ∧ i0.bytes = 16) := ⟨hi0, hz0, hz1, hz2⟩
  have HO := Lib.hid h
  clear h hi0 hz0 hz1 hz2
  go_enter Try.func119, Try.ntmps119
  go_wp2
  go_loopg [5, 11] R.length (fun q s5 s11 wr => ∃ k : Nat, q = R.length - k ∧ k ≤ R.length ∧ s11 = .int .i64 k ∧ Hid (wr.ownsRow w.heap.size 43 2 s5 (lsR v (R.take k)).length (flat (lsR v (R.take k)))) ∧ Below w.heap.size w wr)
  case atStart => exact ⟨0, rfl, Nat.zero_le _, rfl, Lib.hid (World.ownsRow_nil ..), Below.refl _ _⟩
  case round =>
    obtain ⟨k, rfl, hk, rfl, HY, hb⟩ := hrel
    have HLb := lsR_bd v R k hk
    by_cases hlt : k < R.length
    · have hO := HO.out.keep hb
      obtain ⟨c1, c2, c3⟩ := hO.cells hlt
      have hsb := hb.size
      have HS := Lib.hid (lsR_step (v := v) hlt)
      clear hO
      generalize hr : R.getD k r0 = r at *
      obtain ⟨lo, hi, x⟩ := r
      simp only at c1 c2 c3
      clear hr
      obtain ⟨L, hL⟩ : ∃ L, lsR v (R.take k) = L := ⟨_, rfl⟩
      rw [hL] at HY HS HLb
      clear hL
      obtain ⟨a, cp, rfl⟩ := rowForm HY.out
      obtain ⟨W1, hW1⟩ : ∃ W1, wr.alloc (.cells #[.int .i64 lo, .int .i64 hi, .int .i64 x] 126) = W1 := ⟨_, rfl⟩
      have hb1 : Below wr.heap.size wr W1 := by rw [← hW1]; exact (Below.refl _ _).alloc (Nat.le_refl _) _
      have hz1 : W1.heap.size = wr.heap.size + 1 := by rw [← hW1]; simp
      have r1 : W1.cell? ⟨wr.heap.size, 0, none⟩ = some (.int .i64 lo) := by rw [← hW1]; simp
      have r2 : W1.cell? ⟨wr.heap.size, 1, none⟩ = some (.int .i64 hi) := by rw [← hW1]; simp
      have r3 : W1.cell? ⟨wr.heap.size, 2, none⟩ = some (.int .i64 x) := by rw [← hW1]; simp
      have HY1 := Lib.hid (rowBel HY.out hb1)
      have hbw := hb.trans (hb1.mono hsb)
      by_cases hx : x = v
      · subst hx
        have hd : (x != x) = false := by simp
        by_cases hn : L.length = 0
        · have HE : Hid (lsR x (R.take (k + 1)) = L ++ [(lo, hi)]) := by
            show _ = _
            rw [HS.out]
            unfold addR endI
            simp [hn]
          clear HS
          obtain ⟨n, hn'⟩ : ∃ n, L.length = n := ⟨_, rfl⟩
          have HN := Lib.hid hn'
          rw [hn'] at HY1 hn HLb ⊢
          clear hn' HY
          subst hn
          go_wp2_with fail
          clear hW1
          refine wp_region_calm (by kernel_rfl) (by kernel_rfl) ?_
          repeat (go_big_quiet_step (fail))
          refine wpQuiet_nil ?_
          rintro _ ⟨y, rfl⟩
          have HY2 := Lib.hid (rowBel HY1.out y.below)
          have q1 := y.cell r1
          have q2 := y.cell r2
          have hb2 := hbw.trans (y.below.mono hbw.size)
          have hs2 := hb2.size
          clear r1 r2 r3 hb hb1 hsb
          go_wp2_with (at_builtin; refine wpList_append_lies _ rfl (.tmp 18) (.tmp 21) 76 rfl w.heap.size 43 i0 (.agg #[.int .i64 0, .int .i64 0]) 2 16 Try.underlying76 HI.out.1 HI.out.2.1 HI.out.2.2.1 HI.out.2.2.2 rfl (by decide) _ _ _ rfl (HY2.out.alloc _) ⟨y.w.heap.size, 0, none⟩ 1 1 [.int .i64 lo, .int .i64 hi] rfl rfl (twoNew _ _ _ _) (by simp [Value.oneCell']) (by omega) (by unfold maxLen; omega) (by omega) (by simp; omega) (y.w.heap.size + 1) (by simp) ?_; intro g' cap' w9 hown' hgrow hat hltg)
          have HY9 : Hid (w9.ownsRow w.heap.size 43 2 (.slice (some ⟨g', 0, none⟩) (0 + 1) cap') (lsR x (R.take (k + 1))).length (flat (lsR x (R.take (k + 1))))) := by
            have e : (lsR x (R.take (k + 1))).length = 0 + 1 := by rw [HE.out]; simp [HN.out]
            show World.ownsRow _ _ _ _ _ _ _
            rw [e, HE.out, flat_append]
            exact hown'
          have hb9 := (hb2.alloc hs2 (.cells #[.int .i64 lo, .int .i64 hi] 43)).grown hgrow (by simp; omega) (fun j e => (HY2.out.lt j e).1)
          clear hown' hgrow hat HY2 HY1 q1 q2
          go_wp2
          go_roundg (R.length - (k + 1))
          case measure => omega
          case rel => exact ⟨k + 1, rfl, by omega, by go_num, HY9, hb9⟩
        · obtain ⟨g', rfl⟩ := rowPos HY1.out (by omega)
          have e1 : W1.cell? ⟨g', (L.length - 1) * 2 + 1, none⟩ = some (.int .i64 (L.getD (L.length - 1) (0, 0)).2) := by
            rw [HY1.out.cellAt _ (by omega), flat_get1 _ _ (by omega)]
          have e2 : ∀ y : BelowOf W1, y.w.frozen? ⟨g', (L.length - 1) * 2 + 1, none⟩ = false := fun y => (rowBel HY1.out y.below).frozenAt _
          have hen : endI L lo = decide ((L.getD (L.length - 1) (0, 0)).2 = lo) := by
            unfold endI; simp [show 0 < L.length by omega]
          by_cases hq : (L.getD (L.length - 1) (0, 0)).2 = lo
          · have HE : Hid (lsR x (R.take (k + 1)) = L.set (L.length - 1) ((L.getD (L.length - 1) (0, 0)).1, hi)) := by
              show _ = _
              rw [HS.out]
              unfold addR
              rw [if_pos rfl, if_pos (by rw [hen]; simpa using hq)]
            have HZ : Hid (∀ y : BelowOf W1, (y.w.setCell ⟨g', (L.length - 1) * 2 + 1, none⟩ (.int .i64 hi)).ownsRow w.heap.size 43 2 (.slice (some ⟨g', 0, none⟩) L.length cp) (lsR x (R.take (k + 1))).length (flat (lsR x (R.take (k + 1))))) := fun y => by
              have := ((rowBel HY1.out y.below).stored ((L.length - 1) * 2 + 1) (.int .i64 hi)).1
              rw [flat_set _ _ _ (by omega)] at this
              rw [HE.out, List.length_set]
              exact this
            have hgw := (HY1.out.lt g' rfl).1
            rw [hq] at e1
            clear HS HE hen hq HY
            obtain ⟨n, hn'⟩ : ∃ n, L.length = n := ⟨_, rfl⟩
            rw [hn'] at HY1 hn HLb HZ e1 e2 ⊢
            clear hn'
            have hp : 0 < n := by omega
            have hp1 : (1 : Int) ≤ (n : Int) := by omega
            have hp2 : (n : Int) - 1 < (n : Int) := by omega
            have hp3 : ((n : Int) - 1).toNat = n - 1 := by omega
            have d1 : ∀ y : BelowOf W1, y.w.cell? ⟨g', (n - 1) * 2 + 1, none⟩ = some (.int .i64 lo) := fun y => y.cell e1
            have d2 : ∀ y : BelowOf W1, y.w.cell? ⟨wr.heap.size, 0, none⟩ = some (.int .i64 lo) := fun y => y.cell r1
            have hd2 : (lo == lo) = true := by simp
            go_wp2_with fail
            clear hW1
            refine wp_region_calm (by kernel_rfl) (by kernel_rfl) ?_
            repeat (go_big_quiet_step (fail))
            refine wpQuiet_nil ?_
            rintro _ ⟨y, rfl⟩
            have q1 := y.cell r1
            have q2 := y.cell r2
            have q3 := y.cell e1
            have q4 := e2 y
            have HZ2 := Lib.hid (HZ.out y)
            have hb2 := hbw.trans (y.below.mono hbw.size)
            clear r1 r2 r3 hb hb1 hsb d1 d2 e1 e2 HZ HY1
            go_wp2
            go_roundg (R.length - (k + 1))
            case measure => omega
            case rel => exact ⟨k + 1, rfl, by omega, by go_num, HZ2, hb2.setCell hgw _⟩
          · have HE : Hid (lsR x (R.take (k + 1)) = L ++ [(lo, hi)]) := by
              show _ = _
              rw [HS.out]
              unfold addR
              rw [if_pos rfl, if_neg (by rw [hen]; simpa using hq)]
            clear HS hen HY
            generalize (L.getD (L.length - 1) (0, 0)).2 = last at *
            obtain ⟨n, hn'⟩ : ∃ n, L.length = n := ⟨_, rfl⟩
            have HN := Lib.hid hn'
            rw [hn'] at HY1 hn HLb e1 ⊢
            clear hn' e2
            have hp : 0 < n := by omega
            have hp1 : (1 : Int) ≤ (n : Int) := by omega
            have hp2 : (n : Int) - 1 < (n : Int) := by omega
            have hp3 : ((n : Int) - 1).toNat = n - 1 := by omega
            have d1 : ∀ y : BelowOf W1, y.w.cell? ⟨g', (n - 1) * 2 + 1, none⟩ = some (.int .i64 last) := fun y => y.cell e1
            have d2 : ∀ y : BelowOf W1, y.w.cell? ⟨wr.heap.size, 0, none⟩ = some (.int .i64 lo) := fun y => y.cell r1
            have hd2 : (last == lo) = false := by simpa using hq
            clear hq
            go_wp2_with fail
            clear hW1
            refine wp_region_calm (by kernel_rfl) (by kernel_rfl) ?_
            repeat (go_big_quiet_step (fail))
            refine wpQuiet_nil ?_
            rintro _ ⟨y, rfl⟩
            clear d1 d2 e1
            have HY2 := Lib.hid (rowBel HY1.out y.below)
            have q1 := y.cell r1
            have q2 := y.cell r2
            have hb2 := hbw.trans (y.below.mono hbw.size)
            have hs2 := hb2.size
            clear r1 r2 r3 hb hb1 hsb
            go_wp2_with (at_builtin; refine wpList_append_lies _ rfl (.tmp 18) (.tmp 21) 76 rfl w.heap.size 43 i0 (.agg #[.int .i64 0, .int .i64 0]) 2 16 Try.underlying76 HI.out.1 HI.out.2.1 HI.out.2.2.1 HI.out.2.2.2 rfl (by decide) _ _ _ rfl (HY2.out.alloc _) ⟨y.w.heap.size, 0, none⟩ 1 1 [.int .i64 lo, .int .i64 hi] rfl rfl (twoNew _ _ _ _) (by simp [Value.oneCell']) (by omega) (by unfold maxLen; omega) (by omega) (by simp; omega) (y.w.heap.size + 1) (by simp) ?_; intro g' cap' w9 hown' hgrow hat hltg)
            have HY9 : Hid (w9.ownsRow w.heap.size 43 2 (.slice (some ⟨g', 0, none⟩) (n + 1) cap') (lsR x (R.take (k + 1))).length (flat (lsR x (R.take (k + 1))))) := by
              have e : (lsR x (R.take (k + 1))).length = n + 1 := by rw [HE.out]; simp [HN.out]
              show World.ownsRow _ _ _ _ _ _ _
              rw [e, HE.out, flat_append]
              exact hown'
            have hb9 := (hb2.alloc hs2 (.cells #[.int .i64 lo, .int .i64 hi] 43)).grown hgrow (by simp; omega) (fun j e => (HY2.out.lt j e).1)
            clear hown' hgrow hat HY2 HY1 q1 q2
            go_wp2
            go_roundg (R.length - (k + 1))
            case measure => omega
            case rel => exact ⟨k + 1, rfl, by omega, by go_num, HY9, hb9⟩
      · have HE : Hid (lsR v (R.take (k + 1)) = L) := by
          show _ = _
          rw [HS.out]
          unfold addR
          rw [if_neg hx]
        have hd : (x != v) = true := by simpa using hx
        have HY9 : Hid (W1.ownsRow w.heap.size 43 2 (.slice a L.length cp) (lsR v (R.take (k + 1))).length (flat (lsR v (R.take (k + 1))))) := by
          show World.ownsRow _ _ _ _ _ _ _
          rw [HE.out]; exact HY1.out
        clear HS HE HY HY1 hb hb1 hsb
        generalize L.length = n at *
        go_wp2
        go_roundg (R.length - (k + 1))
        case measure => omega
        case rel => exact ⟨k + 1, rfl, by omega, by go_num, HY9, hbw⟩
    · obtain rfl : k = R.length := by omega
      rw [List.take_length] at HY
      obtain ⟨a, cp, hf⟩ := rowForm HY.out
      subst hf
      go_wp2
      go_ret
      exact ⟨_, rfl, HY, hb⟩

end Go.Proofs.Yteabigobnjebaaa
