/-
  spec.l4Put: a table with another hold of one client's, if it is valid.
-/
import Derived.Test.YteabigobnjebaaaSpecCopy
import Derived.Test.YteabigobnjebaaaChgMath
namespace Go.Proofs.Yteabigobnjebaaa
open Go.RowKit

theorem lock_len {T : List HoldT} (h : lockOkB T = true) {i : Nat} (hi : i < T.length) : (T.getD i hd0).1.length ≤ 1048576 ∧ (T.getD i hd0).2.length ≤ 1048576 := by
  obtain ⟨h3, hok, -⟩ := (lockOk_iff T).1 h
  have ho := okH_iff.1 (hok i (by omega))
  have h1 := ho.1
  have h2 := ho.2.1
  simp only [spansOkB, Bool.and_eq_true, decide_eq_true_eq] at h1 h2
  omega

/-- The table with one hold in the place of another one, if that is valid. -/
def putT (T : List HoldT) (k : Nat) (h : HoldT) : List HoldT × Bool := if lockOkB (T.set k h) = true then (T.set k h, true) else (T, false)

theorem hds_put {w1 : World} {nb lo hi cap k : Nat} {vR vS : Nat → Value} {T : List HoldT} {r s : Value} {R S : List Rng} (c1 : T.length ≤ cap) (c2 : cap ≤ maxLen) (hk : k < T.length)
    (hm : MTab w1 nb lo hi T.length vR vS (lR T) (lS T) (cR T) (cS T)) (hd : Dist nb T.length vR vS) (hcap : ∀ i, i < T.length → capOk (vR i) ∧ capOk (vS i))
    (hr : Spn ((w1.setCell ⟨nb, k * 2, none⟩ r).setCell ⟨nb, k * 2 + 1, none⟩ s) r R) (hs : Spn ((w1.setCell ⟨nb, k * 2, none⟩ r).setCell ⟨nb, k * 2 + 1, none⟩ s) s S) :
    Hds ((w1.setCell ⟨nb, k * 2, none⟩ r).setCell ⟨nb, k * 2 + 1, none⟩ s) (.slice (some ⟨nb, 0, none⟩) T.length cap) (T.set k (R, S)) := by
  have hrow := hm.1.set (x := r) (y := s) hk
  have hblk : ∀ b, b ≠ nb → ((w1.setCell ⟨nb, k * 2, none⟩ r).setCell ⟨nb, k * 2 + 1, none⟩ s).heap[b]? = w1.heap[b]? := fun b hb => (Below.heap_setCell _ _ _ b hb).trans (Below.heap_setCell _ _ _ b hb)
  refine ⟨_, cap, by rw [List.length_set], by rw [List.length_set]; exact c1, c2, fun _ => ⟨nb, 0, rfl, fun i hi => ?_⟩⟩
  rw [List.length_set] at hi
  obtain ⟨x1, x2, -, -⟩ := hrow i hi
  simp only [Nat.zero_add]
  dsimp only at x1 x2
  by_cases e : i = k
  · subst e
    rw [set_at hi]
    rw [if_pos rfl] at x1 x2
    exact ⟨r, s, x1, x2, hr, hs⟩
  · rw [set_off e]
    rw [if_neg e] at x1 x2
    obtain ⟨m1, m2⟩ := hm.2 i hi
    refine ⟨_, _, x1, x2, spn_of (m1.same fun b hb _ => hblk b (fun c => ?_)) (hcap i hi).1, spn_of (m2.same fun b hb _ => hblk b (fun c => ?_)) (hcap i hi).2⟩
    · subst c; exact (hd.1 i hi).1 hb
    · subst c; exact (hd.1 i hi).2 hb

set_option maxRecDepth 100000 in
set_option maxHeartbeats 4000000 in
theorem l4Put_any (v : Value) (T : List HoldT) (k : Nat) (r s : Value) (R S : List Rng) (w : World) (h : Hds w v T) (hq : lockOkB T = true) (hk : k < 3) (hr : Spn w r R) (hs : Spn w s S) :
    Calls Try.prog 69 #[v, .int .i64 k, .agg #[r, s]] w (TbB w (putT T k (R, S)).1 (putT T k (R, S)).2) := by
  obtain ⟨h3, -, -⟩ := (lockOk_iff T).1 hq
  obtain ⟨ar, cr, rfl⟩ := hr.form
  obtain ⟨as', cs, rfl⟩ := hs.form
  obtain ⟨W0, hW0⟩ : ∃ W0, w.alloc (.cells #[.slice ar R.length cr, .slice as' S.length cs] 78) = W0 := ⟨_, rfl⟩
  have hal : Below w.heap.size w W0 := by rw [← hW0]; exact (Below.refl _ _).alloc (Nat.le_refl _) _
  have hsz : W0.heap.size = w.heap.size + 1 := by rw [← hW0]; simp
  have B0 : BoxV W0 w.heap.size (.slice ar R.length cr) (.slice as' S.length cs) := by rw [← hW0]; exact new_boxV w _ _ _
  have K1 := Lib.hid (l4Copy_any v T W0 (h.keep hal) (by omega) (fun i hi => lock_len hq hi))
  have KT := Lib.hid (fun W h => l4Copy_any v T W h (by omega) (fun i hi => lock_len hq hi))
  have HD := Lib.hid h
  have HR := Lib.hid hr
  have HS := Lib.hid hs
  have HB0 := Lib.hid B0
  have Hal := Lib.hid hal
  have HN : Hid (lockOkB (T.set k (R, S)) = true → ∀ i, i < (T.set k (R, S)).length → ((T.set k (R, S)).getD i hd0).1.length ≤ 1048576 ∧ ((T.set k (R, S)).getD i hd0).2.length ≤ 1048576) := fun h i hi => lock_len h hi
  have Z0 := Lib.hid hsz
  clear h hr hs B0 hal hq hsz
  go_enter Try.func69, Try.ntmps69
  go_wp2_with fail
  clear hW0
  refine K1.out.mono ?_; rintro e w1 ⟨v1, rfl, ht1, hb1⟩
  have HT1 := Lib.hid ht1.out
  obtain ⟨a, cap, vR, vS, rfl, c1, c2, hc⟩ := ht1.out
  obtain ⟨nb, rfl, hn1, hn2, hm, hd, hcap⟩ := hc (by omega)
  obtain ⟨x1, x2, x3, x4⟩ := hm.1 k (by omega)
  obtain ⟨y1, y2, -, -⟩ := HB0.out.keep hb1
  have hb1' := Hal.out.trans (hb1.mono Hal.out.size)
  have hz := Z0.out
  have hbs : Below w.heap.size w ((w1.setCell ⟨nb, k * 2, none⟩ (.slice ar R.length cr)).setCell ⟨nb, k * 2 + 1, none⟩ (.slice as' S.length cs)) := (hb1'.setCell (by show w.heap.size ≤ nb; omega) _).setCell (by show w.heap.size ≤ nb; omega) _
  have HH := Lib.hid (hds_put c1 c2 (by omega) hm hd hcap (HR.out.keep hbs) (HS.out.keep hbs))
  have HBS := Lib.hid hbs
  have hk3 : (k : Int) < (T.length : Int) := by omega
  clear hm hd hcap hc HT1 ht1 hb1 hb1' hbs K1 HB0 hz
  rw [h3] at HH
  have HC : Hid (putT T k (R, S) = if lockOkB (T.set k (R, S)) = true then (T.set k (R, S), true) else (T, false)) := rfl
  generalize T.set k (R, S) = N at *
  generalize putT T k (R, S) = C at *
  generalize hW2 : (w1.setCell ⟨nb, k * 2, none⟩ (.slice ar R.length cr)).setCell ⟨nb, k * 2 + 1, none⟩ (.slice as' S.length cs) = W2 at *
  have KO := Lib.hid (specLockOk_any _ N _ HH.out)
  by_cases hN : lockOkB N = true
  · rw [hN] at KO
    have HC1 : Hid (C = (N, true)) := by show _ = _; rw [HC.out, if_pos hN]
    have hN3 : N.length = 3 := ((lockOk_iff N).1 hN).1
    have HNL := Lib.hid (HN.out hN)
    clear hN HC HN KT
    go_wp2_with fail
    clear hW2
    refine KO.out.mono ?_; rintro e w3 ⟨rfl, hb3⟩
    have HB3 := Lib.hid (HBS.out.trans (hb3.mono HBS.out.size))
    have K2 := Lib.hid (l4Copy_any _ N w3 (HH.out.keep hb3) (by omega) HNL.out)
    clear x1 x2 x3 x4 y1 y2 KO HH HBS hb3
    go_wp2_with fail
    refine K2.out.mono ?_; rintro e w4 ⟨v4, rfl, ht4, hb4⟩
    have T4 := Lib.hid (ht4.out.wide (lo' := w.heap.size) HB3.out.size)
    have HB4 := Lib.hid (HB3.out.trans (hb4.mono HB3.out.size))
    go_wp2
    rw [HC1.out]
    exact bodyPost_ret (v := .tuple #[v4, .bool true]) (by simp [results, Try.results69, go_sem]) rfl ⟨v4, rfl, T4, HB4.out⟩
  · have hN0 : lockOkB N = false := by simpa using hN
    rw [hN0] at KO
    have HC1 : Hid (C = (T, false)) := by show _ = _; rw [HC.out, if_neg hN]
    clear hN hN0 HC HN
    go_wp2_with fail
    clear hW2
    refine KO.out.mono ?_; rintro e w3 ⟨rfl, hb3⟩
    have HB3 := Lib.hid (HBS.out.trans (hb3.mono HBS.out.size))
    have K2 := Lib.hid (KT.out w3 (HD.out.keep HB3.out))
    clear x1 x2 x3 x4 y1 y2 KO HH HBS hb3 KT
    go_wp2_with fail
    refine K2.out.mono ?_; rintro e w4 ⟨v4, rfl, ht4, hb4⟩
    have T4 := Lib.hid (ht4.out.wide (lo' := w.heap.size) HB3.out.size)
    have HB4 := Lib.hid (HB3.out.trans (hb4.mono HB3.out.size))
    go_wp2
    rw [HC1.out]
    exact bodyPost_ret (v := .tuple #[v4, .bool false]) (by simp [results, Try.results69, go_sem]) rfl ⟨v4, rfl, T4, HB4.out⟩

end Go.Proofs.Yteabigobnjebaaa
