/-
  Draws of tables alone, and of two tables: DrawLockOk, DrawLockSame.
-/
import Derived.Test.YtfifimdaepebeaaDrawLk2
namespace Go.Proofs.Ytfifimdaepebeaa
open Go.RowKit

/-- What is drawn: a table. -/
def Ask1 (w : World) (e : Ending) (w' : World) : Prop :=
  ∃ (v : Value) (T : List HoldT), e = .returned v ∧ Hid (∀ w1, Btw 0 w.heap.size w' w1 → Hds w1 v T) ∧ Below w.heap.size w w'

theorem below_read {w w1 w2 : World} {rb : Nat} (h : Below w.heap.size w w1) (hg : w1.grownBy w2 (some rb)) (hrb : w.heap.size ≤ rb) : Below w.heap.size w w2 :=
  h.trans ⟨hg.os, hg.tape, hg.output, hg.size, fun i hi => hg.block i (Nat.lt_of_lt_of_le hi h.size) (fun e => by injection e with e; omega)⟩

set_option maxHeartbeats 2000000 in
theorem drawLockOk_any (v : Value) (len : Nat) (w : World) (h : Byt w v len) :
    Calls Try.prog 22 #[v] w (Ask1 w) := by
  have K := Lib.hid (open_any v len w h)
  clear h
  go_enter Try.func22, Try.ntmps22
  go_wp2_with fail
  refine K.out.mono ?_; rintro e w1 ⟨rb, rfl, hrb, hr1, hb1⟩
  have HR1 := Lib.hid hr1
  have HB1 := Lib.hid hb1
  clear hr1 hb1 K
  go_wp2_with fail
  refine (l4Some_any rb 0 _ HR1.out (by omega)).mono ?_; rintro e w2 ⟨v2, T2, q2, rfl, hok, ht2, hr2, hq2, hg2⟩
  have HD2 := Lib.hid ht2.out.hds
  have HR2 := Lib.hid hr2
  have HB2 := Lib.hid (below_read HB1.out hg2 hrb)
  clear ht2 hr2 hg2 HR1 HB1
  go_wp2_with fail
  refine (l4Bent_any rb q2 v2 T2 _ HR2.out (by omega) HD2.out hok).mono ?_; rintro e w3 ⟨v3, T3, q3, rfl, hd3, hT4, hL3, hr3, hq3, hg3⟩
  have HB3 := Lib.hid (below_read HB2.out hg3 hrb)
  have HD3 := Lib.hid (fun wf (hb : Btw 0 w.heap.size w3 wf) => hd3.out wf (hb.wideM (Nat.le_refl _) HB2.out.size))
  clear hd3 hr3 hg3 HR2 HD2 HB2
  go_wp2
  go_ret
  exact ⟨v3, T3, rfl, HD3, HB3.out⟩

/-- What is drawn: two tables. -/
def AskS (w : World) (e : Ending) (w' : World) : Prop :=
  ∃ (v u : Value) (T U : List HoldT), e = .returned (.tuple #[v, u]) ∧ Hid (Hds w' v T) ∧ Hid (Hds w' u U) ∧ Below w.heap.size w w'

set_option maxHeartbeats 4000000 in
theorem drawLockSame_any (v : Value) (len : Nat) (w : World) (h : Byt w v len) :
    Calls Try.prog 38 #[v] w (AskS w) := by
  have K := Lib.hid (open_any v len w h)
  clear h
  go_enter Try.func38, Try.ntmps38
  go_wp2_with fail
  refine K.out.mono ?_; rintro e w1 ⟨rb, rfl, hrb, hr1, hb1⟩
  have HR1 := Lib.hid hr1
  have HB1 := Lib.hid hb1
  have hrl := hr1.lt
  clear hr1 hb1 K
  go_wp2_with fail
  refine (l4Some_any rb 0 _ HR1.out (by omega)).mono ?_; rintro e w2 ⟨v2, T2, q2, rfl, hok, ht2, hr2, hq2, hg2⟩
  have HT2 := Lib.hid ht2.out
  have HR2 := Lib.hid hr2
  have HB2 := Lib.hid (below_read HB1.out hg2 hrb)
  clear ht2 hr2 hg2 HR1 HB1
  go_wp2_with fail
  refine (pick_any rb q2 2 _ HR2.out (by omega) (by omega) (by omega)).mono ?_; rintro e w3 ⟨c, rfl, -, -, hr3, hg3⟩
  have HT3 := Lib.hid (HT2.out.rdL hg3 hrl)
  have HR3 := Lib.hid hr3
  have HB3 := Lib.hid (below_read HB2.out hg3 hrb)
  clear hr3 hg3 HR2 HB2 HT2
  by_cases e0 : c = 0
  · subst e0
    go_wp2_with fail
    refine (pick_any rb (q2 + 1) 3 _ HR3.out (by omega) (by omega) (by omega)).mono ?_; rintro e w4 ⟨d, rfl, -, -, hr4, hg4⟩
    have HT4 := Lib.hid (HT3.out.rdL hg4 hrl)
    have HR4 := Lib.hid hr4
    have HB4 := Lib.hid (below_read HB3.out hg4 hrb)
    clear hr4 hg4 HR3 HB3 HT3
    go_wp2_with fail
    refine (l1Span_any rb (q2 + 1 + 1) _ HR4.out (by omega)).mono ?_; rintro e w5 ⟨lo, hi, rfl, -, hr5, hg5⟩
    have HT5 := Lib.hid (HT4.out.rdL hg5 hrl).hds
    have HB5 := Lib.hid (below_read HB4.out hg5 hrb)
    clear hr5 hg5 HR4 HB4 HT4
    go_wp2_with fail
    refine (specDrop_any v2 T2 d lo hi _ HT5.out).mono ?_; rintro e w6 ⟨v6, rfl, ht6, hb6⟩
    have HT6 := Lib.hid (HT5.out.keep hb6)
    have HD6 := Lib.hid ht6.out.hds
    have HB6 := Lib.hid (HB5.out.trans (hb6.mono HB5.out.size))
    clear hb6 ht6 HB5 HT5
    go_wp2
    exact bodyPost_ret (v := .tuple #[v2, v6]) (by simp [results, Try.results38, go_sem, *]) rfl ⟨v2, v6, T2, _, rfl, HT6, HD6, HB6.out⟩
  · have d0 : (c == 0) = false := by simpa using e0
    have h3 := ((lockOk_iff T2).1 hok).1
    have HL := Lib.hid (fun i hi => lock_len hok (i := i) hi)
    have HK := Lib.hid (fun W h => l4Copy_any v2 T2 W h (by omega) HL.out)
    have HD3 := Lib.hid HT3.out.hds
    have hw3 : w.heap.size ≤ w3.heap.size := HB3.out.size
    go_wp2_with fail
    refine (HK.out _ HD3.out).mono ?_; rintro e w4 ⟨v4, rfl, ht4, hb4⟩
    have HC4 := Lib.hid ht4.out.hds
    have HT4 := Lib.hid (HT3.out.later hb4)
    have HR4 := Lib.hid (HR3.out.keep hb4)
    have HB4 := Lib.hid (HB3.out.trans (hb4.mono HB3.out.size))
    clear ht4 hb4 HR3 HB3 HT3 HD3 HK
    go_wp2_with fail
    refine (l4Bent_any rb (q2 + 1) v4 T2 _ HR4.out (by omega) HC4.out hok).mono ?_; rintro e w5 ⟨v5, T5, q5, rfl, hd5, -, -, hr5, -, hg5⟩
    have HT5 := Lib.hid (HT4.out.rdL hg5 hrl).hds
    have HD5 := Lib.hid (hd5.out _ (Btw.refl _ _ _))
    have HB5 := Lib.hid (below_read HB4.out hg5 hrb)
    clear hd5 hr5 hg5 HR4 HB4 HT4 HC4
    go_wp2
    exact bodyPost_ret (v := .tuple #[v2, v5]) (by simp [results, Try.results38, go_sem, *]) rfl ⟨v2, v5, T2, T5, rfl, HT5, HD5, HB5.out⟩

end Go.Proofs.Ytfifimdaepebeaa
