/-
  Hold.modes: what one may do at each position, as an ordered list of the call's own.
  Plain facts: a table is one just if nobody stands in the way of what each may write.
-/
import Derived.Test.YtfifimdaepebeaaChg
import Derived.Test.YtfifimdaepebeaaToHold
import Derived.Test.YtfifimdaepebeaaSpots
import Derived.Shelf.Abstract
import Derived.Test.YtfifimdaepebeaaLBars
namespace Go.Proofs.Ytfifimdaepebeaa
open Go.RowKit

theorem inB_take (L : List Rng) (k : Nat) (h : k < L.length) (i : Int) : inB (L.take (k + 1)) i = (inB (L.take k) i || (decide ((L.getD k (0, 0)).1 ≤ i) && decide (i < (L.getD k (0, 0)).2))) := by
  have hg : L.getD k (0, 0) = L[k] := by rw [List.getD_eq_getElem?_getD, List.getElem?_eq_getElem h]; rfl
  rw [hg, List.take_add_one, List.getElem?_eq_getElem h]
  unfold inB
  rw [Option.toList_some, List.any_append]
  simp only [List.any_cons, List.any_nil, Bool.or_false]

/-- An ordered list that reads as the mode f at each position. -/
def Modes (R : List RunT) (f : Int → Int) : Prop := chn 0 R 48 ∧ ∀ i, 0 ≤ i → i < 48 → vl R i = f i
theorem Modes.congr {R : List RunT} {f g : Int → Int} (h : Modes R f) (e : ∀ i, 0 ≤ i → i < 48 → f i = g i) : Modes R g := ⟨h.1, fun i h0 h1 => (h.2 i h0 h1).trans (e i h0 h1)⟩
theorem Modes.ch {R : List RunT} {f : Int → Int} {lo hi : Int} {g : Int → Int} (h : Modes R f) (hlh : lo < hi) : Modes (chR lo hi g R) (fun i => if lo ≤ i ∧ i < hi then g (f i) else f i) :=
  ⟨chn_ch h.1, fun i h0 h1 => by rw [vl_ch h.1 hlh (by omega) (by omega) h0 h1, h.2 i h0 h1]⟩
theorem Modes.len {R : List RunT} {f : Int → Int} (h : Modes R f) : R.length ≤ 48 := by have := chn_len R 0 48 h.1; omega
theorem modes_every : Modes [(0, 48, 0)] (fun _ => 0) := ⟨⟨rfl, by decide, rfl⟩, fun i _ h1 => if_pos h1⟩

def mdR (L : List Rng) (k : Nat) (i : Int) : Int := if inB (L.take k) i = true then 1 else 0
def mdW (L M : List Rng) (k : Nat) (i : Int) : Int := if inB (M.take k) i = true then 2 else if inB L i = true then 1 else 0
theorem mdR_step {L : List Rng} {k : Nat} {R : List RunT} (h : k < L.length) (hm : Modes R (mdR L k)) (hs : spanOkB (L.getD k (0, 0)).1 (L.getD k (0, 0)).2 = true) : Modes (chR (L.getD k (0, 0)).1 (L.getD k (0, 0)).2 (fun x => mx x 1) R) (mdR L (k + 1)) := by
  have hs' := spanOkB_iff.1 hs
  refine (hm.ch hs'.2.1).congr fun i _ _ => ?_
  unfold mdR
  rw [inB_take L k h]
  by_cases h1 : inB (L.take k) i = true
  · rw [h1]; simp [mx]
  · replace h1 : inB (L.take k) i = false := by simpa using h1
    rw [h1]
    by_cases h2 : (L.getD k (0, 0)).1 ≤ i ∧ i < (L.getD k (0, 0)).2
    · rw [if_pos h2, decide_eq_true h2.1, decide_eq_true h2.2]; simp [mx]
    · rw [if_neg h2]
      have : (decide ((L.getD k (0, 0)).1 ≤ i) && decide (i < (L.getD k (0, 0)).2)) = false := by
        rw [Bool.and_eq_false_iff, decide_eq_false_iff_not, decide_eq_false_iff_not]; omega
      rw [this]; rfl
theorem mdW_step {L M : List Rng} {k : Nat} {R : List RunT} (h : k < M.length) (hm : Modes R (mdW L M k)) (hs : spanOkB (M.getD k (0, 0)).1 (M.getD k (0, 0)).2 = true) : Modes (chR (M.getD k (0, 0)).1 (M.getD k (0, 0)).2 (fun x => mx x 2) R) (mdW L M (k + 1)) := by
  have hs' := spanOkB_iff.1 hs
  refine (hm.ch hs'.2.1).congr fun i _ _ => ?_
  unfold mdW
  rw [inB_take M k h]
  by_cases h1 : inB (M.take k) i = true
  · rw [h1]; simp [mx]
  · replace h1 : inB (M.take k) i = false := by simpa using h1
    rw [h1]
    by_cases h2 : (M.getD k (0, 0)).1 ≤ i ∧ i < (M.getD k (0, 0)).2
    · rw [if_pos h2, decide_eq_true h2.1, decide_eq_true h2.2]
      cases inB L i <;> simp [mx]
    · rw [if_neg h2]
      have : (decide ((M.getD k (0, 0)).1 ≤ i) && decide (i < (M.getD k (0, 0)).2)) = false := by
        rw [Bool.and_eq_false_iff, decide_eq_false_iff_not, decide_eq_false_iff_not]; omega
      rw [this]; rfl

theorem Spn.at {w : World} {a : Option Addr} {n cap : Nat} {L : List Rng} (h : Spn w (.slice a n cap) L) {k : Nat} (hk : k < L.length) :
    ∃ b off, a = some ⟨b, off, none⟩ ∧ w.cell? ⟨b, off + k * 2, none⟩ = some (.int .i64 (L.getD k (0, 0)).1) ∧ w.cell? ⟨b, off + k * 2 + 1, none⟩ = some (.int .i64 (L.getD k (0, 0)).2) ∧ L.length ≤ cap ∧ cap ≤ 9223372036854775807 := by
  obtain ⟨a', cap', e, hl, hm, hc⟩ := h
  injection e with e1 e2 e3
  subst e1 e2 e3
  unfold maxLen at hm
  obtain ⟨b, off, rfl, hcc⟩ := hc (fun e => by subst e; simp at hk)
  exact ⟨b, off, rfl, (hcc k hk).1, (hcc k hk).2, hl, by omega⟩

/-- What modes leaves where a hold is one. -/
def MdYes (w : World) (h : HoldT) (e : Ending) (w' : World) : Prop :=
  ∃ g cap R, e = .returned (.tuple #[.slice (some ⟨g, 0, none⟩) R.length cap, .bool true]) ∧ OwnAt w' g cap R ∧ w.heap.size ≤ g ∧ Modes R (mfn h) ∧ Below w.heap.size w w'
def MdNo (w : World) (e : Ending) (w' : World) : Prop := e = .returned (.tuple #[.slice none 0 0, .bool false]) ∧ Below w.heap.size w w'
def okH (h : HoldT) : Bool := spansOkB h.1 && (spansOkB h.2 && clrB h.1 h.2)

theorem InsAt.below {a w : World} {g : Nat} {R : List RunT} {e : Ending} {w' : World} (h : InsAt w g R e w') (hb : Below a.heap.size a w) (hg : a.heap.size ≤ g) :
    ∃ g' cap', e = .returned (.slice (some ⟨g', 0, none⟩) R.length cap') ∧ OwnAt w' g' cap' R ∧ a.heap.size ≤ g' ∧ Below a.heap.size a w' := by
  obtain ⟨g', cap', he, ho, hgr, hn⟩ := h
  refine ⟨g', cap', he, ho, ?_, hb.grown hgr hb.size (fun k e => by injection e with e; omega)⟩
  rcases hn with hn | hn
  · omega
  · exact Nat.le_trans hb.size hn

theorem leastF (m : Int) : (∀ (a b : Value) (W : World), (callFunc 45 #[a, b]).run Try.prog W = .ok (.enter 45 #[a, b]) W) ∧
    ∀ (x : Int) (W : World), Calls Try.prog 45 #[.int .i64 m, .int .i64 x] W fun e w' => e = .returned (.int .i64 (mx x m)) ∧ W = w' :=
  ⟨fun a b W => enters_of Try.func45 (by kernel_rfl) rfl #[a, b] W, fun x W => atLeast_any m x W⟩

set_option maxRecDepth 100000 in
set_option maxHeartbeats 4000000 in
theorem modes_no (r s : Value) (L M : List Rng) (w : World) (hr : Spn w r L) (hs : Spn w s M) (hno : okH (L, M) = false) :
    Calls Try.prog 80 #[.agg #[r, s]] w (MdNo w) := by
  obtain ⟨a, cap, rfl⟩ := hr.form
  obtain ⟨b, cap2, rfl⟩ := hs.form
  obtain ⟨W0, hW0⟩ : ∃ W0, w.alloc (.cells #[.slice a L.length cap, .slice b M.length cap2] 48) = W0 := ⟨_, rfl⟩
  have hal : Below w.heap.size w W0 := by rw [← hW0]; exact (Below.refl _ _).alloc (Nat.le_refl _) _
  have B0 : BoxV W0 w.heap.size (.slice a L.length cap) (.slice b M.length cap2) := by rw [← hW0]; exact new_boxV w _ _ _
  have hsz : W0.heap.size = w.heap.size + 1 := by rw [← hW0]; simp
  have hr0 := hr.keep hal
  have hs0 := hs.keep hal
  have d1 : ∀ x : BelowOf W0, x.w.cell? ⟨w.heap.size, 0, none⟩ = some (.slice a L.length cap) := fun x => x.cell B0.1
  have d2 : ∀ x : BelowOf W0, x.w.cell? ⟨w.heap.size, 1, none⟩ = some (.slice b M.length cap2) := fun x => x.cell B0.2.1
  have K1 := Lib.hid (fun x : BelowOf W0 => implSpansOk_any _ L x.w (hr0.keep x.below))
  have K2 := Lib.hid (fun x : BelowOf W0 => implSpansOk_any _ M x.w (hs0.keep x.below))
  have Hal := Lib.hid hal
  clear B0 hal hr hs
  by_cases q1 : spansOkB L = true
  · rw [q1] at K1
    by_cases q2 : spansOkB M = true
    · rw [q2] at K2
      have a1 := spansOkB_all q1
      have a2 := spansOkB_all q2
      have hc : clrB L M = false := by
        unfold okH at hno; simp only [q1, q2, Bool.true_and] at hno; exact hno
      have hz : sps L &&& sps M ≠ 0 := fun e => by rw [(and_iff a1 a2).1 e] at hc; cases hc
      have l1 := sps_lt L a1
      have l2 := sps_lt M a2
      have K3 := Lib.hid (fun x : BelowOf W0 => spotsOf_any _ L x.w (hr0.keep x.below) a1)
      have K4 := Lib.hid (fun x : BelowOf W0 => spotsOf_any _ M x.w (hs0.keep x.below) a2)
      have hand : bits .and .u64 ((sps L : Nat) : Int) ((sps M : Nat) : Int) = ((sps L &&& sps M : Nat) : Int) := u64_and_nat _ _ (by omega) (by omega)
      generalize sps L &&& sps M = z at *
      generalize sps L = u at *
      generalize sps M = v at *
      have hb : ((z : Int) != 0) = true := by simp; omega
      clear a1 a2 hc hr0 hs0 hz hno
      go_enter Try.func80, Try.ntmps80
      go_wp2_with fail
      clear hW0
      refine wp_region_calm (by kernel_rfl) (by kernel_rfl) ?_
      repeat (go_big_quiet_step ((first | (go_at_call 94; with_reducible first | exact Calls.calm (K1.out _) | exact Calls.calm (K2.out _)) | (go_at_call 95; with_reducible first | exact Calls.calm (K3.out _) | exact Calls.calm (K4.out _)))))
      refine wpQuiet_nil ?_
      rintro _ ⟨x, rfl⟩
      have hb2 := Hal.out.trans (x.below.mono Hal.out.size)
      clear d1 d2
      go_wp2
      go_ret2
      exact ⟨rfl, hb2⟩
    · replace q2 : spansOkB M = false := by simpa using q2
      rw [q2] at K2
      clear hr0 hs0 hno
      go_enter Try.func80, Try.ntmps80
      go_wp2_with fail
      clear hW0
      refine wp_region_calm (by kernel_rfl) (by kernel_rfl) ?_
      repeat (go_big_quiet_step ((first | (go_at_call 94; with_reducible first | exact Calls.calm (K1.out _) | exact Calls.calm (K2.out _)))))
      refine wpQuiet_nil ?_
      rintro _ ⟨x, rfl⟩
      have hb2 := Hal.out.trans (x.below.mono Hal.out.size)
      clear d1 d2
      go_wp2
      go_ret2
      exact ⟨rfl, hb2⟩
  · replace q1 : spansOkB L = false := by simpa using q1
    rw [q1] at K1
    clear hr0 hs0 hno
    go_enter Try.func80, Try.ntmps80
    go_wp2_with fail
    clear hW0
    refine wp_region_calm (by kernel_rfl) (by kernel_rfl) ?_
    repeat (go_big_quiet_step ((first | (go_at_call 94; with_reducible first | exact Calls.calm (K1.out _)))))
    refine wpQuiet_nil ?_
    rintro _ ⟨x, rfl⟩
    have hb2 := Hal.out.trans (x.below.mono Hal.out.size)
    clear d1 d2
    go_wp2
    go_ret2
    exact ⟨rfl, hb2⟩

set_option maxRecDepth 100000 in
set_option maxHeartbeats 4000000 in
theorem modes_yes (r s : Value) (L M : List Rng) (w : World) (hr : Spn w r L) (hs : Spn w s M) (hyes : okH (L, M) = true) :
    Calls Try.prog 80 #[.agg #[r, s]] w (MdYes w (L, M)) := by
  obtain ⟨a, cap, rfl⟩ := hr.form
  obtain ⟨b, cap2, rfl⟩ := hs.form
  obtain ⟨W0, hW0⟩ : ∃ W0, w.alloc (.cells #[.slice a L.length cap, .slice b M.length cap2] 48) = W0 := ⟨_, rfl⟩
  have hal : Below w.heap.size w W0 := by rw [← hW0]; exact (Below.refl _ _).alloc (Nat.le_refl _) _
  have B0 : BoxV W0 w.heap.size (.slice a L.length cap) (.slice b M.length cap2) := by rw [← hW0]; exact new_boxV w _ _ _
  have hsz : W0.heap.size = w.heap.size + 1 := by rw [← hW0]; simp
  have hr0 := hr.keep hal
  have hs0 := hs.keep hal
  have d1 : ∀ x : BelowOf W0, x.w.cell? ⟨w.heap.size, 0, none⟩ = some (.slice a L.length cap) := fun x => x.cell B0.1
  have d2 : ∀ x : BelowOf W0, x.w.cell? ⟨w.heap.size, 1, none⟩ = some (.slice b M.length cap2) := fun x => x.cell B0.2.1
  have K1 := Lib.hid (fun x : BelowOf W0 => implSpansOk_any _ L x.w (hr0.keep x.below))
  have K2 := Lib.hid (fun x : BelowOf W0 => implSpansOk_any _ M x.w (hs0.keep x.below))
  have hq : spansOkB L = true ∧ spansOkB M = true ∧ clrB L M = true := by
    unfold okH at hyes; simpa using hyes
  obtain ⟨q1, q2, q3⟩ := hq
  rw [q1] at K1
  rw [q2] at K2
  have a1 := spansOkB_all q1
  have a2 := spansOkB_all q2
  have hz := (and_iff a1 a2).2 q3
  have l1 := sps_lt L a1
  have l2 := sps_lt M a2
  have K3 := Lib.hid (fun x : BelowOf W0 => spotsOf_any _ L x.w (hr0.keep x.below) a1)
  have K4 := Lib.hid (fun x : BelowOf W0 => spotsOf_any _ M x.w (hs0.keep x.below) a2)
  have hand : bits .and .u64 ((sps L : Nat) : Int) ((sps M : Nat) : Int) = ((sps L &&& sps M : Nat) : Int) := u64_and_nat _ _ (by omega) (by omega)
  rw [hz] at hand
  generalize sps L = u at *
  generalize sps M = v at *
  have hb : (((0 : Nat) : Int) != 0) = false := rfl
  have HR := Lib.hid hr
  have HS := Lib.hid hs
  have HB0 := Lib.hid B0
  have Hal := Lib.hid hal
  have A1 : Hid (∀ k, k < L.length → spanOkB (L.getD k (0, 0)).1 (L.getD k (0, 0)).2 = true) := fun k hk => a1 _ (by rw [List.getD_eq_getElem?_getD, List.getElem?_eq_getElem hk]; exact List.getElem_mem hk)
  have A2 : Hid (∀ k, k < M.length → spanOkB (M.getD k (0, 0)).1 (M.getD k (0, 0)).2 = true) := fun k hk => a2 _ (by rw [List.getD_eq_getElem?_getD, List.getElem?_eq_getElem hk]; exact List.getElem_mem hk)
  have hL := hr.len
  have hM := hs.len
  clear a1 a2 hr0 hs0 hz hyes hr hs B0 hal q1 q2 q3
  go_enter Try.func80, Try.ntmps80
  go_wp2_with fail
  clear hW0
  refine wp_region_calm (by kernel_rfl) (by kernel_rfl) ?_
  repeat (go_big_quiet_step ((first | (go_at_call 94; with_reducible first | exact Calls.calm (K1.out _) | exact Calls.calm (K2.out _)) | (go_at_call 95; with_reducible first | exact Calls.calm (K3.out _) | exact Calls.calm (K4.out _)))))
  refine wpQuiet_nil ?_
  rintro _ ⟨x, rfl⟩
  have hb2 := Lib.hid (Hal.out.trans (x.below.mono Hal.out.size))
  have HX := Lib.hid (HB0.out.keep x.below)
  obtain ⟨y1, y2, -, -⟩ := HX.out
  have hsx := x.below.size
  clear d1 d2 K1 K2 K3 K4 hand hb
  go_wp2_with fail
  refine (everywhere_any 0 _).mono ?_; rintro e w1 ⟨rfl, rfl⟩
  have HO1 := Lib.hid (own_every 0 x.w)
  have e1 := Lib.hid (x.below.alloc (o := .cells #[.int .i64 0, .int .i64 48, .int .i64 0] 101) x.below.size)
  have hg1 : w.heap.size + 1 ≤ x.w.heap.size := by omega
  obtain ⟨g1, hg1e⟩ : ∃ g1, x.w.heap.size = g1 := ⟨_, rfl⟩
  rw [hg1e] at HO1 hg1
  obtain ⟨w1, hw1⟩ : ∃ w1, x.w.alloc (.cells #[.int .i64 0, .int .i64 48, .int .i64 0] 101) = w1 := ⟨_, rfl⟩
  rw [hw1] at HO1 e1
  clear y1 y2 hb2 HX
  obtain ⟨y1, y2, -, -⟩ := HB0.out.keep e1.out
  have HD0 : Hid (Modes [(0, 48, 0)] (mdR L 0)) := modes_every.congr fun i _ _ => by unfold mdR; simp [inB]
  go_wp2_with fail
  clear hg1e hw1 y1 y2
  go_loopg [4, 33] L.length (fun q s4 s33 wr => ∃ (k g cp : Nat) (R : List RunT), q = L.length - k ∧ k ≤ L.length ∧ s4 = .slice (some ⟨g, 0, none⟩) R.length cp ∧ s33 = .int .i64 k ∧ Hid (OwnAt wr g cp R) ∧ w.heap.size + 1 ≤ g ∧ Hid (Modes R (mdR L k)) ∧ Hid (Below W0.heap.size W0 wr))
  case atStart => exact ⟨0, g1, 1, [(0, 48, 0)], rfl, Nat.zero_le _, rfl, rfl, HO1, hg1, HD0, e1⟩
  case round =>
    obtain ⟨k, g, cp, R, rfl, hk, rfl, rfl, HO, hg, HD, HB⟩ := hrel
    have hbw := Lib.hid (Hal.out.trans (HB.out.mono Hal.out.size))
    by_cases hlt : k < L.length
    · obtain ⟨b', off, rfl, c1, c2, hcp⟩ := (HR.out.keep hbw.out).at hlt
      have A := A1.out k hlt
      have HDn := Lib.hid (mdR_step hlt HD.out A)
      have hRl := HD.out.len
      generalize L.getD k (0, 0) = t at *
      obtain ⟨lo, hi⟩ := t
      simp only at c1 c2 A HDn
      have KK := Lib.hid (change_any 45 (fun x => mx x 1) 1 (leastF 1).1 (leastF 1).2 g cp R lo hi _ (HO.out.alloc (o := .cells #[.int .i64 lo, .int .i64 hi] 25)) (by omega))
      have hba := Lib.hid (HB.out.alloc (o := .cells #[.int .i64 lo, .int .i64 hi] 25) HB.out.size)
      clear A
      go_wp2_with fail
      refine KK.out.mono ?_; rintro e w2 hi2
      obtain ⟨g', cp', rfl, ho', hg', hb'⟩ := hi2.below hba.out (by omega)
      go_wp2
      go_roundg (L.length - (k + 1))
      case measure => omega
      case rel => exact ⟨k + 1, g', cp', _, rfl, by omega, rfl, by go_num, ho', by omega, HDn, hb'⟩
    · obtain rfl : k = L.length := by omega
      obtain ⟨y1, y2, -, -⟩ := HB0.out.keep HB.out
      have HD1 : Hid (Modes R (mdW L M 0)) := HD.out.congr fun i _ _ => by
        unfold mdR mdW
        rw [List.take_length]
        simp [inB]
      go_wp2_with fail
      clear y1 y2 hbw
      clear A1
      go_loopg [4, 45] M.length (fun q s4 s45 wr => ∃ (k g cp : Nat) (R : List RunT), q = M.length - k ∧ k ≤ M.length ∧ s4 = .slice (some ⟨g, 0, none⟩) R.length cp ∧ s45 = .int .i64 k ∧ Hid (OwnAt wr g cp R) ∧ w.heap.size + 1 ≤ g ∧ Hid (Modes R (mdW L M k)) ∧ Hid (Below W0.heap.size W0 wr))
      case atStart => exact ⟨0, g, cp, R, rfl, Nat.zero_le _, rfl, rfl, HO, hg, HD1, HB⟩
      case round =>
        obtain ⟨k, g, cp, R, rfl, hk, rfl, rfl, HO, hg, HD, HB⟩ := hrel
        have hbw := Lib.hid (Hal.out.trans (HB.out.mono Hal.out.size))
        by_cases hlt : k < M.length
        · obtain ⟨b', off, rfl, c1, c2, hcp⟩ := (HS.out.keep hbw.out).at hlt
          have A := A2.out k hlt
          have HDn := Lib.hid (mdW_step hlt HD.out A)
          have hRl := HD.out.len
          generalize M.getD k (0, 0) = t at *
          obtain ⟨lo, hi⟩ := t
          simp only at c1 c2 A HDn
          have KK := Lib.hid (change_any 45 (fun x => mx x 2) 2 (leastF 2).1 (leastF 2).2 g cp R lo hi _ (HO.out.alloc (o := .cells #[.int .i64 lo, .int .i64 hi] 25)) (by omega))
          have hba := Lib.hid (HB.out.alloc (o := .cells #[.int .i64 lo, .int .i64 hi] 25) HB.out.size)
          clear A
          go_wp2_with fail
          refine KK.out.mono ?_; rintro e w2 hi2
          obtain ⟨g', cp', rfl, ho', hg', hb'⟩ := hi2.below hba.out (by omega)
          go_wp2
          go_roundg (M.length - (k + 1))
          case measure => omega
          case rel => exact ⟨k + 1, g', cp', _, rfl, by omega, rfl, by go_num, ho', by omega, HDn, hb'⟩
        · obtain rfl : k = M.length := by omega
          have HD1 : Hid (Modes R (mfn (L, M))) := HD.out.congr fun i _ _ => by
            unfold mdW mfn
            rw [List.take_length]
          go_wp2
          go_ret2
          exact ⟨g, cp, R, rfl, HO.out, by omega, HD1.out, hbw.out⟩

end Go.Proofs.Ytfifimdaepebeaa

namespace Go.Proofs.Ytfifimdaepebeaa

theorem anyB_any (R : List RunT) (want lo hi : Int) : anyB (vsR lo hi R) want = R.any fun r => mtgB lo hi r && brs r.2.2 want := by
  unfold anyB vsR
  rw [List.any_map, List.any_filter]
  rfl

theorem brOf_iff {R : List RunT} {f : Int → Int} (hm : Modes R f) {want lo hi : Int} (hs : spanOkB lo hi = true) : anyB (vsR lo hi R) want = true ↔ ∃ p : Int, lo ≤ p ∧ p < hi ∧ brs (f p) want = true := by
  have hs' := spanOkB_iff.1 hs
  rw [anyB_any, any_pos (fun x => brs x want) lo hi hs'.2.1 R 0 48 hm.1 (by omega) (by omega)]
  constructor
  · rintro ⟨i, h0, h1, h2, h3, h4⟩
    exact ⟨i, h2, h3, by rw [← hm.2 i h0 h1]; exact h4⟩
  · rintro ⟨i, h2, h3, h4⟩
    exact ⟨i, by omega, by omega, h2, h3, by rw [hm.2 i (by omega) (by omega)]; exact h4⟩

theorem brK_nil (who : Int) (b : Nat → Bool) : ∀ m, brK who b m = [] ↔ ∀ i, i < m → (i : Int) ≠ who → b i = false
  | 0 => by simp [brK]
  | m + 1 => by
    unfold brK
    constructor
    · intro h i hi hne
      split at h
      · simp at h
      · rename_i hc
        by_cases e : i = m
        · subst e
          cases hb : b i with
          | false => rfl
          | true => exact absurd ⟨hne, hb⟩ hc
        · exact (brK_nil who b m).1 h i (by omega) hne
    · intro h
      rw [if_neg (fun c => by rw [h m (by omega) c.1] at c; cases c.2)]
      exact (brK_nil who b m).2 fun i hi hne => h i (by omega) hne

theorem brs_two {h : HoldT} {p : Int} : brs (mfn h p) 2 = true ↔ (inB h.2 p = true ∨ inB h.1 p = true) := by
  unfold brs mfn
  by_cases h2 : inB h.2 p = true
  · simp [h2]
  · by_cases h1 : inB h.1 p = true
    · simp [h1, h2]
    · simp [h1, h2]

theorem lockOk_iff (T : List HoldT) : lockOkB T = true ↔ T.length = 3 ∧ (∀ i, i < 3 → okH (T.getD i hd0) = true) ∧ ∀ i, i < 3 → ∀ k, k < 3 → k ≠ i → clrB (T.getD i hd0).2 (T.getD k hd0).2 = true ∧ clrB (T.getD i hd0).2 (T.getD k hd0).1 = true := by
  unfold lockOkB
  simp only [Bool.and_eq_true, decide_eq_true_eq, allN_iff, crsB, Bool.or_eq_true]
  constructor
  · rintro ⟨h1, h2⟩
    exact ⟨h1, fun i hi => (h2 i hi).1, fun i hi k hk hne => ((h2 i hi).2 k hk).resolve_left hne⟩
  · rintro ⟨h1, h2, h3⟩
    refine ⟨h1, fun i hi => ⟨h2 i hi, fun k hk => ?_⟩⟩
    by_cases e : k = i
    · exact .inl e
    · exact .inr (h3 i hi k hk e)

theorem okH_iff {h : HoldT} : okH h = true ↔ spansOkB h.1 = true ∧ spansOkB h.2 = true ∧ clrB h.1 h.2 = true := by unfold okH; simp

theorem rows_ok (T : List HoldT) (hT : T.length = 3) (hok : ∀ i, i < 3 → okH (T.getD i hd0) = true) (Rs : Nat → List RunT) (hm : ∀ i, i < 3 → Modes (Rs i) (mfn (T.getD i hd0))) :
    lockOkB T = true ↔ ∀ i, i < 3 → ∀ s ∈ (T.getD i hd0).2, brK (i : Int) (brOf Rs 2 s.1 s.2) 3 = [] := by
  rw [lockOk_iff]
  have hv : ∀ i, i < 3 → (∀ s ∈ (T.getD i hd0).1, spanOkB s.1 s.2 = true) ∧ (∀ s ∈ (T.getD i hd0).2, spanOkB s.1 s.2 = true) := fun i hi => by
    have := okH_iff.1 (hok i hi)
    exact ⟨spansOkB_all this.1, spansOkB_all this.2.1⟩
  constructor
  · rintro ⟨-, -, h⟩ i hi s hs
    rw [brK_nil]
    intro k hk hne
    have hne' : k ≠ i := fun e => hne (by rw [e])
    obtain ⟨c1, c2⟩ := h i hi k hk hne'
    have d1 := (clrB_iff (hv i hi).2 (hv k hk).2).1 c1
    have d2 := (clrB_iff (hv i hi).2 (hv k hk).1).1 c2
    rw [Bool.eq_false_iff]
    intro c
    obtain ⟨p, p1, p2, p3⟩ := (brOf_iff (hm k hk) ((hv i hi).2 s hs)).1 c
    have hin : inB (T.getD i hd0).2 p = true := inB_iff.2 ⟨s, hs, p1, p2⟩
    rcases brs_two.1 p3 with e | e
    · exact d1 p ⟨hin, e⟩
    · exact d2 p ⟨hin, e⟩
  · intro h
    refine ⟨hT, hok, fun i hi k hk hne => ?_⟩
    have key : ∀ p : Int, inB (T.getD i hd0).2 p = true → ¬ (inB (T.getD k hd0).2 p = true ∨ inB (T.getD k hd0).1 p = true) := fun p hp hc => by
      obtain ⟨s, hs, s1, s2⟩ := inB_iff.1 hp
      have := (brK_nil _ _ _).1 (h i hi s hs) k hk (by omega)
      have h2 : brOf Rs 2 s.1 s.2 k = true := (brOf_iff (hm k hk) ((hv i hi).2 s hs)).2 ⟨p, s1, s2, brs_two.2 hc⟩
      rw [h2] at this
      cases this
    exact ⟨(clrB_iff (hv i hi).2 (hv k hk).2).2 fun p ⟨a, b⟩ => key p a (.inl b), (clrB_iff (hv i hi).2 (hv k hk).1).2 fun p ⟨a, b⟩ => key p a (.inr b)⟩

end Go.Proofs.Ytfifimdaepebeaa
