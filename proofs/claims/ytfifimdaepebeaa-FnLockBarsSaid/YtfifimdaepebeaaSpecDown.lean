/-
  spec.LockDrop.
  spec.LockDown.
-/
import Derived.Test.YtfifimdaepebeaaSpecOff
import Derived.Deep.RegionHeld3
namespace Go.Proofs.Ytfifimdaepebeaa
open Go.RowKit

set_option maxRecDepth 100000 in
set_option maxHeartbeats 8000000 in
theorem specDrop_any (v : Value) (T : List HoldT) (who lo hi : Int) (w : World) (h : Hds w v T) :
    Calls Try.prog 31 #[v, .int .i64 who, .agg #[.int .i64 lo, .int .i64 hi]] w (TbB w (chT T who lo hi (fun x => mn x 0)).1 (chT T who lo hi (fun x => mn x 0)).2) := by
  obtain ⟨W0, hW0⟩ : ∃ W0, w.alloc (.cells #[.int .i64 lo, .int .i64 hi] 25) = W0 := ⟨_, rfl⟩
  have hal : Below w.heap.size w W0 := by rw [← hW0]; exact (Below.refl _ _).alloc (Nat.le_refl _) _
  have B0 : Box2 W0 w.heap.size lo hi := by rw [← hW0]; exact new_box w lo hi 25
  have K1 := Lib.hid (specLockOk_any v T W0 (h.keep hal))
  have K2 := Lib.hid (fun W => l4Who_any who W)
  have K3 := Lib.hid (fun W => specSpanOk_any lo hi W)
  have HD := Lib.hid h
  have HBS := Lib.hid B0
  have Hal := Lib.hid hal
  have Z0 : Hid (W0.heap.size = w.heap.size + 1) := by show _ = _; rw [← hW0]; simp
  clear hal B0
  by_cases hq0 : lockOkB T = true
  · have h3 := ((lockOk_iff T).1 hq0).1
    have KP := Lib.hid (fun W hW => l4Copy_any v T W hW (by omega) (fun i hi => lock_len hq0 hi))
    rw [hq0] at K1
    by_cases hq1 : whoB who = true
    · obtain ⟨w01, w02⟩ := whoB_iff.1 hq1
      rw [hq1] at K2
      by_cases hq2 : spanOkB lo hi = true
      · obtain ⟨k, rfl⟩ : ∃ k : Nat, who = (k : Int) := ⟨who.toNat, by omega⟩
        have hk : k < 3 := by omega
        rw [hq2] at K3
        rw [chT_put hq0 hk hq2 (drop_mH (lock_okH hq0 hk) lo hi)]
        obtain ⟨a, cap, rfl, c1, c2, -⟩ := id h
        obtain ⟨b, off, r, s, rfl, e1, e2, p1, p2, -, -, -⟩ := h.at (k := k) (by omega)
        have C1 := Lib.hid (fun W (hb : Below w.heap.size w W) => l1Cut_own r _ lo hi W (p1.keep hb) hq2)
        have C2 := Lib.hid (fun W (hb : Below w.heap.size w W) => l1Cut_own s _ lo hi W (p2.keep hb) hq2)
        have KQ := Lib.hid (fun (r' s' : Value) R S W hW hr hs => l4Put_any (.slice (some ⟨b, off, none⟩) T.length cap) T k r' s' R S W hW hq0 hk hr hs)
        have HK3 : Hid (k < T.length) := by show _ < _; omega
        obtain ⟨ar, cr, rfl⟩ := p1.form
        obtain ⟨as', cs, rfl⟩ := p2.form
        generalize rg (cutF (T.getD k hd0).1 lo hi) 48 = R1 at *
        generalize rg (cutF (T.getD k hd0).2 lo hi) 48 = S1 at *
        have E1 := Lib.hid (And.intro e1 e2)
        clear hq0 hq1 hq2 h KP p1 p2 e1 e2 h3 Z0
        generalize (T.getD k hd0).1.length = n1 at *
        generalize (T.getD k hd0).2.length = n2 at *
        go_enter Try.func31, Try.ntmps31
        go_wp2_with fail
        clear hW0
        refine K1.out.mono ?_; rintro e w1 ⟨rfl, hb1⟩
        clear K1
        go_wp2_with fail
        refine (K2.out _).mono ?_; rintro e w2 ⟨rfl, hb2⟩
        have hb12 := hb1.trans (hb2.mono hb1.size)
        obtain ⟨s1, s2, -, -⟩ := HBS.out.keep hb12
        clear K2
        go_wp2_with fail
        refine (K3.out _).mono ?_; rintro e w3 ⟨rfl, hb3⟩
        have hb13 := hb12.trans (hb3.mono hb12.size)
        have hbw := Hal.out.trans (hb13.mono Hal.out.size)
        clear s1 s2 K3
        obtain ⟨s1, s2, -, -⟩ := HBS.out.keep hb13
        have e1 := cell_keep hbw E1.out.1
        have e2 := cell_keep hbw E1.out.2
        have HBW := Lib.hid hbw
        have hk3 := HK3.out
        clear hb1 hb2 hb3 hb12 hb13 hbw
        go_wp2_with fail
        go_region_held3 (fun w' => w'.cell? ⟨b, off + k * 2, none⟩ = some (.slice ar n1 cr) ∧ w'.cell? ⟨b, off + k * 2 + 1, none⟩ = some (.slice as' n2 cs) ∧ w'.cell? ⟨w.heap.size, 0, none⟩ = some (.int .i64 lo) ∧ w'.cell? ⟨w.heap.size, 1, none⟩ = some (.int .i64 hi))
          (refine ⟨?_, ?_, ?_, ?_⟩ <;> first | (go_keep; done) | (refine cell_keep hb ?_; first | (go_keep; done) | (go_simp; done) | assumption))
          (first
            | (have _t := tok2; go_at_call 49; refine (KQ.out _ _ R1 S1 _ (HD.out.keep HBY.out) HR2.out HS2.out).mono ?_; rintro e w6 ⟨v6, rfl, ho6, hb⟩)
            | (have _t := tok1; go_at_call 50; refine (C2.out _ HBX.out).mono ?_; rintro e w5 ⟨g2, cap2, rfl, hg2, hs2, hb⟩; have HBY := Lib.hid (HBX.out.trans (hb.mono HBX.out.size)); have HS2 := Lib.hid (spn_of (mrow_own hs2.out).1 (mrow_own hs2.out).2); have HR2 := Lib.hid (HR1.out.keep hb); have tok2 : True := trivial; clear hs2)
            | (go_at_call 50; refine (C1.out _ HBW.out.drew).mono ?_; rintro e w4 ⟨g1, cap1, rfl, hg1, hs1, hb⟩; have HBX := Lib.hid (HBW.out.drew.trans (hb.mono HBW.out.drew.size)); have HR1 := Lib.hid (spn_of (mrow_own hs1.out).1 (mrow_own hs1.out).2); have tok1 : True := trivial; clear hs1))
        have H9 := Lib.hid (ho6.out.wide (lo' := w.heap.size) HBY.out.size)
        have HB9 := Lib.hid (HBY.out.trans (hb.mono HBY.out.size))
        clear ho6 s1 s2 e1 e2
        go_wp2
        exact bodyPost_ret (v := .tuple #[v6, .bool (putT T k (R1, S1)).2]) (by simp [results, Try.results31, go_sem]) rfl ⟨v6, rfl, H9, HB9.out⟩
      · have HC1 : Hid (chT T who lo hi (fun x => mn x 0) = (T, false)) := by show _ = _; unfold chT; rw [if_pos hq0, if_neg (by simp [hq1, hq2])]
        replace hq2 : spanOkB lo hi = false := by simpa using hq2
        rw [hq2] at K3
        clear hq0 hq1 hq2 h h3
        go_enter Try.func31, Try.ntmps31
        go_wp2_with fail
        clear hW0
        refine K1.out.mono ?_; rintro e w1 ⟨rfl, hb1⟩
        clear K1
        go_wp2_with fail
        refine (K2.out _).mono ?_; rintro e w2 ⟨rfl, hb2⟩
        have hb12 := hb1.trans (hb2.mono hb1.size)
        obtain ⟨s1, s2, -, -⟩ := HBS.out.keep hb12
        clear K2
        go_wp2_with fail
        refine (K3.out _).mono ?_; rintro e w3 ⟨rfl, hb3⟩
        have hb13 := hb12.trans (hb3.mono hb12.size)
        have hbw := Hal.out.trans (hb13.mono Hal.out.size)
        clear s1 s2 K3 hb1 hb2 hb3 hb12 hb13
        have KQ2 := Lib.hid (KP.out _ (HD.out.keep hbw))
        go_wp2_with fail
        refine KQ2.out.mono ?_; rintro e w9 ⟨v9, rfl, h9, hb9⟩
        have H9 := Lib.hid (h9.out.wide (lo' := w.heap.size) hbw.size)
        have HB9 := Lib.hid (hbw.trans (hb9.mono hbw.size))
        clear h9 hb9 KQ2
        go_wp2
        rw [HC1.out]
        exact bodyPost_ret (v := .tuple #[v9, .bool false]) (by simp [results, Try.results31, go_sem]) rfl ⟨_, rfl, H9, HB9.out⟩
    · have HC1 : Hid (chT T who lo hi (fun x => mn x 0) = (T, false)) := by show _ = _; unfold chT; rw [if_pos hq0, if_neg (by simp [hq1])]
      replace hq1 : whoB who = false := by simpa using hq1
      rw [hq1] at K2
      clear hq0 hq1 h h3 K3
      go_enter Try.func31, Try.ntmps31
      go_wp2_with fail
      clear hW0
      refine K1.out.mono ?_; rintro e w1 ⟨rfl, hb1⟩
      clear K1
      go_wp2_with fail
      refine (K2.out _).mono ?_; rintro e w2 ⟨rfl, hb2⟩
      have hb12 := hb1.trans (hb2.mono hb1.size)
      have hbw := Hal.out.trans (hb12.mono Hal.out.size)
      clear K2 hb1 hb2 hb12
      have KQ2 := Lib.hid (KP.out _ (HD.out.keep hbw))
      go_wp2_with fail
      refine KQ2.out.mono ?_; rintro e w9 ⟨v9, rfl, h9, hb9⟩
      have H9 := Lib.hid (h9.out.wide (lo' := w.heap.size) hbw.size)
      have HB9 := Lib.hid (hbw.trans (hb9.mono hbw.size))
      clear h9 hb9 KQ2
      go_wp2
      rw [HC1.out]
      exact bodyPost_ret (v := .tuple #[v9, .bool false]) (by simp [results, Try.results31, go_sem]) rfl ⟨_, rfl, H9, HB9.out⟩
  · have HC1 : Hid (chT T who lo hi (fun x => mn x 0) = ([], false)) := by show _ = _; unfold chT; rw [if_neg hq0]
    replace hq0 : lockOkB T = false := by simpa using hq0
    rw [hq0] at K1
    clear hq0 h K2 K3
    go_enter Try.func31, Try.ntmps31
    go_wp2_with fail
    clear hW0
    refine K1.out.mono ?_; rintro e w1 ⟨rfl, hb1⟩
    clear K1
    have hbw := Hal.out.trans (hb1.mono Hal.out.size)
    have HB := Lib.hid (hbw.alloc hbw.size (.cells #[] 48))
    go_wp2
    rw [HC1.out]
    exact bodyPost_ret (v := .tuple #[.slice (some ⟨w1.heap.size, 0, none⟩) 0 0, .bool false]) (by simp [results, Try.results31, go_sem]) rfl ⟨_, rfl, Lib.hid (otab_nil _ _ _ _ _ (by unfold maxLen; omega)), HB.out⟩

end Go.Proofs.Ytfifimdaepebeaa

namespace Go.Proofs.Ytfifimdaepebeaa
open Go.RowKit

/-- The read positions of a downgraded hold. -/
def dnF (f1 f2 : Nat → Bool) (lo hi : Int) (i : Nat) : Bool := f1 i || (decide (lo ≤ (i : Int) ∧ (i : Int) < hi) && f2 i)

theorem dn_step {w W : World} {nb b m n1 n2 cr cs : Nat} {ar as' : Option Addr} {lo hi : Int} {f1 f2 : Nat → Bool} (h1 : w.heap.size < nb) (h2 : b < nb) (hm : m < 48) (hlo : lo ≤ (m : Int)) (hb : Below w.heap.size w W) (hr : RowB W nb 48 (fun i => if (lo ≤ (i : Int) ∧ (i : Int) < (m : Int)) then (f1 i || f2 i) else f1 i))
    (hs : Box2 W w.heap.size lo hi ∧ BoxV W b (.slice ar n1 cr) (.slice as' n2 cs)) :
    RowB (W.setCell ⟨nb, m, none⟩ (.bool (f1 m || f2 m))) nb 48 (fun i => if (lo ≤ (i : Int) ∧ (i : Int) < (m : Int) + 1) then (f1 i || f2 i) else f1 i) ∧ (Box2 (W.setCell ⟨nb, m, none⟩ (.bool (f1 m || f2 m))) w.heap.size lo hi ∧ BoxV (W.setCell ⟨nb, m, none⟩ (.bool (f1 m || f2 m))) b (.slice ar n1 cr) (.slice as' n2 cs)) ∧ Below w.heap.size w (W.setCell ⟨nb, m, none⟩ (.bool (f1 m || f2 m))) := by
  refine ⟨fun i hi' => ?_, ⟨?_, ?_⟩, hb.setCell (Nat.le_of_lt h1) _⟩
  · by_cases e : i = m
    · subst e
      obtain ⟨c1, c2⟩ := hr i hi'
      dsimp only
      rw [if_pos (by omega)]
      exact ⟨by go_simp, by go_simp⟩
    · have := hr i hi'
      have hcond : (lo ≤ (i : Int) ∧ (i : Int) < (m : Int) + 1) ↔ (lo ≤ (i : Int) ∧ (i : Int) < (m : Int)) := by omega
      refine ⟨?_, by rw [World.frozen?_setCell]; exact this.2⟩
      rw [World.cell?_setCell_other _ _ _ _ (fun e' => e (by injection e' with _ e'' _; exact e''.symm))]
      dsimp only at this ⊢
      simp only [hcond]
      exact this.1
  · obtain ⟨a1, a2, a3, a4⟩ := hs.1
    exact ⟨by rw [World.cell?_setCell_far _ _ _ _ (Nat.ne_of_gt h1)]; exact a1, by rw [World.cell?_setCell_far _ _ _ _ (Nat.ne_of_gt h1)]; exact a2, by rw [World.frozen?_setCell]; exact a3, by rw [World.frozen?_setCell]; exact a4⟩
  · exact hs.2.far (Nat.ne_of_gt h2)

set_option maxRecDepth 100000 in
set_option maxHeartbeats 8000000 in
theorem specDown_any (v : Value) (T : List HoldT) (who lo hi : Int) (w : World) (h : Hds w v T) :
    Calls Try.prog 34 #[v, .int .i64 who, .agg #[.int .i64 lo, .int .i64 hi]] w (TbB w (chT T who lo hi (fun x => mn x 1)).1 (chT T who lo hi (fun x => mn x 1)).2) := by
  obtain ⟨W0, hW0⟩ : ∃ W0, w.alloc (.cells #[.int .i64 lo, .int .i64 hi] 25) = W0 := ⟨_, rfl⟩
  have hal : Below w.heap.size w W0 := by rw [← hW0]; exact (Below.refl _ _).alloc (Nat.le_refl _) _
  have B0 : Box2 W0 w.heap.size lo hi := by rw [← hW0]; exact new_box w lo hi 25
  have K1 := Lib.hid (specLockOk_any v T W0 (h.keep hal))
  have K2 := Lib.hid (fun W => l4Who_any who W)
  have K3 := Lib.hid (fun W => specSpanOk_any lo hi W)
  have HD := Lib.hid h
  have HBS := Lib.hid B0
  have Hal := Lib.hid hal
  have Z0 : Hid (W0.heap.size = w.heap.size + 1) := by show _ = _; rw [← hW0]; simp
  clear hal B0
  by_cases hq0 : lockOkB T = true
  · have h3 := ((lockOk_iff T).1 hq0).1
    have KP := Lib.hid (fun W hW => l4Copy_any v T W hW (by omega) (fun i hi => lock_len hq0 hi))
    rw [hq0] at K1
    by_cases hq1 : whoB who = true
    · obtain ⟨w01, w02⟩ := whoB_iff.1 hq1
      rw [hq1] at K2
      by_cases hq2 : spanOkB lo hi = true
      · obtain ⟨k, rfl⟩ : ∃ k : Nat, who = (k : Int) := ⟨who.toNat, by omega⟩
        have hk : k < 3 := by omega
        rw [hq2] at K3
        rw [chT_put hq0 hk hq2 (down_mH (lock_okH hq0 hk) lo hi)]
        obtain ⟨a, cap, rfl, c1, c2, -⟩ := id h
        obtain ⟨b, off, r, s, rfl, e1, e2, p1, p2, -, -, -⟩ := h.at (k := k) (by omega)
        have C0 := Lib.hid (fun W (hb : Below w.heap.size w W) => places_any r _ W (p1.keep hb))
        have CI := Lib.hid (fun (i : Nat) W (hb : Below w.heap.size w W) => l1In_any s _ i W (p2.keep hb))
        have C2 := Lib.hid (fun W (hb : Below w.heap.size w W) => l1Cut_own s _ lo hi W (p2.keep hb) hq2)
        have KQ := Lib.hid (fun (r' s' : Value) R S W hW hr hs => l4Put_any (.slice (some ⟨b, off, none⟩) T.length cap) T k r' s' R S W hW hq0 hk hr hs)
        have HK3 : Hid (k < T.length) := by show _ < _; omega
        obtain ⟨s0, s1, s2⟩ := spanOkB_iff.1 hq2
        obtain ⟨ar, cr, rfl⟩ := p1.form
        obtain ⟨as', cs, rfl⟩ := p2.form
        obtain ⟨f1, hf1⟩ : ∃ f1 : Nat → Bool, f1 = fun i : Nat => inB (T.getD k hd0).1 (i : Int) := ⟨_, rfl⟩
        obtain ⟨f2, hf2⟩ : ∃ f2 : Nat → Bool, f2 = fun i : Nat => inB (T.getD k hd0).2 (i : Int) := ⟨_, rfl⟩
        have HF : Hid ((fun i : Nat => inB (T.getD k hd0).1 (i : Int) || (decide (lo ≤ (i : Int) ∧ (i : Int) < hi) && inB (T.getD k hd0).2 (i : Int))) = dnF f1 f2 lo hi) := by subst hf1 hf2; rfl
        rw [HF.out]
        have HCI : Hid (∀ (i : Nat) W (hb : Below w.heap.size w W), Calls Try.prog 69 #[.slice as' (T.getD k hd0).2.length cs, .int .i64 i] W fun e w' => e = .returned (.bool (f2 i)) ∧ W = w') := by subst hf2; exact CI.out
        have HC0 : Hid (∀ W (hb : Below w.heap.size w W), Calls Try.prog 68 #[.slice ar (T.getD k hd0).1.length cr] W (Plc W f1)) := by subst hf1; exact C0.out
        clear HF C0 CI hf1 hf2
        generalize rg (cutF (T.getD k hd0).2 lo hi) 48 = S1 at *
        have E1 := Lib.hid (And.intro e1 e2)
        clear hq0 hq1 hq2 h KP p1 p2 e1 e2 h3
        generalize (T.getD k hd0).1.length = n1 at *
        generalize (T.getD k hd0).2.length = n2 at *
        go_enter Try.func34, Try.ntmps34
        go_wp2_with fail
        clear hW0
        refine K1.out.mono ?_; rintro e w1 ⟨rfl, hb1⟩
        clear K1
        go_wp2_with fail
        refine (K2.out _).mono ?_; rintro e w2 ⟨rfl, hb2⟩
        have hb12 := hb1.trans (hb2.mono hb1.size)
        obtain ⟨x1, x2, -, -⟩ := HBS.out.keep hb12
        clear K2
        go_wp2_with fail
        refine (K3.out _).mono ?_; rintro e w3 ⟨rfl, hb3⟩
        have hb13 := hb12.trans (hb3.mono hb12.size)
        have hbw := Hal.out.trans (hb13.mono Hal.out.size)
        clear x1 x2 K3
        obtain ⟨x1, x2, x3, x4⟩ := HBS.out.keep hb13
        have e1 := cell_keep hbw E1.out.1
        have e2 := cell_keep hbw E1.out.2
        have HBW := Lib.hid hbw
        have hk3 := HK3.out
        have HZ3 := Lib.hid (Nat.le_trans (Nat.le_of_eq Z0.out.symm) hb13.size)
        clear hb1 hb2 hb3 hb12 hb13 hbw
        obtain ⟨W4, hW4⟩ : ∃ W4, w3.alloc (.cells #[.slice ar n1 cr, .slice as' n2 cs] 48) = W4 := ⟨_, rfl⟩
        have BV : BoxV W4 w3.heap.size (.slice ar n1 cr) (.slice as' n2 cs) := by rw [← hW4]; exact new_boxV w3 _ _ _
        have hb4 : Below w3.heap.size w3 W4 := by rw [← hW4]; exact (Below.refl _ _).alloc (Nat.le_refl _) _
        have Z4 : Hid (W4.heap.size = w3.heap.size + 1) := by show _ = _; rw [← hW4]; simp
        have HBV := Lib.hid BV
        have HB4 := Lib.hid (HBW.out.trans (hb4.mono HBW.out.size))
        have HBX := Lib.hid ((show Box2 w3 w.heap.size lo hi from ⟨x1, x2, x3, x4⟩).keep hb4)
        obtain ⟨v1, v2, v3, v4⟩ := BV
        go_wp2_with fail
        clear hW4
        refine (HC0.out _ HB4.out).mono ?_; rintro e w5 ⟨nb, cap5, rfl, hnb, hr5, hb5⟩
        have HB5 := Lib.hid (HB4.out.trans (hb5.mono HB4.out.size))
        have HBV5 := Lib.hid (HBV.out.keep hb5)
        have HBX5 := Lib.hid (HBX.out.keep hb5)
        have HR5 := Lib.hid hr5
        have hz3 := HZ3.out
        have hz4 := Z4.out
        have hnn : Hid (w.heap.size < nb ∧ w3.heap.size < nb) := ⟨by omega, by omega⟩
        clear hb5 hr5 v1 v2 v3 v4 HBV HBX x1 x2 x3 x4 e1 e2 hb4 hnb
        obtain ⟨y1, y2, -, -⟩ := HBX5.out
        go_wp2_with fail
        have HR0 : Hid (RowB w5 nb 48 (fun i => if (lo ≤ (i : Int) ∧ (i : Int) < lo) then (f1 i || f2 i) else f1 i)) := fun i hi => by
          have := HR5.out i hi
          dsimp only at this ⊢
          rw [if_neg (by omega)]; exact this
        have HS0 := Lib.hid (And.intro HBX5.out HBV5.out)
        clear HR5 y1 y2 HBX5 HBV5 HZ3 Z4 hz3 hz4 Z0
        go_loopg [10] (hi - lo).toNat (fun q s10 wr => ∃ j : Int, q = (hi - j).toNat ∧ lo ≤ j ∧ j ≤ hi ∧ s10 = .int .i64 j ∧ Hid (RowB wr nb 48 (fun i => if (lo ≤ (i : Int) ∧ (i : Int) < j) then (f1 i || f2 i) else f1 i)) ∧ Hid (Box2 wr w.heap.size lo hi ∧ BoxV wr w3.heap.size (.slice ar n1 cr) (.slice as' n2 cs)) ∧ Hid (Below w.heap.size w wr))
        case atStart => exact ⟨lo, rfl, by omega, by omega, rfl, HR0, HS0, HB5⟩
        case round =>
          obtain ⟨j, rfl, hj1, hj2, rfl, HR1, HS1, HB⟩ := hrel
          clear HR0 HS0
          obtain ⟨⟨y1, y2, -, -⟩, z1, z2, -, -⟩ := id HS1.out
          by_cases hlt : j < hi
          · obtain ⟨m, hm⟩ : ∃ m : Nat, (m : Int) = j := ⟨j.toNat, by omega⟩
            subst hm
            have hm48 : m < 48 := by omega
            obtain ⟨c1, c2⟩ := HR1.out m hm48
            dsimp only at c1
            rw [if_neg (by omega)] at c1
            have HST : Hid (∀ W : World, Below w.heap.size w W → RowB W nb 48 (fun i => if (lo ≤ (i : Int) ∧ (i : Int) < (m : Int)) then (f1 i || f2 i) else f1 i) → (Box2 W w.heap.size lo hi ∧ BoxV W w3.heap.size (.slice ar n1 cr) (.slice as' n2 cs)) →
                RowB (W.setCell ⟨nb, m, none⟩ (.bool (f1 m || f2 m))) nb 48 (fun i => if (lo ≤ (i : Int) ∧ (i : Int) < (m : Int) + 1) then (f1 i || f2 i) else f1 i) ∧ (Box2 (W.setCell ⟨nb, m, none⟩ (.bool (f1 m || f2 m))) w.heap.size lo hi ∧ BoxV (W.setCell ⟨nb, m, none⟩ (.bool (f1 m || f2 m))) w3.heap.size (.slice ar n1 cr) (.slice as' n2 cs)) ∧ Below w.heap.size w (W.setCell ⟨nb, m, none⟩ (.bool (f1 m || f2 m)))) :=
              fun W hb hr hs => dn_step hnn.out.1 hnn.out.2 hm48 hj1 hb hr hs
            by_cases hf : f1 m = true
            · rw [hf] at c1
              have HS2 := Lib.hid (HST.out wr HB.out HR1.out HS1.out)
              rw [hf, Bool.true_or] at HS2
              clear HST hf HCI
              go_wp2
              go_roundg (hi - ((m : Int) + 1)).toNat
              case measure => omega
              case rel => exact ⟨(m : Int) + 1, rfl, by omega, by omega, rfl, HS2.out.1, HS2.out.2.1, HS2.out.2.2⟩
            · replace hf : f1 m = false := by simpa using hf
              rw [hf] at c1
              have HS2 := Lib.hid (HST.out wr HB.out HR1.out HS1.out)
              rw [hf, Bool.false_or] at HS2
              have KI := Lib.hid (HCI.out m wr HB.out)
              clear HST hf
              go_wp2_with fail
              refine KI.out.mono ?_; rintro e w' ⟨rfl, rfl⟩
              go_wp2
              go_roundg (hi - ((m : Int) + 1)).toNat
              case measure => omega
              case rel => exact ⟨(m : Int) + 1, rfl, by omega, by omega, rfl, HS2.out.1, HS2.out.2.1, HS2.out.2.2⟩
          · obtain rfl : hi = j := by omega
            have HF : Hid (RowB wr nb 48 (dnF f1 f2 lo hi)) := fun i hi' => by
              have := HR1.out i hi'
              dsimp only at this ⊢
              unfold dnF
              by_cases e : lo ≤ (i : Int) ∧ (i : Int) < hi
              · rw [if_pos e] at this
                rw [decide_eq_true e]; simpa using this
              · rw [if_neg e] at this
                rw [decide_eq_false e]; simpa using this
            have HFF := Lib.hid HF
            have CF := Lib.hid (fun W (hb : Below wr.heap.size wr W) => l1Of_own nb cap5 _ W (HFF.out.keep hb))
            generalize rg (dnF f1 f2 lo hi) 48 = R1 at *
            have HHS := Lib.hid HS1.out
            clear HR1 HS1 HF HFF
            obtain ⟨⟨y1, y2, -, -⟩, z1, z2, -, -⟩ := id HHS.out
            go_wp2_with fail
            go_region_held3 (fun w' => w'.cell? ⟨w3.heap.size, 0, none⟩ = some (.slice ar n1 cr) ∧ w'.cell? ⟨w3.heap.size, 1, none⟩ = some (.slice as' n2 cs) ∧ w'.cell? ⟨w.heap.size, 0, none⟩ = some (.int .i64 lo) ∧ w'.cell? ⟨w.heap.size, 1, none⟩ = some (.int .i64 hi))
              (refine ⟨?_, ?_, ?_, ?_⟩ <;> first | (go_keep; done) | (refine cell_keep hb ?_; first | (go_keep; done) | (go_simp; done) | assumption))
              (first
                | (have _t := tok2; go_at_call 49; refine (KQ.out _ _ R1 S1 _ (HD.out.keep HBY.out) HR2.out HS2.out).mono ?_; rintro e w6 ⟨v6, rfl, ho6, hb⟩)
                | (have _t := tok1; go_at_call 50; refine (C2.out _ HBQ.out).mono ?_; rintro e w5' ⟨g2, cap2, rfl, hg2, hs2, hb⟩; have HBY := Lib.hid (HBQ.out.trans (hb.mono HBQ.out.size)); have HS2 := Lib.hid (spn_of (mrow_own hs2.out).1 (mrow_own hs2.out).2); have HR2 := Lib.hid (HR1.out.keep hb); have tok2 : True := trivial; clear hs2)
                | (go_at_call 70; refine (CF.out _ (Below.refl _ _).drew).mono ?_; rintro e w4' ⟨g1, cap1, rfl, hg1, hs1, hb⟩; have HBQ := Lib.hid (HB.out.drew.trans (hb.mono HB.out.drew.size)); have HR1 := Lib.hid (spn_of (mrow_own hs1.out).1 (mrow_own hs1.out).2); have tok1 : True := trivial; clear hs1))
            have H9 := Lib.hid (ho6.out.wide (lo' := w.heap.size) HBY.out.size)
            have HB9 := Lib.hid (HBY.out.trans (hb.mono HBY.out.size))
            clear ho6 y1 y2 z1 z2
            go_wp2
            exact bodyPost_ret (v := .tuple #[v6, .bool (putT T k (R1, S1)).2]) (by simp [results, Try.results34, go_sem]) rfl ⟨v6, rfl, H9, HB9.out⟩
      · have HC1 : Hid (chT T who lo hi (fun x => mn x 1) = (T, false)) := by show _ = _; unfold chT; rw [if_pos hq0, if_neg (by simp [hq1, hq2])]
        replace hq2 : spanOkB lo hi = false := by simpa using hq2
        rw [hq2] at K3
        clear hq0 hq1 hq2 h h3
        go_enter Try.func34, Try.ntmps34
        go_wp2_with fail
        clear hW0
        refine K1.out.mono ?_; rintro e w1 ⟨rfl, hb1⟩
        clear K1
        go_wp2_with fail
        refine (K2.out _).mono ?_; rintro e w2 ⟨rfl, hb2⟩
        have hb12 := hb1.trans (hb2.mono hb1.size)
        obtain ⟨s1, s2, -, -⟩ := HBS.out.keep hb12
        clear K2
        go_wp2_with fail
        refine (K3.out _).mono ?_; rintro e w3 ⟨rfl, hb3⟩
        have hb13 := hb12.trans (hb3.mono hb12.size)
        have hbw := Hal.out.trans (hb13.mono Hal.out.size)
        clear s1 s2 K3 hb1 hb2 hb3 hb12 hb13
        have KQ2 := Lib.hid (KP.out _ (HD.out.keep hbw))
        go_wp2_with fail
        refine KQ2.out.mono ?_; rintro e w9 ⟨v9, rfl, h9, hb9⟩
        have H9 := Lib.hid (h9.out.wide (lo' := w.heap.size) hbw.size)
        have HB9 := Lib.hid (hbw.trans (hb9.mono hbw.size))
        clear h9 hb9 KQ2
        go_wp2
        rw [HC1.out]
        exact bodyPost_ret (v := .tuple #[v9, .bool false]) (by simp [results, Try.results34, go_sem]) rfl ⟨_, rfl, H9, HB9.out⟩
    · have HC1 : Hid (chT T who lo hi (fun x => mn x 1) = (T, false)) := by show _ = _; unfold chT; rw [if_pos hq0, if_neg (by simp [hq1])]
      replace hq1 : whoB who = false := by simpa using hq1
      rw [hq1] at K2
      clear hq0 hq1 h h3 K3
      go_enter Try.func34, Try.ntmps34
      go_wp2_with fail
      clear hW0
      refine K1.out.mono ?_; rintro e w1 ⟨rfl, hb1⟩
      clear K1
      go_wp2_with fail
      refine (K2.out _).mono ?_; rintro e w2 ⟨rfl, hb2⟩
      have hb12 := hb1.trans (hb2.mono hb1.size)
      have hbw := Hal.out.trans (hb12.mono Hal.out.size)
      clear K2 hb1 hb2 hb12
      have KQ2 := Lib.hid (KP.out _ (HD.out.keep hbw))
      go_wp2_with fail
      refine KQ2.out.mono ?_; rintro e w9 ⟨v9, rfl, h9, hb9⟩
      have H9 := Lib.hid (h9.out.wide (lo' := w.heap.size) hbw.size)
      have HB9 := Lib.hid (hbw.trans (hb9.mono hbw.size))
      clear h9 hb9 KQ2
      go_wp2
      rw [HC1.out]
      exact bodyPost_ret (v := .tuple #[v9, .bool false]) (by simp [results, Try.results34, go_sem]) rfl ⟨_, rfl, H9, HB9.out⟩
  · have HC1 : Hid (chT T who lo hi (fun x => mn x 1) = ([], false)) := by show _ = _; unfold chT; rw [if_neg hq0]
    replace hq0 : lockOkB T = false := by simpa using hq0
    rw [hq0] at K1
    clear hq0 h K2 K3
    go_enter Try.func34, Try.ntmps34
    go_wp2_with fail
    clear hW0
    refine K1.out.mono ?_; rintro e w1 ⟨rfl, hb1⟩
    clear K1
    have hbw := Hal.out.trans (hb1.mono Hal.out.size)
    have HB := Lib.hid (hbw.alloc hbw.size (.cells #[] 48))
    go_wp2
    rw [HC1.out]
    exact bodyPost_ret (v := .tuple #[.slice (some ⟨w1.heap.size, 0, none⟩) 0 0, .bool false]) (by simp [results, Try.results34, go_sem]) rfl ⟨_, rfl, Lib.hid (otab_nil _ _ _ _ _ (by unfold maxLen; omega)), HB.out⟩

end Go.Proofs.Ytfifimdaepebeaa
