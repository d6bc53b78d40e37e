/-
  LockOk of the program.
  impl.changed: a table with one client's modes changed in a range, or as it was.
  impl.LockBars.
  impl.LockGive, impl.LockDrop, impl.LockDown, impl.LockOff.
-/
import Derived.Test.YtfifimdaepebeaaLocksOf
import Derived.Test.YtfifimdaepebeaaGiveMath
import Derived.Deep.RegionLaw
import Derived.Test.YtfifimdaepebeaaSpecBars
import Derived.Deep.RegionHeld3
namespace Go.Proofs.Ytfifimdaepebeaa
open Go.RowKit

set_option maxHeartbeats 1000000 in
theorem implLockOk_any (v : Value) (T : List HoldT) (w : World) (h : Hds w v T) :
    Calls Try.prog 18 #[v] w fun e w' => e = .returned (.bool (lockOkB T)) ∧ Below w.heap.size w w' := by
  have K := Lib.hid (locksOf_any v T w h)
  clear h
  by_cases hq : lockOkB T = true
  · have HQ := Lib.hid hq
    clear hq
    go_enter Try.func18, Try.ntmps18
    go_wp2_with fail
    refine K.out.mono ?_; rintro e w1 hp
    unfold LkPost at hp
    rw [if_pos HQ.out] at hp
    obtain ⟨v', gs, cs, Rs, rfl, -, -, hb⟩ := hp
    go_wp2
    go_ret
    exact ⟨ret_bool HQ.out.symm, hb⟩
  · have HQ : Hid (lockOkB T = false) := by show _ = _; simpa using hq
    clear hq
    go_enter Try.func18, Try.ntmps18
    go_wp2_with fail
    refine K.out.mono ?_; rintro e w1 hp
    unfold LkPost at hp
    rw [if_neg (by rw [HQ.out]; simp)] at hp
    obtain ⟨rfl, hb⟩ := hp
    go_wp2
    go_ret
    exact ⟨ret_bool HQ.out.symm, hb⟩

end Go.Proofs.Ytfifimdaepebeaa

namespace Go.Proofs.Ytfifimdaepebeaa
open Go.RowKit

theorem btw_set {l h : Nat} {w : World} {g o : Nat} {v : Value} (h1 : l ≤ g) (h2 : g < h) : Btw l h w (w.setCell ⟨g, o, none⟩ v) :=
  ⟨rfl, rfl, rfl, by simp, fun i _ hn => Below.heap_setCell w _ v i (fun e => hn (by have e : i = g := e; omega))⟩
theorem btw_grown {l h : Nat} {w w' : World} {g : Nat} (hg : w.grownBy w' (some g)) (h1 : l ≤ g) (h2 : g < h) : Btw l h w w' :=
  ⟨hg.os, hg.tape, hg.output, hg.size, fun i hi' hn => hg.block i hi' (fun e => by injection e with e; omega)⟩

theorem slvs_set {gs cs : Nat → Nat} {Rs : Nat → List RunT} {k g c : Nat} {R : List RunT} (hk : k < 3) : (slvs gs cs Rs 3).set k (.slice (some ⟨g, 0, none⟩) R.length c) = slvs (upd gs k g) (upd cs k c) (upd Rs k R) 3 := by
  unfold slvs
  apply List.ext_getElem?
  intro i
  by_cases e : i = k
  · subst e
    rw [List.getElem?_set_self (by simp; exact hk), List.getElem?_map, List.getElem?_range hk]
    show _ = some (slv _ _ _ i)
    unfold slv
    rw [upd_at, upd_at, upd_at]
  · rw [List.getElem?_set_ne (fun c => e c.symm), List.getElem?_map, List.getElem?_map]
    by_cases hi : i < 3
    · rw [List.getElem?_range hi]
      show some (slv _ _ _ i) = some (slv _ _ _ i)
      unfold slv
      rw [upd_ne _ _ e, upd_ne _ _ e, upd_ne _ _ e]
    · rw [List.getElem?_eq_none (by simp; omega)]; rfl

theorem block_set {w : World} {g o i : Nat} {v : Value} (h : i ≠ g) : (w.setCell ⟨g, o, none⟩ v).heap[i]? = w.heap[i]? := Below.heap_setCell w _ v i h

theorem OTab.widen {w : World} {lo lo' hi hi' : Nat} {v : Value} {T : List HoldT} (ht : OTab w lo hi v T) (hl : lo' ≤ lo) (hh : hi ≤ hi') : OTab w lo' hi' v T := by
  obtain ⟨a, cap, vR, vS, rfl, c1, c2, hc⟩ := ht
  refine ⟨a, cap, vR, vS, rfl, c1, c2, fun hn => ?_⟩
  obtain ⟨nb, rfl, h1, h2, h3, h4, h5⟩ := hc hn
  have hw : ∀ {v : Value} {n : Nat} {f : Nat → Rng}, MRow w lo hi v n f → MRow w lo' hi' v n f := fun ⟨a, cap, e, hr⟩ => ⟨a, cap, e, fun hn => by
    obtain ⟨b, e1, q1, q2, q3⟩ := hr hn
    exact ⟨b, e1, by omega, by omega, q3⟩⟩
  exact ⟨nb, rfl, by omega, by omega, ⟨h3.1, fun i hi' => ⟨hw (h3.2 i hi').1, hw (h3.2 i hi').2⟩⟩, h4, h5⟩
theorem OTab.later {w w1 : World} {lo : Nat} {v : Value} {T : List HoldT} (ht : OTab w lo w.heap.size v T) (hb : Below w.heap.size w w1) : OTab w1 lo w1.heap.size v T :=
  (ht.keep hb).widen (Nat.le_refl _) hb.size

/-- What stands after one client's list has been changed and stored. -/
theorem chg_after {gl cl k g' cap' B : Nat} {gs cs : Nat → Nat} {Rs : Nat → List RunT} {T : List HoldT} {w1 w3 w4 : World} {R' : List RunT} (hk : k < 3)
    (HO1 : w1.ownsRow B 74 1 (.slice (some ⟨gl, 0, none⟩) 3 cl) 3 (slvs gs cs Rs 3)) (hgl : B ≤ gl) (hglt : gl < w1.heap.size) (HON1 : OwnsN w1 B 3 gs cs Rs T) (HL3 : LksAt w3 gl 3 gs cs Rs) (hb13 : Below w1.heap.size w1 w3)
    (ho4 : OwnAt w4 g' cap' R') (hg4 : w3.drew.grownBy w4 (some (gs k))) (hn4 : g' = gs k ∨ w3.drew.heap.size ≤ g') (hf4 : w4.frozen? ⟨gl, k, none⟩ = false) :
    LksAt (w4.setCell ⟨gl, k, none⟩ (.slice (some ⟨g', 0, none⟩) R'.length cap')) gl 3 (upd gs k g') (upd cs k cap') (upd Rs k R') ∧ Btw B w1.heap.size w3 (w4.setCell ⟨gl, k, none⟩ (.slice (some ⟨g', 0, none⟩) R'.length cap')) := by
  have hd : w3.drew.heap.size = w3.heap.size := rfl
  have hs := hb13.size
  have hgk := HON1 k hk
  have hlk := hgk.1.lt
  have hnk : gl ≠ gs k := fun e => own_not hgk.1 HO1 (by rw [← e]; rfl)
  have hng : gl ≠ g' := by
    rcases hn4 with e | e
    · rw [e]; exact hnk
    · omega
  have hnei : ∀ i, i < 3 → i ≠ k → gs i ≠ gs k := fun i hi e h => by
    rcases Nat.lt_or_gt_of_ne e with q | q
    · have := hgk.2.2.2.2 i q; omega
    · have := (HON1 i hi).2.2.2.2 k q; omega
  refine ⟨fun i hi => ?_, ?_⟩
  · by_cases e : i = k
    · subst e
      rw [upd_at, upd_at, upd_at]
      have hc4 := cell_grown hg4 (Ne.symm hnk) (HL3 i hi).1
      exact ⟨by go_simp, ho4.block (block_set (Ne.symm hng))⟩
    · rw [upd_ne _ _ e, upd_ne _ _ e, upd_ne _ _ e]
      obtain ⟨h1, h2⟩ := HL3 i hi
      have hni : gl ≠ gs i := fun e => own_not (HON1 i hi).1 HO1 (by rw [← e]; rfl)
      refine ⟨?_, (OwnAt.grown (w := w3.drew) (row := some (gs k)) (h2.block rfl) hg4 (fun q => hnei i hi e (by injection q with q; exact q.symm))).block (block_set (Ne.symm hni))⟩
      rw [World.cell?_setCell_other _ _ _ _ (fun e' => e (by injection e' with _ e'' _; exact e''.symm))]
      exact cell_grown hg4 (Ne.symm hnk) h1
  · have b1 : Btw B w1.heap.size w3 w3.drew := Btw.of_below (Below.refl _ _).drew
    exact (b1.trans (btw_grown hg4 hgk.2.1 hlk)).trans (btw_set hgl hglt)

set_option maxRecDepth 100000 in
set_option maxHeartbeats 4000000 in
theorem changed_any (K : FuncId) (gf : Int → Int) (m : Int) (hcf : ∀ (a b : Value) (W : World), (callFunc K #[a, b]).run Try.prog W = .ok (.enter K #[a, b]) W)
    (hf : ∀ (x : Int) (W : World), Calls Try.prog K #[.int .i64 m, .int .i64 x] W fun e w' => e = .returned (.int .i64 (gf x)) ∧ W = w')
    (v : Value) (T : List HoldT) (who lo hi : Int) (w : World) (h : Hds w v T) :
    Calls Try.prog 43 #[v, .int .i64 who, .agg #[.int .i64 lo, .int .i64 hi], .func (.func K) #[.int .i64 m] #[]] w (TbB w (chT T who lo hi gf).1 (chT T who lo hi gf).2) := by
  obtain ⟨W0, hW0⟩ : ∃ W0, w.alloc (.cells #[.int .i64 lo, .int .i64 hi] 25) = W0 := ⟨_, rfl⟩
  have hal : Below w.heap.size w W0 := by rw [← hW0]; exact (Below.refl _ _).alloc (Nat.le_refl _) _
  have B0 : Box2 W0 w.heap.size lo hi := by rw [← hW0]; exact new_box w lo hi 25
  have Z0 : Hid (W0.heap.size = w.heap.size + 1) := by show _ = _; rw [← hW0]; simp
  have KL := Lib.hid (locksOf_any v T W0 (h.keep hal))
  have HBS := Lib.hid B0
  have Hal := Lib.hid hal
  clear B0 hal h
  by_cases hq0 : lockOkB T = true
  · have HQ0 := Lib.hid hq0
    by_cases hqq : (whoB who && spanOkB lo hi) = true
    · simp only [Bool.and_eq_true] at hqq
      obtain ⟨hq1, hq2⟩ := hqq
      obtain ⟨w01, w02⟩ := whoB_iff.1 hq1
      obtain ⟨k, rfl⟩ : ∃ k : Nat, who = (k : Int) := ⟨who.toNat, by omega⟩
      have hk : k < 3 := by omega
      have hlh := (spanOkB_iff.1 hq2).2.1
      obtain ⟨N, hN⟩ : ∃ N, T.set k (mH (putM (T.getD k hd0) lo hi gf)) = N := ⟨_, rfl⟩
      have HC : Hid (chT T (k : Int) lo hi gf = if lockOkB N = true then (N, true) else (T, false)) := by
        show _ = _; unfold chT; rw [if_pos hq0, if_pos (by rw [hq1, hq2]; rfl), Int.toNat_natCast, hN]
      have C1 := Lib.hid (fun W => clientOk_any (k : Int) W)
      have C2 := Lib.hid (fun W => implSpanOk_any lo hi W)
      rw [hq1] at C1
      rw [hq2] at C2
      have HN := Lib.hid hN
      have HCF := Lib.hid hcf
      have HF := Lib.hid hf
      clear hq0 hq1 hq2 hN hcf hf
      go_enter Try.func43, Try.ntmps43
      go_wp2_with fail
      clear hW0
      refine KL.out.mono ?_; rintro e w1 hp
      unfold LkPost at hp
      rw [if_pos HQ0.out] at hp
      obtain ⟨vl', gs, cs, Rs, rfl, hown, hON, hb1⟩ := hp
      obtain ⟨gl, cl, rfl, hgl, hcl1, hcl2, hglt, hcc⟩ := own_cell1 hown (by omega)
      have HL1 := Lib.hid (LkYes.lks hcc hON)
      have HO1 := Lib.hid hown
      have HON1 := Lib.hid hON
      have HRl : Hid (∀ i, i < 3 → (Rs i).length ≤ 100) := fun i hi => by have := ((hON i hi).2.2.1).len; omega
      have HT1 := Lib.hid (tab_self HQ0.out (fun i hi => (hON i hi).2.2.1))
      have HT2 := Lib.hid (tab_next HQ0.out (fun i hi => (hON i hi).2.2.1) hk hlh (f := gf))
      have HB1 := Lib.hid (Hal.out.trans (hb1.mono Hal.out.size))
      have s1 := Lib.hid hb1.size
      have KT := Lib.hid (table_any gl cl 3 gs cs Rs HRl.out (by omega) hcl2 w1 HL1.out)
      rw [HT1.out] at KT
      clear hown hON hcc KL HT1
      go_wp2_with fail
      refine KT.out.mono ?_; rintro e w2 ⟨v2, rfl, ht2, hb2⟩
      have T2 := Lib.hid (ht2.out.wide (lo' := w1.heap.size) (Nat.le_refl _))
      clear ht2 KT
      go_wp2_with fail
      refine (C1.out _).mono ?_; rintro e w' ⟨rfl, rfl⟩
      have hb12 := hb1.trans (hb2.mono hb1.size)
      obtain ⟨x1, x2, -, -⟩ := HBS.out.keep hb12
      go_wp2_with fail
      refine (C2.out _).mono ?_; rintro e w3 ⟨rfl, hb3⟩
      have hb13 := hb2.trans (hb3.mono hb2.size)
      have hb03 := hb12.trans (hb3.mono hb12.size)
      have T3 := Lib.hid (T2.out.keep hb3)
      have s2 := Lib.hid hb3.size
      have HO3 := Lib.hid (rowBel HO1.out hb13)
      have HL3 := Lib.hid (HL1.out.keep hb13)
      have HB3 := Lib.hid (HB1.out.trans (hb13.mono HB1.out.size))
      clear x1 x2 T2 hb2 hb3 hb12 HL1
      obtain ⟨x1, x2, -, -⟩ := HBS.out.keep hb03
      have c1 := (HL3.out k hk).1
      have hgk := HON1.out k hk
      have hne : gl ≠ gs k := fun e => own_not hgk.1 HO1.out (by rw [← e]; rfl)
      have f1 : w3.frozen? ⟨gl, k, none⟩ = false := HO3.out.frozenAt _
      have KC := Lib.hid (fun W hW => change_any K gf m HCF.out HF.out (gs k) (cs k) (Rs k) lo hi W hW (by have := HRl.out k hk; omega))
      have HOk := Lib.hid (HL3.out k hk).2
      go_wp2_with fail
      go_region_law (go_simp; go_at_call 79; refine (KC.out w3.drew (OwnAt.block HOk.out rfl)).mono ?_; rintro e w4 ⟨g', cap', rfl, ho4, hg4, hn4⟩; have c4 := cell_grown hg4 (Ne.symm hne) c1; have f4 : w4.frozen? ⟨gl, k, none⟩ = false := (World.frozen?_of_block (a := ⟨gl, k, none⟩) (hg4.block gl (World.block_lt_of_cell? _ _ c1) (fun e => hne (by injection e)))).trans f1)
      all_goals (
        obtain ⟨hl5, hb5⟩ := chg_after hk HO1.out hgl hglt HON1.out HL3.out hb13 ho4 hg4 hn4 f4
        have hlen5 : ∀ i, i < 3 → (upd Rs k (chR lo hi gf (Rs k)) i).length ≤ 100 := fun i hi => by
          by_cases e : i = k
          · subst e; rw [upd_at]; have := (hgk.2.2.1.ch (g := gf) hlh).len; omega
          · rw [upd_ne _ _ e]; exact HRl.out i hi
        have KT5 := Lib.hid (table_any gl cl 3 _ _ _ hlen5 (by omega) hcl2 _ hl5)
        rw [HT2.out, HN.out] at KT5
        have T5 := Lib.hid (T3.out.btw hb5 (.inr (Nat.le_refl _)))
        have sW0 : w.heap.size ≤ W0.heap.size := Hal.out.size
        have HB5 := Lib.hid (HB3.out.trans (hb5.below sW0 HB3.out.size))
        have hs5 := Lib.hid hb5.size
        have hs3 := Lib.hid (Nat.le_trans hb13.size hb5.size)
        clear hl5 hb5 hlen5 ho4 hg4 hn4 c4 f4 c1 f1 x1 x2 KC HOk HL3 HO3 T3 HT2 hgk hne
        go_wp2_with fail
        refine KT5.out.mono ?_; rintro e w6 ⟨v6, rfl, ht6, hb6⟩
        have T6 := Lib.hid (ht6.out.wide (lo' := w.heap.size) (Nat.le_trans HB5.out.size (Nat.le_refl _)))
        have R6 := Lib.hid ((T5.out.keep hb6).widen (lo' := w.heap.size) (hi' := w6.heap.size) (Nat.le_trans sW0 s1.out) (Nat.le_trans (Nat.le_trans s2.out hs5.out) hb6.size))
        have HB6 := Lib.hid (HB5.out.trans (hb6.mono HB5.out.size))
        have KO := Lib.hid (implLockOk_any v6 N w6 ht6.out.hds)
        clear ht6 hb6 KT5 T5 HB5
        by_cases hN1 : lockOkB N = true
        · rw [hN1] at KO
          have HC1 : Hid (chT T (k : Int) lo hi gf = (N, true)) := by show _ = _; rw [HC.out, if_pos hN1]
          clear hN1 HC
          go_wp2_with fail
          refine KO.out.mono ?_; rintro e w7 ⟨rfl, hb7⟩
          have T7 := Lib.hid (T6.out.later hb7)
          have HB7 := Lib.hid (HB6.out.trans (hb7.mono HB6.out.size))
          clear T6 R6 HB6 KO
          go_wp2
          rw [HC1.out]
          refine bodyPost_ret (v := .tuple #[v6, .bool true]) (by simp [results, Try.results43, go_sem]) rfl ⟨_, rfl, T7, HB7.out⟩
        · have hN0 : lockOkB N = false := by simpa using hN1
          rw [hN0] at KO
          have HC1 : Hid (chT T (k : Int) lo hi gf = (T, false)) := by show _ = _; rw [HC.out, if_neg hN1]
          clear hN1 hN0 HC
          go_wp2_with fail
          refine KO.out.mono ?_; rintro e w7 ⟨rfl, hb7⟩
          have T7 := Lib.hid (R6.out.later hb7)
          have HB7 := Lib.hid (HB6.out.trans (hb7.mono HB6.out.size))
          clear T6 R6 HB6 KO
          go_wp2
          rw [HC1.out]
          refine bodyPost_ret (v := .tuple #[v2, .bool false]) (by simp [results, Try.results43, go_sem]) rfl ⟨_, rfl, T7, HB7.out⟩)
    · have HC1 : Hid (chT T who lo hi gf = (T, false)) := by show _ = _; unfold chT; rw [if_pos hq0, if_neg hqq]
      have HWS : Hid (whoB who = true → spanOkB lo hi = false) := fun h => by
        cases hs : spanOkB lo hi with
        | false => rfl
        | true => exact absurd (by rw [h, hs]; rfl) hqq
      have C1 := Lib.hid (fun W => clientOk_any who W)
      have C2 := Lib.hid (fun W => implSpanOk_any lo hi W)
      clear hq0 hqq hcf hf
      generalize hwb : whoB who = wb at *
      clear hwb
      cases wb
      · clear HWS C2
        go_enter Try.func43, Try.ntmps43
        go_wp2_with fail
        clear hW0
        refine KL.out.mono ?_; rintro e w1 hp
        unfold LkPost at hp
        rw [if_pos HQ0.out] at hp
        obtain ⟨vl', gs, cs, Rs, rfl, hown, hON, hb1⟩ := hp
        obtain ⟨gl, cl, rfl, hgl, hcl1, hcl2, hglt, hcc⟩ := own_cell1 hown (by omega)
        have HL1 := Lib.hid (LkYes.lks hcc hON)
        have HT1 := Lib.hid (tab_self HQ0.out (fun i hi => (hON i hi).2.2.1))
        have HB1 := Lib.hid (Hal.out.trans (hb1.mono Hal.out.size))
        have KT := Lib.hid (table_any gl cl 3 gs cs Rs (fun i hi => by have := ((hON i hi).2.2.1).len; omega) (by omega) hcl2 w1 HL1.out)
        rw [HT1.out] at KT
        clear hown hON hcc KL HT1 HL1
        go_wp2_with fail
        refine KT.out.mono ?_; rintro e w2 ⟨v2, rfl, ht2, hb2⟩
        have T2 := Lib.hid (ht2.out.wide (lo' := w.heap.size) HB1.out.size)
        have HB2 := Lib.hid (HB1.out.trans (hb2.mono HB1.out.size))
        clear ht2 KT
        go_wp2_with fail
        refine (C1.out _).mono ?_; rintro e w' ⟨rfl, rfl⟩
        go_wp2
        rw [HC1.out]
        refine bodyPost_ret (v := .tuple #[v2, .bool false]) (by simp [results, Try.results43, go_sem]) rfl ⟨_, rfl, T2, HB2.out⟩
      · rw [HWS.out rfl] at C2
        clear HWS
        go_enter Try.func43, Try.ntmps43
        go_wp2_with fail
        clear hW0
        refine KL.out.mono ?_; rintro e w1 hp
        unfold LkPost at hp
        rw [if_pos HQ0.out] at hp
        obtain ⟨vl', gs, cs, Rs, rfl, hown, hON, hb1⟩ := hp
        obtain ⟨gl, cl, rfl, hgl, hcl1, hcl2, hglt, hcc⟩ := own_cell1 hown (by omega)
        have HL1 := Lib.hid (LkYes.lks hcc hON)
        have HT1 := Lib.hid (tab_self HQ0.out (fun i hi => (hON i hi).2.2.1))
        have HB1 := Lib.hid (Hal.out.trans (hb1.mono Hal.out.size))
        have KT := Lib.hid (table_any gl cl 3 gs cs Rs (fun i hi => by have := ((hON i hi).2.2.1).len; omega) (by omega) hcl2 w1 HL1.out)
        rw [HT1.out] at KT
        clear hown hON hcc KL HT1 HL1
        go_wp2_with fail
        refine KT.out.mono ?_; rintro e w2 ⟨v2, rfl, ht2, hb2⟩
        have T2 := Lib.hid (ht2.out.wide (lo' := w.heap.size) HB1.out.size)
        have HB2 := Lib.hid (HB1.out.trans (hb2.mono HB1.out.size))
        have hb12 := hb1.trans (hb2.mono hb1.size)
        clear ht2 KT
        go_wp2_with fail
        refine (C1.out _).mono ?_; rintro e w' ⟨rfl, rfl⟩
        obtain ⟨x1, x2, -, -⟩ := HBS.out.keep hb12
        go_wp2_with fail
        refine (C2.out _).mono ?_; rintro e w3 ⟨rfl, hb3⟩
        have T3 := Lib.hid (T2.out.later hb3)
        have HB3 := Lib.hid (HB2.out.trans (hb3.mono HB2.out.size))
        clear T2 HB2 x1 x2
        go_wp2
        rw [HC1.out]
        refine bodyPost_ret (v := .tuple #[v2, .bool false]) (by simp [results, Try.results43, go_sem]) rfl ⟨_, rfl, T3, HB3.out⟩
  · have HQ0 : Hid (lockOkB T = false) := by show _ = _; simpa using hq0
    have HC1 : Hid (chT T who lo hi gf = ([], false)) := by show _ = _; unfold chT; rw [if_neg (by rw [HQ0.out]; simp)]
    clear hq0 hcf hf
    go_enter Try.func43, Try.ntmps43
    go_wp2_with fail
    clear hW0
    refine KL.out.mono ?_; rintro e w1 hp
    unfold LkPost at hp
    rw [if_neg (by rw [HQ0.out]; simp)] at hp
    obtain ⟨rfl, hb1⟩ := hp
    clear KL HQ0
    have HB1 := Lib.hid (Hal.out.trans (hb1.mono Hal.out.size))
    go_wp2
    rw [HC1.out]
    refine bodyPost_ret (v := .tuple #[.slice none 0 0, .bool false]) (by simp [results, Try.results43, go_sem]) rfl ⟨_, rfl, Lib.hid (otab_nil _ _ _ _ _ (by unfold maxLen; omega)), HB1.out⟩

end Go.Proofs.Ytfifimdaepebeaa

namespace Go.Proofs.Ytfifimdaepebeaa
open Go.RowKit

set_option maxRecDepth 100000 in
set_option maxHeartbeats 4000000 in
theorem implLockBars_any (v : Value) (T : List HoldT) (who : Int) (wr : Bool) (lo hi : Int) (w : World) (h : Hds w v T) :
    Calls Try.prog 24 #[v, .int .i64 who, .bool wr, .agg #[.int .i64 lo, .int .i64 hi]] w (IntC w (barsL T who wr lo hi)) := by
  obtain ⟨W0, hW0⟩ : ∃ W0, w.alloc (.cells #[.int .i64 lo, .int .i64 hi] 25) = W0 := ⟨_, rfl⟩
  have hal : Below w.heap.size w W0 := by rw [← hW0]; exact (Below.refl _ _).alloc (Nat.le_refl _) _
  have B0 : Box2 W0 w.heap.size lo hi := by rw [← hW0]; exact new_box w lo hi 25
  have K := Lib.hid (locksOf_any v T W0 (h.keep hal))
  have HBS := Lib.hid B0
  have Hal := Lib.hid hal
  clear B0 hal h
  by_cases hq0 : lockOkB T = true
  · by_cases hq1 : whoB who = true
    · by_cases hq2 : spanOkB lo hi = true
      · have HQ0 := Lib.hid hq0
        have HQ1 := Lib.hid hq1
        have HQ2 := Lib.hid hq2
        have C1 := Lib.hid (fun W => clientOk_any who W)
        have C2 := Lib.hid (fun W => implSpanOk_any lo hi W)
        rw [hq1] at C1
        rw [hq2] at C2
        clear hq0 hq1 hq2
        go_enter Try.func24, Try.ntmps24
        go_wp2_with fail
        clear hW0
        refine K.out.mono ?_; rintro e w1 hp
        unfold LkPost at hp
        rw [if_pos HQ0.out] at hp
        obtain ⟨vl', gs, cs, Rs, rfl, hown, hN, hb1⟩ := hp
        obtain ⟨gl, cl, rfl, hgl, hcl1, hcl2, hglt, hcc⟩ := own_cell1 hown (by omega)
        have HL := Lib.hid (LkYes.lks hcc hN)
        have HRl : Hid (∀ i, i < 3 → (Rs i).length ≤ 100) := fun i hi => by have := ((hN i hi).2.2.1).len; omega
        have HE := Lib.hid (bars_rows HQ0.out (fun i hi => (hN i hi).2.2.1) HQ1.out (wr := wr) HQ2.out)
        clear hown hN hcc K HQ0
        go_wp2_with fail
        refine (C1.out _).mono ?_; rintro e w' ⟨rfl, rfl⟩
        obtain ⟨s1, s2, -, -⟩ := HBS.out.keep hb1
        go_wp2_with fail
        refine (C2.out _).mono ?_; rintro e w2 ⟨rfl, hb2⟩
        have hb12 := hb1.trans (hb2.mono hb1.size)
        clear s1 s2
        obtain ⟨s1, s2, s3, s4⟩ := HBS.out.keep hb12
        have HL2 := Lib.hid (HL.out.keep hb2)
        clear HL
        go_wp2_with fail
        go_region_held3 (fun w' => w'.cell? ⟨w.heap.size, 0, none⟩ = some (.int .i64 lo) ∧ w'.cell? ⟨w.heap.size, 1, none⟩ = some (.int .i64 hi))
          (refine ⟨?_, ?_⟩ <;> first | (go_keep; done) | (refine cell_keep hb ?_; first | (go_keep; done) | (go_simp; done)))
          (first
            | (go_at_call 44; refine (modeOf_any wr _).mono ?_; rintro e w' ⟨rfl, rfl⟩)
            | (go_at_call 66; refine (bars_any _ who (wantOf wr) lo hi _ ⟨_, _, _, rfl⟩).mono ?_; rintro e w' ⟨rfl, hw'⟩; obtain ⟨f1, f2, f3, f4, hsz, hb⟩ := bars_boxes _ _ _ _ _ _ _ _ _ hw'.symm; have F1 := Lib.hid f1; have F2 := Lib.hid f2; have F3 := Lib.hid f3; have F4 := Lib.hid f4; clear f1 f2 f3 f4 hw'; have hbW := (Below.drew (Below.refl _ _)).trans hb)
            | (go_at_call 65; refine (collectInt_any _ _ _ _ gl cl 3 gs cs Rs who (wantOf wr) lo hi HRl.out (by omega) (by omega) hcl1 hcl2 _ F1.out F2.out F3.out F4.out (HL2.out.keep hbW)).mono ?_; rintro e w' hr; obtain ⟨vr, rfl, ho, hb⟩ := IntC.base (w := w2) hr hbW))
        go_wp2
        go_ret
        have hb3 := Hal.out.trans (hb12.mono Hal.out.size)
        rw [HE.out]
        exact IntC.base ⟨_, rfl, ho, hb⟩ hb3
      · replace hq2 : spanOkB lo hi = false := by simpa using hq2
        have HF : Hid (barsL T who wr lo hi = []) := by show _ = _; unfold barsL; rw [hq2]; simp
        have C1 := Lib.hid (fun W => clientOk_any who W)
        have C2 := Lib.hid (fun W => implSpanOk_any lo hi W)
        rw [hq1] at C1
        rw [hq2] at C2
        have HQ0 := Lib.hid hq0
        clear hq0 hq1 hq2
        go_enter Try.func24, Try.ntmps24
        go_wp2_with fail
        clear hW0
        refine K.out.mono ?_; rintro e w1 hp
        unfold LkPost at hp
        rw [if_pos HQ0.out] at hp
        obtain ⟨vl', gs, cs, Rs, rfl, -, -, hb1⟩ := hp
        clear K HQ0
        go_wp2_with fail
        refine (C1.out _).mono ?_; rintro e w' ⟨rfl, rfl⟩
        obtain ⟨s1, s2, -, -⟩ := HBS.out.keep hb1
        go_wp2_with fail
        refine (C2.out _).mono ?_; rintro e w2 ⟨rfl, hb2⟩
        have hb12 := hb1.trans (hb2.mono hb1.size)
        have hb3 := Hal.out.trans (hb12.mono Hal.out.size)
        clear s1 s2
        go_wp2
        go_ret
        rw [HF.out]
        exact intC_nil _ _ hb3
    · replace hq1 : whoB who = false := by simpa using hq1
      have HF : Hid (barsL T who wr lo hi = []) := by show _ = _; unfold barsL; rw [hq1]; simp
      have C1 := Lib.hid (fun W => clientOk_any who W)
      rw [hq1] at C1
      have HQ0 := Lib.hid hq0
      clear hq0 hq1
      go_enter Try.func24, Try.ntmps24
      go_wp2_with fail
      clear hW0
      refine K.out.mono ?_; rintro e w1 hp
      unfold LkPost at hp
      rw [if_pos HQ0.out] at hp
      obtain ⟨vl', gs, cs, Rs, rfl, -, -, hb1⟩ := hp
      clear K HQ0
      go_wp2_with fail
      refine (C1.out _).mono ?_; rintro e w' ⟨rfl, rfl⟩
      have hb3 := Hal.out.trans (hb1.mono Hal.out.size)
      go_wp2
      go_ret
      rw [HF.out]
      exact intC_nil _ _ hb3
  · have HQ0 : Hid (lockOkB T = false) := by show _ = _; simpa using hq0
    have HF : Hid (barsL T who wr lo hi = []) := by show _ = _; unfold barsL; rw [HQ0.out]; rfl
    clear hq0
    go_enter Try.func24, Try.ntmps24
    go_wp2_with fail
    clear hW0
    refine K.out.mono ?_; rintro e w1 hp
    unfold LkPost at hp
    rw [if_neg (by rw [HQ0.out]; simp)] at hp
    obtain ⟨rfl, hb1⟩ := hp
    clear K HQ0
    have hb3 := Hal.out.trans (hb1.mono Hal.out.size)
    go_wp2
    go_ret
    rw [HF.out]
    exact intC_nil _ _ hb3

end Go.Proofs.Ytfifimdaepebeaa

namespace Go.Proofs.Ytfifimdaepebeaa
open Go.RowKit

theorem mostF (m : Int) : (∀ (a b : Value) (W : World), (callFunc 67 #[a, b]).run Try.prog W = .ok (.enter 67 #[a, b]) W) ∧
    ∀ (x : Int) (W : World), Calls Try.prog 67 #[.int .i64 m, .int .i64 x] W fun e w' => e = .returned (.int .i64 (mn x m)) ∧ W = w' :=
  ⟨fun a b W => enters_of Try.func67 (by kernel_rfl) rfl #[a, b] W, fun x W => atMost_any m x W⟩

theorem TbB.from {w w1 : World} {T : List HoldT} {q : Bool} {e : Ending} {w' : World} (h : TbB w1 T q e w') (hb : Below w.heap.size w w1) : TbB w T q e w' := by
  obtain ⟨v, he, ht, hb1⟩ := h
  exact ⟨v, he, Lib.hid (ht.out.wide hb.size), hb.trans (hb1.mono hb.size)⟩

set_option maxRecDepth 100000 in
set_option maxHeartbeats 1000000 in
theorem implOff_any (v : Value) (T : List HoldT) (who : Int) (w : World) (h : Hds w v T) :
    Calls Try.prog 28 #[v, .int .i64 who] w (TbB w (chT T who 0 48 (fun x => mn x 0)).1 (chT T who 0 48 (fun x => mn x 0)).2) := by
  have KC := Lib.hid (changed_any 67 (fun x => mn x 0) 0 (mostF 0).1 (mostF 0).2 v T who 0 48 w h)
  generalize chT T who 0 48 (fun x => mn x 0) = C at *
  clear h
  go_enter Try.func28, Try.ntmps28
  go_wp2_with fail
  refine KC.out.mono ?_; rintro e w1 ⟨v1, rfl, h1⟩
  clear KC
  go_wp2
  exact bodyPost_ret (v := .tuple #[v1, .bool C.2]) (by simp [results, Try.results28, go_sem]) rfl ⟨v1, rfl, h1⟩

set_option maxRecDepth 100000 in
set_option maxHeartbeats 1000000 in
theorem implDrop_any (v : Value) (T : List HoldT) (who lo hi : Int) (w : World) (h : Hds w v T) :
    Calls Try.prog 30 #[v, .int .i64 who, .agg #[.int .i64 lo, .int .i64 hi]] w (TbB w (chT T who lo hi (fun x => mn x 0)).1 (chT T who lo hi (fun x => mn x 0)).2) := by
  have hal : Below w.heap.size w (w.alloc (.cells #[.int .i64 lo, .int .i64 hi] 25)) := (Below.refl _ _).alloc (Nat.le_refl _) _
  have KC := Lib.hid (changed_any 67 (fun x => mn x 0) 0 (mostF 0).1 (mostF 0).2 v T who lo hi _ (h.keep hal))
  generalize chT T who lo hi (fun x => mn x 0) = C at *
  have HAL := Lib.hid hal
  clear h hal
  go_enter Try.func30, Try.ntmps30
  go_wp2_with fail
  refine KC.out.mono ?_; rintro e w1 h0
  obtain ⟨v1, rfl, h1⟩ := h0.from HAL.out
  clear KC
  go_wp2
  exact bodyPost_ret (v := .tuple #[v1, .bool C.2]) (by simp [results, Try.results30, go_sem]) rfl ⟨v1, rfl, h1⟩

set_option maxRecDepth 100000 in
set_option maxHeartbeats 1000000 in
theorem implDown_any (v : Value) (T : List HoldT) (who lo hi : Int) (w : World) (h : Hds w v T) :
    Calls Try.prog 33 #[v, .int .i64 who, .agg #[.int .i64 lo, .int .i64 hi]] w (TbB w (chT T who lo hi (fun x => mn x 1)).1 (chT T who lo hi (fun x => mn x 1)).2) := by
  have hal : Below w.heap.size w (w.alloc (.cells #[.int .i64 lo, .int .i64 hi] 25)) := (Below.refl _ _).alloc (Nat.le_refl _) _
  have KC := Lib.hid (changed_any 67 (fun x => mn x 1) 1 (mostF 1).1 (mostF 1).2 v T who lo hi _ (h.keep hal))
  generalize chT T who lo hi (fun x => mn x 1) = C at *
  have HAL := Lib.hid hal
  clear h hal
  go_enter Try.func33, Try.ntmps33
  go_wp2_with fail
  refine KC.out.mono ?_; rintro e w1 h0
  obtain ⟨v1, rfl, h1⟩ := h0.from HAL.out
  clear KC
  go_wp2
  exact bodyPost_ret (v := .tuple #[v1, .bool C.2]) (by simp [results, Try.results33, go_sem]) rfl ⟨v1, rfl, h1⟩

set_option maxRecDepth 100000 in
set_option maxHeartbeats 1000000 in
theorem implGive_any (v : Value) (T : List HoldT) (who : Int) (wr : Bool) (lo hi : Int) (w : World) (h : Hds w v T) :
    Calls Try.prog 15 #[v, .int .i64 who, .bool wr, .agg #[.int .i64 lo, .int .i64 hi]] w (TbB w (chT T who lo hi (fun x => mx x (wantOf wr))).1 (chT T who lo hi (fun x => mx x (wantOf wr))).2) := by
  have hal : Below w.heap.size w (w.alloc (.cells #[.int .i64 lo, .int .i64 hi] 25)) := (Below.refl _ _).alloc (Nat.le_refl _) _
  have KC := Lib.hid (fun W h => changed_any 45 (fun x => mx x (wantOf wr)) (wantOf wr) (leastF (wantOf wr)).1 (leastF (wantOf wr)).2 v T who lo hi W h)
  generalize chT T who lo hi (fun x => mx x (wantOf wr)) = C at *
  have H0 := Lib.hid (h.keep hal)
  have HAL := Lib.hid hal
  clear h hal
  go_enter Try.func15, Try.ntmps15
  go_wp2_with fail
  go_region_held3 (fun w' => w'.cell? ⟨w.heap.size, 0, none⟩ = some (.int .i64 lo) ∧ w'.cell? ⟨w.heap.size, 1, none⟩ = some (.int .i64 hi))
    (refine ⟨?_, ?_⟩ <;> first | (go_keep; done) | (go_simp; done) | (refine cell_keep hb ?_; first | (go_keep; done) | (go_simp; done)))
    (first
      | (go_at_call 44; refine (modeOf_any wr _).mono ?_; rintro e w' ⟨rfl, rfl⟩)
      | (go_at_call 43; refine (KC.out _ (H0.out.keep (Below.refl _ _).drew)).mono ?_; rintro e w1 ⟨v1, rfl, h1, hb⟩))
  have H1 := Lib.hid (h1.out.wide (lo' := w.heap.size) HAL.out.drew.size)
  have HB := Lib.hid (HAL.out.drew.trans (hb.mono HAL.out.drew.size))
  clear KC h1 hb
  go_wp2
  exact bodyPost_ret (v := .tuple #[v1, .bool C.2]) (by simp [results, Try.results15, go_sem]) rfl ⟨v1, rfl, H1, HB.out⟩

end Go.Proofs.Ytfifimdaepebeaa
