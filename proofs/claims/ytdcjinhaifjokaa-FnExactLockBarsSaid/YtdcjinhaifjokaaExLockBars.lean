/-
  laws.FnExactLockBars returns true at every input: the walk of the law. No condition.
-/
import Derived.Test.YtdcjinhaifjokaaImplBars
import Derived.Test.YtdcjinhaifjokaaSpecBars
import Derived.Test.YtdcjinhaifjokaaMarkT
import Derived.Test.YtdcjinhaifjokaaMarkH
import Derived.Test.YtdcjinhaifjokaaToSpan
import Derived.Deep.RegionHeld3
namespace Go.Proofs.Ytdcjinhaifjokaa.exLockBars
open Go.RowKit

theorem eqT_refl (T : List HoldT) : eqT T T = true := by unfold eqT; simp

/-- A slice of n one-cell values at the head of a block between lo and hi, which may be written; any slice if n is 0. -/
def IRow (w : World) (lo hi : Nat) (v : Value) (n : Nat) (f : Nat → Value) : Prop :=
  ∃ a cap, v = .slice a n cap ∧ n ≤ cap ∧ cap ≤ maxLen ∧ (0 < n → ∃ b, a = some ⟨b, 0, none⟩ ∧ lo ≤ b ∧ b < hi ∧ Row1 w b n f)
theorem Row1.same {w w1 : World} {b n : Nat} {f : Nat → Value} (h : Row1 w b n f) (hb : w1.heap[b]? = w.heap[b]?) : Row1 w1 b n f := fun i hi => by
  obtain ⟨h0, h1⟩ := h i hi
  exact ⟨(World.cell?_of_block (a := ⟨b, i, none⟩) hb).trans h0, (World.frozen?_of_block (a := ⟨b, i, none⟩) hb).trans h1⟩
theorem IRow.btw {w w1 : World} {lo hi l h : Nat} {v : Value} {n : Nat} {f : Nat → Value} (hr : IRow w lo hi v n f) (hb : Btw l h w w1) (hd : hi ≤ l ∨ h ≤ lo) : IRow w1 lo hi v n f := by
  obtain ⟨a, cap, rfl, h1, h2, hc⟩ := hr
  refine ⟨a, cap, rfl, h1, h2, fun hn => ?_⟩
  obtain ⟨b, rfl, h3, h4, h5⟩ := hc hn
  exact ⟨b, rfl, h3, h4, Row1.same h5 (hb.block b (World.block_lt_of_cell? w _ (h5 0 hn).1) (by omega))⟩
theorem IRow.keep {w w1 : World} {lo hi : Nat} {v : Value} {n : Nat} {f : Nat → Value} (hr : IRow w lo hi v n f) (hb : Below w.heap.size w w1) : IRow w1 lo hi v n f :=
  hr.btw (l := hi) (h := hi) (Btw.of_below hb) (.inl (Nat.le_refl _))
theorem IRow.vls {w : World} {lo hi : Nat} {v : Value} {n : Nat} {f : Nat → Value} (hr : IRow w lo hi v n f) : Vls w v n f := by
  obtain ⟨a, cap, rfl, h1, h2, hc⟩ := hr
  refine ⟨a, cap, rfl, h1, h2, fun hn => ?_⟩
  obtain ⟨b, rfl, h3, h4, h5⟩ := hc hn
  exact ⟨b, 0, rfl, fun i hi => by rw [Nat.zero_add]; exact (h5 i hi).1⟩
theorem IRow.of_own {w : World} {B : Nat} {v : Value} {Y : List Int} (h : w.ownsRow B 3 1 v Y.length (intL Y)) : IRow w B w.heap.size v Y.length (fun i => .int .i64 (Y.getD i 0)) := by
  have hl : (intL Y).length = Y.length := by unfold intL; simp
  have he : ∀ i, i < Y.length → (intL Y).getD i (.bool false) = .int .i64 (Y.getD i 0) := fun i hi => by
    unfold intL
    rw [List.getD_eq_getElem?_getD, List.getElem?_map, List.getElem?_eq_getElem hi, List.getD_eq_getElem?_getD, List.getElem?_eq_getElem hi]; rfl
  have hv := own_vls h
  obtain ⟨a, cap, rfl, h1, h2, hc⟩ := hv
  refine ⟨a, cap, rfl, h1, h2, fun hn => ?_⟩
  obtain ⟨g, c', e, hg, -, -, hlt, -⟩ := own_cell1 h hn
  injection e with e1 e2 e3
  subst e1 e3
  exact ⟨g, rfl, hg, hlt, (own_row1 h).congr he⟩

theorem markIRow_any (lo hi : Nat) (v : Value) (n : Nat) (k : Int) (f : Nat → Value) (w : World) (h : IRow w lo hi v n f) (hn : n ≤ 1048576) (h0 : 0 ≤ k) (h1 : k ≤ 1000000000) :
    Calls Try.prog 24 #[v, .int .i64 k] w fun e w' => e = .returned (.int .i64 (k + n)) ∧ IRow w' lo hi v n (mkI k) ∧ Btw lo hi w w' := by
  obtain ⟨a, cap, rfl, c1, c2, hc⟩ := h
  by_cases hz : n = 0
  · subst hz
    refine (markI_nil a cap k w).mono ?_
    rintro e w' ⟨rfl, rfl⟩
    exact ⟨by simp, ⟨a, cap, rfl, c1, c2, fun h => absurd h (by omega)⟩, Btw.refl _ _ _⟩
  · obtain ⟨b, rfl, h2, h3, h4⟩ := hc (by omega)
    refine (markI_any b n cap k f w h4 hn h0 h1).mono ?_
    rintro e w' ⟨rfl, hr, hg⟩
    exact ⟨rfl, ⟨_, cap, rfl, c1, c2, fun _ => ⟨b, rfl, h2, h3, hr⟩⟩, ⟨hg.os, hg.tape, hg.output, hg.size, fun i hi' hn' => hg.block i hi' (fun e => by injection e with e; omega)⟩⟩
theorem heldIRow_any (lo hi : Nat) (v : Value) (n : Nat) (k : Int) (w : World) (h : IRow w lo hi v n (mkI k)) (hn : n ≤ 1048576) (h0 : 0 ≤ k) (h1 : k ≤ 1000000000) :
    Calls Try.prog 25 #[v, .int .i64 k] w fun e w' => e = .returned (.int .i64 (k + n)) ∧ w = w' := by
  obtain ⟨a, cap, rfl, c1, c2, hc⟩ := h
  by_cases hz : n = 0
  · subst hz
    refine (heldI_nil a cap k w).mono ?_
    rintro e w' ⟨rfl, rfl⟩
    exact ⟨by simp, rfl⟩
  · obtain ⟨b, rfl, h2, h3, h4⟩ := hc (by omega)
    exact heldI_any b n cap k w h4 hn h0 h1

theorem MTab.keep {w w1 : World} {nb lo hi n : Nat} {vR vS : Nat → Value} {lR lS : Nat → Nat} {cR cS : Nat → Nat → Rng} (h : MTab w nb lo hi n vR vS lR lS cR cS) (hb : Below w.heap.size w w1) : MTab w1 nb lo hi n vR vS lR lS cR cS :=
  ⟨h.1.keep hb, fun i hi' => ⟨(h.2 i hi').1.same fun b _ hlt => hb.block b hlt, (h.2 i hi').2.same fun b _ hlt => hb.block b hlt⟩⟩

set_option maxRecDepth 100000 in
set_option maxHeartbeats 8000000 in
theorem walk (v : Value) (T : List HoldT) (who : Int) (wr : Bool) (lo hi : Int) (w : World) (h : Hds w v T) :
    Calls Try.prog 5 #[v, .int .i64 who, .bool wr, .agg #[.int .i64 lo, .int .i64 hi]] w fun e w' => e = .returned (.bool true) ∧ Below w.heap.size w w' := by
  have k := new_box w lo hi 30
  have hal : Below w.heap.size w (w.alloc (.cells #[.int .i64 lo, .int .i64 hi] 30)) := (Below.refl _ _).alloc (Nat.le_refl _) _
  have Z1 := Lib.hid (szHoldS_any v T 1048576 _ (h.keep hal) (by omega) (by omega))
  have B1 := szTab_bd T 1048576 (by omega)
  have HT0 := Lib.hid (h.keep hal)
  have tl := totT_le T
  have tt := eqT_refl T
  clear h
  generalize szTab T 1048576 = z at *
  by_cases hz : z < 0
  · clear tl tt
    go_enter Try.func5, Try.ntmps5
    go_wp2_with fail
    refine Z1.out.mono ?_; rintro e w1 ⟨rfl, hb1⟩
    go_wp2
    go_ret
    exact ⟨rfl, hal.trans (hb1.mono hal.size)⟩
  · have l1 : Hid (T.length ≤ 1048576) := by show _ ≤ _; omega
    have l3 : Hid (∀ i, i < T.length → (T.getD i hd0).1.length ≤ 1048576 ∧ (T.getD i hd0).2.length ≤ 1048576) := fun i hi => by have := tl i hi; omega
    have l4 := stI_tot 1 T
    have l5 : Hid (0 ≤ (1 : Int) ∧ (1 : Int) + 2 * totT T ≤ 1000000000) := ⟨by omega, by omega⟩
    have htn : ¬ ((1 : Int) + 2 * totT T < 0) := by omega
    have L4 := Lib.hid l4
    have hTT := Lib.hid tt
    have YL := Lib.hid (barsL_len T who wr lo hi)
    clear tl tt l4 B1
    have SB := Lib.hid (fun v w h => specLockBars_any v T who wr lo hi w h)
    have IB := Lib.hid (fun v w h => implLockBars_any v T who wr lo hi w h)
    generalize barsL T who wr lo hi = Y at *
    go_enter Try.func5, Try.ntmps5
    go_wp2_with fail
    refine Z1.out.mono ?_; rintro e W ⟨rfl, hbz⟩
    clear Z1
    have HT := Lib.hid (HT0.out.keep hbz)
    have EW := Lib.hid (hal.trans (hbz.mono hal.size))
    have HK := Lib.hid (k.keep hbz)
    clear HT0 k hal
    obtain ⟨x1, x2, -, -⟩ := HK.out
    go_wp2_with fail
    go_region_held3 (fun w' => w'.cell? ⟨w.heap.size, 0, none⟩ = some (.int .i64 lo) ∧ w'.cell? ⟨w.heap.size, 1, none⟩ = some (.int .i64 hi))
      (refine ⟨?_, ?_⟩ <;> first | (go_keep; done) | (refine cell_keep hb ?_; first | (go_keep; done) | (go_simp; done)))
      (first
        | (go_at_call 14; refine (toHoldS_any v T _ (HT.out.keep (Below.refl _ _).drew) l1.out l3.out).mono ?_; rintro e w' ⟨n3, R3, S3, rfl, h3⟩; have HR := Lib.hid (h3.hds l1.out l3.out); have hb := h3.2.2.2; clear h3; have hbW := (Below.drew (Below.refl _ _)).trans hb)
        | (go_at_call 18; refine (toSpan_any lo hi _).mono ?_; rintro e w' ⟨rfl, hb⟩; have HR2 := Lib.hid (HR.out.keep hb); have hbW2 := hbW.trans (hb.mono hbW.size))
        | (go_at_call 20; refine (SB.out _ _ HR2.out).mono ?_; rintro e w4 ⟨v0, rfl, ho, hb⟩; have HO0 := Lib.hid ho; have hbW3 := hbW2.trans (hb.mono hbW2.size)))
    have J4 := Lib.hid (IRow.of_own HO0.out)
    have e4 : Below W.heap.size W w4 := hbW3
    have s4 := Lib.hid e4.size
    clear x1 x2 HR HR2 hbW hbW2 HO0 hz htn hbz hbW3 ho
    go_wp2_with fail
    refine (toHoldS_any v T _ (HT.out.keep e4) l1.out l3.out).mono ?_; rintro e w5 ⟨n5, R5, S5, rfl, h5⟩
    have g5 := Lib.hid (h5.hds l1.out l3.out)
    have M5 := Lib.hid h5.tab.1
    have D5 := Lib.hid h5.tab.2
    have hb5 := h5.2.2.2
    have J5 := Lib.hid (J4.out.keep hb5)
    have HS45 := Lib.hid hb5.size
    have e5 := e4.trans (hb5.mono e4.size)
    clear h5 hb5 e4 J4
    obtain ⟨x1, x2, -, -⟩ := HK.out.keep e5
    go_wp2_with fail
    refine (toSpan_any lo hi _).mono ?_; rintro e w6 ⟨rfl, hb6⟩
    have g6 := Lib.hid (g5.out.keep hb6)
    have M6 := Lib.hid (MTab.keep M5.out hb6)
    have J6 := Lib.hid (J5.out.keep hb6)
    have s6 := Lib.hid hb6.size
    have e6 := e5.trans (hb6.mono e5.size)
    clear x1 x2 g5 M5 J5 hb6 e5
    go_wp2_with fail
    refine (IB.out _ _ g6.out).mono ?_; rintro e w7 ⟨v7, rfl, ho7, hb7⟩
    have G7 := Lib.hid (IRow.of_own ho7.out)
    have g7 := Lib.hid (g6.out.keep hb7)
    have M7 := Lib.hid (MTab.keep M6.out hb7)
    have J7 := Lib.hid (J6.out.keep hb7)
    have e7 := e6.trans (hb7.mono e6.size)
    have s7 := Lib.hid (Nat.le_trans s4.out (Nat.le_trans HS45.out s6.out))
    clear g6 M6 J6 hb7 e6 ho7
    go_wp2_with fail
    refine (eqInt_same _ _ Y.length (fun i => Y.getD i 0) _ G7.out.vls J7.out.vls).mono ?_; rintro e w8 ⟨rfl, hb8⟩
    have G8 := Lib.hid (G7.out.keep hb8)
    have g8 := Lib.hid (g7.out.keep hb8)
    have M8 := Lib.hid (MTab.keep M7.out hb8)
    have J8 := Lib.hid (J7.out.keep hb8)
    have e8 := e7.trans (hb8.mono e7.size)
    clear G7 g7 M7 J7 e7 hb8
    go_wp2_with fail
    refine (toHoldS_any v T _ (HT.out.keep e8) l1.out l3.out).mono ?_; rintro e w9 ⟨n9, R9, S9, rfl, h9⟩
    have q9 := Lib.hid (h9.hds l1.out l3.out)
    have hb9 := h9.2.2.2
    have G9 := Lib.hid (G8.out.keep hb9)
    have g9 := Lib.hid (g8.out.keep hb9)
    have M9 := Lib.hid (MTab.keep M8.out hb9)
    have J9 := Lib.hid (J8.out.keep hb9)
    have e9 := e8.trans (hb9.mono e8.size)
    clear G8 g8 M8 J8 e8 hb9 h9
    go_wp2_with fail
    refine (eqHoldS_any _ _ T T _ g9.out q9.out).mono ?_; rintro e w10 ⟨rfl, hb10⟩
    have G10 := Lib.hid (G9.out.keep hb10)
    have M10 := Lib.hid (MTab.keep M9.out hb10)
    have J10 := Lib.hid (J9.out.keep hb10)
    have e10 := e9.trans (hb10.mono e9.size)
    have KM := Lib.hid (markT_any _ _ _ _ T.length 1 _ _ _ _ _ _ _ M10.out D5.out l3.out l1.out (by omega) (by rw [L4.out]; exact l5.out.2))
    rw [L4.out] at KM
    have htt := hTT.out
    have hk0 : 0 ≤ (1 : Int) + 2 * totT T := by omega
    generalize (1 : Int) + 2 * totT T = kk at *
    clear G9 g9 q9 M9 J9 e9 hb10 M10
    go_wp2_with fail
    refine KM.out.mono ?_; rintro e w11 ⟨rfl, -, hb11⟩
    have G11 := Lib.hid (G10.out.btw hb11 (.inr s6.out))
    have J11 := Lib.hid (J10.out.btw hb11 (.inl (Nat.le_refl _)))
    have e11 := e10.trans (hb11.below s4.out e10.size)
    clear G10 J10 e10 hb11 KM htt
    go_wp2_with fail
    refine (eqInt_same _ _ Y.length (fun i => Y.getD i 0) _ G11.out.vls J11.out.vls).mono ?_; rintro e w12 ⟨rfl, hb12⟩
    have G12 := Lib.hid (G11.out.keep hb12)
    have J12 := Lib.hid (J11.out.keep hb12)
    have e12 := e11.trans (hb12.mono e11.size)
    clear G11 J11 e11 hb12
    have yl := YL.out
    go_wp2_with fail
    refine (markIRow_any _ _ _ _ 1 _ _ G12.out (by omega) (by omega) (by omega)).mono ?_; rintro e w13 ⟨rfl, hg13, hb13⟩
    have G13 := Lib.hid hg13
    have J13 := Lib.hid (J12.out.btw hb13 (.inl (Nat.le_trans HS45.out s6.out)))
    have e13 := e12.trans (hb13.below s7.out e12.size)
    have hd : (((1 : Int) + (Y.length : Int)) != ((1 : Int) + (Y.length : Int))) = false := by simp
    have hy0 : 0 ≤ (1 : Int) + (Y.length : Int) := by omega
    have KH := Lib.hid (fun w h => heldIRow_any w6.heap.size w7.heap.size v7 Y.length 1 w h (by omega) (by omega) (by omega))
    generalize (1 : Int) + (Y.length : Int) = yy at *
    clear G12 J12 e12 hb13 hg13
    go_wp2_with fail
    refine (KH.out _ G13.out).mono ?_; rintro e w' ⟨rfl, rfl⟩
    obtain ⟨x1, x2, -, -⟩ := HK.out.keep e13
    have HT13 := Lib.hid (HT.out.keep e13)
    clear HT s4 s6 s7 HS45
    go_wp2_with fail
    go_region_held3 (fun w' => w'.cell? ⟨w.heap.size, 0, none⟩ = some (.int .i64 lo) ∧ w'.cell? ⟨w.heap.size, 1, none⟩ = some (.int .i64 hi))
      (refine ⟨?_, ?_⟩ <;> first | (go_keep; done) | (refine cell_keep hb ?_; first | (go_keep; done) | (go_simp; done)))
      (first
        | (go_at_call 14; refine (toHoldS_any v T _ (HT13.out.keep (Below.refl _ _).drew) l1.out l3.out).mono ?_; rintro e w' ⟨n3, R3, S3, rfl, h3⟩; have HR := Lib.hid (h3.hds l1.out l3.out); have hb := h3.2.2.2; clear h3; have hbW := (Below.drew (Below.refl _ _)).trans hb)
        | (go_at_call 18; refine (toSpan_any lo hi _).mono ?_; rintro e w' ⟨rfl, hb⟩; have HR2 := Lib.hid (HR.out.keep hb); have hbW2 := hbW.trans (hb.mono hbW.size))
        | (go_at_call 21; refine (IB.out _ _ HR2.out).mono ?_; rintro e w14 ⟨v14, rfl, ho, hb⟩; have HO0 := Lib.hid ho; have hbW3 := hbW2.trans (hb.mono hbW2.size)))
    have P14 := Lib.hid (IRow.of_own HO0.out)
    have hb14 : Below w13.heap.size w13 w14 := hbW3
    have G14 := Lib.hid (G13.out.keep hb14)
    have J14 := Lib.hid (J13.out.keep hb14)
    have e14 := e13.trans (hb14.mono e13.size)
    clear x1 x2 HR HR2 hbW hbW2 HO0 hbW3 ho G13 J13 e13 hb14 HT13
    go_wp2_with fail
    refine (eqInt_same _ _ Y.length (fun i => Y.getD i 0) _ P14.out.vls J14.out.vls).mono ?_; rintro e w15 ⟨rfl, hb15⟩
    have G15 := Lib.hid (G14.out.keep hb15)
    have e15 := e14.trans (hb15.mono e14.size)
    clear G14 J14 P14 e14 hb15
    go_wp2_with fail
    refine (KH.out _ G15.out).mono ?_; rintro e w' ⟨rfl, rfl⟩
    have e16 := EW.out.trans (e15.mono EW.out.size)
    clear e15 G15
    go_wp2
    go_ret
    exact ⟨rfl, e16⟩

end Go.Proofs.Ytdcjinhaifjokaa.exLockBars
