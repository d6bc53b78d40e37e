/-
  laws.FnExactLockGive returns true at every input: the walk of the law. No condition.
-/
import Derived.Test.YteabigobnjebaaaImplGive
import Derived.Test.YteabigobnjebaaaSpecGive
import Derived.Test.YteabigobnjebaaaTabMark
import Derived.Test.YteabigobnjebaaaToSpan
import Derived.Deep.RegionHeld3
namespace Go.Proofs.Yteabigobnjebaaa.exLockGive
open Go.RowKit

theorem MTab.keep {w w1 : World} {nb lo hi n : Nat} {vR vS : Nat → Value} {lR lS : Nat → Nat} {cR cS : Nat → Nat → Rng} (h : MTab w nb lo hi n vR vS lR lS cR cS) (hb : Below w.heap.size w w1) : MTab w1 nb lo hi n vR vS lR lS cR cS :=
  ⟨h.1.keep hb, fun i hi' => ⟨(h.2 i hi').1.same fun b _ hlt => hb.block b hlt, (h.2 i hi').2.same fun b _ hlt => hb.block b hlt⟩⟩

set_option maxRecDepth 100000 in
set_option maxHeartbeats 8000000 in
theorem walk (v : Value) (T : List HoldT) (who : Int) (wr : Bool) (lo hi : Int) (w : World) (h : Hds w v T) :
    Calls Try.prog 7 #[v, .int .i64 who, .bool wr, .agg #[.int .i64 lo, .int .i64 hi]] w fun e w' => e = .returned (.bool true) ∧ Below w.heap.size w w' := by
  have k := new_box w lo hi 41
  have hal : Below w.heap.size w (w.alloc (.cells #[.int .i64 lo, .int .i64 hi] 41)) := (Below.refl _ _).alloc (Nat.le_refl _) _
  have Z1 := Lib.hid (szHoldS_any v T 1048576 _ (h.keep hal) (by omega) (by omega))
  have B1 := szTab_bd T 1048576 (by omega)
  have HT0 := Lib.hid (h.keep hal)
  have tl := totT_le T
  clear h
  generalize szTab T 1048576 = z at *
  by_cases hz : z < 0
  · clear tl
    go_enter Try.func7, Try.ntmps7
    go_wp2_with fail
    refine Z1.out.mono ?_; rintro e w1 ⟨rfl, hb1⟩
    go_wp2
    go_ret
    exact ⟨rfl, hal.trans (hb1.mono hal.size)⟩
  · have l1 : Hid (T.length ≤ 1048576) := by show _ ≤ _; omega
    have l3 : Hid (∀ i, i < T.length → (T.getD i hd0).1.length ≤ 1048576 ∧ (T.getD i hd0).2.length ≤ 1048576) := fun i hi => by have := tl i hi; omega
    have l4 := stI_tot 1 T
    have l5 : Hid (0 ≤ (1 : Int) ∧ (1 : Int) + 2 * totT T ≤ 1000000000) := ⟨by omega, by omega⟩
    have htn : ¬ ((1 : Int) + 2 * totT T < 0) := by omega
    have L4 := Lib.hid l4
    have CB := Lib.hid (chT_bd T who lo hi (fun x => mx x (wantOf wr)))
    clear tl l4 B1
    have ET := Lib.hid (fun v u w h h' => eqHoldS_any v u T T w h h')
    rw [eqT_refl'] at ET
    have SB := Lib.hid (fun v w h => specGive_any v T who wr lo hi w h)
    have IB := Lib.hid (fun v w h => implGive_any v T who wr lo hi w h)
    generalize chT T who lo hi (fun x => mx x (wantOf wr)) = C at *
    obtain ⟨N, q⟩ := C
    dsimp only at CB SB IB
    have EN := Lib.hid (fun v u w h h' => eqHoldS_any v u N N w h h')
    rw [eqT_refl'] at EN
    have hqq : (q != q) = false := by simp
    go_enter Try.func7, Try.ntmps7
    go_wp2_with fail
    refine Z1.out.mono ?_; rintro e W ⟨rfl, hbz⟩
    clear Z1
    have HT := Lib.hid (HT0.out.keep hbz)
    have EW := Lib.hid (hal.trans (hbz.mono hal.size))
    have HK := Lib.hid (k.keep hbz)
    clear HT0 k hal
    obtain ⟨x1, x2, -, -⟩ := HK.out
    go_wp2_with fail
    go_region_held3 (fun w' => w'.cell? ⟨w.heap.size, 0, none⟩ = some (.int .i64 lo) ∧ w'.cell? ⟨w.heap.size, 1, none⟩ = some (.int .i64 hi))
      (refine ⟨?_, ?_⟩ <;> first | (go_keep; done) | (refine cell_keep hb ?_; first | (go_keep; done) | (go_simp; done)))
      (first
        | (go_at_call 20; refine (toHoldS_any v T _ (HT.out.keep (Below.refl _ _).drew) l1.out l3.out).mono ?_; rintro e w' ⟨n3, R3, S3, rfl, h3⟩; have HR := Lib.hid (h3.hds l1.out l3.out); have hb := h3.2.2.2; clear h3; have hbW := (Below.drew (Below.refl _ _)).trans hb)
        | (go_at_call 24; refine (toSpan_any lo hi _).mono ?_; rintro e w' ⟨rfl, hb⟩; have HR2 := Lib.hid (HR.out.keep hb); have hbW2 := hbW.trans (hb.mono hbW.size))
        | (go_at_call 32; refine (SB.out _ _ HR2.out).mono ?_; rintro e w4 ⟨v0, rfl, ho, hb⟩; have HO0 := Lib.hid ho.out; have hbW3 := hbW2.trans (hb.mono hbW2.size)))
    have J4 := Lib.hid (HO0.out)
    have e4 : Below W.heap.size W w4 := hbW3
    have s4 := Lib.hid e4.size
    clear x1 x2 HR hbW HR2 hbW2 HO0 hz htn hbz hbW3 ho hb
    go_wp2_with fail
    refine (toHoldS_any v T _ (HT.out.keep e4) l1.out l3.out).mono ?_; rintro e w5 ⟨n5, R5, S5, rfl, h5⟩
    have g5 := Lib.hid (h5.hds l1.out l3.out)
    have M5 := Lib.hid h5.tab.1
    have D5 := Lib.hid h5.tab.2
    have hb5 := h5.2.2.2
    have J5 := Lib.hid (J4.out.keep hb5)
    have HS45 := Lib.hid hb5.size
    have e5 := e4.trans (hb5.mono e4.size)
    clear h5 hb5 e4 J4
    obtain ⟨x1, x2, -, -⟩ := HK.out.keep e5
    go_wp2_with fail
    refine (toSpan_any lo hi _).mono ?_; rintro e w6 ⟨rfl, hb6⟩
    have g6 := Lib.hid (g5.out.keep hb6)
    have M6 := Lib.hid (MTab.keep M5.out hb6)
    have J6 := Lib.hid (J5.out.keep hb6)
    have s6 := Lib.hid hb6.size
    have e6 := e5.trans (hb6.mono e5.size)
    clear x1 x2 g5 M5 J5 hb6 e5
    go_wp2_with fail
    refine (IB.out _ _ g6.out).mono ?_; rintro e w7 ⟨v7, rfl, ho7, hb7⟩
    have G7 := Lib.hid ho7.out
    have g7 := Lib.hid (g6.out.keep hb7)
    have M7 := Lib.hid (MTab.keep M6.out hb7)
    have J7 := Lib.hid (J6.out.keep hb7)
    have e7 := e6.trans (hb7.mono e6.size)
    have s7 := Lib.hid (Nat.le_trans s4.out (Nat.le_trans HS45.out s6.out))
    clear g6 M6 J6 hb7 e6 ho7
    go_wp2_with fail
    refine (EN.out _ _ _ G7.out.hds J7.out.hds).mono ?_; rintro e w8 ⟨rfl, hb8⟩
    have G8 := Lib.hid (G7.out.keep hb8)
    have g8 := Lib.hid (g7.out.keep hb8)
    have M8 := Lib.hid (MTab.keep M7.out hb8)
    have J8 := Lib.hid (J7.out.keep hb8)
    have e8 := e7.trans (hb8.mono e7.size)
    clear G7 g7 M7 J7 e7 hb8
    go_wp2_with fail
    refine (toHoldS_any v T _ (HT.out.keep e8) l1.out l3.out).mono ?_; rintro e w9 ⟨n9, R9, S9, rfl, h9⟩
    have q9 := Lib.hid (h9.hds l1.out l3.out)
    have hb9 := h9.2.2.2
    have G9 := Lib.hid (G8.out.keep hb9)
    have g9 := Lib.hid (g8.out.keep hb9)
    have M9 := Lib.hid (MTab.keep M8.out hb9)
    have J9 := Lib.hid (J8.out.keep hb9)
    have e9 := e8.trans (hb9.mono e8.size)
    clear G8 g8 M8 J8 e8 hb9 h9
    go_wp2_with fail
    refine (ET.out _ _ _ g9.out q9.out).mono ?_; rintro e w10 ⟨rfl, hb10⟩
    have G10 := Lib.hid (G9.out.keep hb10)
    have M10 := Lib.hid (MTab.keep M9.out hb10)
    have J10 := Lib.hid (J9.out.keep hb10)
    have e10 := e9.trans (hb10.mono e9.size)
    have KM := Lib.hid (markT_any _ _ _ _ T.length 1 _ _ _ _ _ _ _ M10.out D5.out l3.out l1.out (by omega) (by rw [L4.out]; exact l5.out.2))
    rw [L4.out] at KM
    have htt : ¬ ((1 : Int) + 2 * (totT T : Int) < 0) := by omega
    generalize (1 : Int) + 2 * (totT T : Int) = kk at *
    clear G9 g9 q9 M9 J9 e9 hb10 M10
    go_wp2_with fail
    refine KM.out.mono ?_; rintro e w11 ⟨rfl, -, hb11⟩
    have G11 := Lib.hid (G10.out.btw hb11 (.inr s6.out))
    have J11 := Lib.hid (J10.out.btw hb11 (.inl (Nat.le_refl _)))
    have e11 := e10.trans (hb11.below s4.out e10.size)
    clear G10 J10 e10 hb11 KM
    go_wp2_with fail
    refine (EN.out _ _ _ G11.out.hds J11.out.hds).mono ?_; rintro e w12 ⟨rfl, hb12⟩
    have G12 := Lib.hid (G11.out.keep hb12)
    have J12 := Lib.hid (J11.out.keep hb12)
    have e12 := e11.trans (hb12.mono e11.size)
    clear G11 J11 e11 hb12
    have KG := Lib.hid (markTab_any _ _ _ N _ G12.out CB.out)
    have KH := Lib.hid (fun w h => heldTab_any w6.heap.size w7.heap.size v7 N w h CB.out)
    have hnn : ¬ ((1 : Int) + 2 * (totT N : Int) < 0) := by omega
    have hd : (((1 : Int) + 2 * (totT N : Int)) != ((1 : Int) + 2 * (totT N : Int))) = false := by simp
    generalize (1 : Int) + 2 * (totT N : Int) = yy at *
    go_wp2_with fail
    refine KG.out.mono ?_; rintro e w13 ⟨rfl, hg13, hb13⟩
    have G13 := Lib.hid hg13
    have J13 := Lib.hid (J12.out.btw hb13 (.inl (Nat.le_trans HS45.out s6.out)))
    have e13 := e12.trans (hb13.below s7.out e12.size)
    clear G12 J12 e12 hb13 hg13 KG
    go_wp2_with fail
    refine (KH.out _ G13.out).mono ?_; rintro e w' ⟨rfl, rfl⟩
    obtain ⟨x1, x2, -, -⟩ := HK.out.keep e13
    have HT13 := Lib.hid (HT.out.keep e13)
    clear HT s4 s6 s7 HS45
    go_wp2_with fail
    go_region_held3 (fun w' => w'.cell? ⟨w.heap.size, 0, none⟩ = some (.int .i64 lo) ∧ w'.cell? ⟨w.heap.size, 1, none⟩ = some (.int .i64 hi))
      (refine ⟨?_, ?_⟩ <;> first | (go_keep; done) | (refine cell_keep hb ?_; first | (go_keep; done) | (go_simp; done)))
      (first
        | (go_at_call 20; refine (toHoldS_any v T _ (HT13.out.keep (Below.refl _ _).drew) l1.out l3.out).mono ?_; rintro e w' ⟨n3, R3, S3, rfl, h3⟩; have HR := Lib.hid (h3.hds l1.out l3.out); have hb := h3.2.2.2; clear h3; have hbW := (Below.drew (Below.refl _ _)).trans hb)
        | (go_at_call 24; refine (toSpan_any lo hi _).mono ?_; rintro e w' ⟨rfl, hb⟩; have HR2 := Lib.hid (HR.out.keep hb); have hbW2 := hbW.trans (hb.mono hbW.size))
        | (go_at_call 33; refine (IB.out _ _ HR2.out).mono ?_; rintro e w14 ⟨v14, rfl, ho, hb⟩; have HO0 := Lib.hid ho.out; have hbW3 := hbW2.trans (hb.mono hbW2.size)))
    have P14 := Lib.hid (HO0.out)
    have hb14 : Below w13.heap.size w13 w14 := hbW3
    have G14 := Lib.hid (G13.out.keep hb14)
    have J14 := Lib.hid (J13.out.keep hb14)
    have e14 := e13.trans (hb14.mono e13.size)
    clear x1 x2 HR hbW HR2 hbW2 HO0 hbW3 ho G13 J13 e13 hb14 HT13 hb
    go_wp2_with fail
    refine (EN.out _ _ _ P14.out.hds J14.out.hds).mono ?_; rintro e w15 ⟨rfl, hb15⟩
    have G15 := Lib.hid (G14.out.keep hb15)
    have e15 := e14.trans (hb15.mono e14.size)
    clear G14 J14 P14 e14 hb15
    go_wp2_with fail
    refine (KH.out _ G15.out).mono ?_; rintro e w' ⟨rfl, rfl⟩
    have e16 := EW.out.trans (e15.mono EW.out.size)
    clear e15 G15
    go_wp2
    go_ret
    exact ⟨rfl, e16⟩

end Go.Proofs.Yteabigobnjebaaa.exLockGive
