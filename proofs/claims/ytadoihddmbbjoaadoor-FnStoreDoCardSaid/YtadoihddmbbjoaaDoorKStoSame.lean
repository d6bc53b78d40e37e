/-
  StoreSame of both sides at any two stores: whether their five lists are one each.
-/
import Derived.Test.YtadoihddmbbjoaaDoorKEqList
namespace Go.Proofs.YtadoihddmbbjoaaDoor
open Go.RowKit

def sameB (S R : StT) : Bool := eqLB S.now R.now && (eqLB S.sure R.sure && (eqLB S.last R.last && (eqLB S.slast R.slast && eqLB S.floors R.floors)))
theorem sameB_self (S : StT) : sameB S S = true := by unfold sameB; simp [eqLB_self]
theorem sameB_iff {S R : StT} : sameB S R = true ↔ S = R := by
  unfold sameB eqLB
  cases S; cases R
  simp


set_option maxRecDepth 100000 in
set_option maxHeartbeats 4000000 in
theorem implSame_any (v0 v1 v2 v3 v4 u0 u1 u2 u3 u4 : Value) (S R : StT) (w : World) (h : Sto w v0 v1 v2 v3 v4 S) (h' : Sto w u0 u1 u2 u3 u4 R) :
    Calls Tryd.prog 16 #[.agg #[v0, v1, v2, v3, v4], .agg #[u0, u1, u2, u3, u4]] w fun e w' => e = .returned (.bool (sameB S R)) ∧ Below w.heap.size w w' := by
  obtain ⟨a0, c0, rfl⟩ := h.now.form
  obtain ⟨b0, d0, rfl⟩ := h'.now.form
  obtain ⟨a1, c1, rfl⟩ := h.sure.form
  obtain ⟨b1, d1, rfl⟩ := h'.sure.form
  obtain ⟨a2, c2, rfl⟩ := h.last.form
  obtain ⟨b2, d2, rfl⟩ := h'.last.form
  obtain ⟨a3, c3, rfl⟩ := h.slast.form
  obtain ⟨b3, d3, rfl⟩ := h'.slast.form
  obtain ⟨a4, c4, rfl⟩ := h.floors.form
  obtain ⟨b4, d4, rfl⟩ := h'.floors.form
  obtain ⟨W, hW⟩ : ∃ W, (w.alloc (.cells #[.slice a0 S.now.length c0, .slice a1 S.sure.length c1, .slice a2 S.last.length c2, .slice a3 S.slast.length c3, .slice a4 S.floors.length c4] 30)).alloc (.cells #[.slice b0 R.now.length d0, .slice b1 R.sure.length d1, .slice b2 R.last.length d2, .slice b3 R.slast.length d3, .slice b4 R.floors.length d4] 30) = W := ⟨_, rfl⟩
  have hal : Below w.heap.size w W := by rw [← hW]; exact ((Below.refl _ _).alloc (Nat.le_refl _) _).alloc (by simp) _
  have A0 : Box5 W w.heap.size (.slice a0 S.now.length c0) (.slice a1 S.sure.length c1) (.slice a2 S.last.length c2) (.slice a3 S.slast.length c3) (.slice a4 S.floors.length c4) := by rw [← hW]; exact (new_box5 w _ _ _ _ _ _).keep ((Below.refl _ _).alloc (Nat.le_refl _) _)
  have R0 : Box5 W (w.heap.size + 1) (.slice b0 R.now.length d0) (.slice b1 R.sure.length d1) (.slice b2 R.last.length d2) (.slice b3 R.slast.length d3) (.slice b4 R.floors.length d4) := by
    rw [← hW]
    have := new_box5 (w.alloc (.cells #[.slice a0 S.now.length c0, .slice a1 S.sure.length c1, .slice a2 S.last.length c2, .slice a3 S.slast.length c3, .slice a4 S.floors.length c4] 30)) (.slice b0 R.now.length d0) (.slice b1 R.sure.length d1) (.slice b2 R.last.length d2) (.slice b3 R.slast.length d3) (.slice b4 R.floors.length d4) 30
    simpa using this
  have HH := Lib.hid h
  have HK := Lib.hid h'
  have HE0 := Lib.hid hal
  have HA := Lib.hid A0
  have HR := Lib.hid R0
  have HQ : Hid (sameB S R = (eqLB S.now R.now && (eqLB S.sure R.sure && (eqLB S.last R.last && (eqLB S.slast R.slast && eqLB S.floors R.floors))))) := rfl
  have K0 := Lib.hid (fun W hW => slEqStr_gen _ _ S.now R.now W (HH.out.now.keep hW) (HK.out.now.keep hW))
  have K1 := Lib.hid (fun W hW => slEqStr_gen _ _ S.sure R.sure W (HH.out.sure.keep hW) (HK.out.sure.keep hW))
  have K2 := Lib.hid (fun W hW => slEqInt_gen _ _ S.last R.last W (HH.out.last.keep hW) (HK.out.last.keep hW))
  have K3 := Lib.hid (fun W hW => slEqInt_gen _ _ S.slast R.slast W (HH.out.slast.keep hW) (HK.out.slast.keep hW))
  have K4 := Lib.hid (fun W hW => slEqInt_gen _ _ S.floors R.floors W (HH.out.floors.keep hW) (HK.out.floors.keep hW))
  generalize eqLB S.now R.now = q0 at *
  generalize eqLB S.sure R.sure = q1 at *
  generalize eqLB S.last R.last = q2 at *
  generalize eqLB S.slast R.slast = q3 at *
  generalize eqLB S.floors R.floors = q4 at *
  obtain ⟨x0, x1, x2, x3, x4⟩ := id A0
  obtain ⟨y0, y1, y2, y3, y4⟩ := id R0
  clear h h' hal A0 R0
  cases q0
  · skip
    go_enter Tryd.func16, Tryd.ntmps16
    go_wp2_with fail
    clear hW
    refine (K0.out W HE0.out).mono ?_; rintro e w0 ⟨rfl, hb⟩
    clear x0 x1 x2 x3 x4 y0 y1 y2 y3 y4
    replace HA := Lib.hid (HA.out.keep hb)
    replace HR := Lib.hid (HR.out.keep hb)
    have HE1 := Lib.hid (HE0.out.trans (hb.mono HE0.out.size))
    clear hb
    obtain ⟨x0, x1, x2, x3, x4⟩ := HA.out
    obtain ⟨y0, y1, y2, y3, y4⟩ := HR.out
    go_wp2
    go_ret
    exact ⟨ret_bool (by rw [HQ.out]; rfl), HE1.out⟩
  cases q1
  · skip
    go_enter Tryd.func16, Tryd.ntmps16
    go_wp2_with fail
    clear hW
    refine (K0.out W HE0.out).mono ?_; rintro e w0 ⟨rfl, hb⟩
    clear x0 x1 x2 x3 x4 y0 y1 y2 y3 y4
    replace HA := Lib.hid (HA.out.keep hb)
    replace HR := Lib.hid (HR.out.keep hb)
    have HE1 := Lib.hid (HE0.out.trans (hb.mono HE0.out.size))
    clear hb
    obtain ⟨x0, x1, x2, x3, x4⟩ := HA.out
    obtain ⟨y0, y1, y2, y3, y4⟩ := HR.out
    go_wp2_with fail
    refine (K1.out w0 HE1.out).mono ?_; rintro e w1 ⟨rfl, hb⟩
    clear x0 x1 x2 x3 x4 y0 y1 y2 y3 y4
    replace HA := Lib.hid (HA.out.keep hb)
    replace HR := Lib.hid (HR.out.keep hb)
    have HE2 := Lib.hid (HE1.out.trans (hb.mono HE1.out.size))
    clear hb
    obtain ⟨x0, x1, x2, x3, x4⟩ := HA.out
    obtain ⟨y0, y1, y2, y3, y4⟩ := HR.out
    go_wp2
    go_ret
    exact ⟨ret_bool (by rw [HQ.out]; rfl), HE2.out⟩
  cases q2
  · skip
    go_enter Tryd.func16, Tryd.ntmps16
    go_wp2_with fail
    clear hW
    refine (K0.out W HE0.out).mono ?_; rintro e w0 ⟨rfl, hb⟩
    clear x0 x1 x2 x3 x4 y0 y1 y2 y3 y4
    replace HA := Lib.hid (HA.out.keep hb)
    replace HR := Lib.hid (HR.out.keep hb)
    have HE1 := Lib.hid (HE0.out.trans (hb.mono HE0.out.size))
    clear hb
    obtain ⟨x0, x1, x2, x3, x4⟩ := HA.out
    obtain ⟨y0, y1, y2, y3, y4⟩ := HR.out
    go_wp2_with fail
    refine (K1.out w0 HE1.out).mono ?_; rintro e w1 ⟨rfl, hb⟩
    clear x0 x1 x2 x3 x4 y0 y1 y2 y3 y4
    replace HA := Lib.hid (HA.out.keep hb)
    replace HR := Lib.hid (HR.out.keep hb)
    have HE2 := Lib.hid (HE1.out.trans (hb.mono HE1.out.size))
    clear hb
    obtain ⟨x0, x1, x2, x3, x4⟩ := HA.out
    obtain ⟨y0, y1, y2, y3, y4⟩ := HR.out
    go_wp2_with fail
    refine (K2.out w1 HE2.out).mono ?_; rintro e w2 ⟨rfl, hb⟩
    clear x0 x1 x2 x3 x4 y0 y1 y2 y3 y4
    replace HA := Lib.hid (HA.out.keep hb)
    replace HR := Lib.hid (HR.out.keep hb)
    have HE3 := Lib.hid (HE2.out.trans (hb.mono HE2.out.size))
    clear hb
    obtain ⟨x0, x1, x2, x3, x4⟩ := HA.out
    obtain ⟨y0, y1, y2, y3, y4⟩ := HR.out
    go_wp2
    go_ret
    exact ⟨ret_bool (by rw [HQ.out]; rfl), HE3.out⟩
  cases q3
  · skip
    go_enter Tryd.func16, Tryd.ntmps16
    go_wp2_with fail
    clear hW
    refine (K0.out W HE0.out).mono ?_; rintro e w0 ⟨rfl, hb⟩
    clear x0 x1 x2 x3 x4 y0 y1 y2 y3 y4
    replace HA := Lib.hid (HA.out.keep hb)
    replace HR := Lib.hid (HR.out.keep hb)
    have HE1 := Lib.hid (HE0.out.trans (hb.mono HE0.out.size))
    clear hb
    obtain ⟨x0, x1, x2, x3, x4⟩ := HA.out
    obtain ⟨y0, y1, y2, y3, y4⟩ := HR.out
    go_wp2_with fail
    refine (K1.out w0 HE1.out).mono ?_; rintro e w1 ⟨rfl, hb⟩
    clear x0 x1 x2 x3 x4 y0 y1 y2 y3 y4
    replace HA := Lib.hid (HA.out.keep hb)
    replace HR := Lib.hid (HR.out.keep hb)
    have HE2 := Lib.hid (HE1.out.trans (hb.mono HE1.out.size))
    clear hb
    obtain ⟨x0, x1, x2, x3, x4⟩ := HA.out
    obtain ⟨y0, y1, y2, y3, y4⟩ := HR.out
    go_wp2_with fail
    refine (K2.out w1 HE2.out).mono ?_; rintro e w2 ⟨rfl, hb⟩
    clear x0 x1 x2 x3 x4 y0 y1 y2 y3 y4
    replace HA := Lib.hid (HA.out.keep hb)
    replace HR := Lib.hid (HR.out.keep hb)
    have HE3 := Lib.hid (HE2.out.trans (hb.mono HE2.out.size))
    clear hb
    obtain ⟨x0, x1, x2, x3, x4⟩ := HA.out
    obtain ⟨y0, y1, y2, y3, y4⟩ := HR.out
    go_wp2_with fail
    refine (K3.out w2 HE3.out).mono ?_; rintro e w3 ⟨rfl, hb⟩
    clear x0 x1 x2 x3 x4 y0 y1 y2 y3 y4
    replace HA := Lib.hid (HA.out.keep hb)
    replace HR := Lib.hid (HR.out.keep hb)
    have HE4 := Lib.hid (HE3.out.trans (hb.mono HE3.out.size))
    clear hb
    obtain ⟨x0, x1, x2, x3, x4⟩ := HA.out
    obtain ⟨y0, y1, y2, y3, y4⟩ := HR.out
    go_wp2
    go_ret
    exact ⟨ret_bool (by rw [HQ.out]; rfl), HE4.out⟩
  go_enter Tryd.func16, Tryd.ntmps16
  go_wp2_with fail
  clear hW
  refine (K0.out W HE0.out).mono ?_; rintro e w0 ⟨rfl, hb⟩
  clear x0 x1 x2 x3 x4 y0 y1 y2 y3 y4
  replace HA := Lib.hid (HA.out.keep hb)
  replace HR := Lib.hid (HR.out.keep hb)
  have HE1 := Lib.hid (HE0.out.trans (hb.mono HE0.out.size))
  clear hb
  obtain ⟨x0, x1, x2, x3, x4⟩ := HA.out
  obtain ⟨y0, y1, y2, y3, y4⟩ := HR.out
  go_wp2_with fail
  refine (K1.out w0 HE1.out).mono ?_; rintro e w1 ⟨rfl, hb⟩
  clear x0 x1 x2 x3 x4 y0 y1 y2 y3 y4
  replace HA := Lib.hid (HA.out.keep hb)
  replace HR := Lib.hid (HR.out.keep hb)
  have HE2 := Lib.hid (HE1.out.trans (hb.mono HE1.out.size))
  clear hb
  obtain ⟨x0, x1, x2, x3, x4⟩ := HA.out
  obtain ⟨y0, y1, y2, y3, y4⟩ := HR.out
  go_wp2_with fail
  refine (K2.out w1 HE2.out).mono ?_; rintro e w2 ⟨rfl, hb⟩
  clear x0 x1 x2 x3 x4 y0 y1 y2 y3 y4
  replace HA := Lib.hid (HA.out.keep hb)
  replace HR := Lib.hid (HR.out.keep hb)
  have HE3 := Lib.hid (HE2.out.trans (hb.mono HE2.out.size))
  clear hb
  obtain ⟨x0, x1, x2, x3, x4⟩ := HA.out
  obtain ⟨y0, y1, y2, y3, y4⟩ := HR.out
  go_wp2_with fail
  refine (K3.out w2 HE3.out).mono ?_; rintro e w3 ⟨rfl, hb⟩
  clear x0 x1 x2 x3 x4 y0 y1 y2 y3 y4
  replace HA := Lib.hid (HA.out.keep hb)
  replace HR := Lib.hid (HR.out.keep hb)
  have HE4 := Lib.hid (HE3.out.trans (hb.mono HE3.out.size))
  clear hb
  obtain ⟨x0, x1, x2, x3, x4⟩ := HA.out
  obtain ⟨y0, y1, y2, y3, y4⟩ := HR.out
  go_wp2_with fail
  refine (K4.out w3 HE4.out).mono ?_; rintro e w4 ⟨rfl, hb⟩
  clear x0 x1 x2 x3 x4 y0 y1 y2 y3 y4
  replace HA := Lib.hid (HA.out.keep hb)
  replace HR := Lib.hid (HR.out.keep hb)
  have HE5 := Lib.hid (HE4.out.trans (hb.mono HE4.out.size))
  clear hb
  obtain ⟨x0, x1, x2, x3, x4⟩ := HA.out
  obtain ⟨y0, y1, y2, y3, y4⟩ := HR.out
  go_wp2
  go_ret
  exact ⟨ret_bool (by rw [HQ.out]; simp), HE5.out⟩

end Go.Proofs.YtadoihddmbbjoaaDoor
