/-
  impl: Patch.ok, Patch.edit and its closure, TextWrite.
-/
import Derived.Test.YtadoihddmbbjoaaDoorKEdited
import Derived.Test.YtadoihddmbbjoaaDoorKSpecWrite
import Derived.Deep.RegionHeld3
namespace Go.Proofs.YtadoihddmbbjoaaDoor
open Go.RowKit Go.Lib

set_option maxHeartbeats 1000000 in
theorem patchOk_any (at' : Int) (d : List UInt8) (hd : d.length ≤ 2000000) (w : World) :
    Calls Tryd.prog 74 #[.agg #[.int .i64 at', .string (mkB d)]] w fun e w' => e = .returned (.bool (wokB at' d)) ∧ Below w.heap.size w w' := by
  have hal : Below w.heap.size w (w.alloc (.cells #[.int .i64 at', .string (mkB d)] 78)) := (Below.refl _ _).alloc (Nat.le_refl _) _
  have hok : ∀ W, Calls Tryd.prog 70 #[.string (mkB d)] W fun e w' => e = .returned (.bool (tokB d)) ∧ W = w' := fun W => implTextOk_any (mkB d) (by rw [mkB_size]; omega) W
  have HD := Lib.hid hok
  have q4 : (mkB d).size = d.length := mkB_size d
  clear hok
  by_cases c1 : at' < 0
  · have HN := Lib.hid (wokB_no (d := d) (Or.inl c1))
    go_enter Tryd.func74, Tryd.ntmps74
    go_wp2
    go_ret
    exact ⟨ret_bool (by rw [HN.out]), hal⟩
  · by_cases c4 : d = []
    · subst c4
      have HN := Lib.hid (wokB_no (at' := at') (d := []) (Or.inr (Or.inr (Or.inr (Or.inl rfl)))))
      have hd0 : (mkB []).toList = [] := mkB_toList' []
      go_enter Tryd.func74, Tryd.ntmps74
      go_wp2
      go_ret
      exact ⟨ret_bool (by rw [HN.out]), hal⟩
    · have hd2 : (mkB d).toList.isEmpty = false := by rw [mkB_toList']; simpa using c4
      have hd3 : (!(mkB d).toList.isEmpty) = true := by rw [hd2]; rfl
      by_cases c3 : tokB d = true
      · have hdl := tokB_len c3
        have HN : Hid (wokB at' d = decide (at' ≤ 48 - d.length)) := by
          show _ = _
          unfold wokB
          rw [c3, Bool.eq_iff_iff]
          simp [c4]; omega
        clear c4
        go_enter Tryd.func74, Tryd.ntmps74
        go_wp2_with fail
        refine (HD.out _).mono ?_; rintro e w' ⟨rfl, rfl⟩
        go_wp2
        go_ret
        exact ⟨ret_bool (by rw [HN.out]), hal⟩
      · replace c3 : tokB d = false := by simpa using c3
        have HN := Lib.hid (wokB_no (at' := at') (Or.inr (Or.inr (Or.inl c3))))
        clear c4
        go_enter Tryd.func74, Tryd.ntmps74
        go_wp2_with fail
        refine (HD.out _).mono ?_; rintro e w' ⟨rfl, rfl⟩
        go_wp2
        go_ret
        exact ⟨ret_bool (by rw [HN.out]), hal⟩

theorem sizedI_any (v : Value) (l : List UInt8) (N : Int) (n : Nat) (w : World) (h : Sht w v l) (hn : n ≤ 1000000) (hN : N = (n : Int)) :
    Calls Tryd.prog 75 #[v, .int .i64 N] w (Nsh w (cutL l n) n) := by subst hN; exact sized_any v l n w h hn

/-- copy from a string into a sheet of the call's own: one step of a region that draws. -/
theorem step_copy_sheet {ops : Array Oper} {o : Oper} {a : Act} {w : World} {K : Act → World → Prop} {Q : Exit → Act → World → Prop} {E : Prop} (hgd : o.guard = none) (x y : Operand)
    (ho : o.op = .call { callee := .builtin .copy, args := #[x, y], argTypes := #[82, 9] })
    (g off dLen dCap : Nat) (d L : List UInt8) (hx : a.eval x = .slice (some ⟨g, off, none⟩) dLen dCap) (hy : a.eval y = .string (mkB d)) (hg : ShtW w g L) (hle : d.length ≤ dLen) (hfit : off + d.length ≤ L.length)
    (B : Nat) (w0 : World) (hb : Below B w0 w) (hBg : B ≤ g)
    (h : ∀ w', Hid (ShtW w' g (splice L off d)) → Below B w0 w' → K (a.put o.dst (goInt d.length)) w') :
    if Region.wanted o (yielded ops a.tmps) = true then Oper.wp Tryd.prog o a w K Q else E := by
  have hw : Region.wanted o (yielded ops a.tmps) = true := by simp [Region.wanted, hgd]
  rw [if_pos hw]
  have hrun := run_copy_row_string (P := Tryd.prog) w 82 9 o.type 5 g off dLen dCap (mkB d) (byteCells L).toArray 5 Tryd.underlying82 (by kernel_rfl) hg (by rw [mkB_size]; exact hle) (by rw [mkB_size]; simp [byteCells_length]; exact hfit)
  have hT : (mkB d).data.toList = d := rfl
  rw [mkB_size, hT] at hrun
  unfold Oper.wp
  simp [execOp, ho, resolve, invoke, builtin, hx, hy, hrun, Result.andThen]
  refine h _ (Lib.hid ?_) (below_setRow hb hBg _)
  have hs := byteCells_splice L d off
  unfold ShtW
  rw [setRow_heap w g _ _ _ _ hg, ← hs]
  unfold splice
  simp [byteCells_length]

def wrF (at' : Int) (d L : List UInt8) : Option (List UInt8) := if wokB at' d = true then some (wrL L at'.toNat d) else none
theorem wrF_yes {at' : Int} {d L : List UInt8} (h : wokB at' d = true) : wrF at' d L = some (wrL L at'.toNat d) := by unfold wrF; rw [if_pos h]
theorem wrF_no {at' : Int} {d L : List UInt8} (h : wokB at' d = false) : wrF at' d L = none := by unfold wrF; simp [h]

set_option maxHeartbeats 4000000 in
theorem patch_edOk (w : World) (b : Nat) (at' : Int) (d : List UInt8) (hd : d.length ≤ 2000000) (h0 : w.cell? ⟨b, 0, none⟩ = some (.int .i64 at')) (h1 : w.cell? ⟨b, 1, none⟩ = some (.string (mkB d))) :
    EdOk w 73 b (wrF at' d) := by
  intro W v L hb hS hT
  have c0 := cell_keep hb h0
  have c1 := cell_keep hb h1
  have hbl := World.block_lt_of_cell? _ _ c0
  have HP := Lib.hid (patchOk_any at' d hd W)
  clear h0 h1
  refine ⟨fun L' h => ?_, fun h => ?_⟩
  · by_cases h2 : wokB at' d = true
    · rw [wrF_yes h2] at h
      obtain rfl : wrL L at'.toNat d = L' := by simpa using h
      obtain ⟨i0, i1, i2, i3⟩ := wokB_iff.1 h2
      obtain ⟨n, rfl⟩ : ∃ n : Nat, at' = n := ⟨at'.toNat, by omega⟩
      rw [Int.toNat_natCast]
      refine ⟨tokB_wrL hT i2 (by omega), ?_⟩
      have q4 : (mkB d).size = d.length := mkB_size d
      have hd0 : 0 < d.length := by
        rcases d with _ | ⟨x, d⟩
        · exact absurd rfl i1
        · simp
      have hLl := tokB_len hT
      have HW := Lib.hid (splice_wrL L n d)
      have HV := Lib.hid hS
      have hWl : (wrL L n d).length = max L.length (n + d.length) := wrL_len L n d
      have HWL := Lib.hid hWl
      obtain ⟨g0, cap, rfl, hlc, -, -⟩ := id hS
      clear h hT hS hb i0 i1 i2 hWl
      rw [h2] at HP
      obtain ⟨N, hN⟩ : ∃ N, max L.length (n + d.length) = N := ⟨_, rfl⟩
      rw [hN] at HW HWL
      have g1 : n + d.length ≤ N := by omega
      have g2 : L.length ≤ N := by omega
      have g3 : N ≤ 48 := by omega
      have hnN : n < N := by omega
      have hne : ¬ N = n := by omega
      have z1 : (0 : Int) ≤ (n : Int) := by omega
      have z2 : (n : Int) ≤ (N : Int) := by omega
      have HC0 := Lib.hid c0
      have HC1 := Lib.hid c1
      by_cases c : L.length < n + d.length
      have g5 : N ≤ n + d.length := by omega
      rotate_left
      have g5 : N ≤ L.length := by omega
      all_goals
        clear hN
        go_enter Tryd.func73, Tryd.ntmps73
        go_wp2_with fail
        refine HP.out.mono ?_; rintro e w1 ⟨rfl, hb1⟩
        have x0 := cell_keep hb1 c0
        have x1 := cell_keep hb1 c1
        have HV1 := Lib.hid (HV.out.keep hb1)
        clear c0 c1
        go_wp2_with fail
        refine (sizedI_any _ L _ N _ HV1.out (by omega) (by omega)).mono ?_; rintro e w2 ⟨g, rfl, hg, hs, hb2⟩
        have y0 := cell_keep hb2 x0
        have y1 := cell_keep hb2 x1
        have e2 := hb1.trans (hb2.mono hb1.size)
        have hgW : W.heap.size ≤ g := Nat.le_trans hb1.size hg
        have hcl := cutL_len L N
        have HCL := Lib.hid hcl
        have hbg : ¬ g = b := by (try simp only at hbl); omega
        clear x0 x1 hcl
        go_wp2
        go_region_held3 (fun w' => w'.cell? ⟨b, 0, none⟩ = some (.int .i64 n) ∧ w'.cell? ⟨b, 1, none⟩ = some (.string (mkB d)))
          (refine ⟨?_, ?_⟩ <;> first | (go_keep; done) | exact cell_keep hb3 HC0.out | exact cell_keep hb3 HC1.out)
          ((refine step_copy_sheet rfl (.tmp 23) (.tmp 25) rfl g n (N - n) (N - n) d (cutL L N) (by simp [Act.eval]) (by simp [Act.eval]) hs.out (by omega) (by rw [HCL.out]; omega) W.heap.size W (by exact e2.drew) hgW ?_; intro w3 hs3 hb3))
        go_wp2
        go_ret2
        have h3 := hs3.out
        rw [HW.out] at h3
        have h4 := h3.sht
        rw [HWL.out] at h4
        exact ⟨_, rfl, Lib.hid h4, hb3⟩
    · exfalso; rw [wrF_no (by simpa using h2)] at h; cases h
  · by_cases h2 : wokB at' d = true
    · exfalso; rw [wrF_yes h2] at h; cases h
    · replace h2 : wokB at' d = false := by simpa using h2
      rw [h2] at HP
      clear h hT hS hb
      go_enter Tryd.func73, Tryd.ntmps73
      go_wp2_with fail
      refine HP.out.mono ?_; rintro e w1 ⟨rfl, hb1⟩
      go_wp2
      go_ret2
      exact ⟨rfl, hb1⟩

set_option maxHeartbeats 1000000 in
theorem patchEdit_any (at' : Int) (d : List UInt8) (w : World) :
    Calls Tryd.prog 48 #[.agg #[.int .i64 at', .string (mkB d)]] w fun e w' => e = .returned (.func (.func 73) #[] #[.pointer (some ⟨w.heap.size, 0, none⟩)]) ∧ w' = w.alloc (.cells #[.int .i64 at', .string (mkB d)] 78) := by
  go_enter Tryd.func48, Tryd.ntmps48
  go_wp2
  go_ret
  exact ⟨rfl, rfl⟩

theorem wrF_S (at' : Int) (d l : List UInt8) : edS (fun _ => wrF at' d) 1 l = twS l at' d := by
  unfold edS twS runE runE wrF
  by_cases h : tokB l = true <;> by_cases h2 : wokB at' d = true <;> simp [h, h2]
theorem wrF_B (at' : Int) (d l : List UInt8) : edB (fun _ => wrF at' d) 1 l = twB l at' d := by
  unfold edB twB runE runE wrF
  by_cases h2 : wokB at' d = true <;> simp [h2]

set_option maxHeartbeats 1000000 in
theorem implTextWrite_any (l : List UInt8) (at' : Int) (d : List UInt8) (hl : l.length ≤ 2000000) (hd : d.length ≤ 2000000) (w : World) :
    Calls Tryd.prog 19 #[.string (mkB l), .int .i64 at', .string (mkB d)] w fun e w' => e = .returned (.tuple #[.string (mkB (twS l at' d)), .bool (twB l at' d)]) ∧ Below w.heap.size w w' := by
  have hal : Below w.heap.size w (w.alloc (.cells #[.int .i64 at', .string (mkB d)] 78)) := (Below.refl _ _).alloc (Nat.le_refl _) _
  have hc0 : (w.alloc (.cells #[.int .i64 at', .string (mkB d)] 78)).cell? ⟨w.heap.size, 0, none⟩ = some (.int .i64 at') := by go_simp
  have hc1 : (w.alloc (.cells #[.int .i64 at', .string (mkB d)] 78)).cell? ⟨w.heap.size, 1, none⟩ = some (.string (mkB d)) := by go_simp
  have hal2 : Below w.heap.size w ((w.alloc (.cells #[.int .i64 at', .string (mkB d)] 78)).alloc (.cells #[.func (.func 73) #[] #[.pointer (some ⟨w.heap.size, 0, none⟩)]] 76)) := hal.alloc (by simp) _
  have hE : ∀ i, i < 1 → ((w.alloc (.cells #[.int .i64 at', .string (mkB d)] 78)).alloc (.cells #[.func (.func 73) #[] #[.pointer (some ⟨w.heap.size, 0, none⟩)]] 76)).cell? ⟨w.heap.size + 1, i, none⟩ = some (.func (.func 73) #[] #[.pointer (some ⟨w.heap.size, 0, none⟩)]) ∧ EdOk ((w.alloc (.cells #[.int .i64 at', .string (mkB d)] 78)).alloc (.cells #[.func (.func 73) #[] #[.pointer (some ⟨w.heap.size, 0, none⟩)]] 76)) 73 w.heap.size (wrF at' d) := by
    intro i hi
    obtain rfl : i = 0 := by omega
    exact ⟨by go_simp, patch_edOk _ _ at' d hd (cell_keep ((Below.refl _ _).alloc (Nat.le_refl _) _) hc0) (cell_keep ((Below.refl _ _).alloc (Nat.le_refl _) _) hc1)⟩
  have HE := Lib.hid hE
  have HA := Lib.hid hal2
  clear hE hc0 hc1 hal hal2
  go_enter Tryd.func19, Tryd.ntmps19
  go_wp2_with fail
  refine (patchEdit_any at' d _).mono ?_; rintro e w2 ⟨rfl, rfl⟩
  go_wp2_with fail
  refine (edited_any 73 (fun _ => wrF at' d) (fun _ => w.heap.size) 1 (w.heap.size + 1) 1 l _ (by omega) hl (fun a b W => by kernel_rfl) HE.out).mono ?_; rintro e w3 ⟨rfl, hb3⟩
  go_wp2
  go_ret2
  exact ⟨ret_sb (wrF_S at' d l) (wrF_B at' d l), HA.out.trans (hb3.mono HA.out.size)⟩

end Go.Proofs.YtadoihddmbbjoaaDoor
