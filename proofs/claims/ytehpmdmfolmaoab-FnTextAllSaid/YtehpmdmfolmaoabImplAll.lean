/-
  impl.TextAll: what it returns at every text and list of patches.
-/
import Derived.Test.YtehpmdmfolmaoabPatches
namespace Go.Proofs.Ytehpmdmfolmaoab
open Go.RowKit Go.Lib

theorem infoEdit : (Try.prog.info? 65).map (fun i => (i.zero, i.size, i.bytes)) = some (some .nilFunc, 1, 8) := by kernel_rfl

/-- The row of edits after k rounds. -/
def EdRow (w : World) (gE n k : Nat) (P : List Pch) (pb : Nat → Nat) : Prop :=
  ∀ j, j < n → w.frozen? ⟨gE, j, none⟩ = false ∧ (k ≤ j → w.cell? ⟨gE, j, none⟩ = some .nilFunc) ∧
    (j < k → pb j ≠ gE ∧ w.cell? ⟨gE, j, none⟩ = some (.func (.func 52) #[] #[.pointer (some ⟨pb j, 0, none⟩)]) ∧ w.cell? ⟨pb j, 0, none⟩ = some (.int .i64 (P.getD j (0, [])).1) ∧ w.cell? ⟨pb j, 1, none⟩ = some (.string (mkB (P.getD j (0, [])).2)))
theorem EdRow.keep {w w1 : World} {gE n k : Nat} {P : List Pch} {pb : Nat → Nat} (h : EdRow w gE n k P pb) (hb : Below w.heap.size w w1) (hg : gE < w.heap.size) : EdRow w1 gE n k P pb := by
  intro j hj
  obtain ⟨h1, h2, h3⟩ := h j hj
  refine ⟨(hb.frozen (p := ⟨gE, j, none⟩) hg).trans h1, fun hk => cell_keep hb (h2 hk), fun hk => ?_⟩
  obtain ⟨a, b, c, d⟩ := h3 hk
  exact ⟨a, cell_keep hb b, cell_keep hb c, cell_keep hb d⟩
theorem EdRow.set {w : World} {gE n k : Nat} {P : List Pch} {pb : Nat → Nat} (h : EdRow w gE n k P pb) (hk : k < n) (q : Nat) (hq : q ≠ gE)
    (c0 : w.cell? ⟨q, 0, none⟩ = some (.int .i64 (P.getD k (0, [])).1)) (c1 : w.cell? ⟨q, 1, none⟩ = some (.string (mkB (P.getD k (0, [])).2))) :
    EdRow (w.setCell ⟨gE, k, none⟩ (.func (.func 52) #[] #[.pointer (some ⟨q, 0, none⟩)])) gE n (k + 1) P (fun j => if j = k then q else pb j) := by
  intro j hj
  obtain ⟨h1, h2, h3⟩ := h j hj
  obtain ⟨-, g2, -⟩ := h k hk
  have gk := g2 (Nat.le_refl _)
  by_cases e : j = k
  · subst e
    refine ⟨by go_simp, fun hkj => by omega, fun _ => ?_⟩
    simp only [if_true]
    refine ⟨hq, by go_simp, ?_, ?_⟩
    · rw [World.cell?_setCell_far _ _ _ _ (by exact fun e => hq e.symm)]; exact c0
    · rw [World.cell?_setCell_far _ _ _ _ (by exact fun e => hq e.symm)]; exact c1
  · have n1 : ¬ k = j := fun e' => e e'.symm
    refine ⟨by go_simp, fun hkj => ?_, fun hkj => ?_⟩
    · rw [World.cell?_setCell_other _ _ _ _ (fun e => n1 (by injection e))]
      exact h2 (by omega)
    · simp only [if_neg e]
      obtain ⟨a, b, c, d⟩ := h3 (by omega)
      refine ⟨a, ?_, ?_, ?_⟩
      · rw [World.cell?_setCell_other _ _ _ _ (fun e => n1 (by injection e))]; exact b
      · rw [World.cell?_setCell_far _ _ _ _ (by exact fun e => a e.symm)]; exact c
      · rw [World.cell?_setCell_far _ _ _ _ (by exact fun e => a e.symm)]; exact d

theorem made_funcs (n : Nat) : madeCells Value.nilFunc.cells (n * 1) = Array.replicate n .nilFunc := by
  unfold madeCells
  apply Array.ext
  · simp
  · intro i h1 h2
    simp [Value.cells, Nat.mod_one]

set_option maxHeartbeats 4000000 in
theorem implTextAll_any (v : Value) (P : List Pch) (l : List UInt8) (w : World) (h : Ptc w v P) (hl : l.length ≤ 2000000) (hP : ∀ i, (P.getD i (0, [])).2.length ≤ 2000000) (hPn : P.length ≤ 2000000) :
    Calls Try.prog 12 #[.string (mkB l), v] w fun e w' => e = .returned (.tuple #[.string (mkB (edS (edF P) P.length l)), .bool (edB (edF P) P.length l)]) ∧ Below w.heap.size w w' := by
  obtain ⟨a, cap, rfl, hlc, hm, hd, hc⟩ := h
  unfold maxLen at hm
  obtain ⟨i0, hi0, hz0, hz1, hz2⟩ := info_parts infoEdit
  have hmk : ∀ W : World, (Instr.makeSlice 63 (.int .i64 P.length) (.int .i64 P.length)).run Try.prog W = .ok (.slice (some ⟨W.heap.size, 0, none⟩) P.length P.length) (W.alloc (.cells (Array.replicate P.length .nilFunc) 65)) := fun W => by
    have hb : i0.bytes = 8 := hz2
    have := run_make (P := Try.prog) W 63 65 i0 .nilFunc Try.underlying63 hi0 hz0 .i64 .i64 P.length P.length (by omega) (Int.le_refl _) (by rw [hb]; omega) (by omega)
    rw [Int.toNat_natCast, hz1, made_funcs] at this
    exact this
  have HC := Lib.hid hc
  have HPL := Lib.hid hP
  have hal : Below w.heap.size w (w.alloc (.cells (Array.replicate P.length .nilFunc) 65)) := (Below.refl _ _).alloc (Nat.le_refl _) _
  have HA := Lib.hid hal
  have hR0 : EdRow (w.alloc (.cells (Array.replicate P.length .nilFunc) 65)) w.heap.size P.length 0 P (fun _ => 0) := by
    intro j hj
    refine ⟨by go_simp, fun _ => ?_, fun h => absurd h (Nat.not_lt_zero _)⟩
    rw [World.cell?_alloc_mark]
    simp [hj]
  have HR0 := Lib.hid hR0
  have hsz0 : w.heap.size < (w.alloc (.cells (Array.replicate P.length .nilFunc) 65)).heap.size := by simp
  have HZ0 := Lib.hid hsz0
  clear hi0 hz0 hz1 hz2 hc hP hd hR0 hal hsz0
  go_enter Try.func12, Try.ntmps12
  go_wp2
  obtain ⟨G, hG⟩ : ∃ G, G = w.heap.size := ⟨_, rfl⟩
  rw [← hG] at HR0 HZ0
  have hGw : w.heap.size ≤ G := by omega
  simp only [← hG]
  generalize w.alloc (.cells (Array.replicate P.length .nilFunc) 65) = W0 at *
  clear hG hmk
  go_loopg [14] P.length (fun g s14 wr => ∃ (k : Nat) (pb : Nat → Nat), g = P.length - k ∧ k ≤ P.length ∧ s14 = .int .i64 k ∧ Hid (EdRow wr G P.length k P pb) ∧ Below w.heap.size w wr ∧ G < wr.heap.size)
  case atStart => exact ⟨0, fun _ => 0, rfl, Nat.zero_le _, rfl, HR0, HA.out, HZ0.out⟩
  case round =>
    obtain ⟨k, pb, rfl, hk, rfl, HR, hbr, hGs⟩ := hrel
    by_cases hlt : k < P.length
    · obtain ⟨b, off, rfl, hcc⟩ := HC.out (fun e => by subst e; simp at hlt)
      have c1 := cell_keep hbr (hcc k hlt).1
      have c2 := cell_keep hbr (hcc k hlt).2
      have hset := fun (W : World) (h : EdRow W G P.length k P pb) (q : Nat) (hq : q ≠ G) c0 c1 => EdRow.set h hlt q hq c0 c1
      have HSET := Lib.hid hset
      clear hcc hset
      obtain ⟨f1, f2, -⟩ := HR.out k hlt
      have f3 := f2 (Nat.le_refl _)
      have hR2 := fun (W : World) (hb : Below wr.heap.size wr W) => HR.out.keep hb hGs
      have HR2 := Lib.hid hR2
      clear f2 hR2
      generalize hs : P.getD k (0, []) = s at *
      obtain ⟨pa, pd⟩ := s
      simp only at c1 c2 HSET
      clear hs
      have hal : Below wr.heap.size wr ((wr.alloc (.cells #[.int .i64 pa, .string (mkB pd)] 30)).alloc (.cells #[.int .i64 pa, .string (mkB pd)] 30)) := ((Below.refl _ _).alloc (Nat.le_refl _) _).alloc (by simp) _
      have HAL := Lib.hid hal
      have F1 := Lib.hid f1
      have F3 := Lib.hid f3
      clear hal f1 f3
      go_wp2_with fail
      refine (patchEdit_any pa pd _).mono ?_; rintro e w2 ⟨rfl, hw2⟩
      have hb2 : Below wr.heap.size wr w2 := by rw [hw2]; exact HAL.out
      have y1 := cell_keep hb2 F3.out
      have y2 : w2.frozen? ⟨G, k, none⟩ = false := (hb2.frozen (p := ⟨G, k, none⟩) hGs).trans F1.out
      have q0 : w2.cell? ⟨wr.heap.size + 1, 0, none⟩ = some (.int .i64 pa) := by rw [hw2]; go_simp
      have q1 : w2.cell? ⟨wr.heap.size + 1, 1, none⟩ = some (.string (mkB pd)) := by rw [hw2]; go_simp
      have HROW := Lib.hid (HSET.out w2 (HR2.out _ hb2) (wr.heap.size + 1) (by omega) q0 q1)
      have HB2 := Lib.hid ((hbr.trans (hb2.mono hbr.size)).setCell (p := ⟨G, k, none⟩) (by exact hGw) (.func (.func 52) #[] #[.pointer (some ⟨wr.heap.size + 1, 0, none⟩)]))
      have hs2 : G < w2.heap.size := Nat.lt_of_lt_of_le hGs hb2.size
      clear hw2 hb2 q0 q1 HSET HR2 HAL F1 F3
      go_wp2
      go_roundg (P.length - (k + 1))
      case measure => omega
      case rel => exact ⟨k + 1, _, rfl, by omega, by go_num, HROW, HB2.out, by simpa using hs2⟩
    · obtain rfl : k = P.length := by omega
      have HE : Hid (∀ i, i < P.length → wr.cell? ⟨G, i, none⟩ = some (.func (.func 52) #[] #[.pointer (some ⟨pb i, 0, none⟩)]) ∧ EdOk wr 52 (pb i) (edF P i)) := fun i hi => by
        obtain ⟨-, -, h3⟩ := HR.out i hi
        obtain ⟨-, b, c, d⟩ := h3 hi
        exact ⟨b, patch_edOk wr (pb i) _ _ (HPL.out i) c d⟩
      go_wp2_with fail
      refine (edited_any 52 (edF P) pb P.length G P.length l _ hPn hl (fun a b W => by kernel_rfl) HE.out).mono ?_; rintro e w3 ⟨rfl, hb3⟩
      go_wp2
      go_ret2
      exact ⟨rfl, hbr.trans (hb3.mono hbr.size)⟩

end Go.Proofs.Ytehpmdmfolmaoab
