/-
  Slices of patches (Ptc); TextAll of both sides: what they return at every text and list of patches.
-/
import Derived.Test.YtehpmdmfolmaoabImplWrite
import Derived.Test.YtehpmdmfolmaoabSpecWrite
import Derived.Test.YtehpmdmfolmaoabCalm
import Derived.Laws.MakeOwn
namespace Go.Proofs.Ytehpmdmfolmaoab
open Go.RowKit Go.Lib

abbrev Pch := Int × List UInt8

/-- A slice value that reads as the list P of patches. -/
def Ptc (w : World) (v : Value) (P : List Pch) : Prop :=
  ∃ a cap, v = .slice a P.length cap ∧ P.length ≤ cap ∧ cap ≤ maxLen ∧ (∀ i, (P.getD i (0, [])).2.length ≤ 9223372036854775807) ∧
    (P ≠ [] → ∃ b off, a = some ⟨b, off, none⟩ ∧ ∀ i, i < P.length → w.cell? ⟨b, off + i * 2, none⟩ = some (.int .i64 (P.getD i (0, [])).1) ∧ w.cell? ⟨b, off + i * 2 + 1, none⟩ = some (.string (mkB (P.getD i (0, [])).2)))
theorem Ptc.keep {w w1 : World} {v : Value} {P : List Pch} (h : Ptc w v P) (hb : Below w.heap.size w w1) : Ptc w1 v P := by
  obtain ⟨a, cap, hv, hl, hm, hd, hc⟩ := h
  refine ⟨a, cap, hv, hl, hm, hd, fun hn => ?_⟩
  obtain ⟨b, off, ha, hcc⟩ := hc hn
  exact ⟨b, off, ha, fun i hi => ⟨cell_keep hb (hcc i hi).1, cell_keep hb (hcc i hi).2⟩⟩

/-- The list's edits. -/
def edF (P : List Pch) (i : Nat) : List UInt8 → Option (List UInt8) := wrF (P.getD i (0, [])).1 (P.getD i (0, [])).2

theorem runE_tok {P : List Pch} {l : List UInt8} (h : tokB l = true) : ∀ {k : Nat} {L : List UInt8}, runE (edF P) k l = some L → tokB L = true
  | 0, L, e => by obtain rfl : l = L := by simpa [runE] using e
                  exact h
  | k + 1, L, e => by
    have e' : (runE (edF P) k l).bind (edF P k) = some L := e
    cases hk : runE (edF P) k l with
    | none => rw [hk] at e'; cases e'
    | some M =>
      rw [hk] at e'
      have ih := runE_tok h hk
      have e2 : wrF (P.getD k (0, [])).1 (P.getD k (0, [])).2 M = some L := e'
      by_cases hw : wokB (P.getD k (0, [])).1 (P.getD k (0, [])).2 = true
      · rw [wrF_yes hw] at e2
        obtain rfl := Option.some.inj e2
        obtain ⟨h0, h1, h2, h3⟩ := wokB_iff.1 hw
        exact tokB_wrL ih h2 (by omega)
      · rw [wrF_no (by simpa using hw)] at e2; cases e2

set_option maxHeartbeats 4000000 in
theorem specTextAll_any (v : Value) (P : List Pch) (l : List UInt8) (w : World) (h : Ptc w v P) (hl : l.length ≤ 2000000) (hP : ∀ i, (P.getD i (0, [])).2.length ≤ 2000000) :
    Calls Try.prog 13 #[.string (mkB l), v] w fun e w' => e = .returned (.tuple #[.string (mkB (edS (edF P) P.length l)), .bool (edB (edF P) P.length l)]) ∧ Below w.heap.size w w' := by
  obtain ⟨a, cap, rfl, hlc, hm, hd, hc⟩ := h
  unfold maxLen at hm
  have hok : ∀ W, Calls Try.prog 40 #[.string (mkB l)] W fun e w' => e = .returned (.bool (tokB l)) ∧ W = w' := fun W => specTextOk_any (mkB l) (by rw [mkB_size]; omega) W
  have HK := Lib.hid hok
  have HC := Lib.hid hc
  have HPL := Lib.hid hP
  clear hok hc hP hd
  by_cases h1 : tokB l = true
  · have HT1 := Lib.hid h1
    have HS : Hid (edS (edF P) P.length l = (runE (edF P) P.length l).getD l) := by show _ = _; unfold edS; rw [if_pos h1]
    have HB : Hid (edB (edF P) P.length l = (runE (edF P) P.length l).isSome) := by show _ = _; unfold edB; rw [h1]; rfl
    rw [h1] at HK
    clear h1
    go_enter Try.func13, Try.ntmps13
    go_wp2_with fail
    refine (HK.out _).mono ?_; rintro e w' ⟨rfl, rfl⟩
    go_wp2
    go_loopg [6, 7] P.length (fun g s6 s7 wr => ∃ (k : Nat) (L : List UInt8), g = P.length - k ∧ k ≤ P.length ∧ s7 = .int .i64 k ∧ s6 = .string (mkB L) ∧ Hid (runE (edF P) k l = some L) ∧ Below w.heap.size w wr)
    case atStart => exact ⟨0, l, rfl, Nat.zero_le _, rfl, rfl, Lib.hid rfl, Below.refl _ _⟩
    case round =>
      obtain ⟨k, L, rfl, hk, rfl, rfl, HR, hbr⟩ := hrel
      by_cases hlt : k < P.length
      · obtain ⟨b, off, rfl, hcc⟩ := HC.out (fun e => by subst e; simp at hlt)
        have c1 := cell_keep hbr (hcc k hlt).1
        have c2 := cell_keep hbr (hcc k hlt).2
        have hT := runE_tok HT1.out HR.out
        have hLl := tokB_len hT
        have hpl := HPL.out k
        have HF : Hid (runE (edF P) (k + 1) l = wrF (P.getD k (0, [])).1 (P.getD k (0, [])).2 L) := by
          show (runE (edF P) k l).bind (edF P k) = _
          rw [HR.out]; rfl
        generalize P.getD k (0, []) = s at *
        obtain ⟨pa, pd⟩ := s
        simp only at c1 c2 hpl HF
        have HW := Lib.hid (fun W => specTextWrite_any L pa pd (by omega) hpl W)
        have d1 : ∀ x : BelowOf wr, x.w.cell? ⟨b, off + k * 2, none⟩ = some (.int .i64 pa) := fun x => x.cell c1
        have d2 : ∀ x : BelowOf wr, x.w.cell? ⟨b, off + k * 2 + 1, none⟩ = some (.string (mkB pd)) := fun x => x.cell c2
        have j1 : (0 : Int) ≤ (k : Int) := Int.natCast_nonneg _
        have j2 : (k : Int) < (P.length : Int) := by omega
        by_cases hw : wokB pa pd = true
        · have HL2 : Hid (runE (edF P) (k + 1) l = some (wrL L pa.toNat pd)) := by
            show _ = _; rw [HF.out]; exact wrF_yes hw
          rw [twS_ok hT, twB_ok hT, hw, if_pos rfl] at HW
          clear HF hcc hT hw
          generalize wrL L pa.toNat pd = L2 at *
          go_wp2_with fail
          refine wp_region_calm (by kernel_rfl) (by kernel_rfl) ?_
          repeat (go_big_quiet_step ((go_at_call 18; exact Calls.calm (HW.out _))))
          refine wpQuiet_nil ?_
          rintro _ ⟨x, rfl⟩
          have hb2 := hbr.trans (x.below.mono hbr.size)
          go_wp2
          go_roundg (P.length - (k + 1))
          case measure => omega
          case rel => exact ⟨k + 1, L2, rfl, by omega, by go_num, rfl, HL2, hb2⟩
        · replace hw : wokB pa pd = false := by simpa using hw
          have HN : Hid (runE (edF P) P.length l = none) := by
            refine Lib.hid (runE_none (k := k + 1) ?_ _ (by omega))
            rw [HF.out]; exact wrF_no hw
          rw [twS_ok hT, twB_ok hT, hw] at HW
          simp only [Bool.false_eq_true, if_false] at HW
          clear HF hcc hT hw
          go_wp2_with fail
          refine wp_region_calm (by kernel_rfl) (by kernel_rfl) ?_
          repeat (go_big_quiet_step ((go_at_call 18; exact Calls.calm (HW.out _))))
          refine wpQuiet_nil ?_
          rintro _ ⟨x, rfl⟩
          have hb2 := hbr.trans (x.below.mono hbr.size)
          go_wp2
          go_ret2
          exact ⟨ret_sb (by rw [HS.out, HN.out]; rfl) (by rw [HB.out, HN.out]; rfl), hb2⟩
      · obtain rfl : k = P.length := by omega
        go_wp2
        go_ret2
        exact ⟨ret_sb (by rw [HS.out, HR.out]; rfl) (by rw [HB.out, HR.out]; rfl), hbr⟩
  · replace h1 : tokB l = false := by simpa using h1
    have HS : Hid (edS (edF P) P.length l = []) := by show _ = _; unfold edS; simp [h1]
    have HB : Hid (edB (edF P) P.length l = false) := by show _ = _; unfold edB; simp [h1]
    go_enter Try.func13, Try.ntmps13
    go_wp2_with fail
    refine (HK.out _).mono ?_; rintro e w' ⟨rfl, rfl⟩
    go_wp2
    go_ret2
    exact ⟨ret_sb HS.out.symm HB.out.symm, Below.refl _ _⟩

end Go.Proofs.Ytehpmdmfolmaoab
