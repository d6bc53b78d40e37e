/-
  laws: toPatch, toPatchS, szPatchS, eqPatchS.
-/
import Derived.Test.YtehpmdmfolmaoacPatches
import Derived.Test.YtehpmdmfolmaoacCalm
import Derived.Laws.MakeOwn
namespace Go.Proofs.Ytehpmdmfolmaoac
open Go.RowKit

set_option maxHeartbeats 400000 in
theorem toPatch_any (a : Int) (d : List UInt8) (w : World) :
    Calls Try.prog 45 #[.agg #[.int .i64 a, .string (mkB d)]] w fun e w' => e = .returned (.agg #[.int .i64 a, .string (mkB d)]) ∧ Below w.heap.size w w' := by
  go_enter Try.func45, Try.ntmps45
  go_wp2
  exact bodyPost_ret (v := .agg #[.int .i64 a, .string (mkB d)]) (by simp [results, Try.results45, go_sem]) rfl ⟨rfl, ((((Below.refl _ _).alloc (Nat.le_refl _) _).alloc (by simp) _).alloc (by simp <;> omega) _)⟩

/-- A row of n patches at the head of block b, that may be written. -/
def RowP (w : World) (b n : Nat) (f : Nat → Pch) : Prop :=
  ∀ i, i < n → w.cell? ⟨b, i * 2, none⟩ = some (.int .i64 (f i).1) ∧ w.cell? ⟨b, i * 2 + 1, none⟩ = some (.string (mkB (f i).2)) ∧ w.frozen? ⟨b, i * 2, none⟩ = false ∧ w.frozen? ⟨b, i * 2 + 1, none⟩ = false
theorem RowP.keep {W w1 : World} {b n : Nat} {f : Nat → Pch} (h : RowP W b n f) (hb : Below W.heap.size W w1) : RowP w1 b n f := fun i hi => by
  obtain ⟨h0, h1, h2, h3⟩ := h i hi
  have hlt := World.block_lt_of_cell? W _ h0
  exact ⟨cell_keep hb h0, cell_keep hb h1, (hb.frozen (p := ⟨b, i * 2, none⟩) hlt).trans h2, (hb.frozen (p := ⟨b, i * 2 + 1, none⟩) hlt).trans h3⟩
theorem RowP.congr {w : World} {b n : Nat} {f g : Nat → Pch} (h : RowP w b n f) (he : ∀ i, i < n → f i = g i) : RowP w b n g := fun i hi => by
  rw [← he i hi]; exact h i hi
theorem RowP.ptc {w : World} {b : Nat} {P : List Pch} (h : RowP w b P.length (fun i => P.getD i (0, []))) (hm : P.length ≤ maxLen) (hd : ∀ i, (P.getD i (0, [])).2.length ≤ 9223372036854775807) : Ptc w (.slice (some ⟨b, 0, none⟩) P.length P.length) P :=
  ⟨_, _, rfl, Nat.le_refl _, hm, hd, fun _ => ⟨b, 0, rfl, fun i hi => by
    have := h i hi
    simp only [Nat.zero_add]
    exact ⟨this.1, this.2.1⟩⟩⟩
theorem RowP.set {w : World} {b n k : Nat} {f : Nat → Pch} {x : Int} {y : List UInt8} (h : RowP w b n f) (hk : k < n) :
    RowP ((w.setCell ⟨b, k * 2, none⟩ (.int .i64 x)).setCell ⟨b, k * 2 + 1, none⟩ (.string (mkB y))) b n (fun i => if i = k then (x, y) else f i) := fun i hi' => by
  obtain ⟨a0, a1, a2, a3⟩ := h k hk
  obtain ⟨b0, b1, b2, b3⟩ := h i hi'
  by_cases e : i = k
  · subst e
    simp only [if_true]
    exact ⟨by go_simp, by go_simp, by go_simp, by go_simp⟩
  · simp only [if_neg e]
    have n1 : ¬ k * 2 = i * 2 := by omega
    have n2 : ¬ k * 2 + 1 = i * 2 := by omega
    have n3 : ¬ k * 2 = i * 2 + 1 := by omega
    have n4 : ¬ k * 2 + 1 = i * 2 + 1 := by omega
    refine ⟨?_, ?_, ?_, ?_⟩
    · rw [World.cell?_setCell_other _ _ _ _ (fun e => n2 (by injection e)), World.cell?_setCell_other _ _ _ _ (fun e => n1 (by injection e))]; exact b0
    · rw [World.cell?_setCell_other _ _ _ _ (fun e => n4 (by injection e)), World.cell?_setCell_other _ _ _ _ (fun e => n3 (by injection e))]; exact b1
    · go_simp
    · go_simp
theorem RowP.made (w : World) (n : Nat) (T : TypeId) : RowP (w.alloc (.cells (madeCells #[.int .i64 0, .string ⟨#[]⟩] (n * 2)) T)) w.heap.size n (fun _ => (0, [])) := fun i hi => by
  have hg0 : (madeCells #[.int .i64 0, .string ⟨#[]⟩] (n * 2))[i * 2]? = some (.int .i64 0) := by
    simp only [madeCells, Array.getElem?_map, Array.getElem?_range, show i * 2 < n * 2 by omega]
    have : (i * 2) % 2 = 0 := by omega
    simp [this]
  have hg1 : (madeCells #[.int .i64 0, .string ⟨#[]⟩] (n * 2))[i * 2 + 1]? = some (.string ⟨#[]⟩) := by
    simp only [madeCells, Array.getElem?_map, Array.getElem?_range, show i * 2 + 1 < n * 2 by omega]
    have : (i * 2 + 1) % 2 = 1 := by omega
    simp [this]
  refine ⟨?_, ?_, by go_simp, by go_simp⟩
  · rw [World.cell?_alloc_new]; exact hg0
  · rw [World.cell?_alloc_new]; exact hg1

theorem infoPatch : (Try.prog.info? 64).map (fun i => (i.zero, i.size, i.bytes)) = some (some (.agg #[.int .i64 0, .string ⟨#[]⟩]), 2, 24) := by kernel_rfl

/-- 'make([]T, n)' where T has more than one cell, as an equation for every world. -/
theorem run_make_rowP {P : Program} (t e : TypeId) (i : TypeInfo) (z : Value) (ht : P.underlying t = some (.slice e)) (hi : P.info? e = some i) (hz : i.zero = some z)
    (kl kc : IntKind) (n c : Nat) (hnc : n ≤ c) (hbytes : i.bytes * c ≤ 281474976710656) (h63 : c ≤ 9223372036854775807) (w : World) :
    (Instr.makeSlice t (.int kl (n : Int)) (.int kc (c : Int))).run P w = .ok (.slice (some ⟨w.heap.size, 0, none⟩) n c) (w.alloc (.cells (madeCells z.cells (c * i.size)) e)) := by
  have hb : (i.bytes : Int) * (c : Int) ≤ 281474976710656 := by
    have h : ((i.bytes * c : Nat) : Int) ≤ 281474976710656 := by omega
    rwa [Int.natCast_mul] at h
  have hr := run_make (P := P) w t e i z ht hi hz kl kc n c (by omega) (by omega) hb (by omega)
  simp only [Int.toNat_natCast] at hr
  exact hr

/-- What toPatchS leaves: a new row that reads as P; all that existed is as it was. -/
def ToPt (w : World) (P : List Pch) (e : Ending) (w' : World) : Prop :=
  ∃ nb, e = .returned (.slice (some ⟨nb, 0, none⟩) P.length P.length) ∧ RowP w' nb P.length (fun i => P.getD i (0, [])) ∧ Below w.heap.size w w'

set_option maxHeartbeats 1000000 in
theorem toPatchS_any (v : Value) (P : List Pch) (w : World) (h : Ptc w v P) (hL : P.length ≤ 1048576) :
    Calls Try.prog 25 #[v] w (ToPt w P) := by
  obtain ⟨a, cap, rfl, hl, hm, -, hc⟩ := h
  obtain ⟨i0, hi, hz0, hz1, hz2⟩ := info_parts infoPatch
  have hmk := fun w => run_make_rowP (P := Try.prog) 44 64 i0 (.agg #[.int .i64 0, .string ⟨#[]⟩]) Try.underlying44 hi hz0 .i64 .i64 P.length P.length (Nat.le_refl _) (by rw [hz2]; omega) (by omega) w
  rw [hz1] at hmk
  clear hi hz0 hz1 hz2 hm
  have h0 : RowP (w.alloc (.cells (madeCells #[.int .i64 0, .string ⟨#[]⟩] (P.length * 2)) 64)) w.heap.size P.length (fun i => if i < 0 then P.getD i (0, []) else (0, [])) := (RowP.made w _ _).congr fun i _ => by simp
  have HH := Lib.hid h0
  have HC := Lib.hid hc
  clear h0 hc
  go_enter Try.func25, Try.ntmps25
  go_wp2
  go_loopg [4] P.length (fun g s4 wr => ∃ k : Nat, g = P.length - k ∧ k ≤ P.length ∧ s4 = .int .i64 k ∧ RowP wr w.heap.size P.length (fun i => if i < k then P.getD i (0, []) else (0, [])) ∧ Below w.heap.size w wr)
  case atStart => exact ⟨0, rfl, Nat.zero_le _, rfl, HH.out, (Below.refl _ _).alloc (Nat.le_refl _) _⟩
  case round =>
    obtain ⟨k, rfl, hk, rfl, hr, hb⟩ := hrel
    by_cases hlt : k < P.length
    · obtain ⟨b, off, rfl, hcc⟩ := HC.out (fun e => by subst e; simp at hlt)
      have c1 := cell_keep hb (hcc k hlt).1
      have c2 := cell_keep hb (hcc k hlt).2
      have HN : Hid (RowP wr w.heap.size P.length (fun i => if i < k then P.getD i (0, []) else (0, []))) := hr
      have HS : Hid (∀ i, (if i = k then P.getD k (0, []) else if i < k then P.getD i (0, []) else (0, [])) = if i < k + 1 then P.getD i (0, []) else (0, [])) := fun i => by
        by_cases e : i = k
        · subst e; rw [if_pos rfl, if_pos (by omega)]
        · rw [if_neg e]
          by_cases e2 : i < k
          · rw [if_pos e2, if_pos (by omega)]
          · rw [if_neg e2, if_neg (by omega)]
      clear hr hcc
      generalize hs : P.getD k (0, []) = s at *
      obtain ⟨pa, pd⟩ := s
      simp only at c1 c2
      have HE := Lib.hid hs
      clear hs
      go_wp2_with fail
      refine (toPatch_any pa pd _).mono ?_; rintro e w1 ⟨rfl, hb1⟩
      have hr1 := HN.out.keep hb1
      obtain ⟨x1, x2, x3, x4⟩ := hr1 k hlt
      have hb2 := hb.trans (hb1.mono hb.size)
      have HR := Lib.hid hr1
      clear hr1
      go_wp2
      go_roundg (P.length - (k + 1))
      case measure => omega
      case rel => exact ⟨k + 1, rfl, by omega, by go_num, (HR.out.set hlt).congr fun i _ => HS.out i, (hb2.setCell (Nat.le_refl _) _).setCell (Nat.le_refl _) _⟩
    · go_wp2
      go_ret
      exact ⟨w.heap.size, rfl, hr.congr fun i hi => by rw [if_pos (by omega)], hb⟩

/-- How much a list of patches holds, after k of them. -/
def szP (P : List Pch) : Nat → Nat
  | 0 => 0
  | k + 1 => szP P k + (P.getD k (0, [])).2.length
theorem szP_mono (P : List Pch) {j k : Nat} (h : j ≤ k) : szP P j ≤ szP P k := by
  induction k with
  | zero => obtain rfl : j = 0 := by omega
            exact Nat.le_refl _
  | succ k ih =>
    by_cases e : j = k + 1
    · subst e; exact Nat.le_refl _
    · have := ih (by omega)
      show _ ≤ szP P k + _
      omega
theorem szP_one (P : List Pch) {n i : Nat} (hi : i < n) : (P.getD i (0, [])).2.length ≤ szP P n := by
  have := szP_mono P (show i + 1 ≤ n by omega)
  have e : szP P (i + 1) = szP P i + (P.getD i (0, [])).2.length := rfl
  omega

set_option maxHeartbeats 400000 in
theorem szPatch_any (a : Int) (d : List UInt8) (n : Nat) (hd : d.length ≤ 9223372036854775807) (hn : n ≤ 9223372036854775807) (w : World) :
    Calls Try.prog 44 #[.agg #[.int .i64 a, .string (mkB d)], .int .i64 n] w fun e w' => e = .returned (.int .i64 (if d.length ≤ n then (n : Int) - d.length else -1)) ∧ Below w.heap.size w w' := by
  have hal : Below w.heap.size w (w.alloc (.cells #[.int .i64 a, .string (mkB d)] 69)) := (Below.refl _ _).alloc (Nat.le_refl _) _
  have hsz : (mkB d).size = d.length := mkB_size d
  by_cases h : d.length ≤ n
  · rw [if_pos h]
    go_enter Try.func44, Try.ntmps44
    go_wp2
    go_ret
    exact ⟨rfl, hal⟩
  · rw [if_neg h]
    go_enter Try.func44, Try.ntmps44
    go_wp2
    go_ret
    exact ⟨rfl, hal⟩

/-- The size: what is left of the allowance, or -1. -/
def SzP (P : List Pch) (w : World) (e : Ending) (w' : World) : Prop :=
  ((P.length + szP P P.length ≤ 1048576 ∧ ∃ x : Int, 0 ≤ x ∧ e = .returned (.int .i64 x)) ∨ (1048576 < P.length + szP P P.length ∧ e = .returned (.int .i64 (-1)))) ∧ Below w.heap.size w w'

set_option maxHeartbeats 1000000 in
theorem szPatchS_any (v : Value) (P : List Pch) (w : World) (h : Ptc w v P) :
    Calls Try.prog 23 #[v, .int .i64 1048576] w (SzP P w) := by
  obtain ⟨a, cap, rfl, hl, hm, hd, hc⟩ := h
  unfold maxLen at hm
  by_cases hL : P.length ≤ 1048576
  · have HC := Lib.hid hc
    have HD := Lib.hid hd
    clear hc hd
    go_enter Try.func23, Try.ntmps23
    go_wp2
    go_loopg [1, 5] P.length (fun g s1 s5 wr => ∃ k x : Nat, g = P.length - k ∧ k ≤ P.length ∧ s5 = .int .i64 k ∧ s1 = .int .i64 x ∧ P.length + szP P k + x = 1048576 ∧ Below w.heap.size w wr)
    case atStart => exact ⟨0, 1048576 - P.length, rfl, Nat.zero_le _, rfl, by go_num, by simp only [szP]; omega, Below.refl _ _⟩
    case round =>
      obtain ⟨k, x, rfl, hk, rfl, rfl, hx, hb⟩ := hrel
      by_cases hlt : k < P.length
      · obtain ⟨b, off, rfl, hcc⟩ := HC.out (fun e => by subst e; simp at hlt)
        have c1 := cell_keep hb (hcc k hlt).1
        have c2 := cell_keep hb (hcc k hlt).2
        have hdk := HD.out k
        have he : szP P (k + 1) = szP P k + (P.getD k (0, [])).2.length := rfl
        have hmono := szP_mono P (show k + 1 ≤ P.length by omega)
        have HE := Lib.hid he
        have HM := Lib.hid hmono
        clear he hmono hcc
        generalize P.getD k (0, []) = s at *
        obtain ⟨pa, pd⟩ := s
        simp only at c1 c2 hdk HE
        by_cases hfit : pd.length ≤ x
        · have HZ := szPatch_any pa pd x hdk (by omega)
          rw [if_pos hfit] at HZ
          have HZ' := Lib.hid HZ
          clear HZ
          go_wp2_with fail
          refine (HZ'.out _).mono ?_; rintro e w1 ⟨rfl, hb1⟩
          have hb2 := hb.trans (hb1.mono hb.size)
          go_wp2
          go_roundg (P.length - (k + 1))
          case measure => omega
          case rel => exact ⟨k + 1, x - pd.length, rfl, by omega, by go_num, by go_num, by rw [HE.out]; omega, hb2⟩
        · have HZ := szPatch_any pa pd x hdk (by omega)
          rw [if_neg hfit] at HZ
          have HZ' := Lib.hid HZ
          clear HZ
          go_wp2_with fail
          refine (HZ'.out _).mono ?_; rintro e w1 ⟨rfl, hb1⟩
          have hb2 := hb.trans (hb1.mono hb.size)
          go_wp2
          go_ret
          exact ⟨Or.inr ⟨by have h1 := HE.out; have h2 := HM.out; omega, rfl⟩, hb2⟩
      · obtain rfl : k = P.length := by omega
        go_wp2
        go_ret
        exact ⟨Or.inl ⟨by omega, (x : Int), by omega, rfl⟩, hb⟩
  · go_enter Try.func23, Try.ntmps23
    go_wp2
    go_ret
    exact ⟨Or.inr ⟨by omega, rfl⟩, Below.refl _ _⟩

set_option maxHeartbeats 400000 in
theorem eqPatch_same (a : Int) (d : List UInt8) (w : World) :
    Calls Try.prog 46 #[.agg #[.int .i64 a, .string (mkB d)], .agg #[.int .i64 a, .string (mkB d)]] w fun e w' => e = .returned (.bool true) ∧ Below w.heap.size w w' := by
  have hal : Below w.heap.size w ((w.alloc (.cells #[.int .i64 a, .string (mkB d)] 64)).alloc (.cells #[.int .i64 a, .string (mkB d)] 64)) := ((Below.refl _ _).alloc (Nat.le_refl _) _).alloc (by simp) _
  have q : ((mkB d).toList == (mkB d).toList) = true := by simp
  have q2 : (a != a) = false := by simp
  go_enter Try.func46, Try.ntmps46
  go_wp2
  go_ret
  exact ⟨rfl, hal⟩

set_option maxHeartbeats 1000000 in
theorem eqPatchS_same (v u : Value) (P : List Pch) (w : World) (h : Ptc w v P) (h' : Ptc w u P) :
    Calls Try.prog 27 #[v, u] w fun e w' => e = .returned (.bool true) ∧ Below w.heap.size w w' := by
  obtain ⟨a, cap, rfl, hl, hm, -, hc⟩ := h
  obtain ⟨a', cap', rfl, hl', hm', -, hc'⟩ := h'
  unfold maxLen at hm hm'
  have HC := Lib.hid hc
  have HC' := Lib.hid hc'
  have hd : ((P.length : Int) != (P.length : Int)) = false := by simp
  clear hc hc'
  go_enter Try.func27, Try.ntmps27
  go_wp2
  go_loopg [5] P.length (fun g s5 wr => ∃ k : Nat, g = P.length - k ∧ k ≤ P.length ∧ s5 = .int .i64 k ∧ Below w.heap.size w wr)
  case atStart => exact ⟨0, rfl, Nat.zero_le _, rfl, Below.refl _ _⟩
  case round =>
    obtain ⟨k, rfl, hk, rfl, hb⟩ := hrel
    by_cases hlt : k < P.length
    · obtain ⟨b, off, rfl, hcc⟩ := HC.out (fun e => by subst e; simp at hlt)
      obtain ⟨b', off', rfl, hcc'⟩ := HC'.out (fun e => by subst e; simp at hlt)
      have c1 := cell_keep hb (hcc k hlt).1
      have c2 := cell_keep hb (hcc k hlt).2
      have c3 := cell_keep hb (hcc' k hlt).1
      have c4 := cell_keep hb (hcc' k hlt).2
      clear hcc hcc'
      generalize P.getD k (0, []) = s at *
      obtain ⟨pa, pd⟩ := s
      simp only at c1 c2 c3 c4
      have j1 : (0 : Int) ≤ (k : Int) := Int.natCast_nonneg _
      have j2 : (k : Int) < (P.length : Int) := by omega
      have d1 : ∀ x : BelowOf wr, x.w.cell? ⟨b, off + k * 2, none⟩ = some (.int .i64 pa) := fun x => x.cell c1
      have d2 : ∀ x : BelowOf wr, x.w.cell? ⟨b, off + k * 2 + 1, none⟩ = some (.string (mkB pd)) := fun x => x.cell c2
      have d3 : ∀ x : BelowOf wr, x.w.cell? ⟨b', off' + k * 2, none⟩ = some (.int .i64 pa) := fun x => x.cell c3
      have d4 : ∀ x : BelowOf wr, x.w.cell? ⟨b', off' + k * 2 + 1, none⟩ = some (.string (mkB pd)) := fun x => x.cell c4
      go_wp2_with fail
      refine wp_region_calm (by kernel_rfl) (by kernel_rfl) ?_
      repeat (go_big_quiet_step ((go_at_call 46; exact Calls.calm (eqPatch_same pa pd _))))
      refine wpQuiet_nil ?_
      rintro _ ⟨x, rfl⟩
      have hb2 := hb.trans (x.below.mono hb.size)
      go_wp2
      go_roundg (P.length - (k + 1))
      case measure => omega
      case rel => exact ⟨k + 1, rfl, by omega, by go_num, hb2⟩
    · go_wp2
      go_ret
      exact ⟨rfl, hb⟩

end Go.Proofs.Ytehpmdmfolmaoac
