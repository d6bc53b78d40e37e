/-
  Contracts of SpansMany of both sides.
-/
import Derived.Test.YtehpmdmfolmaoaaDoorOnes
namespace Go.Proofs.YtehpmdmfolmaoaaDoor
open Go.RowKit

theorem ret_i64 {a b : Int} (h : a = b) : Ending.returned (.int .i64 a) = .returned (.int .i64 b) := by rw [h]

/-- How many places, range by range. -/
def lens : List Rng → Int
  | [] => 0
  | s :: r => (s.2 - s.1) + lens r
def manyB (L : List Rng) : Int := if spansOkB L = true then lens L else 0

theorem okFrom_lo : ∀ (L : List Rng) (e : Int), okFrom e L = true → ∀ i : Int, i ≤ e → inB L i = false
  | [], _, _, _, _ => rfl
  | s :: r, e, h, i, hi => by
    simp only [okFrom, Bool.and_eq_true, decide_eq_true_eq] at h
    have hs := spanOkB_iff.1 h.1
    have := okFrom_lo r s.2 h.2.2 i (by omega)
    have h1 : decide (s.1 ≤ i) = false := by simp; omega
    show ((decide (s.1 ≤ i) && decide (i < s.2)) || inB r i) = false
    rw [this, h1]; rfl

/-- The places counted from o on, where all that is in the list lies from o on and below o + n. -/
theorem cnt_lens : ∀ (L : List Rng) (e : Int) (o n : Nat), okFrom e L = true → (o : Int) ≤ e + 1 → 48 ≤ o + n → ((cnt (fun i => inB L ((o + i : Nat) : Int)) n : Nat) : Int) = lens L
  | [], _, o, n, _, _, _ => by
    rw [cnt_none (f := fun i => inB [] ((o + i : Nat) : Int)) (n := n) fun i _ => rfl]; rfl
  | s :: r, e, o, n, h, ho, hn => by
    have h' := h
    simp only [okFrom, Bool.and_eq_true, decide_eq_true_eq] at h'
    obtain ⟨h1, h2, h3⟩ := h'
    obtain ⟨s1, s2, s3⟩ := spanOkB_iff.1 h1
    obtain ⟨a, ha⟩ : ∃ a : Nat, (o : Int) + a = s.1 := ⟨(s.1 - o).toNat, by omega⟩
    obtain ⟨b, hb⟩ : ∃ b : Nat, s.1 + b = s.2 := ⟨(s.2 - s.1).toNat, by omega⟩
    obtain ⟨m, rfl⟩ : ∃ m : Nat, n = a + (b + m) := ⟨n - a - b, by omega⟩
    rw [cnt_add, cnt_add]
    have e1 : cnt (fun i => inB (s :: r) ((o + i : Nat) : Int)) a = 0 := cnt_none fun i hi => by
      have hr := okFrom_lo r s.2 h3 ((o + i : Nat) : Int) (by omega)
      have hd : decide (s.1 ≤ ((o + i : Nat) : Int)) = false := by simp; omega
      show ((decide (s.1 ≤ ((o + i : Nat) : Int)) && decide (((o + i : Nat) : Int) < s.2)) || inB r ((o + i : Nat) : Int)) = false
      rw [hr, hd]; rfl
    have e2 : cnt (fun i => inB (s :: r) ((o + (a + i) : Nat) : Int)) b = b := cnt_all fun i hi => by
      have hd : decide (s.1 ≤ ((o + (a + i) : Nat) : Int)) = true := by simp; omega
      have hd2 : decide (((o + (a + i) : Nat) : Int) < s.2) = true := by simp; omega
      show ((decide (s.1 ≤ ((o + (a + i) : Nat) : Int)) && decide (((o + (a + i) : Nat) : Int) < s.2)) || inB r ((o + (a + i) : Nat) : Int)) = true
      rw [hd, hd2]; rfl
    have e3 : cnt (fun i => inB (s :: r) ((o + (a + (b + i)) : Nat) : Int)) m = cnt (fun i => inB r (((o + a + b) + i : Nat) : Int)) m := cnt_congr fun i hi => by
      have hd2 : decide (((o + (a + (b + i)) : Nat) : Int) < s.2) = false := by simp; omega
      show ((decide (s.1 ≤ ((o + (a + (b + i)) : Nat) : Int)) && decide (((o + (a + (b + i)) : Nat) : Int) < s.2)) || inB r ((o + (a + (b + i)) : Nat) : Int)) = _
      rw [hd2, Bool.and_false, Bool.false_or, show o + (a + (b + i)) = o + a + b + i by omega]
    have ih := cnt_lens r s.2 (o + a + b) m h3 (by omega) (by omega)
    rw [e1, e2, e3]
    show _ = (s.2 - s.1) + lens r
    rw [← ih]
    omega

theorem cnt_sps (L : List Rng) (h : spansOkB L = true) : ((cnt (fun i => (sps L).testBit i) 64 : Nat) : Int) = lens L := by
  have hall := spansOkB_all h
  simp only [spansOkB, Bool.and_eq_true] at h
  rw [cnt_congr (g := fun i => inB L ((0 + i : Nat) : Int)) fun i _ => by rw [sps_bit L hall, Nat.zero_add]]
  exact cnt_lens L (-1) 0 64 h.2 (by omega) (by omega)

set_option maxHeartbeats 1000000 in
theorem implSpansMany_any (v : Value) (L : List Rng) (w : World) (h : Spn w v L) :
    Calls Tryd.prog 24 #[v] w fun e w' => e = .returned (.int .i64 (manyB L)) ∧ Below w.heap.size w w' := by
  by_cases h1 : spansOkB L = true
  · have hall := spansOkB_all h1
    have hl := sps_lt L hall
    have hc := cnt_sps L h1
    have HF : manyB L = lens L := by unfold manyB; rw [if_pos h1]
    rw [HF, ← hc]
    have HA := Lib.hid hall
    have HS := Lib.hid h
    clear hall hc HF h
    go_enter Tryd.func24, Tryd.ntmps24
    go_wp2_with fail
    refine (implSpansOk_any v L _ HS.out).mono ?_; rintro e w1 ⟨rfl, hb1⟩
    have HS1 := Lib.hid (HS.out.keep hb1)
    go_wp2_with fail
    refine (spotsOf_any v L _ HS1.out HA.out).mono ?_; rintro e w2 ⟨rfl, hb2⟩
    have e2 := hb1.trans (hb2.mono hb1.size)
    go_wp2_with fail
    refine (ones_any (sps L) _ hl).mono ?_; rintro e w' ⟨rfl, rfl⟩
    go_wp2
    go_ret
    exact ⟨rfl, e2⟩
  · replace h1 : spansOkB L = false := by simpa using h1
    have HF : manyB L = 0 := by unfold manyB; simp [h1]
    rw [HF]
    have HS := Lib.hid h
    clear HF h
    go_enter Tryd.func24, Tryd.ntmps24
    go_wp2_with fail
    refine (implSpansOk_any v L _ HS.out).mono ?_; rintro e w1 ⟨rfl, hb1⟩
    go_wp2
    go_ret
    exact ⟨rfl, hb1⟩

theorem lens_bd : ∀ (L : List Rng) (e : Int), okFrom e L = true → -1 ≤ e → 0 ≤ lens L ∧ lens L ≤ 48 * L.length
  | [], _, _, _ => by simp [lens]
  | s :: r, e, h, he => by
    simp only [okFrom, Bool.and_eq_true, decide_eq_true_eq] at h
    obtain ⟨s1, s2, s3⟩ := spanOkB_iff.1 h.1
    have := lens_bd r s.2 h.2.2 (by omega)
    simp only [lens, List.length_cons]
    omega

theorem lens_drop (L : List Rng) (k : Nat) (h : k < L.length) : lens (L.drop k) = ((L.getD k (0, 0)).2 - (L.getD k (0, 0)).1) + lens (L.drop (k + 1)) := by
  rw [drop_cons L k h]; rfl

set_option maxHeartbeats 1000000 in
theorem specSpansMany_any (v : Value) (L : List Rng) (w : World) (h : Spn w v L) :
    Calls Tryd.prog 29 #[v] w fun e w' => e = .returned (.int .i64 (manyB L)) ∧ Below w.heap.size w w' := by
  have HS0 := Lib.hid h
  obtain ⟨a, cap, rfl, hl, hm, hc⟩ := h
  unfold maxLen at hm
  have HC := Lib.hid hc
  clear hc
  by_cases h1 : spansOkB L = true
  · have hall := spansOkB_all h1
    have h12 : L.length ≤ 12 := by simp only [spansOkB, Bool.and_eq_true, decide_eq_true_eq] at h1; exact h1.1
    have HF' : Hid (manyB L = lens L) := by show manyB L = lens L; unfold manyB; rw [if_pos h1]
    have HA := Lib.hid hall
    have HM : Hid (lens L = 0 + lens (L.drop 0)) := by show lens L = 0 + lens L; omega
    clear hall
    go_enter Tryd.func29, Tryd.ntmps29
    go_wp2
    go_loopg [3, 4] L.length (fun g s3 s4 wr => ∃ (k : Nat) (n : Int), g = L.length - k ∧ k ≤ L.length ∧ 0 ≤ n ∧ n ≤ 48 * k ∧ s3 = .int .i64 n ∧ s4 = .int .i64 k ∧ Hid (lens L = n + lens (L.drop k)) ∧ Below w.heap.size w wr)
    case atStart => exact ⟨0, 0, rfl, Nat.zero_le _, by omega, by omega, rfl, rfl, HM, Below.refl _ _⟩
    case round =>
      obtain ⟨k, n, rfl, hk, hn0, hn1, rfl, rfl, HK, hb⟩ := hrel
      by_cases hlt : k < L.length
      · obtain ⟨b, off, rfl, hcc⟩ := HC.out (fun e => by subst e; simp at hlt)
        have hmem : L.getD k (0, 0) ∈ L := by rw [List.getD_eq_getElem?_getD, List.getElem?_eq_getElem hlt]; exact List.getElem_mem hlt
        have hs := HA.out _ hmem
        have HT : Hid (lens L = (n + (L.getD k (0, 0)).2 - (L.getD k (0, 0)).1) + lens (L.drop (k + 1))) := by
          have := HK.out
          rw [lens_drop L k hlt] at this
          show lens L = _
          omega
        have HC1 := Lib.hid (hcc k hlt)
        clear hcc hmem HK
        generalize L.getD k (0, 0) = s at *
        obtain ⟨lo, hi⟩ := s
        obtain ⟨s1, s2, s3⟩ := spanOkB_iff.1 hs
        clear hs
        go_wp2_with fail
        refine (specSpansOk_any _ L _ (HS0.out.keep hb)).mono ?_; rintro e w1 ⟨rfl, hb1⟩
        have hb2 := hb.trans (hb1.mono hb.size)
        have c1 := cell_keep hb2 HC1.out.1
        have c2 := cell_keep hb2 HC1.out.2
        have j1 : (0 : Int) ≤ (k : Int) := Int.natCast_nonneg _
        have j2 : (k : Int) < (L.length : Int) := by omega
        have d1 : ∀ x : BelowOf w1, x.w.cell? ⟨b, off + k * 2, none⟩ = some (.int .i64 lo) := fun x => x.cell c1
        have d2 : ∀ x : BelowOf w1, x.w.cell? ⟨b, off + k * 2 + 1, none⟩ = some (.int .i64 hi) := fun x => x.cell c2
        have i1 : IntKind.i64.wrap (n + hi) = n + hi := IntWalk.i64_in _ (by omega)
        have i2 : IntKind.i64.wrap (n + hi - lo) = n + hi - lo := IntWalk.i64_in _ (by omega)
        go_wp2_with fail
        refine wp_region_calm (by kernel_rfl) (by kernel_rfl) ?_
        repeat (go_big_quiet_step (fail))
        refine wpQuiet_nil ?_
        rintro _ ⟨x, rfl⟩
        have hb3 := hb2.trans (x.below.mono hb2.size)
        clear i1 i2 d1 d2
        go_wp2
        go_roundg (L.length - (k + 1))
        case measure => omega
        case rel => exact ⟨k + 1, n + hi - lo, rfl, by omega, by omega, by omega, rfl, by go_num, HT, hb3⟩
      · have HG : Hid (manyB L = n) := by
          have := HK.out
          rw [List.drop_of_length_le (by omega)] at this
          show manyB L = n
          rw [HF'.out, this]; simp [lens]
        go_wp2
        go_ret
        exact ⟨ret_i64 HG.out.symm, hb⟩
  · replace h1 : spansOkB L = false := by simpa using h1
    have HF' : Hid (manyB L = 0) := by show manyB L = 0; unfold manyB; simp [h1]
    go_enter Tryd.func29, Tryd.ntmps29
    go_wp2
    go_loopg [3, 4] 0 (fun g s3 s4 wr => s3 = .int .i64 0 ∧ s4 = .int .i64 0 ∧ w = wr)
    case atStart => exact ⟨rfl, rfl, rfl⟩
    case round =>
      obtain ⟨rfl, rfl, rfl⟩ := hrel
      by_cases h0 : L.length = 0
      · have hd : decide ((0 : Int) < (L.length : Int)) = false := by rw [decide_eq_false_iff_not]; omega
        go_wp2
        go_ret
        exact ⟨ret_i64 HF'.out.symm, Below.refl _ _⟩
      · have hp : (0 : Int) < (L.length : Int) := by omega
        go_wp2_with fail
        refine (specSpansOk_any _ L _ HS0.out).mono ?_; rintro e w1 ⟨rfl, hb1⟩
        go_wp2
        go_ret
        exact ⟨ret_i64 HF'.out.symm, hb1⟩

end Go.Proofs.YtehpmdmfolmaoaaDoor
