/-
  Contract of the draw of a list of ranges, one in eight bent (l1Lists): a new row of at most thirteen pairs of numbers.
-/
import Derived.Test.YtfifimdaepebeaaDrawList
namespace Go.Proofs.Ytfifimdaepebeaa
open Go.RowKit

theorem flat_set2 : ∀ (a : List Rng) (i : Nat) (x y : Int), i < a.length → ((flat a).set (i * 2) (.int .i64 x)).set (i * 2 + 1) (.int .i64 y) = flat (a.set i (x, y))
  | s :: r, 0, x, y, _ => rfl
  | s :: r, i + 1, x, y, hi => by
    have := flat_set2 r i x y (by simpa using hi)
    rw [show (i + 1) * 2 = i * 2 + 1 + 1 by omega]
    simp only [flat, List.set_cons_succ]
    rw [this]

/-- One range of a row stored anew: the row, the reader, the rest. -/
theorem set_row {w w1 : World} {rb q g cap k : Nat} {L : List Rng} (x y : Int) (ho : w1.ownsRow w.heap.size 25 2 (.slice (some ⟨g, 0, none⟩) L.length cap) L.length (flat L)) (hr : Rd w1 rb q) (hg : w.grownBy w1 (some rb)) (hrb : rb < w.heap.size) (hk : k < L.length) :
    ((w1.setCell ⟨g, k * 2, none⟩ (.int .i64 x)).setCell ⟨g, k * 2 + 1, none⟩ (.int .i64 y)).ownsRow w.heap.size 25 2 (.slice (some ⟨g, 0, none⟩) L.length cap) L.length (flat (L.set k (x, y))) ∧
      Rd ((w1.setCell ⟨g, k * 2, none⟩ (.int .i64 x)).setCell ⟨g, k * 2 + 1, none⟩ (.int .i64 y)) rb q ∧ w.grownBy ((w1.setCell ⟨g, k * 2, none⟩ (.int .i64 x)).setCell ⟨g, k * 2 + 1, none⟩ (.int .i64 y)) (some rb) := by
  have hgB := ho.lt g rfl
  have h1 := ((ho.stored (k * 2) (.int .i64 x)).1.stored (k * 2 + 1) (.int .i64 y)).1
  rw [flat_set2 L k x y hk] at h1
  exact ⟨h1, (hr.set (by omega)).set (by omega), grown_new (grown_new hg (by omega)) (by omega)⟩
theorem set_row1 {w w1 : World} {rb q g cap k : Nat} {L : List Rng} (y : Int) (ho : w1.ownsRow w.heap.size 25 2 (.slice (some ⟨g, 0, none⟩) L.length cap) L.length (flat L)) (hr : Rd w1 rb q) (hg : w.grownBy w1 (some rb)) (hrb : rb < w.heap.size) (hk : k < L.length) :
    (w1.setCell ⟨g, k * 2 + 1, none⟩ (.int .i64 y)).ownsRow w.heap.size 25 2 (.slice (some ⟨g, 0, none⟩) L.length cap) L.length (flat (L.set k ((L.getD k (0, 0)).1, y))) ∧
      Rd (w1.setCell ⟨g, k * 2 + 1, none⟩ (.int .i64 y)) rb q ∧ w.grownBy (w1.setCell ⟨g, k * 2 + 1, none⟩ (.int .i64 y)) (some rb) := by
  have hgB := ho.lt g rfl
  have h1 := (ho.stored (k * 2 + 1) (.int .i64 y)).1
  rw [flat_set L k y hk] at h1
  exact ⟨h1, hr.set (by omega), grown_new hg (by omega)⟩

set_option maxRecDepth 100000 in
set_option maxHeartbeats 8000000 in
theorem l1Lists_any (rb p : Nat) (w : World) (h : Rd w rb p) (hp : p ≤ 600000000) :
    Calls Try.prog 84 #[.pointer (some ⟨rb, 0, none⟩)] w (Ls (fun L => L.length ≤ 13) w rb p 300) := by
  obtain ⟨i0, hi0, hz0, hz1, hz2⟩ := info_parts infoSpan'
  have HI0 := Lib.hid (And.intro hi0 (And.intro hz0 (And.intro hz1 hz2)))
  clear hi0 hz0 hz1 hz2
  have hrb := h.lt
  have HR0 := Lib.hid h
  clear h
  go_enter Try.func84, Try.ntmps84
  go_wp2_with fail
  refine (l1List_any rb p _ HR0.out (by omega)).mono ?_; rintro e w1 ⟨g, cap, q, L, rfl, hgrb, HO, ⟨hL12, hbnd⟩, hr1, hq, hg1⟩
  have HR := Lib.hid hr1
  have HG := Lib.hid hg1
  have HB := Lib.hid hbnd
  clear hr1 hg1 hbnd HR0
  by_cases hn0 : L.length = 0
  · have hb0 : ((L.length : Int) == 0) = true := by simp [hn0]
    have HN0 := Lib.hid hn0
    clear hn0
    go_wp2
    go_ret
    exact ⟨g, cap, q, L, rfl, hgrb, HO, by have := HN0.out; omega, HR.out, by omega, HG.out⟩
  · have hb0 : ((L.length : Int) == 0) = false := by simp; exact fun e => hn0 (by rw [e]; rfl)
    have hpos : 0 < L.length := by omega
    go_wp2_with fail
    refine (pick_any rb q 8 _ HR.out (by omega) (by omega) (by omega)).mono ?_; rintro e w2 ⟨c, rfl, c0, -, hr2, hg2⟩
    have HR2 := Lib.hid hr2
    have HO2 := Lib.hid (World.ownsRow.kept HO.out hg2 (Or.inr (by simpa [Value.ownBlock] using hgrb)))
    have HG2 := Lib.hid (grown_trans HG.out hg2)
    clear hr2 hg2 HR HO HG
    by_cases hc : 0 < c
    · go_wp2
      go_ret
      exact ⟨g, cap, q + 1, L, rfl, hgrb, HO2, by omega, HR2.out, by omega, HG2.out⟩
    · go_wp2_with fail
      refine (pick_any rb (q + 1) L.length _ HR2.out (by omega) (by omega) (by omega)).mono ?_; rintro e w3 ⟨kk, rfl, k0, k1, hr3, hg3⟩
      have k2 := k1 (by omega)
      obtain ⟨k, rfl⟩ : ∃ k : Nat, kk = k := ⟨kk.toNat, by omega⟩
      have hkL : k < L.length := by omega
      have HR3 := Lib.hid hr3
      have HO3 := Lib.hid (World.ownsRow.kept HO2.out hg3 (Or.inr (by simpa [Value.ownBlock] using hgrb)))
      have HG3 := Lib.hid (grown_trans HG2.out hg3)
      clear hr3 hg3 HR2 HO2 HG2 k1
      go_wp2_with fail
      refine (pick_any rb (q + 1 + 1) 4 _ HR3.out (by omega) (by omega) (by omega)).mono ?_; rintro e w4 ⟨d, rfl, d0, -, hr4, hg4⟩
      have HR4 := Lib.hid hr4
      have HO4 := Lib.hid (World.ownsRow.kept HO3.out hg4 (Or.inr (by simpa [Value.ownBlock] using hgrb)))
      have HG4 := Lib.hid (grown_trans HG3.out hg4)
      clear hr4 hg4 HR3 HO3 HG3
      by_cases e0 : d = 0
      · subst e0
        go_wp2_with fail
        refine (l1Some_any rb (q + 1 + 1 + 1) _ HR4.out (by omega)).mono ?_; rintro e w5 ⟨a, b, rfl, -, hr5, hg5⟩
        have HR5 := Lib.hid hr5
        have HO5 := Lib.hid (World.ownsRow.kept HO4.out hg5 (Or.inr (by simpa [Value.ownBlock] using hgrb)))
        have HG5 := Lib.hid (grown_trans HG4.out hg5)
        clear hr5 hg5 HR4 HO4 HG4
        have H2 := own_row2 HO5.out
        obtain ⟨x1, x2, x3, x4⟩ := H2 k hkL
        obtain ⟨s1, s2, s3⟩ := set_row a b HO5.out HR5.out HG5.out hrb hkL
        have S1 := Lib.hid s1
        have S2 := Lib.hid s2
        have S3 := Lib.hid s3
        clear H2 s1 s2 s3
        go_wp2
        go_ret
        have hsl : (L.set k (a, b)).length = L.length := List.length_set
        exact ⟨g, cap, _, L.set k (a, b), by rw [hsl]; rfl, hgrb, hsl.symm ▸ S1, by show List.length _ ≤ 13; rw [hsl]; omega, S2.out, by omega, S3.out⟩
      · by_cases e1 : d = 1
        · subst e1
          have H2 := own_row2 HO4.out k hkL
          dsimp only at H2
          obtain ⟨x1, x2, -, -⟩ := H2
          obtain ⟨n, hn⟩ : ∃ n, L.length = n := ⟨_, rfl⟩
          have HN := Lib.hid hn
          simp only [hn] at HO4 hL12 hkL ⊢
          generalize L.getD k (0, 0) = s at *
          obtain ⟨a, b⟩ := s
          simp only at x1 x2
          clear hn
          go_wp2_with (at_builtin; refine wpList_append_own _ rfl _ _ 46 rfl w.heap.size 25 i0 (.agg #[.int .i64 0, .int .i64 0]) 2 16 Try.underlying46 HI0.out.1 HI0.out.2.1 HI0.out.2.2.1 HI0.out.2.2.2 rfl (by decide) _ _ _ rfl (HO4.out.alloc _) ⟨w4.heap.size, 0, none⟩ 1 1 [.int .i64 a, .int .i64 b] rfl rfl ?c1a ?c2a ?c3a ?c4a ?c5a ?_)
          any_goals (first | (case c1a => exact two_new _ _ _ _) | skip)
          case c2a => simp [Value.oneCell']
          case c3a => unfold maxLen; omega
          case c4a => omega
          case c5a => have := HG4.out.size; first | omega | (simp; omega)
          intro v' w9 hown' hgrow _
          obtain ⟨g9, cap9, rfl, hg9, ho9, hr9, hgr9⟩ := app_row a b HN.out HO4.out HR4.out HG4.out hrb rfl hown' hgrow
          have hl9 : (L ++ [(a, b)]).length = n + 1 := by rw [List.length_append, HN.out]; rfl
          have HO9 : Hid (w9.ownsRow w.heap.size 25 2 (.slice (some ⟨g9, 0, none⟩) (L ++ [(a, b)]).length cap9) (L ++ [(a, b)]).length (flat (L ++ [(a, b)]))) := by
            show World.ownsRow _ _ _ _ _ _ _
            rw [hl9]; exact ho9
          have HL9 := Lib.hid hl9
          have HR9 := Lib.hid hr9
          have HG9 := Lib.hid hgr9
          clear hown' hgrow ho9 hr9 hgr9 hl9
          go_wp2
          go_ret
          exact ⟨g9, cap9, _, L ++ [(a, b)], by rw [HL9.out]; rfl, hg9, HO9, by show List.length _ ≤ 13; rw [HL9.out]; omega, HR9.out, by omega, HG9.out⟩
        · by_cases e2 : d = 2
          · subst e2
            have H2 := own_row2 HO4.out k hkL
            dsimp only at H2
            obtain ⟨x1, x2, x3, x4⟩ := H2
            have hbk : 0 ≤ (L.getD k (0, 0)).2 ∧ (L.getD k (0, 0)).2 ≤ 48 := by
              have := HB.out (L.getD k (0, 0)) (by rw [List.getD_eq_getElem?_getD, List.getElem?_eq_getElem hkL]; exact List.getElem_mem hkL)
              omega
            have hset := fun y => set_row1 (k := k) y HO4.out HR4.out HG4.out hrb hkL
            generalize L.getD k (0, 0) = s at *
            obtain ⟨a, b⟩ := s
            simp only at x1 x2 hbk hset
            obtain ⟨hb1, hb2⟩ := hbk
            obtain ⟨s1, s2, s3⟩ := hset (b + 1)
            have S1 := Lib.hid s1
            have S2 := Lib.hid s2
            have S3 := Lib.hid s3
            have hsl : (L.set k (a, b + 1)).length = L.length := List.length_set
            have HSL := Lib.hid hsl
            clear hsl s1 s2 s3 hset
            go_wp2
            go_ret
            exact ⟨g, cap, q + 1 + 1 + 1, L.set k (a, b + 1), by rw [HSL.out]; rfl, hgrb, HSL.out.symm ▸ S1, by show List.length _ ≤ 13; rw [HSL.out]; omega, S2.out, by omega, S3.out⟩
          · obtain ⟨m, hm⟩ : ∃ m, L.length = m + 1 := ⟨L.length - 1, by omega⟩
            have HM := Lib.hid hm
            have HO5 : Hid (w4.ownsRow w.heap.size 25 2 (.slice (some ⟨g, 0, none⟩) L.length cap) L.length (flat L)) := HO4
            simp only [hm] at hL12 ⊢
            simp only [Int.natCast_add, Int.natCast_one]
            have f0 : (d == 0) = false := by simpa using e0
            have f1 : (d == 1) = false := by simpa using e1
            have f2 : (d == 2) = false := by simpa using e2
            clear hm hkL hpos hn0 hb0 k2
            go_wp2
            go_loopg [3] (13 - (m + 1)) (fun gm s3 wr => ∃ (g' cap' n : Nat) (M : List Rng), gm = 13 - n ∧ s3 = .slice (some ⟨g', 0, none⟩) n cap' ∧ m + 1 ≤ n ∧ n ≤ 13 ∧ g' ≠ rb ∧ Hid (M.length = n) ∧ Hid (wr.ownsRow w.heap.size 25 2 (.slice (some ⟨g', 0, none⟩) n cap') n (flat M)) ∧ Hid (Rd wr rb (q + 1 + 1 + 1)) ∧ Hid (w.grownBy wr (some rb)))
            case atStart => exact ⟨g, cap, m + 1, L, rfl, rfl, Nat.le_refl _, by omega, hgrb, HM, by have := HO5.out; rw [HM.out] at this; exact Lib.hid this, HR4, HG4⟩
            case round =>
              obtain ⟨g', cap', n, M, rfl, rfl, hmn, hn13, hg', HMn, HOn, HRn, HGn⟩ := hrel
              by_cases hlt : n ≤ 12
              · have H2 := own_row2 (L := M) (by rw [HMn.out]; exact HOn.out) m (by rw [HMn.out]; omega)
                dsimp only at H2
                obtain ⟨x1, x2, -, -⟩ := H2
                generalize M.getD m (0, 0) = s at *
                obtain ⟨a, b⟩ := s
                simp only at x1 x2
                go_wp2_with (at_builtin; refine wpList_append_own _ rfl _ _ 46 rfl w.heap.size 25 i0 (.agg #[.int .i64 0, .int .i64 0]) 2 16 Try.underlying46 HI0.out.1 HI0.out.2.1 HI0.out.2.2.1 HI0.out.2.2.2 rfl (by decide) _ _ _ rfl (HOn.out.alloc _) ⟨wr.heap.size, 0, none⟩ 1 1 [.int .i64 a, .int .i64 b] rfl rfl ?c1b ?c2b ?c3b ?c4b ?c5b ?_)
                any_goals (first | (case c1b => exact two_new _ _ _ _) | skip)
                case c2b => simp [Value.oneCell']
                case c3b => unfold maxLen; omega
                case c4b => omega
                case c5b => have := HGn.out.size; first | omega | (simp; omega)
                intro v' w9 hown' hgrow _
                obtain ⟨g9, cap9, rfl, hg9, ho9, hr9, hgr9⟩ := app_row a b HMn.out HOn.out HRn.out HGn.out hrb rfl hown' hgrow
                have HL9 : Hid ((M ++ [(a, b)]).length = n + 1) := by show _ = _; rw [List.length_append, HMn.out]; rfl
                have HO9 := Lib.hid ho9
                have HR9 := Lib.hid hr9
                have HG9 := Lib.hid hgr9
                clear hown' hgrow ho9 hr9 hgr9
                go_wp2
                go_roundg (13 - (n + 1))
                case measure => omega
                case rel => exact ⟨g9, cap9, n + 1, M ++ [(a, b)], rfl, rfl, by omega, by omega, hg9, HL9, HO9, HR9, HG9⟩
              · go_wp2
                go_ret
                exact ⟨g', cap', _, M, by rw [HMn.out]; rfl, hg', HMn.out.symm ▸ HOn, by show List.length _ ≤ 13; rw [HMn.out]; omega, HRn.out, by omega, HGn.out⟩

end Go.Proofs.Ytfifimdaepebeaa
