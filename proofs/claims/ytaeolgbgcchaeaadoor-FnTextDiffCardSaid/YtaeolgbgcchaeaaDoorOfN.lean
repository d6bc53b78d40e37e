/-
  Contract of the model's l1Of for any number of places up to 48.
-/
import Derived.Test.YtaeolgbgcchaeaaDoorOf
namespace Go.Proofs.YtaeolgbgcchaeaaDoor
open Go.RowKit

set_option maxRecDepth 100000 in
set_option maxHeartbeats 4000000 in
theorem l1OfN_own (nb cap0 N : Nat) (hN : N ≤ 48) (f : Nat → Bool) (w : World) (h : RowB w nb N f) :
    Calls Tryd.prog 25 #[.slice (some ⟨nb, 0, none⟩) N cap0] w (RgsO w (rg f N)) := by
  obtain ⟨i0, hi, hz0, hz1, hz2⟩ := info_parts infoSpan'
  have HP := Lib.hid h
  clear h
  go_enter Tryd.func25, Tryd.ntmps25
  go_wp2
  have h0 : Hid (World.ownsRow (w.alloc (.cells #[] 33)) w.heap.size 33 2 (.slice (some ⟨w.heap.size, 0, none⟩) 0 0) 0 []) := World.ownsRow_made w #[] 0 (Nat.le_refl _) (by unfold maxLen; omega) rfl
  go_loopg [3, 4] N (fun q s3 s4 wr => ∃ (k g cap : Nat), q = N - k ∧ k ≤ N ∧ s3 = .slice (some ⟨g, 0, none⟩) (rg f k).length cap ∧ s4 = .int .i64 k ∧ Hid (wr.ownsRow w.heap.size 33 2 (.slice (some ⟨g, 0, none⟩) (rg f k).length cap) (rg f k).length (flat (rg f k))) ∧ Below w.heap.size w wr)
  case atStart => exact ⟨0, w.heap.size, 0, rfl, Nat.zero_le _, rfl, rfl, h0, (Below.refl _ _).alloc (Nat.le_refl _) _⟩
  case round =>
    obtain ⟨k, g, cap, rfl, hk, rfl, rfl, HO, hb⟩ := hrel
    by_cases hlt : k < N
    · have hlen := rg_len f k
      have p1 := (HP.out.keep hb k hlt).1
      by_cases hf : f k = true
      · rw [hf] at p1
        by_cases he : endsAt (rg f k) k = true
        · obtain ⟨e1, e2⟩ : 0 < (rg f k).length ∧ ((rg f k).getD ((rg f k).length - 1) (0, 0)).2 = (k : Int) := by simpa [endsAt] using he
          have HE : Hid (rg f (k + 1) = (rg f k).set ((rg f k).length - 1) (((rg f k).getD ((rg f k).length - 1) (0, 0)).1, (k : Int) + 1)) := by show rg f (k + 1) = _; simp only [rg]; rw [if_pos hf, if_pos he]
          have c1 : wr.cell? ⟨g, ((rg f k).length - 1) * 2 + 1, none⟩ = some (.int .i64 (k : Int)) := by
            rw [HO.out.cellAt _ (by omega), flat_get1 _ _ (by omega), e2]
          have c2 : wr.frozen? ⟨g, ((rg f k).length - 1) * 2 + 1, none⟩ = false := HO.out.frozenAt _
          have HO1 : Hid ((wr.setCell ⟨g, ((rg f k).length - 1) * 2 + 1, none⟩ (.int .i64 ((k : Int) + 1))).ownsRow w.heap.size 33 2 (.slice (some ⟨g, 0, none⟩) (rg f (k + 1)).length cap) (rg f (k + 1)).length (flat (rg f (k + 1)))) := by
            have := (HO.out.stored (((rg f k).length - 1) * 2 + 1) (.int .i64 ((k : Int) + 1))).1
            rw [flat_set _ _ _ (by omega)] at this
            show World.ownsRow _ _ _ _ _ _ _
            rw [HE.out, List.length_set]
            exact this
          have HL : Hid ((rg f (k + 1)).length = (rg f k).length) := by show _ = _; rw [HE.out, List.length_set]
          have hg := (HO.out.lt g rfl).1
          clear hi hz0 hz1 hz2 HO HE he e2 hf
          generalize (rg f k).length = n at *
          go_wp2
          go_roundg (N - (k + 1))
          case measure => omega
          case rel => exact ⟨k + 1, g, cap, rfl, by omega, by rw [HL.out], by go_num, HO1, hb.setCell hg _⟩
        · have HE : Hid (rg f (k + 1) = rg f k ++ [((k : Int), (k : Int) + 1)]) := by show rg f (k + 1) = _; simp only [rg]; rw [if_pos hf, if_neg he]
          by_cases h0n : (rg f k).length = 0
          · clear hf he
            obtain ⟨n, hn⟩ : ∃ n, (rg f k).length = n := ⟨_, rfl⟩
            have HN := Lib.hid hn
            simp only [hn] at HO h0n hlen ⊢
            clear hn
            subst h0n
            go_wp2_with (at_builtin; refine wpList_append_own _ rfl _ _ 25 rfl w.heap.size 33 i0 (.agg #[.int .i64 0, .int .i64 0]) 2 16 Tryd.underlying25 hi hz0 hz1 hz2 rfl (by decide) _ _ _ rfl (HO.out.alloc _) ⟨wr.heap.size, 0, none⟩ 1 1 [.int .i64 (k : Int), .int .i64 ((k : Int) + 1)] rfl rfl ?c1 ?c2 ?c3 ?c4 ?c5 ?_)
            case c1 => exact two_new _ _ _ _
            case c2 => simp [Value.oneCell']
            case c3 => unfold maxLen; omega
            case c4 => omega
            case c5 => have := hb.size; simp; omega
            intro v' w1 hown' hgrow _
            obtain ⟨g', cap', rfl⟩ := ownsRow_succ hown'
            have HO1 : Hid (w1.ownsRow w.heap.size 33 2 (.slice (some ⟨g', 0, none⟩) (rg f (k + 1)).length cap') (rg f (k + 1)).length (flat (rg f (k + 1)))) := by
              have e : (rg f (k + 1)).length = 0 + 1 := by rw [HE.out]; simp [HN.out]
              show World.ownsRow _ _ _ _ _ _ _
              rw [e, HE.out, flat_append]
              exact hown'
            have HL : Hid ((rg f (k + 1)).length = 0 + 1) := by show _ = _; rw [HE.out]; simp [HN.out]
            have hb1 := (hb.alloc hb.size (.cells #[.int .i64 (k : Int), .int .i64 ((k : Int) + 1)] 33)).grown hgrow (by have := hb.size; simp; omega) (fun q e => (HO.out.lt q e).1)
            clear hown' hgrow HO hi hz0 hz1 hz2
            go_wp2
            go_roundg (N - (k + 1))
            case measure => omega
            case rel => exact ⟨k + 1, g', cap', rfl, by omega, by rw [HL.out], by go_num, HO1, hb1⟩
          · have e2 : ¬ ((rg f k).getD ((rg f k).length - 1) (0, 0)).2 = (k : Int) := fun e => he (by simp only [endsAt, Bool.and_eq_true, decide_eq_true_eq]; exact ⟨by omega, e⟩)
            have c1 : wr.cell? ⟨g, ((rg f k).length - 1) * 2 + 1, none⟩ = some (.int .i64 ((rg f k).getD ((rg f k).length - 1) (0, 0)).2) := by
              rw [HO.out.cellAt _ (by omega), flat_get1 _ _ (by omega)]
            clear hf he
            generalize ((rg f k).getD ((rg f k).length - 1) (0, 0)).2 = last at *
            obtain ⟨n, hn⟩ : ∃ n, (rg f k).length = n := ⟨_, rfl⟩
            have HN := Lib.hid hn
            simp only [hn] at HO h0n hlen c1 ⊢
            clear hn
            have hd : (last == (k : Int)) = false := by simpa using e2
            have hp : 0 < n := by omega
            go_wp2_with (at_builtin; refine wpList_append_own _ rfl _ _ 25 rfl w.heap.size 33 i0 (.agg #[.int .i64 0, .int .i64 0]) 2 16 Tryd.underlying25 hi hz0 hz1 hz2 rfl (by decide) _ _ _ rfl (HO.out.alloc _) ⟨wr.heap.size, 0, none⟩ 1 1 [.int .i64 (k : Int), .int .i64 ((k : Int) + 1)] rfl rfl ?c1 ?c2 ?c3 ?c4 ?c5 ?_)
            case c1 => exact two_new _ _ _ _
            case c2 => simp [Value.oneCell']
            case c3 => unfold maxLen; omega
            case c4 => omega
            case c5 => have := hb.size; simp; omega
            intro v' w1 hown' hgrow _
            obtain ⟨g', cap', rfl⟩ := ownsRow_succ hown'
            have HO1 : Hid (w1.ownsRow w.heap.size 33 2 (.slice (some ⟨g', 0, none⟩) (rg f (k + 1)).length cap') (rg f (k + 1)).length (flat (rg f (k + 1)))) := by
              have e : (rg f (k + 1)).length = n + 1 := by rw [HE.out]; simp [HN.out]
              show World.ownsRow _ _ _ _ _ _ _
              rw [e, HE.out, flat_append]
              exact hown'
            have HL : Hid ((rg f (k + 1)).length = n + 1) := by show _ = _; rw [HE.out]; simp [HN.out]
            have hb1 := (hb.alloc hb.size (.cells #[.int .i64 (k : Int), .int .i64 ((k : Int) + 1)] 33)).grown hgrow (by have := hb.size; simp; omega) (fun q e => (HO.out.lt q e).1)
            clear hown' hgrow HO hi hz0 hz1 hz2
            go_wp2
            go_roundg (N - (k + 1))
            case measure => omega
            case rel => exact ⟨k + 1, g', cap', rfl, by omega, by rw [HL.out], by go_num, HO1, hb1⟩
      · replace hf : f k = false := by simpa using hf
        rw [hf] at p1
        have HE : Hid (rg f (k + 1) = rg f k) := by show rg f (k + 1) = rg f k; simp only [rg]; rw [if_neg (by rw [hf]; simp)]
        have HO1 : Hid (wr.ownsRow w.heap.size 33 2 (.slice (some ⟨g, 0, none⟩) (rg f (k + 1)).length cap) (rg f (k + 1)).length (flat (rg f (k + 1)))) := by show World.ownsRow _ _ _ _ _ _ _; rw [HE.out]; exact HO.out
        have HL : Hid ((rg f (k + 1)).length = (rg f k).length) := by show _ = _; rw [HE.out]
        clear hi hz0 hz1 hz2 HO HE hf
        generalize (rg f k).length = n at *
        go_wp2
        go_roundg (N - (k + 1))
        case measure => omega
        case rel => exact ⟨k + 1, g, cap, rfl, by omega, by rw [HL.out], by go_num, HO1, hb⟩
    · obtain rfl : k = N := by omega
      have hlen := rg_len f k
      have HOW := Lib.hid HO.out
      have hg := (HO.out.lt g rfl).1
      clear hi hz0 hz1 hz2 HO
      obtain ⟨n, hn⟩ : ∃ n, (rg f k).length = n := ⟨_, rfl⟩
      have HN := Lib.hid hn
      simp only [hn]
      clear hn
      go_wp2
      go_ret
      refine ⟨g, cap, ?_, hg, HOW, hb⟩
      rw [HN.out]; rfl

end Go.Proofs.YtaeolgbgcchaeaaDoor
