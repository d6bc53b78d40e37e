/-
  Contract of the model's SpansMeet.
-/
import Derived.Test.YtehpmdmfolmaoaaDoorMeetMath
import Derived.Deep.DeepCutAuto
namespace Go.Proofs.YtehpmdmfolmaoaaDoor
open Go.RowKit

theorem mts_step (lo hi : Int) (L : List Rng) (k : Nat) (h : k < L.length) : mts lo hi (L.take (k + 1)) = if mx (L.getD k (0, 0)).1 lo < mn (L.getD k (0, 0)).2 hi then mts lo hi (L.take k) ++ [(mx (L.getD k (0, 0)).1 lo, mn (L.getD k (0, 0)).2 hi)] else mts lo hi (L.take k) := by
  have e : L.take (k + 1) = L.take k ++ [L.getD k (0, 0)] := by
    rw [List.take_add_one, List.getElem?_eq_getElem h, List.getD_eq_getElem?_getD, List.getElem?_eq_getElem h]; rfl
  rw [e, mts_append]
  simp only [mts]
  split <;> simp

theorem row_below {W W' : World} {b : Nat} {e : TypeId} {size : Nat} {v : Value} {k : Nat} {xs : List Value} (h : W.ownsRow b e size v k xs) (hb : Below W.heap.size W W') : W'.ownsRow b e size v k xs :=
  ⟨h.1, h.2.imp id fun ⟨g, cap, cur, h1, h2, h3, h4⟩ => ⟨g, cap, cur, h1, h2, (hb.block g (Array.getElem?_eq_some_iff.1 h3).1).trans h3, h4⟩⟩

set_option maxRecDepth 100000 in
set_option maxHeartbeats 8000000 in
theorem specSpansMeet_any (v : Value) (L : List Rng) (lo hi : Int) (w : World) (h : Spn w v L) :
    Calls Tryd.prog 26 #[v, .agg #[.int .i64 lo, .int .i64 hi]] w (Rgs w (setL (meetF L lo hi) L lo hi)) := by
  obtain ⟨i0, hi0, hz0, hz1, hz2⟩ := info_parts infoSpan'
  have k := new_box w lo hi 25
  have hal : Below w.heap.size w (w.alloc (.cells #[.int .i64 lo, .int .i64 hi] 25)) := (Below.refl _ _).alloc (Nat.le_refl _) _
  have HP := Lib.hid (h.keep hal)
  have hs1 : (w.alloc (.cells #[.int .i64 lo, .int .i64 hi] 25)).heap.size = w.heap.size + 1 := by simp
  have h0 : (World.ownsRow ((w.alloc (.cells #[.int .i64 lo, .int .i64 hi] 25)).alloc (.cells #[] 25)) (w.heap.size + 1) 25 2 (.slice (some ⟨w.heap.size + 1, 0, none⟩) 0 0) 0 []) := by
    have := World.ownsRow_made (w.alloc (.cells #[.int .i64 lo, .int .i64 hi] 25)) (e := 25) (base := w.heap.size + 1) (size := 2) #[] 0 (by simp) (by unfold maxLen; omega) rfl
    simpa using this
  have h0 := Lib.hid h0
  clear h
  by_cases h1 : spansOkB L = true
  · by_cases h2 : spanOkB lo hi = true
    · have HF : Hid (setL (meetF L lo hi) L lo hi = mts lo hi L) := mts_set h1 h2
      rw [HF.out]
      have hL12 : L.length ≤ 12 := by simp only [spansOkB, Bool.and_eq_true, decide_eq_true_eq] at h1; exact h1.1
      go_enter Tryd.func26, Tryd.ntmps26
      go_wp2_with fail
      generalize (w.alloc (.cells #[.int .i64 lo, .int .i64 hi] 25)) = W at *
      have ha2 : Below W.heap.size W (W.alloc (.cells #[] 25)) := (Below.refl _ _).alloc (Nat.le_refl _) _
      refine (specSpansOk_any v L _ (HP.out.keep ha2)).mono ?_; rintro e w1 ⟨rfl, hb1⟩
      have e1 := ha2.trans (hb1.mono ha2.size)
      have O1 := Lib.hid (row_below h0.out hb1)
      obtain ⟨x1, x2, -, -⟩ := k.keep e1
      go_wp2_with fail
      refine (specSpanOk_any lo hi _).mono ?_; rintro e w2 ⟨rfl, hb2⟩
      have e2 := e1.trans (hb2.mono e1.size)
      have O2 := Lib.hid (row_below O1.out hb2)
      clear x1 x2 h0 O1
      have hHP := HP.out
      obtain ⟨a, cap0, rfl, hl, hm, hc⟩ := hHP
      have HC := Lib.hid hc
      clear hc HP
      go_wp2
      go_loopg [5, 6] L.length (fun q s5 s6 wr => ∃ (j g cap : Nat), q = L.length - j ∧ j ≤ L.length ∧ s5 = .slice (some ⟨g, 0, none⟩) (mts lo hi (L.take j)).length cap ∧ s6 = .int .i64 j ∧ Hid (wr.ownsRow (w.heap.size + 1) 25 2 (.slice (some ⟨g, 0, none⟩) (mts lo hi (L.take j)).length cap) (mts lo hi (L.take j)).length (flat (mts lo hi (L.take j)))) ∧ Below W.heap.size W wr)
      case atStart => exact ⟨0, w.heap.size + 1, 0, rfl, Nat.zero_le _, by simp [mts], rfl, by simpa [mts, flat] using O2, e2⟩
      case round =>
        obtain ⟨j, g, cap, rfl, hj, rfl, rfl, HO, hbr⟩ := hrel
        have hlm := mts_len lo hi (L.take j)
        obtain ⟨x1, x2, -, -⟩ := k.keep hbr
        by_cases hlt : j < L.length
        · obtain ⟨b, off, rfl, hcc⟩ := HC.out (fun e => by subst e; simp at hlt)
          have c1 := cell_keep hbr (hcc j hlt).1
          have c2 := cell_keep hbr (hcc j hlt).2
          have HS := Lib.hid (mts_step lo hi L j hlt)
          clear hcc
          generalize L.getD j (0, 0) = s at *
          obtain ⟨sa, sb⟩ := s
          simp only at c1 c2
          have lb := World.block_lt_of_cell? _ _ c1
          have lw := World.block_lt_of_cell? _ _ x1
          simp only at lb lw
          go_wp2_with fail
          go_cut [7, 8] (fun s7 s8 wx => ∃ gx : Nat, s7 = .pointer (some ⟨gx, 0, none⟩) ∧ s8 = .bool (mtB sa sb lo hi) ∧ (wx.cell? ⟨gx, 0, none⟩ = some (.int .i64 (mtLo sa sb lo hi)) ∧ wx.cell? ⟨gx, 1, none⟩ = some (.int .i64 (mtHi sa sb lo hi))) ∧ Below wr.heap.size wr wx)
          case first =>
            go_region_held3 (fun w' => w'.cell? ⟨b, off + j * 2, none⟩ = some (.int .i64 sa) ∧ w'.cell? ⟨b, off + j * 2 + 1, none⟩ = some (.int .i64 sb) ∧ w'.cell? ⟨w.heap.size, 0, none⟩ = some (.int .i64 lo) ∧ w'.cell? ⟨w.heap.size, 1, none⟩ = some (.int .i64 hi))
              (refine ⟨?_, ?_, ?_, ?_⟩ <;> first | (go_keep; done) | (refine cell_keep hb ?_; first | (go_keep; done) | (go_simp; done)) | (go_split_ands; exact alloc_swap (by omega) (by assumption)) | (go_split_ands; exact set2_far (by omega) (by assumption)))
              (first
                | (go_at_call 40; refine (l1Meet_any sa sb lo hi _).mono ?_; rintro e w' ⟨rfl, hb⟩; have hn : b < w'.heap.size ∧ w.heap.size < w'.heap.size := (by have hs := hb.size; (try simp at hs); omega); have hl : Below wr.heap.size wr w' := (by exact Below.trans (by (repeat (first | exact hl | exact Below.refl _ _ | refine Below.alloc ?_ (by first | omega | (simp; done) | (simp; omega)) _ | refine Below.drew ?_))) (hb.mono (by first | omega | (simp; done) | (simp; omega)))); (first | (have hx : Box2 w' _ 0 0 := box_alloc hb; obtain ⟨x1, x2, x3, x4⟩ := id hx) | (have hx : Box2 w' _ 0 0 := box_alloc_drew hb; (try simp at hx); obtain ⟨x1, x2, x3, x4⟩ := id hx) | (have hx : Box2 w' _ 0 0 := Box2.keep hx hb; obtain ⟨x1, x2, x3, x4⟩ := id hx) | skip)))
            all_goals
              go_wp2_with fail
              go_meet
              first
                | (have hy := new_box w' (mtLo sa sb lo hi) (mtHi sa sb lo hi) 25; exact ⟨_, rfl, rfl, ⟨hy.1, hy.2.1⟩, hl.alloc hl.size _⟩)
                | (have hy := set2_box (x := mtLo sa sb lo hi) (y := mtHi sa sb lo hi) hx; exact ⟨_, rfl, rfl, ⟨hy.1, hy.2.1⟩, (hl.setCell (by simp only; omega) _).setCell (by simp only; omega) _⟩)
          case rest =>
            obtain ⟨gx, rfl, rfl, ⟨r1, r2⟩, hlx⟩ := hcut
            have HO2 := Lib.hid (row_below HO.out hlx)
            have hb2 := hbr.trans (hlx.mono hbr.size)
            have hn12 : (mts lo hi (L.take j)).length ≤ 12 := by
              have : (L.take j).length ≤ L.length := by simp; omega
              omega
            clear HO x1 x2 c1 c2 hlm
            by_cases hm : mx sa lo < mn sb hi
            · have e1 : mtB sa sb lo hi = true := by unfold mtB; simpa using hm
              have e2 : mtLo sa sb lo hi = mx sa lo := by unfold mtLo; rw [if_pos hm]
              have e3 : mtHi sa sb lo hi = mn sb hi := by unfold mtHi; rw [if_pos hm]
              rw [e2] at r1
              rw [e3] at r2
              rw [e1]
              have HE : Hid (mts lo hi (L.take (j + 1)) = mts lo hi (L.take j) ++ [(mx sa lo, mn sb hi)]) := by show _ = _; rw [HS.out, if_pos hm]
              clear HS e1 e2 e3 hm
              generalize mx sa lo = xa at *
              generalize mn sb hi = xb at *
              obtain ⟨n, hn⟩ : ∃ n, (mts lo hi (L.take j)).length = n := ⟨_, rfl⟩
              have HN := Lib.hid hn
              simp only [hn] at HO2 hn12 ⊢
              clear hn
              go_wp2_with (at_builtin; refine wpList_append_own _ rfl _ _ 23 rfl (w.heap.size + 1) 25 i0 (.agg #[.int .i64 0, .int .i64 0]) 2 16 Tryd.underlying23 hi0 hz0 hz1 hz2 rfl (by decide) _ _ _ rfl (HO2.out.alloc _) ⟨wc.heap.size, 0, none⟩ 1 1 [.int .i64 xa, .int .i64 xb] rfl rfl ?c1 ?c2 ?c3 ?c4 ?c5 ?_)
              case c1 => exact two_new _ _ _ _
              case c2 => simp [Value.oneCell']
              case c3 => unfold maxLen; omega
              case c4 => omega
              case c5 => have := hb2.size; simp; omega
              intro v' w3 hown' hgrow _
              obtain ⟨g', cap', rfl⟩ := ownsRow_succ hown'
              have HO3 : Hid (w3.ownsRow (w.heap.size + 1) 25 2 (.slice (some ⟨g', 0, none⟩) (mts lo hi (L.take (j + 1))).length cap') (mts lo hi (L.take (j + 1))).length (flat (mts lo hi (L.take (j + 1))))) := by
                have e : (mts lo hi (L.take (j + 1))).length = n + 1 := by rw [HE.out]; simp [HN.out]
                show World.ownsRow _ _ _ _ _ _ _
                rw [e, HE.out, flat_append]
                exact hown'
              have HL : Hid ((mts lo hi (L.take (j + 1))).length = n + 1) := by show _ = _; rw [HE.out]; simp [HN.out]
              have hb3 : Below W.heap.size W w3 := (hb2.alloc hb2.size (.cells #[.int .i64 xa, .int .i64 xb] 25)).grown hgrow (by have := hb2.size; simp; omega) (fun q e => by have := (HO2.out.lt q e).1; omega)
              clear hown' hgrow HO2 hi0 hz0 hz1 hz2
              go_wp2
              go_roundg (L.length - (j + 1))
              case measure => omega
              case rel => exact ⟨j + 1, g', cap', rfl, by omega, by rw [HL.out], by go_num, HO3, hb3⟩
            · have e1 : mtB sa sb lo hi = false := by unfold mtB; simpa using hm
              rw [e1]
              have HE : Hid (mts lo hi (L.take (j + 1)) = mts lo hi (L.take j)) := by show _ = _; rw [HS.out, if_neg hm]
              have HO3 : Hid (wc.ownsRow (w.heap.size + 1) 25 2 (.slice (some ⟨g, 0, none⟩) (mts lo hi (L.take (j + 1))).length cap) (mts lo hi (L.take (j + 1))).length (flat (mts lo hi (L.take (j + 1))))) := by show World.ownsRow _ _ _ _ _ _ _; rw [HE.out]; exact HO2.out
              clear HS e1 hm HO2 hi0 hz0 hz1 hz2
              go_wp2
              go_roundg (L.length - (j + 1))
              case measure => omega
              case rel => exact ⟨j + 1, g, cap, rfl, by omega, by rw [HE.out], by go_num, HO3, hb2⟩
        · obtain rfl : j = L.length := by omega
          rw [List.take_length] at HO ⊢
          obtain ⟨hxl, hx⟩ := id HO.out
          have hcap : (mts lo hi L).length ≤ cap ∧ cap ≤ maxLen := by
            rcases hx with ⟨h1, _⟩ | ⟨_, _, _, h1, _, _, h2, h3, _⟩
            · simp at h1
            · simp only [Value.slice.injEq] at h1
              obtain ⟨_, _, rfl⟩ := h1
              exact ⟨h2, h3⟩
          have HC2 := Lib.hid hcap
          have HR : Hid (Row2 wr g (mts lo hi L).length (fun i => (mts lo hi L).getD i (0, 0))) := fun i hi' =>
            ⟨by rw [HO.out.cellAt _ (by omega)]; exact flat_get0 _ _ hi', by rw [HO.out.cellAt _ (by omega)]; exact flat_get1 _ _ hi', HO.out.frozenAt _, HO.out.frozenAt _⟩
          have hg := (HO.out.lt g rfl).1
          clear hx hxl hi0 hz0 hz1 hz2 HO hcap hlm
          obtain ⟨n, hn⟩ : ∃ n, (mts lo hi L).length = n := ⟨_, rfl⟩
          have HN := Lib.hid hn
          simp only [hn]
          clear hn
          go_wp2
          go_ret
          refine ⟨g, cap, ?_, by omega, HC2.out.1, HC2.out.2, HR.out, hal.trans (hbr.mono hal.size)⟩
          rw [HN.out]; rfl
    · replace h2 : spanOkB lo hi = false := by simpa using h2
      have HF : Hid (setL (meetF L lo hi) L lo hi = []) := by show setL _ _ _ _ = _; unfold setL; simp [h2]
      rw [HF.out]
      go_enter Tryd.func26, Tryd.ntmps26
      go_wp2_with fail
      generalize (w.alloc (.cells #[.int .i64 lo, .int .i64 hi] 25)) = W at *
      have ha2 : Below W.heap.size W (W.alloc (.cells #[] 25)) := (Below.refl _ _).alloc (Nat.le_refl _) _
      refine (specSpansOk_any v L _ (HP.out.keep ha2)).mono ?_; rintro e w1 ⟨rfl, hb1⟩
      have e1 := ha2.trans (hb1.mono ha2.size)
      obtain ⟨x1, x2, -, -⟩ := k.keep e1
      go_wp2_with fail
      refine (specSpanOk_any lo hi _).mono ?_; rintro e w2 ⟨rfl, hb2⟩
      have e2 := e1.trans (hb2.mono e1.size)
      go_wp2
      go_ret
      exact ⟨w.heap.size + 1, 0, rfl, by omega, Nat.le_refl _, by unfold maxLen; omega, fun i hi => absurd hi (Nat.not_lt_zero _), hal.trans (e2.mono hal.size)⟩
  · replace h1 : spansOkB L = false := by simpa using h1
    have HF : Hid (setL (meetF L lo hi) L lo hi = []) := by show setL _ _ _ _ = _; unfold setL; simp [h1]
    rw [HF.out]
    go_enter Tryd.func26, Tryd.ntmps26
    go_wp2_with fail
    generalize (w.alloc (.cells #[.int .i64 lo, .int .i64 hi] 25)) = W at *
    have ha2 : Below W.heap.size W (W.alloc (.cells #[] 25)) := (Below.refl _ _).alloc (Nat.le_refl _) _
    refine (specSpansOk_any v L _ (HP.out.keep ha2)).mono ?_; rintro e w1 ⟨rfl, hb1⟩
    have e1 := ha2.trans (hb1.mono ha2.size)
    go_wp2
    go_ret
    exact ⟨w.heap.size + 1, 0, rfl, by omega, Nat.le_refl _, by unfold maxLen; omega, fun i hi => absurd hi (Nat.not_lt_zero _), hal.trans (e1.mono hal.size)⟩

end Go.Proofs.YtehpmdmfolmaoaaDoor
