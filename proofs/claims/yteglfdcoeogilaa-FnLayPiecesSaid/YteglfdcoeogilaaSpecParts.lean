/-
  spec.LayParts: the same list, place by place.
-/
import Derived.Test.YteglfdcoeogilaaPartRow
import Derived.Test.YteglfdcoeogilaaLayFn
import Derived.Deep.LoopGhost
import Derived.Deep.DeepCutAuto
import Derived.Laws.OwnMore
namespace Go.Proofs.Yteglfdcoeogilaa
open Go.RowKit

theorem flat4_set2 (l : List PartT) (x : PartT) (u : Int) : (flat4 (l ++ [x])).set (l.length * 4 + 2) (.int .i64 u) = flat4 (l ++ [(x.1, x.2.1, u, x.2.2.2)]) := by
  rw [flat4_append, flat4_append, List.set_append_right _ _ (by rw [flat4_length]; omega), flat4_length]
  rw [show l.length * 4 + 2 - l.length * 4 = 2 by omega]
  rfl

theorem own_base {W : World} {b b' : Nat} {e : TypeId} {size : Nat} {v : Value} {k : Nat} {xs : List Value} (h : W.ownsRow b e size v k xs) (hb : b' ≤ b) : W.ownsRow b' e size v k xs :=
  ⟨h.1, h.2.imp id fun ⟨g, cap, cur, h1, h2, h3⟩ => ⟨g, cap, cur, h1, Nat.le_trans hb h2, h3⟩⟩

/-- What holds at the head of a round. -/
structure SPI (w wr : World) (size many lo hi : Int) (v : Value) (L : List PartT) : Prop where
  own : wr.ownsRow (w.heap.size + 2) 41 4 v L.length (flat4 L)
  kl : Box2 wr w.heap.size size many
  ks : Box2 wr (w.heap.size + 1) lo hi
  bel : Below w.heap.size w wr
  sz : w.heap.size + 2 ≤ wr.heap.size

theorem SPI.keep {w wr w1 : World} {size many lo hi : Int} {v : Value} {L : List PartT} (h : SPI w wr size many lo hi v L) (hb : Below wr.heap.size wr w1) : SPI w w1 size many lo hi v L :=
  ⟨own_below1 h.own hb, h.kl.keep hb, h.ks.keep hb, h.bel.trans (hb.mono h.bel.size), Nat.le_trans h.sz hb.size⟩

theorem box_far {w : World} {b g o : Nat} {x y : Int} {u : Value} (h : Box2 w b x y) (hne : g ≠ b) : Box2 (w.setCell ⟨g, o, none⟩ u) b x y := by
  obtain ⟨p1, p2, p3, p4⟩ := h
  exact ⟨by rw [World.cell?_setCell_far _ _ _ _ hne]; exact p1, by rw [World.cell?_setCell_far _ _ _ _ hne]; exact p2, by go_simp, by go_simp⟩

theorem SPI.bumped {w wr : World} {size many lo hi o a hh fr u : Int} {g cap : Nat} {l : List PartT} (h : SPI w wr size many lo hi (.slice (some ⟨g, 0, none⟩) (l ++ [((o, a, hh, fr) : PartT)]).length cap) (l ++ [(o, a, hh, fr)])) :
    SPI w (wr.setCell ⟨g, l.length * 4 + 2, none⟩ (.int .i64 u)) size many lo hi (.slice (some ⟨g, 0, none⟩) (l ++ [((o, a, u, fr) : PartT)]).length cap) (l ++ [(o, a, u, fr)]) := by
  have hg := (h.own.lt g rfl).1
  have hs := h.own.stored (l.length * 4 + 2) (.int .i64 u)
  rw [flat4_set2] at hs
  have hl : (l ++ [((o, a, hh, fr) : PartT)]).length = (l ++ [((o, a, u, fr) : PartT)]).length := by simp
  rw [hl] at hs
  exact ⟨hs.1, box_far h.kl (by omega), box_far h.ks (by omega), h.bel.setCell (p := ⟨g, l.length * 4 + 2, none⟩) (by simp only; omega) _, by simpa [World.setCell] using h.sz⟩

theorem SPI.added {w wr w9 : World} {size many lo hi : Int} {v v' : Value} {L : List PartT} {x : PartT} {n : Nat} {C : Array Value} {U : TypeId} (h : SPI w wr size many lo hi v L) (hn : n = L.length)
    (hown : w9.ownsRow (w.heap.size + 2) 41 4 v' (n + 1) (flat4 L ++ [.int .i64 x.1, .int .i64 x.2.1, .int .i64 x.2.2.1, .int .i64 x.2.2.2]))
    (hgrow : (wr.alloc (.cells C U)).grownBy w9 v.ownBlock) : SPI w w9 size many lo hi v' (L ++ [x]) := by
  have hb : Below wr.heap.size wr (wr.alloc (.cells C U)) := (Below.refl _ _).alloc (Nat.le_refl _) _
  have hk := h.keep hb
  have ho : w9.ownsRow (w.heap.size + 2) 41 4 v' (L ++ [x]).length (flat4 (L ++ [x])) := by
    rw [flat4_append, List.length_append, ← hn]; exact hown
  have hne : ∀ b, b < w.heap.size + 2 → v.ownBlock ≠ some b := fun b hlt e => by have := (h.own.lt b e).1; omega
  have hsz := hgrow.size
  have hbx : ∀ b (p q : Int), b < w.heap.size + 2 → Box2 (wr.alloc (.cells C U)) b p q → Box2 w9 b p q := fun b p q hlt hB => by
    obtain ⟨h0, h1, h2, h3⟩ := hB
    have hblk : w9.heap[b]? = (wr.alloc (.cells C U)).heap[b]? := hgrow.block b (World.block_lt_of_cell? _ _ h0) (fun e => hne b hlt e.symm)
    exact ⟨(World.cell?_of_block (a := ⟨b, 0, none⟩) hblk).trans h0, (World.cell?_of_block (a := ⟨b, 1, none⟩) hblk).trans h1, (World.frozen?_of_block (a := ⟨b, 0, none⟩) hblk).trans h2, (World.frozen?_of_block (a := ⟨b, 1, none⟩) hblk).trans h3⟩
  exact ⟨ho, hbx _ _ _ (by omega) hk.kl, hbx _ _ _ (by omega) hk.ks, hk.bel.trans ⟨hgrow.os, hgrow.tape, hgrow.output, hgrow.size, fun i hi => hgrow.block i (Nat.lt_of_lt_of_le hi hk.bel.size) (fun e => hne i (by omega) e.symm)⟩, Nat.le_trans hk.sz hsz⟩

set_option maxRecDepth 100000 in
set_option maxHeartbeats 8000000 in
theorem specLayParts_any (size many lo hi : Int) (w : World) :
    Calls Try.prog 23 #[.agg #[.int .i64 size, .int .i64 many], .agg #[.int .i64 lo, .int .i64 hi]] w (RgP w (lpL size many lo hi)) := by
  have hok := fun W => specLayOk_any size many W
  have hsp := fun W => specSpanOk_any lo hi W
  obtain ⟨i0, hi0, hz0, hz1, hz2⟩ := info_parts infoPart
  have HI0 : Hid (Try.prog.info? 41 = some i0 ∧ i0.zero = some (.agg #[.int .i64 0, .int .i64 0, .int .i64 0, .int .i64 0]) ∧ i0.size = 4 ∧ i0.bytes = 32) := ⟨hi0, hz0, hz1, hz2⟩
  clear hi0 hz0 hz1 hz2
  obtain ⟨W1, hW1⟩ : ∃ W1, (w.alloc (.cells #[.int .i64 size, .int .i64 many] 24)).alloc (.cells #[.int .i64 lo, .int .i64 hi] 35) = W1 := ⟨_, rfl⟩
  have k : Box2 W1 w.heap.size size many := by
    rw [← hW1]; exact (new_box w size many 24).keep ((Below.refl _ _).alloc (Nat.le_refl _) _)
  have m : Box2 W1 (w.heap.size + 1) lo hi := by
    rw [← hW1]; simpa using new_box (w.alloc (.cells #[.int .i64 size, .int .i64 many] 24)) lo hi 35
  have hal : Below w.heap.size w W1 := by rw [← hW1]; exact ((Below.refl _ _).alloc (Nat.le_refl _) _).alloc (by simp) _
  have hs1 : W1.heap.size = w.heap.size + 2 := by rw [← hW1]; simp
  have hnr : (W1.alloc (.cells #[] 41)).ownsRow (w.heap.size + 2) 41 4 (.slice (some ⟨w.heap.size + 2, 0, none⟩) 0 0) 0 [] := by
    have := World.ownsRow_made W1 (e := 41) (base := w.heap.size + 2) (size := 4) #[] 0 (by omega) (by unfold maxLen; omega) rfl
    rw [hs1] at this
    simpa using this
  have hba : Below W1.heap.size W1 (W1.alloc (.cells #[] 41)) := (Below.refl _ _).alloc (Nat.le_refl _) _
  have HI : Hid (SPI w (W1.alloc (.cells #[] 41)) size many lo hi (.slice (some ⟨w.heap.size + 2, 0, none⟩) 0 0) []) := ⟨hnr, k.keep hba, m.keep hba, hal.trans (hba.mono hal.size), by simp; omega⟩
  subst hW1
  clear k m hal hs1 hnr hba
  by_cases hy : layOkB size many = true
  · by_cases hs : spanOkB lo hi = true
    · rw [hy] at hok
      rw [hs] at hsp
      have HO := Lib.hid hok
      have HS := Lib.hid hsp
      have HY := Lib.hid hy
      have hL : lpL size many lo hi = prts size many lo hi := if_pos ⟨hy, hs⟩
      rw [hL]
      obtain ⟨b1, b2, b3⟩ := spanOkB_iff.1 hs
      obtain ⟨c1, c2, c3, c4⟩ := layOkB_iff.1 hy
      clear hL hok hsp hy hs
      obtain ⟨x1, x2, -, -⟩ := id HI.out.kl
      obtain ⟨y1, y2, -, -⟩ := id HI.out.ks
      go_enter Try.func23, Try.ntmps23
      go_wp2_with fail
      refine (HO.out _).mono ?_; rintro e w1 ⟨rfl, hb1⟩
      have I1 := Lib.hid (HI.out.keep hb1)
      clear x1 x2 y1 y2 HI
      obtain ⟨x1, x2, -, -⟩ := id I1.out.kl
      obtain ⟨y1, y2, -, -⟩ := id I1.out.ks
      go_wp2_with fail
      refine (HS.out _).mono ?_; rintro e w2 ⟨rfl, hb2⟩
      have I2 := Lib.hid (I1.out.keep hb2)
      clear x1 x2 y1 y2 I1 hb1 hb2
      obtain ⟨x1, x2, -, -⟩ := id I2.out.kl
      obtain ⟨y1, y2, -, -⟩ := id I2.out.ks
      go_wp2_with fail
      clear x1 x2 y1 y2
      obtain ⟨cnt, hcnt⟩ : ∃ cnt : Nat, (hi - lo).toNat = cnt := ⟨_, rfl⟩
      have hcnt2 : lo + cnt = hi := by omega
      have hprts : Hid (prts size many lo hi = prS size many lo cnt) := by show _ = _; unfold prts; rw [hcnt]
      clear hcnt
      go_loopg [5, 6] cnt (fun gm s5 s6 wr => ∃ (k g cap : Nat), gm = cnt - k ∧ k ≤ cnt ∧ s6 = .int .i64 (lo + k) ∧ s5 = .slice (some ⟨g, 0, none⟩) (prS size many lo k).length cap ∧ Hid (SPI w wr size many lo hi s5 (prS size many lo k)))
      case atStart => exact ⟨0, w.heap.size + 2, 0, rfl, Nat.zero_le _, by simp, rfl, I2⟩
      case round =>
        obtain ⟨k, g, cap, rfl, hk, rfl, rfl, IK⟩ := hrel
        obtain ⟨x1, x2, -, -⟩ := id IK.out.kl
        obtain ⟨y1, y2, -, -⟩ := id IK.out.ks
        by_cases hlt : k < cnt
        · have hp : lo + (k : Int) < hi := by omega
          have hp0 : 0 ≤ lo + (k : Int) := by omega
          have HAt := Lib.hid (fun W => l3At_any size many (lo + k) W HY.out hp0 (by omega))
          have bd := at_bd (p := lo + k) HY.out hp0
          obtain ⟨o1, o2, a1, a2⟩ := bd
          have hz1 : (size == 0) = false := by simp; omega
          have hz2 : size ≠ 0 := by omega
          have hr := rem_bd (n := lo + k) c1
          obtain ⟨r1, r2⟩ := hr
          have t2' : (lo + (k : Int)).tmod size = (lo + (k : Int)) % size := Int.tmod_eq_emod_of_nonneg hp0
          have hlast : Hid (0 < k → ∃ l a fr, prS size many lo k = l ++ [(objF size many (lo + k - 1), a, atF size many (lo + k - 1) + 1, fr)]) := fun h => prS_last HY.out k h
          have hnx : Hid (0 < (lo + (k : Int)) % size → objF size many (lo + k) = objF size many (lo + k - 1) ∧ atF size many (lo + k) = atF size many (lo + k - 1) + 1) := fun h => by
            have := next_in (size := size) (many := many) (p := lo + k - 1) HY.out (by rw [Int.sub_add_cancel]; exact h)
            rwa [Int.sub_add_cancel] at this
          have hnew : Hid (¬ (0 < k ∧ 0 < (lo + (k : Int)) % size) → prS size many lo (k + 1) = prS size many lo k ++ [(objF size many (lo + k), atF size many (lo + k), atF size many (lo + k) + 1, lo + k)]) := fun h => prS_new h
          have hbmp : Hid ((0 < k ∧ 0 < (lo + (k : Int)) % size) → prS size many lo (k + 1) = bump (prS size many lo k)) := fun h => prS_bump h
          obtain ⟨O, hO⟩ : ∃ O, objF size many (lo + k) = O := ⟨_, rfl⟩
          obtain ⟨A, hA⟩ : ∃ A, atF size many (lo + k) = A := ⟨_, rfl⟩
          rw [hO] at HAt o1 o2 hnx hnew
          rw [hA] at HAt a1 a2 hnx hnew
          clear hO hA
          obtain ⟨M, hM⟩ : ∃ M, (lo + (k : Int)) % size = M := ⟨_, rfl⟩
          rw [hM] at r1 r2 t2' hnx hnew hbmp
          clear hM
          have HPk : Hid (lo + (k : Int) + 1 = lo + ((k + 1 : Nat) : Int)) := by show _ = _; omega
          generalize lo + (k : Int) = p at *
          go_wp2_with fail
          refine (HAt.out _).mono ?_; rintro e w3 ⟨rfl, hb3⟩
          have IX := Lib.hid (IK.out.keep hb3)
          clear x1 x2 y1 y2 IK hb3
          obtain ⟨x1, x2, -, -⟩ := id IX.out.kl
          obtain ⟨y1, y2, -, -⟩ := id IX.out.ks
          have hPl : (prS size many lo k).length ≤ k := prS_len k
          generalize prS size many lo k = L at *
          by_cases hk0 : k = 0
          · have hL0 : L = [] := List.length_eq_zero_iff.1 (by omega)
            subst hL0
            have HN := Lib.hid (hnew.out (by omega))
            have HON : Hid (w3.ownsRow (w.heap.size + 2) 41 4 (.slice (some ⟨g, 0, none⟩) 0 cap) 0 []) := IX.out.own
            have HK0 := Lib.hid hk0
            clear hlast hnx hnew hbmp hPl hk0
            have hsz := IX.out.sz
            go_wp2_with (at_builtin; refine wpList_append_own _ rfl _ _ 38 rfl (w.heap.size + 2) 41 i0 (.agg #[.int .i64 0, .int .i64 0, .int .i64 0, .int .i64 0]) 4 32 Try.underlying38 HI0.out.1 HI0.out.2.1 HI0.out.2.2.1 HI0.out.2.2.2 rfl (by decide) _ 0 _ rfl (HON.out.alloc _) ⟨w3.heap.size, 0, none⟩ 1 1 [.int .i64 O, .int .i64 A, .int .i64 (A + 1), .int .i64 p] rfl rfl ?c1 ?c2 ?c3 ?c4 ?c5 ?_)
            case c1 => exact four_new _ _ _ _ _ _
            case c2 => simp [Value.oneCell']
            case c3 => unfold maxLen; omega
            case c4 => omega
            case c5 => first | omega | (simp; omega)
            intro v' w9 hown' hgrow _
            have I9 : Hid (SPI w w9 size many lo hi v' (prS size many lo (k + 1))) := by
              show SPI _ _ _ _ _ _ _ _
              rw [HN.out]
              exact IX.out.added (x := (O, A, A + 1, p)) (n := 0) (by simp) hown' hgrow
            clear hown' hgrow
            have hge : ∃ g' cap', v' = .slice (some ⟨g', 0, none⟩) (prS size many lo (k + 1)).length cap' := by
              rcases I9.out.own.2 with ⟨-, h0⟩ | ⟨g', cap', cur', hv', -⟩
              · rw [HN.out, List.length_append] at h0; simp at h0
              · exact ⟨g', cap', hv'⟩
            obtain ⟨g', cap', rfl⟩ := hge
            clear x1 x2 y1 y2
            go_wp2
            go_roundg (cnt - (k + 1))
            case measure => omega
            case rel => exact ⟨k + 1, g', cap', rfl, by omega, by rw [HPk.out], rfl, I9⟩
          · obtain ⟨l, a, fr, hLe⟩ := hlast.out (by omega)
            subst hLe
            obtain ⟨O', hO'⟩ : ∃ O', objF size many (p - 1) = O' := ⟨_, rfl⟩
            obtain ⟨A', hA'⟩ : ∃ A', atF size many (p - 1) = A' := ⟨_, rfl⟩
            rw [hO'] at IX hnx hnew hbmp
            rw [hA'] at IX hnx hnew hbmp
            rw [List.length_append] at hPl
            have hPl2 : l.length + 1 ≤ k := hPl
            have HON : Hid (w3.ownsRow (w.heap.size + 2) 41 4 (.slice (some ⟨g, 0, none⟩) (l.length + 1) cap) (l.length + 1) (flat4 (l ++ [(O', a, A' + 1, fr)]))) := by
              have := IX.out.own
              rwa [List.length_append] at this
            have q0 : w3.cell? ⟨g, l.length * 4, none⟩ = some (.int .i64 O') := by
              rw [HON.out.cellAt _ (by omega), flat4_append, List.getElem?_append_right (by rw [flat4_length]; omega), flat4_length, Nat.sub_self]; rfl
            have q2 : w3.cell? ⟨g, l.length * 4 + 2, none⟩ = some (.int .i64 (A' + 1)) := by
              rw [HON.out.cellAt _ (by omega), flat4_append, List.getElem?_append_right (by rw [flat4_length]; omega), flat4_length, show l.length * 4 + 2 - l.length * 4 = 2 by omega]; rfl
            have q3 : w3.frozen? ⟨g, l.length * 4 + 2, none⟩ = false := HON.out.frozenAt _
            have HK0 := Lib.hid hk0
            clear hlast hPl hk0
            by_cases hM : 0 < M
            · obtain ⟨rfl, rfl⟩ := hnx.out hM
              have HN : Hid (prS size many lo (k + 1) = l ++ [(O, a, A' + 1 + 1, fr)]) := by
                show _ = _
                rw [hbmp.out ⟨by have := HK0.out; omega, hM⟩, bump_snoc]; rfl
              have I9 : Hid (SPI w (w3.setCell ⟨g, l.length * 4 + 2, none⟩ (.int .i64 (A' + 1 + 1))) size many lo hi (.slice (some ⟨g, 0, none⟩) (l.length + 1) cap) (prS size many lo (k + 1))) := by
                show SPI _ _ _ _ _ _ _ _
                rw [HN.out]
                have := IX.out.bumped (u := A' + 1 + 1)
                rwa [List.length_append] at this
              have hlen1 : Hid ((prS size many lo (k + 1)).length = l.length + 1) := by show _ = _; rw [HN.out, List.length_append]; rfl
              clear hnx hnew hbmp IX HN HON
              go_wp2
              go_roundg (cnt - (k + 1))
              case measure => omega
              case rel => exact ⟨k + 1, g, cap, rfl, by omega, by rw [HPk.out], by rw [hlen1.out], I9⟩
            · have hM0 : M = 0 := by omega
              have HN := Lib.hid (hnew.out (fun c => hM c.2))
              subst hM0
              clear hnx hnew hbmp hM
              by_cases hO : O' = O
              · by_cases hA : A' + 1 = A
                · have hb1 : (O' == O) = true := by simp [hO]
                  have hb2 : (A' + 1 == A) = true := by simp [hA]
                  clear hO hA
                  have hsz := IX.out.sz
                  go_wp2_with (at_builtin; refine wpList_append_own _ rfl _ _ 38 rfl (w.heap.size + 2) 41 i0 (.agg #[.int .i64 0, .int .i64 0, .int .i64 0, .int .i64 0]) 4 32 Try.underlying38 HI0.out.1 HI0.out.2.1 HI0.out.2.2.1 HI0.out.2.2.2 rfl (by decide) _ (l.length + 1) _ rfl (HON.out.alloc _) ⟨w3.heap.size, 0, none⟩ 1 1 [.int .i64 O, .int .i64 A, .int .i64 (A + 1), .int .i64 p] rfl rfl ?c1 ?c2 ?c3 ?c4 ?c5 ?_)
                  case c1 => exact four_new _ _ _ _ _ _
                  case c2 => simp [Value.oneCell']
                  case c3 => unfold maxLen; omega
                  case c4 => omega
                  case c5 => first | omega | (simp; omega)
                  intro v' w9 hown' hgrow _
                  have I9 : Hid (SPI w w9 size many lo hi v' (prS size many lo (k + 1))) := by
                    show SPI _ _ _ _ _ _ _ _
                    rw [HN.out]
                    exact IX.out.added (x := (O, A, A + 1, p)) (n := (l.length + 1)) (by simp) hown' hgrow
                  clear hown' hgrow
                  have hge : ∃ g' cap', v' = .slice (some ⟨g', 0, none⟩) (prS size many lo (k + 1)).length cap' := by
                    rcases I9.out.own.2 with ⟨-, h0⟩ | ⟨g', cap', cur', hv', -⟩
                    · rw [HN.out, List.length_append] at h0; simp at h0
                    · exact ⟨g', cap', hv'⟩
                  obtain ⟨g', cap', rfl⟩ := hge
                  clear x1 x2 y1 y2
                  go_wp2
                  go_roundg (cnt - (k + 1))
                  case measure => omega
                  case rel => exact ⟨k + 1, g', cap', rfl, by omega, by rw [HPk.out], rfl, I9⟩
                · have hb1 : (O' == O) = true := by simp [hO]
                  have hb2 : (A' + 1 == A) = false := by simpa using hA
                  clear hO hA
                  have hsz := IX.out.sz
                  go_wp2_with (at_builtin; refine wpList_append_own _ rfl _ _ 38 rfl (w.heap.size + 2) 41 i0 (.agg #[.int .i64 0, .int .i64 0, .int .i64 0, .int .i64 0]) 4 32 Try.underlying38 HI0.out.1 HI0.out.2.1 HI0.out.2.2.1 HI0.out.2.2.2 rfl (by decide) _ (l.length + 1) _ rfl (HON.out.alloc _) ⟨w3.heap.size, 0, none⟩ 1 1 [.int .i64 O, .int .i64 A, .int .i64 (A + 1), .int .i64 p] rfl rfl ?c1 ?c2 ?c3 ?c4 ?c5 ?_)
                  case c1 => exact four_new _ _ _ _ _ _
                  case c2 => simp [Value.oneCell']
                  case c3 => unfold maxLen; omega
                  case c4 => omega
                  case c5 => first | omega | (simp; omega)
                  intro v' w9 hown' hgrow _
                  have I9 : Hid (SPI w w9 size many lo hi v' (prS size many lo (k + 1))) := by
                    show SPI _ _ _ _ _ _ _ _
                    rw [HN.out]
                    exact IX.out.added (x := (O, A, A + 1, p)) (n := (l.length + 1)) (by simp) hown' hgrow
                  clear hown' hgrow
                  have hge : ∃ g' cap', v' = .slice (some ⟨g', 0, none⟩) (prS size many lo (k + 1)).length cap' := by
                    rcases I9.out.own.2 with ⟨-, h0⟩ | ⟨g', cap', cur', hv', -⟩
                    · rw [HN.out, List.length_append] at h0; simp at h0
                    · exact ⟨g', cap', hv'⟩
                  obtain ⟨g', cap', rfl⟩ := hge
                  clear x1 x2 y1 y2
                  go_wp2
                  go_roundg (cnt - (k + 1))
                  case measure => omega
                  case rel => exact ⟨k + 1, g', cap', rfl, by omega, by rw [HPk.out], rfl, I9⟩
              · have hb1 : (O' == O) = false := by simpa using hO
                clear hO
                have hsz := IX.out.sz
                go_wp2_with (at_builtin; refine wpList_append_own _ rfl _ _ 38 rfl (w.heap.size + 2) 41 i0 (.agg #[.int .i64 0, .int .i64 0, .int .i64 0, .int .i64 0]) 4 32 Try.underlying38 HI0.out.1 HI0.out.2.1 HI0.out.2.2.1 HI0.out.2.2.2 rfl (by decide) _ (l.length + 1) _ rfl (HON.out.alloc _) ⟨w3.heap.size, 0, none⟩ 1 1 [.int .i64 O, .int .i64 A, .int .i64 (A + 1), .int .i64 p] rfl rfl ?c1 ?c2 ?c3 ?c4 ?c5 ?_)
                case c1 => exact four_new _ _ _ _ _ _
                case c2 => simp [Value.oneCell']
                case c3 => unfold maxLen; omega
                case c4 => omega
                case c5 => first | omega | (simp; omega)
                intro v' w9 hown' hgrow _
                have I9 : Hid (SPI w w9 size many lo hi v' (prS size many lo (k + 1))) := by
                  show SPI _ _ _ _ _ _ _ _
                  rw [HN.out]
                  exact IX.out.added (x := (O, A, A + 1, p)) (n := (l.length + 1)) (by simp) hown' hgrow
                clear hown' hgrow
                have hge : ∃ g' cap', v' = .slice (some ⟨g', 0, none⟩) (prS size many lo (k + 1)).length cap' := by
                  rcases I9.out.own.2 with ⟨-, h0⟩ | ⟨g', cap', cur', hv', -⟩
                  · rw [HN.out, List.length_append] at h0; simp at h0
                  · exact ⟨g', cap', hv'⟩
                obtain ⟨g', cap', rfl⟩ := hge
                clear x1 x2 y1 y2
                go_wp2
                go_roundg (cnt - (k + 1))
                case measure => omega
                case rel => exact ⟨k + 1, g', cap', rfl, by omega, by rw [HPk.out], rfl, I9⟩
        · obtain rfl : k = cnt := by omega
          have hov := own_base IK.out.own (show w.heap.size ≤ w.heap.size + 2 by omega)
          have HOV := Lib.hid hov
          have HBL := Lib.hid IK.out.bel
          clear hov
          go_wp2
          go_ret
          exact ⟨_, rfl, by rw [hprts.out]; exact HOV, HBL.out⟩
    · replace hs : spanOkB lo hi = false := by simpa using hs
      rw [hy] at hok
      rw [hs] at hsp
      have HO := Lib.hid hok
      have HS := Lib.hid hsp
      have hL : lpL size many lo hi = [] := if_neg (fun c => by rw [hs] at c; exact absurd c.2 (by simp))
      rw [hL]
      clear hL hok hsp hy hs
      obtain ⟨x1, x2, -, -⟩ := id HI.out.kl
      obtain ⟨y1, y2, -, -⟩ := id HI.out.ks
      go_enter Try.func23, Try.ntmps23
      go_wp2_with fail
      refine (HO.out _).mono ?_; rintro e w1 ⟨rfl, hb1⟩
      have I1 := Lib.hid (HI.out.keep hb1)
      clear x1 x2 y1 y2 HI
      obtain ⟨x1, x2, -, -⟩ := id I1.out.kl
      obtain ⟨y1, y2, -, -⟩ := id I1.out.ks
      go_wp2_with fail
      refine (HS.out _).mono ?_; rintro e w2 ⟨rfl, hb2⟩
      have I2 := Lib.hid (I1.out.keep hb2)
      clear x1 x2 y1 y2 I1 hb1 hb2
      have HOV := Lib.hid (own_base I2.out.own (show w.heap.size ≤ w.heap.size + 2 by omega))
      have HBL := Lib.hid I2.out.bel
      go_wp2
      go_ret
      exact ⟨_, rfl, HOV, HBL.out⟩
  · replace hy : layOkB size many = false := by simpa using hy
    rw [hy] at hok
    have HO := Lib.hid hok
    have hL : lpL size many lo hi = [] := if_neg (fun c => by rw [hy] at c; exact absurd c.1 (by simp))
    rw [hL]
    clear hL hok hsp hy
    obtain ⟨x1, x2, -, -⟩ := id HI.out.kl
    go_enter Try.func23, Try.ntmps23
    go_wp2_with fail
    refine (HO.out _).mono ?_; rintro e w1 ⟨rfl, hb1⟩
    have I1 := Lib.hid (HI.out.keep hb1)
    clear x1 x2 HI
    have HOV := Lib.hid (own_base I1.out.own (show w.heap.size ≤ w.heap.size + 2 by omega))
    have HBL := Lib.hid I1.out.bel
    go_wp2
    go_ret
    exact ⟨_, rfl, HOV, HBL.out⟩

end Go.Proofs.Yteglfdcoeogilaa
