/-
  spec.LayOf: what each object has of a file.
-/
import Derived.Test.YtdlofeemeeabjaaLofMath
import Derived.Test.YtdlofeemeeabjaaLayFn
import Derived.Test.YtdlofeemeeabjaaRow1
import Derived.Test.YtdlofeemeeabjaaSpecLong
import Derived.Deep.LoopGhost
import Derived.Deep.RegionHeld3
import Derived.Laws.OwnMore
namespace Go.Proofs.Ytdlofeemeeabjaa
open Go.RowKit Go.Lib

abbrev strs (L : List (List UInt8)) : List Value := L.map (fun s => Value.string (mkB s))

/-- What a function that makes a list of strings leaves. -/
def RgS (w : World) (L : List (List UInt8)) (e : Ending) (w' : World) : Prop :=
  ∃ v, e = .returned v ∧ Hid (w'.ownsRow w.heap.size 9 1 v L.length (strs L)) ∧ Below w.heap.size w w'

theorem infoStr : (Try.prog.info? 9).map (fun i => (i.zero, i.size, i.bytes)) = some (some (.string (mkB [])), 1, 16) := by kernel_rfl

theorem own_base1 {W : World} {b b' : Nat} {e : TypeId} {size : Nat} {v : Value} {k : Nat} {xs : List Value} (h : W.ownsRow b e size v k xs) (hb : b' ≤ b) : W.ownsRow b' e size v k xs :=
  ⟨h.1, h.2.imp id fun ⟨g, cap, cur, h1, h2, h3⟩ => ⟨g, cap, cur, h1, Nat.le_trans hb h2, h3⟩⟩

/-- What holds at the head of a round: the box of the layout, the row. -/
structure SLI (w wr : World) (size many : Int) (v : Value) (L : List (List UInt8)) : Prop where
  own : wr.ownsRow (w.heap.size + 1) 9 1 v L.length (strs L)
  kl : Box2 wr w.heap.size size many
  bel : Below w.heap.size w wr
  sz : w.heap.size + 1 ≤ wr.heap.size

theorem SLI.keep {w wr w1 : World} {size many : Int} {v : Value} {L : List (List UInt8)} (h : SLI w wr size many v L) (hb : Below wr.heap.size wr w1) : SLI w w1 size many v L :=
  ⟨own_below1 h.own hb, h.kl.keep hb, h.bel.trans (hb.mono h.bel.size), Nat.le_trans h.sz hb.size⟩

theorem box_far1 {w : World} {b g o : Nat} {x y : Int} {u : Value} (h : Box2 w b x y) (hne : g ≠ b) : Box2 (w.setCell ⟨g, o, none⟩ u) b x y := by
  obtain ⟨p1, p2, p3, p4⟩ := h
  exact ⟨by rw [World.cell?_setCell_far _ _ _ _ hne]; exact p1, by rw [World.cell?_setCell_far _ _ _ _ hne]; exact p2, by go_simp, by go_simp⟩

theorem strs_set (L : List (List UInt8)) (o : Nat) (s : List UInt8) : (strs L).set o (.string (mkB s)) = strs (L.set o s) := by
  unfold strs; rw [List.map_set]

theorem SLI.put {w wr : World} {size many : Int} {g cap o n : Nat} {L : List (List UInt8)} {s : List UInt8} (hn : L.length = n) (h : SLI w wr size many (.slice (some ⟨g, 0, none⟩) n cap) L) :
    SLI w (wr.setCell ⟨g, o, none⟩ (.string (mkB s))) size many (.slice (some ⟨g, 0, none⟩) n cap) (L.set o s) := by
  subst hn
  have hg := (h.own.lt g rfl).1
  have hs := (h.own.stored o (.string (mkB s))).1
  rw [strs_set] at hs
  have hl : (L.set o s).length = L.length := by simp
  exact ⟨by rw [hl]; exact hs, box_far1 h.kl (by omega), h.bel.setCell (p := ⟨g, o, none⟩) (by simp only; omega) _, by simpa [World.setCell] using h.sz⟩

theorem SLI.added {w wr w9 : World} {size many : Int} {v v' : Value} {L : List (List UInt8)} {s : List UInt8} {n : Nat} {C : Array Value} {U : TypeId} (h : SLI w wr size many v L) (hn : n = L.length)
    (hown : w9.ownsRow (w.heap.size + 1) 9 1 v' (n + 1) (strs L ++ [.string (mkB s)]))
    (hgrow : (wr.alloc (.cells C U)).grownBy w9 v.ownBlock) : SLI w w9 size many v' (L ++ [s]) := by
  have hb : Below wr.heap.size wr (wr.alloc (.cells C U)) := (Below.refl _ _).alloc (Nat.le_refl _) _
  have hk := h.keep hb
  have ho : w9.ownsRow (w.heap.size + 1) 9 1 v' (L ++ [s]).length (strs (L ++ [s])) := by
    unfold strs at hown ⊢
    rw [List.map_append, List.length_append, ← hn]; exact hown
  have hne : ∀ b, b < w.heap.size + 1 → v.ownBlock ≠ some b := fun b hlt e => by have := (h.own.lt b e).1; omega
  have hsz := hgrow.size
  have hbx : Box2 w9 w.heap.size size many := by
    obtain ⟨h0, h1, h2, h3⟩ := hk.kl
    have hblk : w9.heap[w.heap.size]? = (wr.alloc (.cells C U)).heap[w.heap.size]? := hgrow.block _ (World.block_lt_of_cell? _ _ h0) (fun e => hne _ (by omega) e.symm)
    exact ⟨(World.cell?_of_block (a := ⟨w.heap.size, 0, none⟩) hblk).trans h0, (World.cell?_of_block (a := ⟨w.heap.size, 1, none⟩) hblk).trans h1, (World.frozen?_of_block (a := ⟨w.heap.size, 0, none⟩) hblk).trans h2, (World.frozen?_of_block (a := ⟨w.heap.size, 1, none⟩) hblk).trans h3⟩
  exact ⟨ho, hbx, hk.bel.trans ⟨hgrow.os, hgrow.tape, hgrow.output, hgrow.size, fun i hi => hgrow.block i (Nat.lt_of_lt_of_le hi hk.bel.size) (fun e => hne i (by omega) e.symm)⟩, Nat.le_trans hk.sz hsz⟩

set_option maxRecDepth 100000 in
set_option maxHeartbeats 8000000 in
theorem specLayOf_any (size many : Int) (l : List UInt8) (hl9 : l.length ≤ 9000000) (w : World) :
    Calls Try.prog 9 #[.agg #[.int .i64 size, .int .i64 many], .string (mkB l)] w (RgS w (loL size many l)) := by
  have hok := fun W => specLayOk_any size many W
  have htk := fun W => specTextOk_any (mkB l) (by rw [mkB_size]; omega) W
  rw [mkB_toList] at htk
  have hsz := mkB_size l
  obtain ⟨i0, hi0, hz0, hz1, hz2⟩ := info_parts infoStr
  have HI0 : Hid (Try.prog.info? 9 = some i0 ∧ i0.zero = some (.string (mkB [])) ∧ i0.size = 1 ∧ i0.bytes = 16) := ⟨hi0, hz0, hz1, hz2⟩
  clear hi0 hz0 hz1 hz2
  have k := new_box w size many 24
  have hal : Below w.heap.size w (w.alloc (.cells #[.int .i64 size, .int .i64 many] 24)) := (Below.refl _ _).alloc (Nat.le_refl _) _
  have hs1 : (w.alloc (.cells #[.int .i64 size, .int .i64 many] 24)).heap.size = w.heap.size + 1 := by simp
  have hnr := new_row1 (w.alloc (.cells #[.int .i64 size, .int .i64 many] 24)) 9 (B := w.heap.size + 1) (by omega)
  rw [hs1] at hnr
  have hba : Below (w.alloc (.cells #[.int .i64 size, .int .i64 many] 24)).heap.size (w.alloc (.cells #[.int .i64 size, .int .i64 many] 24)) ((w.alloc (.cells #[.int .i64 size, .int .i64 many] 24)).alloc (.cells #[] 9)) := (Below.refl _ _).alloc (Nat.le_refl _) _
  have HI : Hid (SLI w ((w.alloc (.cells #[.int .i64 size, .int .i64 many] 24)).alloc (.cells #[] 9)) size many (.slice (some ⟨w.heap.size + 1, 0, none⟩) 0 0) []) := ⟨hnr, k.keep hba, hal.trans (hba.mono hal.size), by simp⟩
  clear k hal hs1 hnr hba
  by_cases hy : layOkB size many = true
  · by_cases ht : tokB l = true
    · rw [hy] at hok
      rw [ht] at htk
      have HO := Lib.hid hok
      have HT := Lib.hid htk
      have HY := Lib.hid hy
      have hlen : l.length ≤ 48 := tokB_len ht
      have hL : loL size many l = loC size many l many.toNat l.length := if_pos ⟨hy, ht⟩
      rw [hL]
      obtain ⟨c1, c2, c3, c4⟩ := layOkB_iff.1 hy
      obtain ⟨m, rfl⟩ : ∃ m : Nat, many = m := ⟨many.toNat, by omega⟩
      rw [Int.toNat_natCast]
      clear hL hok htk hy ht hl9
      obtain ⟨x1, x2, -, -⟩ := id HI.out.kl
      go_enter Try.func9, Try.ntmps9
      go_wp2_with fail
      refine (HO.out _).mono ?_; rintro e w1 ⟨rfl, hb1⟩
      have I1 := Lib.hid (HI.out.keep hb1)
      clear x1 x2 HI hb1
      obtain ⟨x1, x2, -, -⟩ := id I1.out.kl
      go_wp2_with fail
      refine (HT.out _).mono ?_; rintro e w2 ⟨rfl, rfl⟩
      go_wp2_with fail
      clear x1 x2
      go_loopg [5, 6] m (fun gm s5 s6 wr => ∃ (i g cap : Nat), gm = m - i ∧ i ≤ m ∧ s6 = .int .i64 i ∧ s5 = .slice (some ⟨g, 0, none⟩) i cap ∧ Hid (SLI w wr size m s5 (List.replicate i [])))
      case atStart => exact ⟨0, _, _, rfl, Nat.zero_le _, rfl, rfl, I1⟩
      case round =>
        obtain ⟨i, g, cap, rfl, hi, rfl, rfl, IK⟩ := hrel
        obtain ⟨x1, x2, -, -⟩ := id IK.out.kl
        by_cases hlt : i < m
        · have hsz' := IK.out.sz
          have HON : Hid (wr.ownsRow (w.heap.size + 1) 9 1 (.slice (some ⟨g, 0, none⟩) i cap) i (strs (List.replicate i []))) := by have := IK.out.own; rwa [List.length_replicate] at this
          have hlt2 : (i : Int) < (m : Int) := by omega
          go_wp2_with (at_builtin; refine wpList_append_own _ rfl _ _ 27 rfl (w.heap.size + 1) 9 i0 (.string (mkB [])) 1 16 Try.underlying27 HI0.out.1 HI0.out.2.1 HI0.out.2.2.1 HI0.out.2.2.2 rfl (by decide) _ _ _ rfl (HON.out.alloc _) ⟨wr.heap.size, 0, none⟩ 1 1 [.string (mkB [])] rfl rfl ?c1 ?c2 ?c3 ?c4 ?c5 ?_)
          case c1 => exact one_new _ _ _
          case c2 => simp [Value.oneCell']
          case c3 => unfold maxLen; omega
          case c4 => omega
          case c5 => first | omega | (simp; omega)
          intro v' w9 hown' hgrow _
          have I9 : Hid (SLI w w9 size m v' (List.replicate (i + 1) [])) := by
            show SLI _ _ _ _ _ _
            rw [List.replicate_succ']
            exact IK.out.added (s := []) (n := i) (by simp) (by unfold strs; rw [List.map_replicate]; exact hown') hgrow
          clear hown' hgrow
          have hge : ∃ g' cap', v' = .slice (some ⟨g', 0, none⟩) (i + 1) cap' := by
            have := I9.out.own
            rw [List.length_replicate] at this
            rcases this.2 with ⟨-, h0⟩ | ⟨g', cap', cur', hv', -⟩
            · omega
            · exact ⟨g', cap', hv'⟩
          obtain ⟨g', cap', rfl⟩ := hge
          clear x1 x2
          go_wp2
          go_roundg (m - (i + 1))
          case measure => omega
          case rel => exact ⟨i + 1, g', cap', rfl, by omega, by go_num, rfl, I9⟩
        · obtain rfl : i = m := by omega
          rw [← loC_zero size i l i] at IK
          go_wp2_with fail
          clear x1 x2
          generalize wr = wo at *
          go_loopg [7] l.length (fun gm s7 wr => ∃ k : Nat, gm = l.length - k ∧ k ≤ l.length ∧ s7 = .int .i64 k ∧ Hid (SLI w wr size i (.slice (some ⟨g, 0, none⟩) i cap) (loC size i l i k)))
          case atStart => exact ⟨0, rfl, Nat.zero_le _, rfl, IK⟩
          case round =>
            obtain ⟨k, rfl, hk, rfl, IR⟩ := hrel
            obtain ⟨x1, x2, -, -⟩ := id IR.out.kl
            by_cases hkl : k < l.length
            · have HAt := Lib.hid (fun W => l3At_any size i k W HY.out (by omega) (by omega))
              have bd := at_bd (p := (k : Int)) HY.out (by omega)
              obtain ⟨o, ho⟩ : ∃ o : Nat, objF size i k = o := ⟨(objF size i k).toNat, by omega⟩
              have hoi : o < i := by omega
              have HSt := Lib.hid (loC_step (size := size) (many := (i : Int)) (l := l) (m := i) (k := k) ho)
              rw [ho] at HAt
              clear ho bd
              go_wp2_with fail
              refine (HAt.out _).mono ?_; rintro e w3 ⟨rfl, hb3⟩
              have I3 := Lib.hid (IR.out.keep hb3)
              clear IR hb3 x1 x2
              have HON : Hid (w3.ownsRow (w.heap.size + 1) 9 1 (.slice (some ⟨g, 0, none⟩) i cap) i (strs (loC size i l i k))) := by have := I3.out.own; rwa [loC_len] at this
              have q0 : w3.cell? ⟨g, o, none⟩ = some (.string (mkB (loF size i l o k))) := by
                rw [HON.out.cellAt _ (by omega)]
                unfold strs
                rw [List.getElem?_map, loC_get? hoi]; rfl
              have q1 : w3.frozen? ⟨g, o, none⟩ = false := HON.out.frozenAt _
              have hfl := loF_len (size := size) (many := (i : Int)) (l := l) (o := o) k
              have hx : (mkB l).extract k (k + 1) = mkB [l.getD k 46] := by
                rw [mkB_extract]
                congr 1
                rw [List.take_add_one, List.getElem?_eq_getElem hkl, List.drop_append, List.drop_of_length_le (by rw [List.length_take]; omega), List.length_take, show k - min k l.length = 0 by omega, List.getD_eq_getElem?_getD, List.getElem?_eq_getElem hkl]
                rfl
              have hadd := fun W => add_mk (loF size i l o k) [l.getD k 46] (by simp; omega) W
              have I4 : Hid (SLI w (w3.setCell ⟨g, o, none⟩ (.string (mkB (loF size i l o k ++ [l.getD k 46])))) size i (.slice (some ⟨g, 0, none⟩) i cap) (loC size i l i (k + 1))) := by
                show SLI _ _ _ _ _ _
                rw [HSt.out]
                exact I3.out.put (loC_len _ _ _ _ _)
              clear HON HSt hfl
              generalize loF size i l o k = S at *
              generalize l.getD k 46 = c at *
              have j0 : (0 : Int) ≤ (k : Int) := by omega
              have j1 : (k : Int) < (l.length : Int) := by omega
              have j2 : (0 : Int) ≤ (o : Int) := by omega
              have j3 : (o : Int) < (i : Int) := by omega
              have j4 : IntKind.i64.wrap ((k : Int) + 1) = (k : Int) + 1 := IntWalk.i64_in _ (by omega)
              have j5 : ((k : Int) + 1).toNat = k + 1 := by omega
              go_wp2_with fail
              go_region
              have I5 := Lib.hid (I4.out.keep (Below.drew (Below.refl _ _)))
              clear I4 q0 q1 hx hadd j4 j5
              go_wp2
              go_roundg (l.length - (k + 1))
              case measure => omega
              case rel => exact ⟨k + 1, rfl, by omega, by go_num, I5⟩
            · obtain rfl : k = l.length := by omega
              have HOV := Lib.hid (own_base1 IR.out.own (show w.heap.size ≤ w.heap.size + 1 by omega))
              have HBL := Lib.hid IR.out.bel
              go_wp2
              go_ret
              exact ⟨_, rfl, HOV, HBL.out⟩
    · replace ht : tokB l = false := by simpa using ht
      rw [hy] at hok
      rw [ht] at htk
      have HO := Lib.hid hok
      have HT := Lib.hid htk
      have hL : loL size many l = [] := if_neg (fun c => by rw [ht] at c; exact absurd c.2 (by simp))
      rw [hL]
      clear hL hok htk hy ht
      obtain ⟨x1, x2, -, -⟩ := id HI.out.kl
      go_enter Try.func9, Try.ntmps9
      go_wp2_with fail
      refine (HO.out _).mono ?_; rintro e w1 ⟨rfl, hb1⟩
      have I1 := Lib.hid (HI.out.keep hb1)
      clear x1 x2 HI hb1
      go_wp2_with fail
      refine (HT.out _).mono ?_; rintro e w2 ⟨rfl, rfl⟩
      have HOV := Lib.hid (own_base1 I1.out.own (show w.heap.size ≤ w.heap.size + 1 by omega))
      have HBL := Lib.hid I1.out.bel
      go_wp2
      go_ret
      exact ⟨_, rfl, HOV, HBL.out⟩
  · replace hy : layOkB size many = false := by simpa using hy
    rw [hy] at hok
    have HO := Lib.hid hok
    have hL : loL size many l = [] := if_neg (fun c => by rw [hy] at c; exact absurd c.1 (by simp))
    rw [hL]
    clear hL hok htk hy
    obtain ⟨x1, x2, -, -⟩ := id HI.out.kl
    go_enter Try.func9, Try.ntmps9
    go_wp2_with fail
    refine (HO.out _).mono ?_; rintro e w1 ⟨rfl, hb1⟩
    have I1 := Lib.hid (HI.out.keep hb1)
    clear x1 x2 HI hb1
    have HOV := Lib.hid (own_base1 I1.out.own (show w.heap.size ≤ w.heap.size + 1 by omega))
    have HBL := Lib.hid I1.out.bel
    go_wp2
    go_ret
    exact ⟨_, rfl, HOV, HBL.out⟩

end Go.Proofs.Ytdlofeemeeabjaa
