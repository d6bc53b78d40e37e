/-
  spec.LayText: a striped file put together again.
-/
import Derived.Test.YtdlofeemeeabjaaLtMath
import Derived.Test.YtdlofeemeeabjaaLayFn
import Derived.Test.YtdlofeemeeabjaaLong
import Derived.Test.YtdlofeemeeabjaaToInt
import Derived.Test.YtdlofeemeeabjaaRow1
import Derived.Test.YtdlofeemeeabjaaSpecLong
import Derived.Test.YtdlofeemeeabjaaText
import Derived.Deep.LoopGhost
import Derived.Laws.AppendOwn
namespace Go.Proofs.Ytdlofeemeeabjaa
open Go.RowKit

abbrev sF (S : Nat → List UInt8) : Nat → Value := fun i => .string (mkB (S i))
/-- The first k lengths, as values. -/
def lenV (S : Nat → List UInt8) (k : Nat) : List Value := (List.range k).map fun i => .int .i64 (lens S i)
theorem lenV_len (S : Nat → List UInt8) (k : Nat) : (lenV S k).length = k := by unfold lenV; simp
theorem lenV_succ (S : Nat → List UInt8) (k : Nat) : lenV S (k + 1) = lenV S k ++ [.int .i64 ((S k).length : Int)] := by unfold lenV lens; rw [List.range_succ, List.map_append]; rfl
theorem lenV_vls {w : World} {B n : Nat} {v : Value} {S : Nat → List UInt8} (h : w.ownsRow B 3 1 v n (lenV S n)) : Vls w v n (ints (lens S)) := (own_vls h).congr fun i hi => by
  unfold lenV
  rw [List.getD_eq_getElem?_getD, List.getElem?_map, List.getElem?_range hi]; rfl
theorem own_succ1 {W : World} {b : Nat} {e : TypeId} {size : Nat} {v : Value} {n : Nat} {xs : List Value} (h : W.ownsRow b e size v (n + 1) xs) : ∃ g cap, v = .slice (some ⟨g, 0, none⟩) (n + 1) cap := by
  rcases h.2 with ⟨-, h0⟩ | ⟨g', cap', cur', hv', -⟩
  · omega
  · exact ⟨g', cap', hv'⟩
theorem slice_one (l : List UInt8) (k : Nat) (h : k < l.length) : (mkB l).extract k (k + 1) = mkB [l.getD k 46] := by
  rw [mkB_extract]
  congr 1
  rw [List.take_add_one, List.getElem?_eq_getElem h, List.drop_append, List.drop_of_length_le (by rw [List.length_take]; omega), List.length_take, show k - min k l.length = 0 by omega, List.getD_eq_getElem?_getD, List.getElem?_eq_getElem h]
  rfl

set_option maxRecDepth 100000 in
set_option maxHeartbeats 8000000 in
theorem specLayText_any (size many : Int) (v : Value) (z : Nat) (S : Nat → List UInt8) (w : World) (h : Vls w v z (sF S)) (hS : ∀ i, i < z → (S i).length ≤ 9000000) (hz : z ≤ 1048576) :
    Calls Try.prog 15 #[.agg #[.int .i64 size, .int .i64 many], v] w fun e w' => e = .returned (.tuple #[.string (mkB (ltS size many S z)), .bool (ltB size many S z)]) ∧ Below w.heap.size w w' := by
  obtain ⟨a, cap, rfl, hcap, hmx, hc⟩ := h
  have HC := Lib.hid hc
  have HS := Lib.hid hS
  clear hc hS
  unfold maxLen at hmx
  obtain ⟨i0, hi, hz0, hz1, hz2⟩ := info_parts infoInt
  obtain ⟨W, hW⟩ : ∃ W, (w.alloc (.cells #[.int .i64 size, .int .i64 many] 24)) = W := ⟨_, rfl⟩
  have kl : Box2 W w.heap.size size many := by rw [← hW]; exact new_box w size many 24
  have hal : Below w.heap.size w W := by rw [← hW]; exact (Below.refl _ _).alloc (Nat.le_refl _) _
  have hsz : w.heap.size + 1 = W.heap.size := by rw [← hW]; simp
  have hN0 : Hid ((W.alloc (.cells #[] 3)).ownsRow W.heap.size 3 1 (.slice (some ⟨W.heap.size, 0, none⟩) 0 0) 0 (lenV S 0)) := new_row1 W 3 (Nat.le_refl _)
  have hb0 : Below W.heap.size W (W.alloc (.cells #[] 3)) := (Below.refl _ _).alloc (Nat.le_refl _) _
  have HAL := Lib.hid hal
  have HKL := Lib.hid kl
  have HSZ := Lib.hid hsz
  clear hal kl hsz
  go_enter Try.func15, Try.ntmps15
  go_wp2_with fail
  clear hW
  go_loopg [6, 7] z (fun q s6 s7 wr => ∃ k : Nat, q = z - k ∧ k ≤ z ∧ s7 = .int .i64 k ∧ (∃ g cp, s6 = .slice (some ⟨g, 0, none⟩) k cp) ∧ Hid (wr.ownsRow W.heap.size 3 1 s6 k (lenV S k)) ∧ Hid (∀ i, i < k → tokB (S i) = true) ∧ Below W.heap.size W wr)
  case atStart => exact ⟨0, rfl, Nat.zero_le _, rfl, ⟨_, _, rfl⟩, hN0, Lib.hid (fun i h => absurd h (by omega)), hb0⟩
  case round =>
    obtain ⟨k, rfl, hk, rfl, ⟨g, cp, rfl⟩, HO, HT, hb⟩ := hrel
    clear hN0 hb0
    by_cases hlt : k < z
    · obtain ⟨b, off, rfl, hcc⟩ := HC.out (by omega)
      have bw : Below w.heap.size w wr := HAL.out.trans (hb.mono HAL.out.size)
      have c1 : wr.cell? ⟨b, off + k, none⟩ = some (.string (mkB (S k))) := cell_keep bw (hcc k hlt)
      have hl := HS.out k hlt
      have htk := fun W' => specTextOk_any (mkB (S k)) (by rw [mkB_size]; omega) W'
      rw [mkB_toList] at htk
      have zz : (mkB (S k)).size = (S k).length := mkB_size _
      clear hcc
      by_cases ht : tokB (S k) = true
      · rw [ht] at htk
        have HTK := Lib.hid htk
        have HT1 : Hid (∀ i, i < k + 1 → tokB (S i) = true) := fun i hi => by
          by_cases e : i = k
          · subst e; exact ht
          · exact HT.out i (by omega)
        have HLS := Lib.hid (lenV_succ S k)
        have bs := hb.size
        clear htk ht HT
        generalize S k = D at *
        go_wp2_with fail
        refine (HTK.out _).mono ?_; rintro e w1 ⟨rfl, rfl⟩
        go_wp2_with (at_builtin; go_must (refine wpList_append_own _ rfl _ _ 29 rfl W.heap.size 3 i0 (.int .i64 0) 1 8 Try.underlying29 hi hz0 hz1 hz2 rfl (by decide) _ _ _ rfl (HO.out.alloc _) ⟨wr.heap.size, 0, none⟩ 1 1 [.int .i64 (D.length : Int)] rfl rfl ?c1 ?c2 ?c3 ?c4 ?c5 ?_))
        case c1 => exact one_new _ _ _
        case c2 => simp [Value.oneCell']
        case c3 => unfold maxLen; omega
        case c4 => omega
        case c5 => simp; omega
        intro v' w9 hown' hgrow _
        obtain ⟨g', cap', rfl⟩ := own_succ1 hown'
        have HO1 : Hid (w9.ownsRow W.heap.size 3 1 (.slice (some ⟨g', 0, none⟩) (k + 1) cap') (k + 1) (lenV S (k + 1))) := by show World.ownsRow _ _ _ _ _ _ _; rw [HLS.out]; exact hown'
        have hb1 := (hb.alloc hb.size (.cells #[.int .i64 (D.length : Int)] 3)).grown hgrow (by have := hb.size; simp; omega) (fun q e => (HO.out.lt q e).1)
        clear hown' hgrow HO
        go_wp2
        go_roundg (z - (k + 1))
        case measure => omega
        case rel => exact ⟨k + 1, rfl, by omega, by go_num, ⟨g', cap', rfl⟩, HO1, HT1, hb1⟩
      · replace ht : tokB (S k) = false := by simpa using ht
        rw [ht] at htk
        have HTK := Lib.hid htk
        have hbad : ltB size many S z = false := ltB_bad hlt ht
        have HB := Lib.hid hbad
        have HSn := Lib.hid (ltS_no hbad)
        clear htk ht HT hbad
        generalize S k = D at *
        go_wp2_with fail
        refine (HTK.out _).mono ?_; rintro e w1 ⟨rfl, rfl⟩
        go_wp2
        go_ret2
        exact ⟨ret_sb HSn.out.symm HB.out.symm, bw⟩
    · obtain rfl : k = z := by omega
      have hv := lenV_vls HO.out
      have HL := Lib.hid (fun W' h' => specLayLong_any size many (.slice (some ⟨g, 0, none⟩) k cp) k (lens S) W' h')
      have HV := Lib.hid hv
      have hkk := ltK_all HT.out
      have bw : Below w.heap.size w wr := HAL.out.trans (hb.mono HAL.out.size)
      have k1 := HKL.out.keep hb
      have HK1 := Lib.hid k1
      have hbs := hb.size
      clear hv HO HT hi hz0 hz1 hz2 HKL hb
      obtain ⟨x1, x2, -, -⟩ := id k1
      go_wp2_with fail
      refine (HL.out _ HV.out).mono ?_; rintro e w2 ⟨rfl, hb2⟩
      have HK2 := Lib.hid (HK1.out.keep hb2)
      have hbw := bw.trans (hb2.mono bw.size)
      have HBW := Lib.hid hbw
      clear HV HL x1 x2 k1 HK1 hb2 bw hbs
      by_cases hneg : ltN size many S k < 0
      · have HB := Lib.hid (ltB_neg hneg)
        have HSn := Lib.hid (ltS_no HB.out)
        have hneg2 : llF size many k (lens S) < 0 := hneg
        clear hneg hkk
        generalize llF size many k (lens S) = n at *
        go_wp2
        go_ret2
        exact ⟨ret_sb HSn.out.symm HB.out.symm, HBW.out⟩
      · have hpos : 0 ≤ ltN size many S k := by omega
        obtain ⟨hy, hzm, h48⟩ := ltN_form hpos
        have hok := ltB_ok hkk hpos
        have HB := Lib.hid hok
        have HSy := Lib.hid (ltS_yes hok)
        have HY := Lib.hid hy
        have hll : llF size many k (lens S) = ltN size many S k := rfl
        rw [hll]
        obtain ⟨n, hn⟩ : ∃ n : Nat, ltN size many S k = n := ⟨(ltN size many S k).toNat, by omega⟩
        rw [hn, Int.toNat_natCast] at HSy
        rw [hn] at h48 ⊢
        have hL0 : Hid (ltL size many S 0 = []) := rfl
        clear hneg hpos hll hn hkk hok hy
        go_wp2_with fail
        generalize w2 = wo at *
        go_loopg [9, 10] n (fun q s9 s10 wr => ∃ j : Nat, q = n - j ∧ j ≤ n ∧ s10 = .int .i64 j ∧ s9 = .string (mkB (ltL size many S j)) ∧ Below wo.heap.size wo wr)
        case atStart => exact ⟨0, rfl, Nat.zero_le _, rfl, rfl, Below.refl _ _⟩
        case round =>
          obtain ⟨j, rfl, hj, rfl, rfl, hbr⟩ := hrel
          have k3 := HK2.out.keep hbr
          have HK3 := Lib.hid k3
          have hbx := HBW.out.trans (hbr.mono HBW.out.size)
          by_cases hjn : j < n
          · have bd := at_bd (p := (j : Int)) HY.out (by omega)
            have HAt := Lib.hid (fun W' => l3At_any size many j W' HY.out (by omega) (by omega))
            have HLS := Lib.hid (ltL_succ size many S j)
            have hT : ltT size many S j = (S (objF size many j).toNat).getD (atF size many j).toNat 46 := rfl
            have hlj := ltL_len size many S j
            generalize ltT size many S j = T at *
            obtain ⟨o, ho⟩ : ∃ o : Nat, objF size many j = o := ⟨(objF size many j).toNat, by omega⟩
            obtain ⟨q, hq⟩ : ∃ q : Nat, atF size many j = q := ⟨(atF size many j).toNat, by omega⟩
            rw [ho, hq, Int.toNat_natCast, Int.toNat_natCast] at hT
            rw [ho, hq] at HAt bd
            obtain ⟨b1, b2, b3, b4⟩ := bd
            have hoz : o < k := by omega
            obtain ⟨b, off, rfl, hcc⟩ := HC.out (by omega)
            obtain ⟨x1, x2, -, -⟩ := id k3
            have c1 : w.cell? ⟨b, off + o, none⟩ = some (.string (mkB (S o))) := hcc o hoz
            have hl := HS.out o hoz
            have zz : (mkB (S o)).size = (S o).length := mkB_size _
            have HHQ := Lib.hid (And.intro ho hq)
            clear hcc ho hq k3
            go_wp2_with fail
            refine (HAt.out _).mono ?_; rintro e w3 ⟨rfl, hb3⟩
            have c2 := cell_keep (hbx.trans (hb3.mono hbx.size)) c1
            have hby := hbr.trans (hb3.mono hbr.size)
            clear x1 x2 c1 hbx hb3
            by_cases hqs : q < (S o).length
            · have hx := slice_one (S o) q hqs
              have hadd := fun W' => add_mk (ltL size many S j) [T] (by rw [hlj]; simp; omega) W'
              rw [← hT] at hx
              rw [← HLS.out] at hadd
              clear hT hlj
              generalize S o = D at *
              generalize ltL size many S j = X at *
              go_wp2
              go_roundg (n - (j + 1))
              case measure => omega
              case rel => exact ⟨j + 1, rfl, by omega, by go_num, rfl, hby⟩
            · have hT2 : T = 46 := by rw [hT, List.getD_eq_getElem?_getD, List.getElem?_eq_none (by omega)]; rfl
              subst hT2
              have hadd : ∀ W', (Op.stringOp .add (mkB (ltL size many S j)) ⟨#[46]⟩).run Try.prog W' = .ok (.string (mkB (ltL size many S (j + 1)))) W' := fun W' => by
                rw [HLS.out]; exact add_mk (ltL size many S j) [46] (by rw [hlj]; simp; omega) W'
              clear hT hlj
              generalize S o = D at *
              generalize ltL size many S j = X at *
              go_wp2
              go_roundg (n - (j + 1))
              case measure => omega
              case rel => exact ⟨j + 1, rfl, by omega, by go_num, rfl, hby⟩
          · obtain rfl : j = n := by omega
            clear k3
            go_wp2
            go_ret2
            exact ⟨ret_sb HSy.out.symm HB.out.symm, hbx⟩

end Go.Proofs.Ytdlofeemeeabjaa
