/-
  impl.LayOf: what each object has of a file, unit by unit.
-/
import Derived.Test.YtjbkahfbaploaaaSpecLof
import Derived.Test.YtjbkahfbaploaaaChunk
namespace Go.Proofs.Ytjbkahfbaploaaa
open Go.RowKit Go.Lib

theorem made_own (w : World) (n : Nat) (x : Value) (T : TypeId) {B : Nat} (hB : B ≤ w.heap.size) (hn : n ≤ maxLen) : (w.alloc (.cells (madeCells #[x] n) T)).ownsRow B T 1 (.slice (some ⟨w.heap.size, 0, none⟩) n n) n (List.replicate n x) := by
  have hm : (madeCells #[x] n).toList = List.replicate n x := by
    apply List.ext_getElem?
    intro i
    by_cases hi : i < n
    · simp [madeCells, hi, Nat.mod_one]
    · simp [madeCells, hi]
  refine ⟨by simp, .inr ⟨w.heap.size, n, _, rfl, hB, World.alloc_heap_new w _, Nat.le_refl _, hn, ?_, ?_⟩⟩
  · have := congrArg List.length hm; simpa using this
  · rw [hm]; simp

theorem grown_cell' {a b : World} {g x o : Nat} {v : Value} (h : a.grownBy b (some g)) (hne : x ≠ g) (hc : a.cell? ⟨x, o, none⟩ = some v) : b.cell? ⟨x, o, none⟩ = some v :=
  h.cell hc (by simpa using hne)

theorem strs_rep (n : Nat) : strs (List.replicate n []) = List.replicate n (Value.string (mkB [])) := by unfold strs; rw [List.map_replicate]

set_option maxRecDepth 100000 in
set_option maxHeartbeats 8000000 in
theorem implLayOf_any (size many : Int) (l : List UInt8) (hl9 : l.length ≤ 9000000) (w : World) :
    Calls Try.prog 12 #[.agg #[.int .i64 size, .int .i64 many], .string (mkB l)] w (RgS w (loL size many l)) := by
  have hok := fun W => implLayOk_any size many W
  have htk := fun W => implTextOk_any (mkB l) (by rw [mkB_size]; omega) W
  rw [mkB_toList] at htk
  have hsz := mkB_size l
  have k := new_box w size many 24
  have hal : Below w.heap.size w (w.alloc (.cells #[.int .i64 size, .int .i64 many] 24)) := (Below.refl _ _).alloc (Nat.le_refl _) _
  by_cases hy : layOkB size many = true
  · by_cases ht : tokB l = true
    · rw [hy] at hok
      rw [ht] at htk
      have HO := Lib.hid hok
      have HT := Lib.hid htk
      have HY := Lib.hid hy
      have hlen : l.length ≤ 48 := tokB_len ht
      have hL : loL size many l = loC size many l many.toNat l.length := if_pos ⟨hy, ht⟩
      rw [hL]
      obtain ⟨c1, c2, c3, c4⟩ := layOkB_iff.1 hy
      obtain ⟨m, rfl⟩ : ∃ m : Nat, many = m := ⟨many.toNat, by omega⟩
      obtain ⟨sz, rfl⟩ : ∃ sz : Nat, size = sz := ⟨size.toNat, by omega⟩
      rw [Int.toNat_natCast]
      clear hL hok htk hy ht hl9
      obtain ⟨i0, hi0, hz0, hz1, hz2⟩ := info_parts infoStr
      have hmk := fun W => run_make_row1 (P := Try.prog) 31 9 i0 (.string (mkB [])) Try.underlying31 hi0 hz0 .i64 .i64 m m (Nat.le_refl _) (by rw [hz2]; omega) (by omega) W
      rw [hz1] at hmk
      simp only [Nat.mul_one] at hmk
      clear hi0 hz0 hz1 hz2
      go_enter Try.func12, Try.ntmps12
      go_wp2_with fail
      refine (HO.out _).mono ?_; rintro e w1 ⟨rfl, hb1⟩
      have e1 := hal.trans (hb1.mono hal.size)
      have k1 := k.keep hb1
      have hs1 : w.heap.size + 1 ≤ w1.heap.size := by have := hb1.size; simp at this; omega
      obtain ⟨x1, x2, -, -⟩ := id k1
      go_wp2_with fail
      refine (HT.out _).mono ?_; rintro e w2 ⟨rfl, rfl⟩
      have hba : Below w1.heap.size w1 (w1.alloc (.cells (madeCells #[.string (mkB [])] m) 9)) := (Below.refl _ _).alloc (Nat.le_refl _) _
      have HI : Hid (SLI w (w1.alloc (.cells (madeCells #[.string (mkB [])] m) 9)) sz m (.slice (some ⟨w1.heap.size, 0, none⟩) m m) (List.replicate m [])) :=
        ⟨by rw [List.length_replicate, strs_rep]; exact made_own w1 m _ _ hs1 (by unfold maxLen; omega), k1.keep hba, e1.trans (hba.mono e1.size), by simp; omega⟩
      have q1 := cell_keep hba x1
      have q2 := cell_keep hba x2
      have HUn := Lib.hid (units_any sz m l (by omega) (by omega) hlen (w1.alloc (.cells (madeCells #[.string (mkB [])] m) 9)))
      clear hba k k1 hal e1 hb1
      go_wp2_with fail
      refine HUn.out.mono ?_; rintro e w5 ⟨vu, j, g, rfl, hgw, hj1, hj2, ho5, hc5, hb5⟩
      have I5 := Lib.hid (HI.out.keep hb5)
      have hgb : w1.heap.size + 1 ≤ g := by have := hgw; simp at this; omega
      have hs5 : w1.heap.size + 1 ≤ w5.heap.size := by have := hb5.size; simp at this; omega
      have HJ2 := Lib.hid hj2
      have HC5 := Lib.hid hc5
      have HV := Lib.hid (own_vls ho5.out)
      have hub : ∀ gb, vu.ownBlock = some gb → w1.heap.size + 1 ≤ gb := fun gb e => by have := (ho5.out.lt gb e).1; simp at this; omega
      have HUb := Lib.hid hub
      obtain ⟨au, capu, rfl, hlu, hmu, hcu⟩ := HV.out
      have hau : ∀ b off, au = some ⟨b, off, none⟩ → w1.heap.size + 1 ≤ b := fun b off e => HUb.out b (by rw [e]; rfl)
      unfold maxLen at hmu
      have HCu := Lib.hid hcu
      have HAu := Lib.hid hau
      have hj48 : j ≤ 48 := by
        rcases Nat.eq_zero_or_pos j with e | e
        · omega
        · have := hj2 (j - 1) (by omega)
          have h2 : j - 1 ≤ (j - 1) * sz := Nat.le_mul_of_pos_right _ (by omega)
          omega
      clear hj2 hc5 hub hau hcu ho5 HUn HI q1 q2 x1 x2 hb5 HV
      go_wp2_with fail
      generalize hB : w1.heap.size = B at *
      go_loopg [24] j (fun gm s24 wr => ∃ i : Nat, gm = j - i ∧ i ≤ j ∧ s24 = .int .i64 i ∧ Hid (SLI w wr sz m (.slice (some ⟨B, 0, none⟩) m m) (loC sz m l m (min (i * sz) l.length))) ∧ Hid (w5.grownBy wr (some B)))
      case atStart =>
        refine ⟨0, rfl, Nat.zero_le _, rfl, ?_, Lib.hid (World.grownBy.refl _ _)⟩
        rw [Nat.zero_mul, Nat.min_eq_left (Nat.zero_le _), loC_zero]; exact I5
      case round =>
        obtain ⟨i, rfl, hi, rfl, IK, HG⟩ := hrel
        by_cases hlt : i < j
        · obtain ⟨bu, offu, rfl, hcc⟩ := HCu.out (by omega)
          have hbu := HAu.out bu offu rfl
          have hil := HJ2.out i hlt
          have hu0 := hcc i hlt
          have hg1 : ((chs sz l.length j).map (encCh g)).getD i (.bool false) = encCh g (i * sz, min sz (l.length - i * sz)) := by
            unfold chs
            simp [List.getD_eq_getElem?_getD, hlt]
          rw [hg1] at hu0
          have u0 : wr.cell? ⟨bu, offu + i, none⟩ = some (encCh g (i * sz, min sz (l.length - i * sz))) := grown_cell' HG.out (by omega) hu0
          have HBy : Hid (∀ p (hp : p < l.length), wr.cell? ⟨g, p, none⟩ = some (.int .u8 (l[p].toNat : Int))) := fun p hp => grown_cell' HG.out (by omega) (HC5.out p hp)
          obtain ⟨c, hc⟩ : ∃ c, i * sz = c := ⟨_, rfl⟩
          obtain ⟨e', he'⟩ : ∃ e', min sz (l.length - c) = e' := ⟨_, rfl⟩
          have he2 : c + e' ≤ l.length ∧ e' ≤ sz ∧ 1 ≤ e' := by omega
          obtain ⟨he2, he3, he4⟩ := he2
          obtain ⟨o, ho⟩ : ∃ o : Nat, ((i : Int) % (m : Int)) = o := ⟨i % m, by rw [← Int.natCast_emod]⟩
          have hom : o < m := by have := rem_bd (n := (i : Int)) (k := (m : Int)) c3; omega
          have hst := loC_unit (m := m) (j := i) (o := o) (t := e') HY.out he3 (by rw [hc]; exact he2) ho
          rw [hc] at hst
          have hnx : min ((i + 1) * sz) l.length = c + e' := by rw [Nat.add_mul, hc]; omega
          have hcur : min (i * sz) l.length = c := by omega
          rw [hc, he'] at u0
          replace u0 : wr.cell? ⟨bu, offu + i, none⟩ = some (.slice (some ⟨g, c, none⟩) e' e') := u0
          rw [hcur] at IK
          have HSt := Lib.hid hst
          have HNx := Lib.hid hnx
          have hsp := splitRB_any (i : Int) (m : Int) 
          have HSp := Lib.hid (fun W => splitRB_any (i : Int) (m : Int) W (by omega) (by omega) c3 (by omega))
          rw [ho] at HSp
          clear hcc hu0 hg1 hst hnx hcur hsp ho
          obtain ⟨x1, x2, -, -⟩ := id IK.out.kl
          have i0 : (0 : Int) ≤ (i : Int) := by omega
          have i1 : (i : Int) < (j : Int) := by omega
          go_wp2_with fail
          refine (HSp.out _).mono ?_; rintro e w6 ⟨rfl, hb6⟩
          have hbA : Below w6.heap.size w6 (w6.alloc (.cells #[.int .i64 ((i : Int) / (m : Int)), .int .i64 (o : Int)] 68)) := (Below.refl _ _).alloc (Nat.le_refl _) _
          have hb67 : Below wr.heap.size wr (w6.alloc (.cells #[.int .i64 ((i : Int) / (m : Int)), .int .i64 (o : Int)] 68)) := hb6.trans (hbA.mono hb6.size)
          have kp := new_box w6 ((i : Int) / (m : Int)) (o : Int) 68
          have I7 := Lib.hid (IK.out.keep hb67)
          have HG7 : Hid (w5.grownBy (w6.alloc (.cells #[.int .i64 ((i : Int) / (m : Int)), .int .i64 (o : Int)] 68)) (some B)) := by
            have hg := HG.out
            exact ⟨hb67.os.trans hg.os, hb67.tape.trans hg.tape, hb67.output.trans hg.output, Nat.le_trans hg.size hb67.size, fun x hx hne => (hb67.block x (Nat.lt_of_lt_of_le hx hg.size)).trans (hg.block x hx hne)⟩
          have HON : Hid ((w6.alloc (.cells #[.int .i64 ((i : Int) / (m : Int)), .int .i64 (o : Int)] 68)).ownsRow (w.heap.size + 1) 9 1 (.slice (some ⟨B, 0, none⟩) m m) m (strs (loC sz m l m c))) := by have := I7.out.own; rwa [loC_len] at this
          have q0 : (w6.alloc (.cells #[.int .i64 ((i : Int) / (m : Int)), .int .i64 (o : Int)] 68)).cell? ⟨B, o, none⟩ = some (.string (mkB (loF sz m l o c))) := by
            rw [HON.out.cellAt _ (by omega)]
            unfold strs
            rw [List.getElem?_map, loC_get? hom]; rfl
          have q1 : (w6.alloc (.cells #[.int .i64 ((i : Int) / (m : Int)), .int .i64 (o : Int)] 68)).frozen? ⟨B, o, none⟩ = false := HON.out.frozenAt _
          have hfl := loF_len (size := sz) (many := (m : Int)) (l := l) (o := o) c
          have hconv : (convert 53 9 (.slice (some ⟨g, c, none⟩) e' e')).run Try.prog (w6.alloc (.cells #[.int .i64 ((i : Int) / (m : Int)), .int .i64 (o : Int)] 68)).drew = .ok (.string (mkB ((l.drop c).take e'))) (w6.alloc (.cells #[.int .i64 ((i : Int) / (m : Int)), .int .i64 (o : Int)] 68)).drew := by
            have := conv_mid' (W := (w6.alloc (.cells #[.int .i64 ((i : Int) / (m : Int)), .int .i64 (o : Int)] 68)).drew) (g := g) (a := c) (b := c + e') e' (l := l) (fun p hp => cell_keep hb67 (HBy.out p hp)) he2
            rw [Nat.add_sub_cancel_left, List.drop_take, Nat.add_sub_cancel_left] at this
            exact this
          have hadd := fun W => add_mk (loF sz m l o c) ((l.drop c).take e') (by rw [List.length_take]; omega) W
          have I8 : Hid (SLI w ((w6.alloc (.cells #[.int .i64 ((i : Int) / (m : Int)), .int .i64 (o : Int)] 68)).setCell ⟨B, o, none⟩ (.string (mkB (loF sz m l o c ++ (l.drop c).take e')))) sz m (.slice (some ⟨B, 0, none⟩) m m) (loC sz m l m (min ((i + 1) * sz) l.length))) := by
            show SLI _ _ _ _ _ _
            rw [HNx.out, HSt.out]
            exact I7.out.put (loC_len _ _ _ _ _)
          have HG8 : Hid (w5.grownBy ((w6.alloc (.cells #[.int .i64 ((i : Int) / (m : Int)), .int .i64 (o : Int)] 68)).setCell ⟨B, o, none⟩ (.string (mkB (loF sz m l o c ++ (l.drop c).take e')))) (some B)) := by
            have hg := HG7.out
            exact ⟨hg.os, hg.tape, hg.output, by simpa [World.setCell] using hg.size, fun x hx hne => (Below.heap_setCell _ _ _ x (fun e => hne (by rw [e]))).trans (hg.block x hx hne)⟩
          obtain ⟨y1, y2, -, -⟩ := id kp
          clear HON HSt hfl HG HG7 IK I7 HBy hbA hb67 kp x1 x2 u0
          generalize loF sz m l o c = S at *
          generalize (l.drop c).take e' = U at *
          have j2 : (0 : Int) ≤ (o : Int) := by omega
          have j3 : (o : Int) < (m : Int) := by omega
          go_wp2_with fail
          go_region
          have I9 := Lib.hid (I8.out.keep (Below.drew (Below.refl _ _)))
          have hbD : Below ((w6.alloc (.cells #[.int .i64 ((i : Int) / (m : Int)), .int .i64 (o : Int)] 68)).setCell ⟨B, o, none⟩ (.string (mkB (S ++ U)))).heap.size _ ((w6.alloc (.cells #[.int .i64 ((i : Int) / (m : Int)), .int .i64 (o : Int)] 68)).setCell ⟨B, o, none⟩ (.string (mkB (S ++ U)))).drew := Below.drew (Below.refl _ _)
          have HG9 : Hid (w5.grownBy ((w6.alloc (.cells #[.int .i64 ((i : Int) / (m : Int)), .int .i64 (o : Int)] 68)).setCell ⟨B, o, none⟩ (.string (mkB (S ++ U)))).drew (some B)) := by
            have hg := HG8.out
            exact ⟨hbD.os.trans hg.os, hbD.tape.trans hg.tape, hbD.output.trans hg.output, Nat.le_trans hg.size hbD.size, fun x hx hne => (hbD.block x (Nat.lt_of_lt_of_le hx hg.size)).trans (hg.block x hx hne)⟩
          clear I8 HG8 hbD q0 q1 y1 y2 hconv hadd
          go_wp2
          go_roundg (j - (i + 1))
          case measure => omega
          case rel => exact ⟨i + 1, rfl, by omega, by go_num, I9, HG9⟩
        · obtain rfl : i = j := by omega
          have hov := IK.out.own
          rw [Nat.min_eq_right hj1] at hov
          rw [loC_len] at hov
          have HOV : Hid (wr.ownsRow w.heap.size 9 1 (.slice (some ⟨B, 0, none⟩) m m) (loC sz m l m l.length).length (strs (loC sz m l m l.length))) := by
            show World.ownsRow _ _ _ _ _ _ _
            rw [loC_len]; exact own_base1 hov (show w.heap.size ≤ w.heap.size + 1 by omega)
          have HBL := Lib.hid IK.out.bel
          clear hov
          go_wp2
          go_ret
          exact ⟨_, rfl, HOV, HBL.out⟩
    · replace ht : tokB l = false := by simpa using ht
      rw [hy] at hok
      rw [ht] at htk
      have HO := Lib.hid hok
      have HT := Lib.hid htk
      have hL : loL size many l = [] := if_neg (fun c => by rw [ht] at c; exact absurd c.2 (by simp))
      rw [hL]
      clear hL hok htk hy ht
      go_enter Try.func12, Try.ntmps12
      go_wp2_with fail
      refine (HO.out _).mono ?_; rintro e w1 ⟨rfl, hb1⟩
      have e1 := hal.trans (hb1.mono hal.size)
      go_wp2_with fail
      refine (HT.out _).mono ?_; rintro e w2 ⟨rfl, rfl⟩
      go_wp2
      go_ret
      exact ⟨_, rfl, World.ownsRow_nil .., e1⟩
  · replace hy : layOkB size many = false := by simpa using hy
    rw [hy] at hok
    have HO := Lib.hid hok
    have hL : loL size many l = [] := if_neg (fun c => by rw [hy] at c; exact absurd c.1 (by simp))
    rw [hL]
    clear hL hok htk hy
    go_enter Try.func12, Try.ntmps12
    go_wp2_with fail
    refine (HO.out _).mono ?_; rintro e w1 ⟨rfl, hb1⟩
    have e1 := hal.trans (hb1.mono hal.size)
    go_wp2
    go_ret
    exact ⟨_, rfl, World.ownsRow_nil .., e1⟩

end Go.Proofs.Ytjbkahfbaploaaa
