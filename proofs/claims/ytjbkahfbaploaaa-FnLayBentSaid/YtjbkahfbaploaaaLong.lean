/-
  Contracts: LayLong of both sides, l3Long.
-/
import Derived.Test.YtjbkahfbaploaaaLayFn
import Derived.Test.YtjbkahfbaploaaaLongMath
import Derived.Test.YtjbkahfbaploaaaVls
import Derived.Deep.LoopGhost
import Derived.Test.YtjbkahfbaploaaaCalm
import Derived.Test.YtjbkahfbaploaaaMeetW
namespace Go.Proofs.Ytjbkahfbaploaaa
open Go.RowKit

abbrev ints (L : Nat → Int) : Nat → Value := fun i => .int .i64 (L i)

theorem llF_end {size many : Int} {n : Nat} {L : Nat → Int} (h1 : layOkB size many = true) (h2 : (n : Int) = many) (h3 : okL L n = true) :
    llF size many n L = if 48 < lmax size many L n then -1 else lmax size many L n := by
  by_cases h : 48 < lmax size many L n
  · rw [if_pos h, llF_long h]
  · rw [if_neg h, llF_ok h1 h2 h3 (by omega)]

set_option maxHeartbeats 4000000 in
theorem implLayLong_any (size many : Int) (v : Value) (n : Nat) (L : Nat → Int) (w : World) (h : Vls w v n (ints L)) :
    Calls Try.prog 13 #[.agg #[.int .i64 size, .int .i64 many], v] w fun e w' => e = .returned (.int .i64 (llF size many n L)) ∧ Below w.heap.size w w' := by
  have k := new_box w size many 24
  have hal : Below w.heap.size w (w.alloc (.cells #[.int .i64 size, .int .i64 many] 24)) := (Below.refl _ _).alloc (Nat.le_refl _) _
  have hok := fun W => implLayOk_any size many W
  obtain ⟨a, cap, rfl, hl, hm, hc⟩ := h.keep hal
  unfold maxLen at hm
  have HC := Lib.hid hc
  clear hc h
  by_cases hv : layOkB size many = true ∧ (n : Int) = many
  · obtain ⟨hy, hn⟩ := hv
    obtain ⟨c1, c2, c3, c4⟩ := layOkB_iff.1 hy
    rw [hy] at hok
    have HO := Lib.hid hok
    have HY := Lib.hid hy
    have HE := Lib.hid (fun h3 => llF_end (L := L) hy hn h3)
    have HN := Lib.hid hn
    have hb0 : ((n : Int) != many) = false := by simp [hn]
    have hn3 : n ≤ 3 := by omega
    clear hy hok hn
    go_enter Try.func13, Try.ntmps13
    go_wp2_with fail
    refine (HO.out _).mono ?_; rintro e w1 ⟨rfl, hb1⟩
    have e1 := hal.trans (hb1.mono hal.size)
    have k1 := k.keep hb1
    have HB1 := Lib.hid hb1
    obtain ⟨x1, x2, -, -⟩ := id k1
    clear hb0
    have hb0 : ((n : Int) != many) = false := by have := HN.out; simp [this]
    go_wp2_with fail
    have HK := Lib.hid k1
    have HE1 := Lib.hid e1
    clear x1 x2 e1 k1 k hal hb1 hb0
    go_loopg [5, 20] n (fun g s5 s20 wr => ∃ k : Nat, g = n - k ∧ k ≤ n ∧ s20 = .int .i64 k ∧ s5 = .int .i64 (lmax size many L k) ∧ Hid (okL L k = true) ∧ Below w1.heap.size w1 wr)
    case atStart => exact ⟨0, rfl, Nat.zero_le _, rfl, rfl, rfl, Below.refl _ _⟩
    case round =>
      obtain ⟨k, rfl, hk, rfl, rfl, HL, hbr⟩ := hrel
      have lb := lmax_bd HY.out HL.out (by have := HN.out; omega)
      obtain ⟨lb1, lb2⟩ := lb
      by_cases hlt : k < n
      · obtain ⟨b, off, rfl, hcc⟩ := HC.out (by omega)
        have c0 : wr.cell? ⟨b, off + k, none⟩ = some (.int .i64 (L k)) := cell_keep hbr (cell_keep HB1.out (hcc k hlt))
        have i0 : (0 : Int) ≤ (k : Int) := by omega
        have i1 : (k : Int) < (n : Int) := by omega
        have i2 : (k : Int) < many := by have := HN.out; omega
        have kr := HK.out.keep hbr
        obtain ⟨x1, x2, -, -⟩ := id kr
        have e2 := HE1.out.trans (hbr.mono HE1.out.size)
        by_cases hbad : 0 ≤ L k ∧ L k ≤ 48
        · obtain ⟨g1, g2⟩ := hbad
          have HL2 := Lib.hid (okL_step HL.out ⟨g1, g2⟩)
          by_cases hp : 0 < L k
          · have HS := Lib.hid (lmax_pos (size := size) (many := many) hp)
            have bb := back_bd (a := L k - 1) HY.out i0 i2 (by omega)
            have HBk := Lib.hid (fun W => layBack_any size many (k : Int) (L k - 1) W HY.out i0 i2 (by omega) (by omega))
            generalize backF size many (k : Int) (L k - 1) = B at *
            generalize lmax size many L k = M at *
            generalize L k = y at *
            by_cases hmx : B + 1 < M
            · have HS2 : Hid (M = lmax size many L (k + 1)) := by show _ = _; rw [HS.out, if_pos hmx]
              clear HS
              go_wp2_with fail
              refine (HBk.out _).mono ?_; rintro e w2 ⟨rfl, hb2⟩
              have hbn := hbr.trans (hb2.mono hbr.size)
              go_wp2
              all_goals
                go_roundg (n - (k + 1))
                case measure => omega
                case rel => exact ⟨k + 1, rfl, by omega, by go_num, by rw [HS2.out], HL2, hbn⟩
            · by_cases hme : B + 1 = M
              · have HS2 : Hid (M = lmax size many L (k + 1)) := by show _ = _; rw [HS.out, if_neg hmx]; exact hme.symm
                clear HS hmx
                subst hme
                go_wp2_with fail
                refine (HBk.out _).mono ?_; rintro e w2 ⟨rfl, hb2⟩
                have hbn := hbr.trans (hb2.mono hbr.size)
                go_wp2
                all_goals
                  go_roundg (n - (k + 1))
                  case measure => omega
                  case rel => exact ⟨k + 1, rfl, by omega, by go_num, by rw [HS2.out], HL2, hbn⟩
              · have HS2 : Hid (B + 1 = lmax size many L (k + 1)) := by show _ = _; rw [HS.out, if_neg hmx]
                clear HS
                have hmx2 : M < B + 1 := by omega
                go_wp2_with fail
                refine (HBk.out _).mono ?_; rintro e w2 ⟨rfl, hb2⟩
                have hbn := hbr.trans (hb2.mono hbr.size)
                go_wp2
                all_goals
                  go_roundg (n - (k + 1))
                  case measure => omega
                  case rel => exact ⟨k + 1, rfl, by omega, by go_num, by rw [HS2.out], HL2, hbn⟩
          · have HS := Lib.hid (lmax_zero (size := size) (many := many) hp)
            generalize lmax size many L k = M at *
            generalize L k = y at *
            go_wp2
            go_roundg (n - (k + 1))
            case measure => omega
            case rel => exact ⟨k + 1, rfl, by omega, by go_num, by rw [HS.out], HL2, hbr⟩
        · have HR := Lib.hid (llF_bad (size := size) (many := many) (okL_bad hlt hbad))
          generalize lmax size many L k = M at *
          have hd : L k < 0 ∨ 48 < L k := by omega
          generalize L k = y at *
          rcases hd with hd | hd
          · go_wp2
            go_ret
            exact ⟨ret_num HR.out.symm, e2⟩
          · have hd2 : 0 ≤ y := by omega
            go_wp2
            go_ret
            exact ⟨ret_num HR.out.symm, e2⟩
      · obtain rfl : k = n := by omega
        have HR := Lib.hid (HE.out HL.out)
        generalize lmax size many L k = M at *
        have e2 := HE1.out.trans (hbr.mono HE1.out.size)
        by_cases hm : 48 < M
        · go_wp2
          go_ret
          exact ⟨ret_num (by rw [HR.out, if_pos (by omega)]), e2⟩
        · go_wp2
          go_ret
          exact ⟨ret_num (by rw [HR.out, if_neg (by omega)]), e2⟩
  · rw [llF_form hv]
    by_cases hy : layOkB size many = true
    · rw [hy] at hok
      have HO := Lib.hid hok
      have hne : ¬ ((n : Int) = many) := fun e => hv ⟨hy, e⟩
      have hb0 : ((n : Int) != many) = true := by simpa using hne
      clear hy hok hv hne
      go_enter Try.func13, Try.ntmps13
      go_wp2_with fail
      refine (HO.out _).mono ?_; rintro e w1 ⟨rfl, hb1⟩
      have e1 := hal.trans (hb1.mono hal.size)
      obtain ⟨x1, x2, -, -⟩ := k.keep hb1
      go_wp2
      go_ret
      exact ⟨rfl, e1⟩
    · replace hy : layOkB size many = false := by simpa using hy
      rw [hy] at hok
      have HO := Lib.hid hok
      clear hy hok hv
      go_enter Try.func13, Try.ntmps13
      go_wp2_with fail
      refine (HO.out _).mono ?_; rintro e w1 ⟨rfl, hb1⟩
      have e1 := hal.trans (hb1.mono hal.size)
      go_wp2
      go_ret
      exact ⟨rfl, e1⟩



end Go.Proofs.Ytjbkahfbaploaaa
