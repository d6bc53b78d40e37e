/-
  laws.FnLayParts returns true at every code: the walk of the law. No condition.
-/
import Derived.Test.YteglfdcoeogilaaDrawLayParts
import Derived.Test.YteglfdcoeogilaaPartCollect
import Derived.Test.YteglfdcoeogilaaSpecParts
import Derived.Test.YteglfdcoeogilaaPartChain
import Derived.Test.YteglfdcoeogilaaCalm
namespace Go.Proofs.Yteglfdcoeogilaa.fnLayParts
open Go.RowKit

theorem new_two (w : World) (x y a b : Int) (T U : TypeId) : Box2 ((w.alloc (.cells #[.int .i64 x, .int .i64 y] T)).alloc (.cells #[.int .i64 a, .int .i64 b] U)) w.heap.size x y ∧ Box2 ((w.alloc (.cells #[.int .i64 x, .int .i64 y] T)).alloc (.cells #[.int .i64 a, .int .i64 b] U)) (w.heap.size + 1) a b :=
  ⟨(new_box w x y T).keep ((Below.refl _ _).alloc (Nat.le_refl _) _), by simpa using new_box (w.alloc (.cells #[.int .i64 x, .int .i64 y] T)) a b U⟩

set_option maxRecDepth 100000 in
set_option maxHeartbeats 8000000 in
theorem walk (v : Value) (len : Nat) (w : World) (h : Byt w v len) :
    Calls Try.prog 5 #[v] w fun e w' => e = .returned (.bool true) ∧ Below w.heap.size w w' := by
  have HB := Lib.hid h
  have hlen : len ≤ 9223372036854775807 := by obtain ⟨z, a, cap, -, h1, h2, -⟩ := h; unfold maxLen at h2; omega
  obtain ⟨z, a, cap, rfl, -, -, -⟩ := h
  by_cases hL : len ≤ 1048576
  · go_enter Try.func5, Try.ntmps5
    go_wp2_with fail
    refine (drawLayParts_any _ len _ HB.out).mono ?_; rintro e w1 ⟨size, many, lo, hi, rfl, hb1⟩
    obtain ⟨kl, ks⟩ := new_two w1 size many lo hi 24 35
    have hal1 : Below w1.heap.size w1 ((w1.alloc (.cells #[.int .i64 size, .int .i64 many] 24)).alloc (.cells #[.int .i64 lo, .int .i64 hi] 35)) := ((Below.refl _ _).alloc (Nat.le_refl _) _).alloc (by simp) _
    have e1 := hb1.trans (hal1.mono hb1.size)
    obtain ⟨L, hLl⟩ : ∃ L, lpL size many lo hi = L := ⟨_, rfl⟩
    have hlen48 : L.length ≤ 48 := by
      rw [← hLl]; unfold lpL
      split
      · next h => have h2 := spanOkB_iff.1 h.2; have := prS_len (size := size) (many := many) (lo := lo) (hi - lo).toNat; unfold prts; omega
      · simp
    have H1 : Hid (∀ X, Calls Try.prog 22 #[.agg #[.int .i64 size, .int .i64 many], .agg #[.int .i64 lo, .int .i64 hi]] X (RgP X L)) := fun X => by rw [← hLl]; exact implLayParts_any size many lo hi X
    have H2 : Hid (∀ X, Calls Try.prog 23 #[.agg #[.int .i64 size, .int .i64 many], .agg #[.int .i64 lo, .int .i64 hi]] X (RgP X L)) := fun X => by rw [← hLl]; exact specLayParts_any size many lo hi X
    have H3 := Lib.hid (fun W => specLayOk_any size many W)
    have H4 := Lib.hid (fun W => specSpanOk_any lo hi W)
    have HLl := Lib.hid hLl
    clear hLl
    obtain ⟨x1, x2, -, -⟩ := id kl
    obtain ⟨y1, y2, -, -⟩ := id ks
    go_wp2_with fail
    refine (H1.out _).mono ?_; rintro e w2 ⟨v1, rfl, ho2, hb2⟩
    have e2 := e1.trans (hb2.mono e1.size)
    have P2 := Lib.hid (own_pts ho2.out)
    have kl2 := kl.keep hb2
    have ks2 := ks.keep hb2
    clear x1 x2 y1 y2 ho2 hb2 kl ks hal1 hb1 e1
    obtain ⟨x1, x2, -, -⟩ := id kl2
    obtain ⟨y1, y2, -, -⟩ := id ks2
    go_wp2_with fail
    refine (H2.out _).mono ?_; rintro e w3 ⟨v2, rfl, ho3, hb3⟩
    have e3 := e2.trans (hb3.mono e2.size)
    have P3 := Lib.hid (P2.out.keep hb3)
    have Q3 := Lib.hid (own_pts ho3.out)
    have kl3 := kl2.keep hb3
    have ks3 := ks2.keep hb3
    clear x1 x2 y1 y2 ho3 hb3 kl2 ks2 P2 e2
    obtain ⟨a1, cap1, rfl, hl1, hm1, hc1⟩ := P3.out
    obtain ⟨a2, cap2, rfl, hl2, hm2, hc2⟩ := Q3.out
    unfold maxLen at hm1 hm2
    have HC1 := Lib.hid hc1
    have HC2 := Lib.hid hc2
    clear hc1 hc2
    by_cases hval : layOkB size many = true ∧ spanOkB lo hi = true
    · obtain ⟨hy, hs⟩ := hval
      obtain ⟨c1, c2, c3, c4⟩ := layOkB_iff.1 hy
      obtain ⟨b1, b2, b3⟩ := spanOkB_iff.1 hs
      have hch : Chain size many lo hi L := by
        have := HLl.out
        unfold lpL at this
        rw [if_pos ⟨hy, hs⟩] at this
        rw [← this]
        exact prts_chain hy b1 _ hi rfl (by omega) b3
      rw [hy] at H3
      rw [hs] at H4
      have HY := Lib.hid hy
      have HCh := Lib.hid hch
      have HLast := Lib.hid hch.last
      clear hy hs hch HLl
      obtain ⟨x1, x2, -, -⟩ := id kl3
      obtain ⟨y1, y2, -, -⟩ := id ks3
      go_wp2_with fail
      have KL := Lib.hid kl3
      have KS := Lib.hid ks3
      have E3 := Lib.hid e3
      clear x1 x2 y1 y2 kl3 ks3 e3
      go_loopg [7, 8] L.length (fun g s7 s8 wr => ∃ k : Nat, g = L.length - k ∧ k ≤ L.length ∧ s8 = .int .i64 k ∧ s7 = .int .i64 (nextF lo L k) ∧ Below w3.heap.size w3 wr)
      case atStart => exact ⟨0, rfl, Nat.zero_le _, rfl, rfl, Below.refl _ _⟩
      case round =>
        obtain ⟨k, rfl, hk, rfl, rfl, hbr⟩ := hrel
        by_cases hlt : k < L.length
        · have hne : L ≠ [] := fun e => by subst e; simp at hlt
          obtain ⟨b, off, rfl, hcc⟩ := HC1.out hne
          obtain ⟨b', off', rfl, hcc'⟩ := HC2.out hne
          have hg := HCh.out.good k hlt
          have HNx : Hid (nextF lo L (k + 1) = nextF lo L k + ((L.getD k pD).2.2.1 - (L.getD k pD).2.1)) := rfl
          have HP := Lib.hid (hcc k hlt)
          have HR := Lib.hid (hcc' k hlt)
          obtain ⟨x, hx⟩ : ∃ x, L.getD k pD = x := ⟨_, rfl⟩
          obtain ⟨f, hf⟩ : ∃ f, nextF lo L k = f := ⟨_, rfl⟩
          rw [hx] at hg HNx HP HR
          rw [hf] at hg HNx
          rw [hf]
          obtain ⟨o, xa, xb, fr⟩ := x
          obtain ⟨⟨g1, g2, g3, g4, g5, g6, g7⟩, g8⟩ := hg
          simp only at g1 g2 g3 g4 g5 g6 g7
          subst g1
          have HG7 := Lib.hid g7
          clear hcc hcc' hne g7 hx hf
          have i0 : (0 : Int) ≤ (k : Int) := by omega
          have i1 : (k : Int) < (L.length : Int) := by omega
          have facts : ∀ (W' : World), Below w3.heap.size w3 W' → ∀ X : BelowOf W', (X.w.cell? ⟨b, off + k * 4, none⟩ = some (.int .i64 o) ∧ X.w.cell? ⟨b, off + k * 4 + 1, none⟩ = some (.int .i64 xa) ∧ X.w.cell? ⟨b, off + k * 4 + 2, none⟩ = some (.int .i64 xb) ∧ X.w.cell? ⟨b, off + k * 4 + 3, none⟩ = some (.int .i64 fr)) ∧
              (X.w.cell? ⟨b', off' + k * 4, none⟩ = some (.int .i64 o) ∧ X.w.cell? ⟨b', off' + k * 4 + 1, none⟩ = some (.int .i64 xa) ∧ X.w.cell? ⟨b', off' + k * 4 + 2, none⟩ = some (.int .i64 xb) ∧ X.w.cell? ⟨b', off' + k * 4 + 3, none⟩ = some (.int .i64 fr)) ∧
              X.w.cell? ⟨w1.heap.size, 0, none⟩ = some (.int .i64 size) ∧ X.w.cell? ⟨w1.heap.size, 1, none⟩ = some (.int .i64 many) := fun W' hb' X =>
            ⟨⟨X.cell (cell_keep hb' HP.out.1), X.cell (cell_keep hb' HP.out.2.1), X.cell (cell_keep hb' HP.out.2.2.1), X.cell (cell_keep hb' HP.out.2.2.2)⟩, ⟨X.cell (cell_keep hb' HR.out.1), X.cell (cell_keep hb' HR.out.2.1), X.cell (cell_keep hb' HR.out.2.2.1), X.cell (cell_keep hb' HR.out.2.2.2)⟩, X.cell (cell_keep hb' KL.out.1), X.cell (cell_keep hb' KL.out.2.1)⟩
          have HFa := Lib.hid facts
          clear facts HP HR
          go_wp2_with fail
          have d0 : ∀ X : BelowOf wr, X.w.cell? ⟨b, off + k * 4, none⟩ = some (.int .i64 o) := fun X => (HFa.out wr hbr X).1.1
          have d1 : ∀ X : BelowOf wr, X.w.cell? ⟨b, off + k * 4 + 1, none⟩ = some (.int .i64 xa) := fun X => (HFa.out wr hbr X).1.2.1
          have d2 : ∀ X : BelowOf wr, X.w.cell? ⟨b, off + k * 4 + 2, none⟩ = some (.int .i64 xb) := fun X => (HFa.out wr hbr X).1.2.2.1
          have d3 : ∀ X : BelowOf wr, X.w.cell? ⟨b, off + k * 4 + 3, none⟩ = some (.int .i64 fr) := fun X => (HFa.out wr hbr X).1.2.2.2
          have d4 : ∀ X : BelowOf wr, X.w.cell? ⟨b', off' + k * 4, none⟩ = some (.int .i64 o) := fun X => (HFa.out wr hbr X).2.1.1
          have d5 : ∀ X : BelowOf wr, X.w.cell? ⟨b', off' + k * 4 + 1, none⟩ = some (.int .i64 xa) := fun X => (HFa.out wr hbr X).2.1.2.1
          have d6 : ∀ X : BelowOf wr, X.w.cell? ⟨b', off' + k * 4 + 2, none⟩ = some (.int .i64 xb) := fun X => (HFa.out wr hbr X).2.1.2.2.1
          have d7 : ∀ X : BelowOf wr, X.w.cell? ⟨b', off' + k * 4 + 3, none⟩ = some (.int .i64 fr) := fun X => (HFa.out wr hbr X).2.1.2.2.2
          refine wp_region_calm (by kernel_rfl) (by kernel_rfl) ?_
          repeat (go_big_quiet_step (fail))
          refine wpQuiet_nil ?_
          rintro _ ⟨X, rfl⟩
          have hbo := hbr.trans (X.below.mono hbr.size)
          clear d0 d1 d2 d3 d4 d5 d6 d7
          generalize X.w = wo at *
          have q1 := (HFa.out wo hbo ⟨wo, Below.refl _ _⟩).1.2.1
          dsimp only at q1
          go_wp2_with fail
          clear q1
          go_loopg [7, 9] (xb - xa).toNat (fun gi s7 s9 wi => ∃ j : Nat, gi = (xb - xa).toNat - j ∧ j ≤ (xb - xa).toNat ∧ s9 = .int .i64 (xa + j) ∧ s7 = .int .i64 (fr + j) ∧ Below w3.heap.size w3 wi)
          case atStart => exact ⟨0, rfl, Nat.zero_le _, by simp, by simp, hbo⟩
          case round =>
            obtain ⟨j, rfl, hj, rfl, rfl, hbi⟩ := hrel
            have q2 := (HFa.out wr hbi ⟨wr, Below.refl _ _⟩).1.2.2.1
            dsimp only at q2
            by_cases hjl : j < (xb - xa).toNat
            · have hg := HG7.out j (by omega) (by omega)
              have hlb : lbF size many o (xa + j) = fr + j := by
                rw [← hg.1, ← hg.2]; exact lbF_at HY.out (by omega) (by omega)
              have HL5 := Lib.hid (fun W => implLayBack_any size many o (xa + j) W)
              rw [hlb] at HL5
              clear hlb hg
              have hlt2 : xa + (j : Int) < xb := by omega
              go_wp2_with fail
              have d0 : ∀ X : BelowOf wr, X.w.cell? ⟨b, off + k * 4, none⟩ = some (.int .i64 o) := fun X => (HFa.out wr hbi X).1.1
              have d1 : ∀ X : BelowOf wr, X.w.cell? ⟨w1.heap.size, 0, none⟩ = some (.int .i64 size) := fun X => (HFa.out wr hbi X).2.2.1
              have d2 : ∀ X : BelowOf wr, X.w.cell? ⟨w1.heap.size, 1, none⟩ = some (.int .i64 many) := fun X => (HFa.out wr hbi X).2.2.2
              refine wp_region_calm (by kernel_rfl) (by kernel_rfl) ?_
              repeat (go_big_quiet_step (first | (go_at_call 18; exact Calls.calm (HL5.out _))))
              refine wpQuiet_nil ?_
              rintro _ ⟨X, rfl⟩
              have hbj := hbi.trans (X.below.mono hbi.size)
              clear d0 d1 d2 q2
              generalize X.w = wj at *
              have n1 : -1000 ≤ fr + (j : Int) ∧ fr + (j : Int) ≤ 1000 := by omega
              have n2 : 0 ≤ xa + (j : Int) := by omega
              go_wp2
              go_roundg ((xb - xa).toNat - (j + 1))
              case measure => omega
              case rel => exact ⟨j + 1, rfl, by omega, by rw [show xa + ((j + 1 : Nat) : Int) = xa + j + 1 by omega], by rw [show fr + ((j + 1 : Nat) : Int) = fr + j + 1 by omega], hbj⟩
            · have hje : xa + (j : Int) = xb := by omega
              have hfe : fr + (j : Int) = nextF lo L (k + 1) := by rw [HNx.out]; omega
              have HFe := Lib.hid hfe
              have hnl : ¬ xa + (j : Int) < xb := by omega
              clear hfe
              rw [hje]
              clear hje hnl
              obtain ⟨F, hF⟩ : ∃ F, fr + (j : Int) = F := ⟨_, rfl⟩
              rw [hF] at HFe ⊢
              clear hF
              go_wp2_with fail
              have d1 : ∀ X : BelowOf wr, X.w.cell? ⟨b, off + k * 4 + 1, none⟩ = some (.int .i64 xa) := fun X => (HFa.out wr hbi X).1.2.1
              have d2 : ∀ X : BelowOf wr, X.w.cell? ⟨b, off + k * 4 + 2, none⟩ = some (.int .i64 xb) := fun X => (HFa.out wr hbi X).1.2.2.1
              have d3 : ∀ X : BelowOf wr, X.w.cell? ⟨w1.heap.size, 0, none⟩ = some (.int .i64 size) := fun X => (HFa.out wr hbi X).2.2.1
              have j1 : IntKind.i64.wrap (xb - xa) = xb - xa := IntWalk.i64_in _ (by omega)
              refine wp_region_calm (by kernel_rfl) (by kernel_rfl) ?_
              repeat (go_big_quiet_step (fail))
              refine wpQuiet_nil ?_
              rintro _ ⟨X, rfl⟩
              have hbj := hbi.trans (X.below.mono hbi.size)
              clear d1 d2 d3 q2 j1
              generalize X.w = wj at *
              have hns : ¬ size < xb - xa := by omega
              go_wp2
              go_roundg (L.length - (k + 1))
              case measure => omega
              case rel => exact ⟨k + 1, rfl, by omega, by go_num, by rw [HFe.out], hbj⟩
        · obtain rfl : k = L.length := by omega
          have e4 := E3.out.trans (hbr.mono E3.out.size)
          obtain ⟨x1, x2, -, -⟩ := KL.out.keep hbr
          obtain ⟨y1, y2, -, -⟩ := KS.out.keep hbr
          rw [HLast.out]
          go_wp2_with fail
          refine (H3.out _).mono ?_; rintro e w5 ⟨rfl, hb5⟩
          have e5 := e4.trans (hb5.mono e4.size)
          clear x1 x2 y1 y2
          obtain ⟨x1, x2, -, -⟩ := (KL.out.keep hbr).keep hb5
          obtain ⟨y1, y2, -, -⟩ := (KS.out.keep hbr).keep hb5
          go_wp2_with fail
          refine (H4.out _).mono ?_; rintro e w6 ⟨rfl, hb6⟩
          have e6 := e5.trans (hb6.mono e5.size)
          clear x1 x2 y1 y2
          obtain ⟨y1, y2, -, -⟩ := ((KS.out.keep hbr).keep hb5).keep hb6
          go_wp2
          go_ret
          exact ⟨rfl, e6⟩
    · by_cases hy : layOkB size many = true
      · have hs : spanOkB lo hi = false := by
          cases hh : spanOkB lo hi with
          | false => rfl
          | true => exact absurd ⟨hy, hh⟩ hval
        have hL0 : L = [] := by have := HLl.out; unfold lpL at this; rw [if_neg hval] at this; exact this.symm
        subst hL0
        rw [hy] at H3
        rw [hs] at H4
        clear hy hs hval HLl
        obtain ⟨x1, x2, -, -⟩ := id kl3
        obtain ⟨y1, y2, -, -⟩ := id ks3
        go_wp2_with fail
        clear x1 x2 y1 y2
        go_loopg [7, 8] 0 (fun g s7 s8 wr => s8 = .int .i64 0 ∧ s7 = .int .i64 lo ∧ w3 = wr)
        case atStart => exact ⟨rfl, rfl, rfl⟩
        case round =>
          obtain ⟨rfl, rfl, rfl⟩ := hrel
          obtain ⟨x1, x2, -, -⟩ := id kl3
          obtain ⟨y1, y2, -, -⟩ := id ks3
          go_wp2_with fail
          refine (H3.out _).mono ?_; rintro e w5 ⟨rfl, hb5⟩
          have e5 := e3.trans (hb5.mono e3.size)
          clear x1 x2 y1 y2
          obtain ⟨x1, x2, -, -⟩ := kl3.keep hb5
          obtain ⟨y1, y2, -, -⟩ := ks3.keep hb5
          go_wp2_with fail
          refine (H4.out _).mono ?_; rintro e w6 ⟨rfl, hb6⟩
          have e6 := e5.trans (hb6.mono e5.size)
          go_wp2
          go_ret
          exact ⟨rfl, e6⟩
      · replace hy : layOkB size many = false := by simpa using hy
        have hL0 : L = [] := by have := HLl.out; unfold lpL at this; rw [if_neg hval] at this; exact this.symm
        subst hL0
        rw [hy] at H3
        clear hy hval HLl
        obtain ⟨x1, x2, -, -⟩ := id kl3
        obtain ⟨y1, y2, -, -⟩ := id ks3
        go_wp2_with fail
        clear x1 x2 y1 y2
        go_loopg [7, 8] 0 (fun g s7 s8 wr => s8 = .int .i64 0 ∧ s7 = .int .i64 lo ∧ w3 = wr)
        case atStart => exact ⟨rfl, rfl, rfl⟩
        case round =>
          obtain ⟨rfl, rfl, rfl⟩ := hrel
          obtain ⟨x1, x2, -, -⟩ := id kl3
          obtain ⟨y1, y2, -, -⟩ := id ks3
          go_wp2_with fail
          refine (H3.out _).mono ?_; rintro e w5 ⟨rfl, hb5⟩
          have e5 := e3.trans (hb5.mono e3.size)
          go_wp2
          go_ret
          exact ⟨rfl, e5⟩
  · go_enter Try.func5, Try.ntmps5
    go_wp2
    go_ret
    exact ⟨rfl, Below.refl _ _⟩

end Go.Proofs.Yteglfdcoeogilaa.fnLayParts
