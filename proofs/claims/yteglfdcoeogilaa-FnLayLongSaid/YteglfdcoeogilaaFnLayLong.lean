/-
  laws.FnLayLong returns true at every code: the walk of the law. No condition.
-/
import Derived.Test.YteglfdcoeogilaaDrawLayLong
import Derived.Test.YteglfdcoeogilaaLong
import Derived.Test.YteglfdcoeogilaaLongLaws
namespace Go.Proofs.Yteglfdcoeogilaa.fnLayLong
open Go.RowKit

set_option maxRecDepth 100000 in
set_option maxHeartbeats 8000000 in
theorem walk (v : Value) (len : Nat) (w : World) (h : Byt w v len) :
    Calls Try.prog 7 #[v] w fun e w' => e = .returned (.bool true) ∧ Below w.heap.size w w' := by
  have HB := Lib.hid h
  have hlen : len ≤ 9223372036854775807 := by obtain ⟨z, a, cap, -, h1, h2, -⟩ := h; unfold maxLen at h2; omega
  obtain ⟨z, a, cap, rfl, -, -, -⟩ := h
  by_cases hL : len ≤ 1048576
  · go_enter Try.func7, Try.ntmps7
    go_wp2_with fail
    refine (drawLayLong_any _ len _ HB.out).mono ?_; rintro e w1 ⟨size, many, u, L, rfl, HV, hLb, hL6, hb1⟩
    have kb := new_box w1 size many 24
    have hal1 : Below w1.heap.size w1 (w1.alloc (.cells #[.int .i64 size, .int .i64 many] 24)) := (Below.refl _ _).alloc (Nat.le_refl _) _
    have e1 := hb1.trans (hal1.mono hb1.size)
    have V1 := Lib.hid (HV.out.keep hal1)
    obtain ⟨f, hf⟩ : ∃ f : Nat → Int, (fun i => L.getD i 0) = f := ⟨_, rfl⟩
    have hfb : ∀ i, -1 ≤ f i ∧ f i ≤ 49 := fun i => by
      rw [← hf]
      show -1 ≤ L.getD i 0 ∧ L.getD i 0 ≤ 49
      rw [List.getD_eq_getElem?_getD]
      by_cases hi : i < L.length
      · rw [List.getElem?_eq_getElem hi]; exact hLb _ (List.getElem_mem hi)
      · rw [List.getElem?_eq_none (by omega)]; exact ⟨by show (-1 : Int) ≤ 0; omega, by show (0 : Int) ≤ 49; omega⟩
    have V2 : Hid (Vls (w1.alloc (.cells #[.int .i64 size, .int .i64 many] 24)) u L.length (ints f)) := by
      have := V1.out
      rw [← hf]; exact this
    have HFB := Lib.hid hfb
    obtain ⟨n, hn⟩ : ∃ n, L.length = n := ⟨_, rfl⟩
    rw [hn] at V2 hL6
    clear hf hfb V1 HV hLb hn
    obtain ⟨N, hN⟩ : ∃ N, llF size many n f = N := ⟨_, rfl⟩
    have H1 : Hid (∀ W, Vls W u n (ints f) → Calls Try.prog 30 #[.agg #[.int .i64 size, .int .i64 many], u] W fun e w' => e = .returned (.int .i64 N) ∧ Below W.heap.size W w') := fun W hu => by
      have := implLayLong_any size many u n f W hu; rwa [hN] at this
    have H2 : Hid (∀ W, Vls W u n (ints f) → Calls Try.prog 32 #[.agg #[.int .i64 size, .int .i64 many], u] W fun e w' => e = .returned (.int .i64 N) ∧ Below W.heap.size W w') := fun W hu => by
      have := specLayLong_any size many u n f W hu; rwa [hN] at this
    have HN := Lib.hid hN
    clear hN
    obtain ⟨x1, x2, -, -⟩ := id kb
    go_wp2_with fail
    refine (H1.out _ V2.out).mono ?_; rintro e w2 ⟨rfl, hb2⟩
    have e2 := e1.trans (hb2.mono e1.size)
    have k2 := kb.keep hb2
    have V3 := Lib.hid (V2.out.keep hb2)
    clear x1 x2 V2 kb hal1 hb1 e1 hb2
    obtain ⟨x1, x2, -, -⟩ := id k2
    go_wp2_with fail
    refine (H2.out _ V3.out).mono ?_; rintro e w3 ⟨rfl, hb3⟩
    have e3 := e2.trans (hb3.mono e2.size)
    have k3 := k2.keep hb3
    have V4 := Lib.hid (V3.out.keep hb3)
    clear x1 x2 V3 k2 e2 hb3
    obtain ⟨x1, x2, -, -⟩ := id k3
    by_cases hneg : N = -1
    · subst hneg
      go_wp2_with fail
      refine (H2.out _ V4.out).mono ?_; rintro e w4 ⟨rfl, hb4⟩
      have e4 := e3.trans (hb4.mono e3.size)
      go_wp2
      go_ret
      exact ⟨rfl, e4⟩
    · have hval := llF_valid (size := size) (many := many) (n := n) (L := f) (by rw [HN.out]; exact hneg)
      obtain ⟨hy, hnm, hok, hm48, hlm⟩ := hval
      have hN2 : lmax size many f n = N := by rw [← hlm]; exact HN.out
      have hbd := lmax_bd hy hok (by omega)
      rw [hN2] at hbd hm48
      obtain ⟨n0, -⟩ := hbd
      have HY := Lib.hid hy
      have HNM := Lib.hid hnm
      have HOK := Lib.hid hok
      have HN2 := Lib.hid hN2
      have HNE := Lib.hid hneg
      have hn3 : n ≤ 3 := by have := (layOkB_iff.1 hy).2.2.2; omega
      have hn1 : 1 ≤ n := by have := (layOkB_iff.1 hy).2.2.1; omega
      clear hy hnm hok hlm hN2 hneg
      obtain ⟨a', cap', rfl, hl', hm', hc'⟩ := V4.out
      unfold maxLen at hm'
      obtain ⟨b, off, rfl, hcc⟩ := hc' (by omega)
      have HC := Lib.hid hcc
      clear hc' hcc
      obtain ⟨i0, hi, hz0, hz1, hz2⟩ := info_parts infoIntR
      have HI0 : Hid (Try.prog.info? 3 = some i0 ∧ i0.zero = some (.int .i64 0) ∧ i0.size = 1 ∧ i0.bytes = 8) := ⟨hi, hz0, hz1, hz2⟩
      clear hi hz0 hz1 hz2
      go_wp2_with fail
      have HK := Lib.hid k3
      have HE := Lib.hid e3
      clear x1 x2 k3 e3
      go_loopg [6, 7] n (fun g s6 s7 wr => ∃ k : Nat, g = n - k ∧ k ≤ n ∧ s7 = .int .i64 k ∧ s6 = .bool (farB size many f N k) ∧ Below w3.heap.size w3 wr)
      case atStart => exact ⟨0, rfl, Nat.zero_le _, rfl, rfl, Below.refl _ _⟩
      case round =>
        obtain ⟨k, rfl, hk, rfl, rfl, hbr⟩ := hrel
        have e4 := HE.out.trans (hbr.mono HE.out.size)
        by_cases hlt : k < n
        · have c0 : wr.cell? ⟨b, off + k, none⟩ = some (.int .i64 (f k)) := cell_keep hbr (HC.out k hlt)
          have kr := HK.out.keep hbr
          obtain ⟨x1, x2, -, -⟩ := id kr
          have g12 := okL_at HOK.out hlt
          obtain ⟨g1, g2⟩ := g12
          have i0' : (0 : Int) ≤ (k : Int) := by omega
          have i1' : (k : Int) < (n : Int) := by omega
          by_cases hp : 0 < f k
          · have hB := lmax_ge (size := size) (many := many) hp hlt
            have hbb := back_bd (a := f k - 1) HY.out i0' (by have := HNM.out; omega) (by omega)
            rw [HN2.out] at hB
            have hlb : lbF size many (k : Int) (f k - 1) = backF size many (k : Int) (f k - 1) := lbF_yes HY.out i0' (by have := HNM.out; omega) (by omega) (by omega) (by omega)
            have H5 := Lib.hid (fun W => implLayBack_any size many (k : Int) (f k - 1) W)
            rw [hlb] at H5
            have HF0 : Hid (farB size many f N (k + 1) = (farB size many f N k || decide (backF size many (k : Int) (f k - 1) = N - 1))) := by
              show (_ || _) = _
              have : decide (0 < f k) = true := by simpa using hp
              rw [this]; simp
            clear hlb
            generalize backF size many (k : Int) (f k - 1) = B at *
            obtain ⟨hbb0, -⟩ := hbb
            obtain ⟨y, hy⟩ : ∃ y, f k = y := ⟨_, rfl⟩
            rw [hy] at c0 H5 g1 g2 hp hbb0
            have HFy := Lib.hid hy
            clear hy
            have j1 : IntKind.i64.wrap (y - 1) = y - 1 := IntWalk.i64_in _ (by omega)
            have d0 : ∀ x : BelowOf wr, x.w.cell? ⟨w1.heap.size, 0, none⟩ = some (.int .i64 size) := fun x => x.cell kr.1
            have d1 : ∀ x : BelowOf wr, x.w.cell? ⟨w1.heap.size, 1, none⟩ = some (.int .i64 many) := fun x => x.cell kr.2.1
            have d2 : ∀ x : BelowOf wr, x.w.cell? ⟨b, off + k, none⟩ = some (.int .i64 y) := fun x => x.cell c0
            go_wp2_with fail
            refine wp_region_calm (by kernel_rfl) (by kernel_rfl) ?_
            repeat (go_big_quiet_step (first | (go_at_call 18; exact Calls.calm (H5.out _))))
            refine wpQuiet_nil ?_
            rintro _ ⟨x, rfl⟩
            have hbx := x.below
            have hbn := hbr.trans (hbx.mono hbr.size)
            have krx := kr.keep hbx
            have c0x := x.cell c0
            clear d0 d1 d2 j1 x1 x2
            generalize x.w = wx at *
            obtain ⟨x1, x2, -, -⟩ := id krx
            have hB1 : B < N := by omega
            have hB0 : 0 ≤ B := by omega
            cases hF : farB size many f N k with
            | true =>
              have HF : Hid (farB size many f N (k + 1) = true) := by show _ = _; rw [HF0.out, hF]; rfl
              have HFk := Lib.hid hF
              clear hF HF0
              have c0 := c0x
              clear c0x
              have hsz9 : wx.heap.size ≤ wx.heap.size := Nat.le_refl _
              have hal9 : Below wx.heap.size wx (wx.alloc (.cells #[] 3)) := (Below.refl _ _).alloc (Nat.le_refl _) _
              have HO9 := Lib.hid (new_row1 wx 3 hsz9)
              have HC9 : Hid (∀ (j : Nat) (u : Value), ((List.range n).map (ints f))[j]? = some u → (wx.alloc (.cells #[] 3)).cell? ((⟨b, off, none⟩ : Addr).add j) = some u) := fun j u hj => by
                rw [List.getElem?_map] at hj
                by_cases hjn : j < n
                · rw [List.getElem?_range hjn] at hj
                  simp at hj
                  subst hj
                  have ha : (⟨b, off, none⟩ : Addr).add j = ⟨b, off + j, none⟩ := by
                    rcases Nat.eq_zero_or_pos j with e | e
                    · subst e; simp [Addr.add]
                    · simp [Addr.add, Nat.ne_of_gt e]
                  rw [ha]
                  exact cell_keep hal9 (cell_keep hbn (HC.out j hjn))
                · rw [List.getElem?_eq_none (by simpa using hjn)] at hj
                  simp at hj
              have HB9 := Lib.hid (hbn.trans (hal9.mono hbn.size))
              have HK9 := Lib.hid ((HK.out.keep hbn).keep hal9)
              clear hsz9 hal9
              go_wp2_with (at_builtin; refine wpList_append_own _ rfl _ _ 47 rfl wx.heap.size 3 i0 (.int .i64 0) 1 8 Try.underlying47 HI0.out.1 HI0.out.2.1 HI0.out.2.2.1 HI0.out.2.2.2 rfl (by decide) _ 0 [] rfl HO9.out ⟨b, off, none⟩ n cap' ((List.range n).map (ints f)) rfl (by simp) HC9.out ?c2 ?c3 ?c4 ?c5 ?_)
              case c2 => first | (intro x hx; rw [List.mem_map] at hx; obtain ⟨j, -, rfl⟩ := hx; rfl) | (intros; rfl) | simp [Value.oneCell']
              case c3 => unfold maxLen; omega
              case c4 => omega
              try (case c5 => first | omega | (simp; done))
              intro v' w9 hown' hgrow _
              rcases hown'.2 with ⟨-, h0⟩ | ⟨g9, cap9, cur9, rfl, hg9, -⟩
              · exact absurd h0 (by omega)
              have hr9 := own_row1 hown'
              have hcap9 := own_cap1 hown'
              have hr10 : Row1 w9 g9 n (ints f) := hr9.congr fun i hi => by
                simp [List.getD_eq_getElem?_getD, hi]
              have hrs := hr10.set (x := .int .i64 (f k + 1)) hlt
              have HM : Hid (Vls (w9.setCell ⟨g9, k, none⟩ (.int .i64 (f k + 1))) (.slice (some ⟨g9, 0, none⟩) n cap9) n (ints (fun j => if j = k then f k + 1 else f j))) := (hrs.congr fun i hi => by
                show (if i = k then Value.int .i64 (f k + 1) else Value.int .i64 (f i)) = Value.int .i64 (if i = k then f k + 1 else f i)
                split <;> rfl).vls hcap9.1 hcap9.2
              obtain ⟨z1, z2⟩ := hr10 k hlt
              have hgw : (wx.alloc (.cells #[] 3)).grownBy w9 (some wx.heap.size) := hgrow
              have hlt3 : w1.heap.size < w3.heap.size := World.block_lt_of_cell? _ _ HK.out.1
              have hszX := hbn.size
              have hb9 := HB9.out.trans (below_grown hgw hszX (by simp; omega))
              have kb9 := HK9.out.grown hgw (by omega)
              have hb10 : Below w3.heap.size w3 (w9.setCell ⟨g9, k, none⟩ (.int .i64 (f k + 1))) := hb9.setCell (by simp only; omega) _
              have kb10 : Box2 (w9.setCell ⟨g9, k, none⟩ (.int .i64 (f k + 1))) w1.heap.size size many := by
                obtain ⟨p1, p2, p3, p4⟩ := kb9
                have hne : g9 ≠ w1.heap.size := by omega
                exact ⟨by rw [World.cell?_setCell_far _ _ _ _ hne]; exact p1, by rw [World.cell?_setCell_far _ _ _ _ hne]; exact p2, by go_simp, by go_simp⟩
              have HB10 := Lib.hid hb10
              have HMore := Lib.hid (llF_more (size := size) (many := many) (n := n) (i := k) (L := f) (by rw [HN.out]; exact HNE.out))
              have HQ := Lib.hid (fun W hW => implLayLong_any size many (.slice (some ⟨g9, 0, none⟩) n cap9) n (fun j => if j = k then f k + 1 else f j) W hW)
              obtain ⟨Z, hZ⟩ : ∃ Z, llF size many n (fun j => if j = k then f k + 1 else f j) = Z := ⟨_, rfl⟩
              rw [hZ] at HMore HQ
              have hmz : Z = -1 ∨ N ≤ Z := by have := HMore.out; rwa [HN.out] at this
              have fk := HFB.out k
              clear hZ HMore hr9 hr10 hrs hown' hgrow hgw hb9 kb9 hb10 HB9 HK9 HO9 HC9 x1 x2 c0
              have z1' : w9.cell? ⟨g9, k, none⟩ = some (.int .i64 (f k)) := z1
              clear z1
              obtain ⟨x1, x2, -, -⟩ := id kb10
              go_wp2_with fail
              refine (HQ.out _ HM.out).mono ?_; rintro e w11 ⟨rfl, hb11⟩
              have hb12 := HB10.out.trans (hb11.mono HB10.out.size)
              rcases hmz with hmz | hmz
              · subst hmz
                go_wp2
                go_roundg (n - (k + 1))
                case measure => omega
                case rel => exact ⟨k + 1, rfl, by omega, by go_num, by rw [HF.out], hb12⟩
              · have hz0 : 0 ≤ Z := by omega
                go_wp2
                go_roundg (n - (k + 1))
                case measure => omega
                case rel => exact ⟨k + 1, rfl, by omega, by go_num, by rw [HF.out], hb12⟩
            | false =>
              have HFk := Lib.hid hF
              by_cases hBN : B = N - 1
              · have HF : Hid (farB size many f N (k + 1) = true) := by show _ = _; rw [HF0.out, hF, hBN]; simp
                have hbe : (B == N - 1) = true := by simp [hBN]
                clear hF HF0
                have c0 := c0x
                clear c0x
                have hsz9 : wx.heap.size ≤ wx.heap.size := Nat.le_refl _
                have hal9 : Below wx.heap.size wx (wx.alloc (.cells #[] 3)) := (Below.refl _ _).alloc (Nat.le_refl _) _
                have HO9 := Lib.hid (new_row1 wx 3 hsz9)
                have HC9 : Hid (∀ (j : Nat) (u : Value), ((List.range n).map (ints f))[j]? = some u → (wx.alloc (.cells #[] 3)).cell? ((⟨b, off, none⟩ : Addr).add j) = some u) := fun j u hj => by
                  rw [List.getElem?_map] at hj
                  by_cases hjn : j < n
                  · rw [List.getElem?_range hjn] at hj
                    simp at hj
                    subst hj
                    have ha : (⟨b, off, none⟩ : Addr).add j = ⟨b, off + j, none⟩ := by
                      rcases Nat.eq_zero_or_pos j with e | e
                      · subst e; simp [Addr.add]
                      · simp [Addr.add, Nat.ne_of_gt e]
                    rw [ha]
                    exact cell_keep hal9 (cell_keep hbn (HC.out j hjn))
                  · rw [List.getElem?_eq_none (by simpa using hjn)] at hj
                    simp at hj
                have HB9 := Lib.hid (hbn.trans (hal9.mono hbn.size))
                have HK9 := Lib.hid ((HK.out.keep hbn).keep hal9)
                clear hsz9 hal9
                go_wp2_with (at_builtin; refine wpList_append_own _ rfl _ _ 47 rfl wx.heap.size 3 i0 (.int .i64 0) 1 8 Try.underlying47 HI0.out.1 HI0.out.2.1 HI0.out.2.2.1 HI0.out.2.2.2 rfl (by decide) _ 0 [] rfl HO9.out ⟨b, off, none⟩ n cap' ((List.range n).map (ints f)) rfl (by simp) HC9.out ?c2 ?c3 ?c4 ?c5 ?_)
                case c2 => first | (intro x hx; rw [List.mem_map] at hx; obtain ⟨j, -, rfl⟩ := hx; rfl) | (intros; rfl) | simp [Value.oneCell']
                case c3 => unfold maxLen; omega
                case c4 => omega
                try (case c5 => first | omega | (simp; done))
                intro v' w9 hown' hgrow _
                rcases hown'.2 with ⟨-, h0⟩ | ⟨g9, cap9, cur9, rfl, hg9, -⟩
                · exact absurd h0 (by omega)
                have hr9 := own_row1 hown'
                have hcap9 := own_cap1 hown'
                have hr10 : Row1 w9 g9 n (ints f) := hr9.congr fun i hi => by
                  simp [List.getD_eq_getElem?_getD, hi]
                have hrs := hr10.set (x := .int .i64 (f k + 1)) hlt
                have HM : Hid (Vls (w9.setCell ⟨g9, k, none⟩ (.int .i64 (f k + 1))) (.slice (some ⟨g9, 0, none⟩) n cap9) n (ints (fun j => if j = k then f k + 1 else f j))) := (hrs.congr fun i hi => by
                  show (if i = k then Value.int .i64 (f k + 1) else Value.int .i64 (f i)) = Value.int .i64 (if i = k then f k + 1 else f i)
                  split <;> rfl).vls hcap9.1 hcap9.2
                obtain ⟨z1, z2⟩ := hr10 k hlt
                have hgw : (wx.alloc (.cells #[] 3)).grownBy w9 (some wx.heap.size) := hgrow
                have hlt3 : w1.heap.size < w3.heap.size := World.block_lt_of_cell? _ _ HK.out.1
                have hszX := hbn.size
                have hb9 := HB9.out.trans (below_grown hgw hszX (by simp; omega))
                have kb9 := HK9.out.grown hgw (by omega)
                have hb10 : Below w3.heap.size w3 (w9.setCell ⟨g9, k, none⟩ (.int .i64 (f k + 1))) := hb9.setCell (by simp only; omega) _
                have kb10 : Box2 (w9.setCell ⟨g9, k, none⟩ (.int .i64 (f k + 1))) w1.heap.size size many := by
                  obtain ⟨p1, p2, p3, p4⟩ := kb9
                  have hne : g9 ≠ w1.heap.size := by omega
                  exact ⟨by rw [World.cell?_setCell_far _ _ _ _ hne]; exact p1, by rw [World.cell?_setCell_far _ _ _ _ hne]; exact p2, by go_simp, by go_simp⟩
                have HB10 := Lib.hid hb10
                have HMore := Lib.hid (llF_more (size := size) (many := many) (n := n) (i := k) (L := f) (by rw [HN.out]; exact HNE.out))
                have HQ := Lib.hid (fun W hW => implLayLong_any size many (.slice (some ⟨g9, 0, none⟩) n cap9) n (fun j => if j = k then f k + 1 else f j) W hW)
                obtain ⟨Z, hZ⟩ : ∃ Z, llF size many n (fun j => if j = k then f k + 1 else f j) = Z := ⟨_, rfl⟩
                rw [hZ] at HMore HQ
                have hmz : Z = -1 ∨ N ≤ Z := by have := HMore.out; rwa [HN.out] at this
                have fk := HFB.out k
                clear hZ HMore hr9 hr10 hrs hown' hgrow hgw hb9 kb9 hb10 HB9 HK9 HO9 HC9 x1 x2 c0
                have z1' : w9.cell? ⟨g9, k, none⟩ = some (.int .i64 (f k)) := z1
                clear z1
                obtain ⟨x1, x2, -, -⟩ := id kb10
                go_wp2_with fail
                refine (HQ.out _ HM.out).mono ?_; rintro e w11 ⟨rfl, hb11⟩
                have hb12 := HB10.out.trans (hb11.mono HB10.out.size)
                rcases hmz with hmz | hmz
                · subst hmz
                  go_wp2
                  go_roundg (n - (k + 1))
                  case measure => omega
                  case rel => exact ⟨k + 1, rfl, by omega, by go_num, by rw [HF.out], hb12⟩
                · have hz0 : 0 ≤ Z := by omega
                  go_wp2
                  go_roundg (n - (k + 1))
                  case measure => omega
                  case rel => exact ⟨k + 1, rfl, by omega, by go_num, by rw [HF.out], hb12⟩
              · have HF : Hid (farB size many f N (k + 1) = false) := by show _ = _; rw [HF0.out, hF]; simpa using hBN
                have hbe : (B == N - 1) = false := by simpa using hBN
                clear hF HF0
                have c0 := c0x
                clear c0x
                have hsz9 : wx.heap.size ≤ wx.heap.size := Nat.le_refl _
                have hal9 : Below wx.heap.size wx (wx.alloc (.cells #[] 3)) := (Below.refl _ _).alloc (Nat.le_refl _) _
                have HO9 := Lib.hid (new_row1 wx 3 hsz9)
                have HC9 : Hid (∀ (j : Nat) (u : Value), ((List.range n).map (ints f))[j]? = some u → (wx.alloc (.cells #[] 3)).cell? ((⟨b, off, none⟩ : Addr).add j) = some u) := fun j u hj => by
                  rw [List.getElem?_map] at hj
                  by_cases hjn : j < n
                  · rw [List.getElem?_range hjn] at hj
                    simp at hj
                    subst hj
                    have ha : (⟨b, off, none⟩ : Addr).add j = ⟨b, off + j, none⟩ := by
                      rcases Nat.eq_zero_or_pos j with e | e
                      · subst e; simp [Addr.add]
                      · simp [Addr.add, Nat.ne_of_gt e]
                    rw [ha]
                    exact cell_keep hal9 (cell_keep hbn (HC.out j hjn))
                  · rw [List.getElem?_eq_none (by simpa using hjn)] at hj
                    simp at hj
                have HB9 := Lib.hid (hbn.trans (hal9.mono hbn.size))
                have HK9 := Lib.hid ((HK.out.keep hbn).keep hal9)
                clear hsz9 hal9
                go_wp2_with (at_builtin; refine wpList_append_own _ rfl _ _ 47 rfl wx.heap.size 3 i0 (.int .i64 0) 1 8 Try.underlying47 HI0.out.1 HI0.out.2.1 HI0.out.2.2.1 HI0.out.2.2.2 rfl (by decide) _ 0 [] rfl HO9.out ⟨b, off, none⟩ n cap' ((List.range n).map (ints f)) rfl (by simp) HC9.out ?c2 ?c3 ?c4 ?c5 ?_)
                case c2 => first | (intro x hx; rw [List.mem_map] at hx; obtain ⟨j, -, rfl⟩ := hx; rfl) | (intros; rfl) | simp [Value.oneCell']
                case c3 => unfold maxLen; omega
                case c4 => omega
                try (case c5 => first | omega | (simp; done))
                intro v' w9 hown' hgrow _
                rcases hown'.2 with ⟨-, h0⟩ | ⟨g9, cap9, cur9, rfl, hg9, -⟩
                · exact absurd h0 (by omega)
                have hr9 := own_row1 hown'
                have hcap9 := own_cap1 hown'
                have hr10 : Row1 w9 g9 n (ints f) := hr9.congr fun i hi => by
                  simp [List.getD_eq_getElem?_getD, hi]
                have hrs := hr10.set (x := .int .i64 (f k + 1)) hlt
                have HM : Hid (Vls (w9.setCell ⟨g9, k, none⟩ (.int .i64 (f k + 1))) (.slice (some ⟨g9, 0, none⟩) n cap9) n (ints (fun j => if j = k then f k + 1 else f j))) := (hrs.congr fun i hi => by
                  show (if i = k then Value.int .i64 (f k + 1) else Value.int .i64 (f i)) = Value.int .i64 (if i = k then f k + 1 else f i)
                  split <;> rfl).vls hcap9.1 hcap9.2
                obtain ⟨z1, z2⟩ := hr10 k hlt
                have hgw : (wx.alloc (.cells #[] 3)).grownBy w9 (some wx.heap.size) := hgrow
                have hlt3 : w1.heap.size < w3.heap.size := World.block_lt_of_cell? _ _ HK.out.1
                have hszX := hbn.size
                have hb9 := HB9.out.trans (below_grown hgw hszX (by simp; omega))
                have kb9 := HK9.out.grown hgw (by omega)
                have hb10 : Below w3.heap.size w3 (w9.setCell ⟨g9, k, none⟩ (.int .i64 (f k + 1))) := hb9.setCell (by simp only; omega) _
                have kb10 : Box2 (w9.setCell ⟨g9, k, none⟩ (.int .i64 (f k + 1))) w1.heap.size size many := by
                  obtain ⟨p1, p2, p3, p4⟩ := kb9
                  have hne : g9 ≠ w1.heap.size := by omega
                  exact ⟨by rw [World.cell?_setCell_far _ _ _ _ hne]; exact p1, by rw [World.cell?_setCell_far _ _ _ _ hne]; exact p2, by go_simp, by go_simp⟩
                have HB10 := Lib.hid hb10
                have HMore := Lib.hid (llF_more (size := size) (many := many) (n := n) (i := k) (L := f) (by rw [HN.out]; exact HNE.out))
                have HQ := Lib.hid (fun W hW => implLayLong_any size many (.slice (some ⟨g9, 0, none⟩) n cap9) n (fun j => if j = k then f k + 1 else f j) W hW)
                obtain ⟨Z, hZ⟩ : ∃ Z, llF size many n (fun j => if j = k then f k + 1 else f j) = Z := ⟨_, rfl⟩
                rw [hZ] at HMore HQ
                have hmz : Z = -1 ∨ N ≤ Z := by have := HMore.out; rwa [HN.out] at this
                have fk := HFB.out k
                clear hZ HMore hr9 hr10 hrs hown' hgrow hgw hb9 kb9 hb10 HB9 HK9 HO9 HC9 x1 x2 c0
                have z1' : w9.cell? ⟨g9, k, none⟩ = some (.int .i64 (f k)) := z1
                clear z1
                obtain ⟨x1, x2, -, -⟩ := id kb10
                go_wp2_with fail
                refine (HQ.out _ HM.out).mono ?_; rintro e w11 ⟨rfl, hb11⟩
                have hb12 := HB10.out.trans (hb11.mono HB10.out.size)
                rcases hmz with hmz | hmz
                · subst hmz
                  go_wp2
                  go_roundg (n - (k + 1))
                  case measure => omega
                  case rel => exact ⟨k + 1, rfl, by omega, by go_num, by rw [HF.out], hb12⟩
                · have hz0 : 0 ≤ Z := by omega
                  go_wp2
                  go_roundg (n - (k + 1))
                  case measure => omega
                  case rel => exact ⟨k + 1, rfl, by omega, by go_num, by rw [HF.out], hb12⟩
          · have HF : Hid (farB size many f N (k + 1) = farB size many f N k) := by
              show (_ || _) = _
              have : decide (0 < f k) = false := by simpa using hp
              rw [this]; simp
            have hbn := hbr
            have hsz9 : wr.heap.size ≤ wr.heap.size := Nat.le_refl _
            have hal9 : Below wr.heap.size wr (wr.alloc (.cells #[] 3)) := (Below.refl _ _).alloc (Nat.le_refl _) _
            have HO9 := Lib.hid (new_row1 wr 3 hsz9)
            have HC9 : Hid (∀ (j : Nat) (u : Value), ((List.range n).map (ints f))[j]? = some u → (wr.alloc (.cells #[] 3)).cell? ((⟨b, off, none⟩ : Addr).add j) = some u) := fun j u hj => by
              rw [List.getElem?_map] at hj
              by_cases hjn : j < n
              · rw [List.getElem?_range hjn] at hj
                simp at hj
                subst hj
                have ha : (⟨b, off, none⟩ : Addr).add j = ⟨b, off + j, none⟩ := by
                  rcases Nat.eq_zero_or_pos j with e | e
                  · subst e; simp [Addr.add]
                  · simp [Addr.add, Nat.ne_of_gt e]
                rw [ha]
                exact cell_keep hal9 (cell_keep hbn (HC.out j hjn))
              · rw [List.getElem?_eq_none (by simpa using hjn)] at hj
                simp at hj
            have HB9 := Lib.hid (hbn.trans (hal9.mono hbn.size))
            have HK9 := Lib.hid ((HK.out.keep hbn).keep hal9)
            clear hsz9 hal9
            go_wp2_with (at_builtin; refine wpList_append_own _ rfl _ _ 47 rfl wr.heap.size 3 i0 (.int .i64 0) 1 8 Try.underlying47 HI0.out.1 HI0.out.2.1 HI0.out.2.2.1 HI0.out.2.2.2 rfl (by decide) _ 0 [] rfl HO9.out ⟨b, off, none⟩ n cap' ((List.range n).map (ints f)) rfl (by simp) HC9.out ?c2 ?c3 ?c4 ?c5 ?_)
            case c2 => first | (intro x hx; rw [List.mem_map] at hx; obtain ⟨j, -, rfl⟩ := hx; rfl) | (intros; rfl) | simp [Value.oneCell']
            case c3 => unfold maxLen; omega
            case c4 => omega
            try (case c5 => first | omega | (simp; done))
            intro v' w9 hown' hgrow _
            rcases hown'.2 with ⟨-, h0⟩ | ⟨g9, cap9, cur9, rfl, hg9, -⟩
            · exact absurd h0 (by omega)
            have hr9 := own_row1 hown'
            have hcap9 := own_cap1 hown'
            have hr10 : Row1 w9 g9 n (ints f) := hr9.congr fun i hi => by
              simp [List.getD_eq_getElem?_getD, hi]
            have hrs := hr10.set (x := .int .i64 (f k + 1)) hlt
            have HM : Hid (Vls (w9.setCell ⟨g9, k, none⟩ (.int .i64 (f k + 1))) (.slice (some ⟨g9, 0, none⟩) n cap9) n (ints (fun j => if j = k then f k + 1 else f j))) := (hrs.congr fun i hi => by
              show (if i = k then Value.int .i64 (f k + 1) else Value.int .i64 (f i)) = Value.int .i64 (if i = k then f k + 1 else f i)
              split <;> rfl).vls hcap9.1 hcap9.2
            obtain ⟨z1, z2⟩ := hr10 k hlt
            have hgw : (wr.alloc (.cells #[] 3)).grownBy w9 (some wr.heap.size) := hgrow
            have hlt3 : w1.heap.size < w3.heap.size := World.block_lt_of_cell? _ _ HK.out.1
            have hszX := hbn.size
            have hb9 := HB9.out.trans (below_grown hgw hszX (by simp; omega))
            have kb9 := HK9.out.grown hgw (by omega)
            have hb10 : Below w3.heap.size w3 (w9.setCell ⟨g9, k, none⟩ (.int .i64 (f k + 1))) := hb9.setCell (by simp only; omega) _
            have kb10 : Box2 (w9.setCell ⟨g9, k, none⟩ (.int .i64 (f k + 1))) w1.heap.size size many := by
              obtain ⟨p1, p2, p3, p4⟩ := kb9
              have hne : g9 ≠ w1.heap.size := by omega
              exact ⟨by rw [World.cell?_setCell_far _ _ _ _ hne]; exact p1, by rw [World.cell?_setCell_far _ _ _ _ hne]; exact p2, by go_simp, by go_simp⟩
            have HB10 := Lib.hid hb10
            have HMore := Lib.hid (llF_more (size := size) (many := many) (n := n) (i := k) (L := f) (by rw [HN.out]; exact HNE.out))
            have HQ := Lib.hid (fun W hW => implLayLong_any size many (.slice (some ⟨g9, 0, none⟩) n cap9) n (fun j => if j = k then f k + 1 else f j) W hW)
            obtain ⟨Z, hZ⟩ : ∃ Z, llF size many n (fun j => if j = k then f k + 1 else f j) = Z := ⟨_, rfl⟩
            rw [hZ] at HMore HQ
            have hmz : Z = -1 ∨ N ≤ Z := by have := HMore.out; rwa [HN.out] at this
            have fk := HFB.out k
            clear hZ HMore hr9 hr10 hrs hown' hgrow hgw hb9 kb9 hb10 HB9 HK9 HO9 HC9 x1 x2 c0
            have z1' : w9.cell? ⟨g9, k, none⟩ = some (.int .i64 (f k)) := z1
            clear z1
            obtain ⟨x1, x2, -, -⟩ := id kb10
            go_wp2_with fail
            refine (HQ.out _ HM.out).mono ?_; rintro e w11 ⟨rfl, hb11⟩
            have hb12 := HB10.out.trans (hb11.mono HB10.out.size)
            rcases hmz with hmz | hmz
            · subst hmz
              go_wp2
              go_roundg (n - (k + 1))
              case measure => omega
              case rel => exact ⟨k + 1, rfl, by omega, by go_num, by rw [HF.out], hb12⟩
            · have hz0 : 0 ≤ Z := by omega
              go_wp2
              go_roundg (n - (k + 1))
              case measure => omega
              case rel => exact ⟨k + 1, rfl, by omega, by go_num, by rw [HF.out], hb12⟩
        · obtain rfl : k = n := by omega
          have hend : farB size many f N k = true ∨ N = 0 := by
            by_cases h0 : N = 0
            · exact Or.inr h0
            · left
              have := far_end (size := size) (many := many) (L := f) (n := k) (by rw [HN2.out]; exact h0)
              rwa [HN2.out] at this
          have HEnd := Lib.hid hend
          clear hend
          cases hF : farB size many f N k with
          | true =>
            go_wp2
            go_ret
            exact ⟨rfl, e4⟩
          | false =>
            have h0 : N = 0 := by rcases HEnd.out with h | h; (rw [hF] at h; cases h); exact h
            subst h0
            go_wp2
            go_ret
            exact ⟨rfl, e4⟩
  · go_enter Try.func7, Try.ntmps7
    go_wp2
    go_ret
    exact ⟨rfl, Below.refl _ _⟩

end Go.Proofs.Yteglfdcoeogilaa.fnLayLong
