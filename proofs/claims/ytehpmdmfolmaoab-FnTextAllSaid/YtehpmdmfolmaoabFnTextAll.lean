/-
  laws.FnTextAll returns true at every code: the walk of the law. No condition.
-/
import Derived.Test.YtehpmdmfolmaoabDrawTextA
import Derived.Test.YtehpmdmfolmaoabImplAll
import Derived.Test.YtehpmdmfolmaoabAllMath
import Derived.Test.YtehpmdmfolmaoabMeetS
import Derived.Deep.RegionHeld3
namespace Go.Proofs.Ytehpmdmfolmaoab.fnTextAll
open Go.RowKit

theorem getD_len {P : List Pch} (h : ∀ p ∈ P, p.2.length ≤ 49) (i : Nat) : (P.getD i (0, [])).2.length ≤ 49 := by
  by_cases hi : i < P.length
  · rw [List.getD_eq_getElem?_getD, List.getElem?_eq_getElem hi]; exact h _ (List.getElem_mem hi)
  · rw [List.getD_eq_getElem?_getD, List.getElem?_eq_none (by omega)]; simp

theorem own_below {W W' : World} {b : Nat} {e : TypeId} {size : Nat} {v : Value} {k : Nat} {xs : List Value} (h : W.ownsRow b e size v k xs) (hb : Below W.heap.size W W') : W'.ownsRow b e size v k xs :=
  ⟨h.1, h.2.imp id fun ⟨g, cap, cur, h1, h2, h3, h4⟩ => ⟨g, cap, cur, h1, h2, (hb.block g (Array.getElem?_eq_some_iff.1 h3).1).trans h3, h4⟩⟩

/-- Two patches that can be done: they have a place in common just where the two ranges meet. -/
theorem apart_of {a b : Nat} {d e : List UInt8} (h1 : wokB a d = true) (h2 : wokB b e = true) (h : smB a ((a : Int) + d.length) b ((b : Int) + e.length) = false) : apart ((b : Int), e) ((a : Int), d) := by
  obtain ⟨-, p1, -, p2⟩ := wokB_iff.1 h1
  obtain ⟨-, q1, -, q2⟩ := wokB_iff.1 h2
  have hd : 0 < d.length := by rcases d with _ | ⟨x, d⟩; exact absurd rfl p1; simp
  have he : 0 < e.length := by rcases e with _ | ⟨x, e⟩; exact absurd rfl q1; simp
  have s1 : spanOkB a ((a : Int) + d.length) = true := spanOkB_true ⟨by omega, by omega, by omega⟩
  have s2 : spanOkB b ((b : Int) + e.length) = true := spanOkB_true ⟨by omega, by omega, by omega⟩
  unfold smB at h
  rw [s1, s2, Bool.true_and, Bool.true_and] at h
  unfold mtB mx mn at h
  simp only [decide_eq_false_iff_not] at h
  unfold apart
  simp only [Int.toNat_natCast]
  split at h <;> split at h <;> omega

theorem rev_step (P : List Pch) (i : Nat) (h : i < P.length) : (P.drop i).reverse = (P.drop (i + 1)).reverse ++ [P.getD i (0, [])] := by
  have e : P.drop i = P.getD i (0, []) :: P.drop (i + 1) := by
    rw [List.drop_eq_getElem_cons h, List.getD_eq_getElem?_getD, List.getElem?_eq_getElem h]; rfl
  rw [e, List.reverse_cons]

set_option maxRecDepth 100000 in
set_option maxHeartbeats 16000000 in
theorem walk (v : Value) (len : Nat) (w : World) (h : Byt w v len) :
    Calls Try.prog 3 #[v] w fun e w' => e = .returned (.bool true) ∧ Below w.heap.size w w' := by
  have HB := Lib.hid h
  have hlen : len ≤ 9223372036854775807 := by obtain ⟨z, a, cap, -, h1, h2, -⟩ := h; unfold maxLen at h2; omega
  obtain ⟨z, ad, cap, rfl, -, -, -⟩ := h
  obtain ⟨i0, hi0, hz0, hz1, hz2⟩ := info_parts infoPch
  have HI0 := Lib.hid (And.intro hi0 (And.intro hz0 (And.intro hz1 hz2)))
  clear hi0 hz0 hz1 hz2
  by_cases hL : len ≤ 1048576
  · go_enter Try.func3, Try.ntmps3
    go_wp2_with fail
    refine (drawTextAll_any _ len _ HB.out).mono ?_; rintro e w1 ⟨l, _, P, rfl, ⟨G, capP, rfl⟩, hl, hp, hP5, hPd, hb1⟩
    have HPD := Lib.hid hPd
    have H1 := Lib.hid (fun W h => specTextAll_any (.slice (some ⟨G, 0, none⟩) P.length capP) P l W h (by omega) (fun i => by have := getD_len hPd i; omega))
    have H2 := Lib.hid (fun W h => implTextAll_any (.slice (some ⟨G, 0, none⟩) P.length capP) P l W h (by omega) (fun i => by have := getD_len hPd i; omega) (by omega))
    have HP1 := Lib.hid hp
    have z2 : (mkB l).size = l.length := mkB_size l
    clear hp hPd
    go_wp2_with fail
    refine (H2.out _ HP1.out).mono ?_; rintro e w2 ⟨rfl, hb2⟩
    have HP2 := Lib.hid (HP1.out.keep hb2)
    go_wp2_with fail
    refine (H1.out _ HP2.out).mono ?_; rintro e w3 ⟨rfl, hb3⟩
    have HP3 := Lib.hid (HP2.out.keep hb3)
    have e3 := hb1.trans ((hb2.trans (hb3.mono hb2.size)).mono hb1.size)
    clear hb1 hb2 hb3 HP1 HP2 H1 H2
    by_cases hok : edB (edF P) P.length l = true
    · have ht : tokB l = true := by unfold edB at hok; simp only [Bool.and_eq_true] at hok; exact hok.1
      obtain ⟨X, hX⟩ : ∃ X, runE (edF P) P.length l = some X := by
        unfold edB at hok
        simp only [Bool.and_eq_true] at hok
        exact Option.isSome_iff_exists.1 hok.2
      have hS : edS (edF P) P.length l = X := by unfold edS; rw [if_pos ht, hX]; rfl
      have HXX := Lib.hid hX
      have HT := Lib.hid ht
      have HWOK := Lib.hid (wok_of_run hX)
      have hll := tokB_len ht
      rw [hok, hS]
      clear hok hS hX ht
      have q1 : ((mkB X).toList == (mkB X).toList) = true := by simp
      obtain ⟨a0, cap0, hv0, hc1, hc2, -, hcc⟩ := HP3.out
      simp only [Value.slice.injEq] at hv0
      obtain ⟨rfl, -, rfl⟩ := hv0
      have HCC : Hid (∀ i, i < P.length → ∃ (a : Nat) (d : List UInt8), P.getD i (0, []) = ((a : Int), d) ∧ wokB a d = true ∧ w3.cell? ⟨G, i * 2, none⟩ = some (.int .i64 a) ∧ w3.cell? ⟨G, i * 2 + 1, none⟩ = some (.string (mkB d))) := fun i hi => by
        obtain ⟨b, off, hbo, hc⟩ := hcc (fun e => by subst e; simp at hi)
        injection hbo with hbo
        injection hbo with hb1 hb2
        subst hb1 hb2
        have := hc i hi
        have hw := HWOK.out i hi
        rw [Nat.zero_add] at this
        generalize P.getD i (0, []) = s at *
        obtain ⟨pa, pd⟩ := s
        obtain ⟨m, rfl⟩ : ∃ m : Nat, pa = m := ⟨pa.toNat, by obtain ⟨h0, -⟩ := wokB_iff.1 hw; simp only at h0; omega⟩
        exact ⟨m, pd, rfl, hw, this⟩
      clear hcc hc1 hc2 HP3
      go_wp2
      go_loopg [9, 10] P.length (fun g s9 s10 wr => ∃ (k : Nat) (L : List UInt8), g = P.length - k ∧ k ≤ P.length ∧ s10 = .int .i64 k ∧ s9 = .string (mkB L) ∧ Hid (runE (edF P) k l = some L) ∧ Below w3.heap.size w3 wr)
      case atStart => exact ⟨0, l, rfl, Nat.zero_le _, rfl, rfl, Lib.hid rfl, Below.refl _ _⟩
      case round =>
        obtain ⟨k, L, rfl, hk, rfl, rfl, HR, hbr⟩ := hrel
        by_cases hlt : k < P.length
        · obtain ⟨a, d, hpk, hw, c1, c2⟩ := HCC.out k hlt
          have hT := runE_tok HT.out HR.out
          have hLl := tokB_len hT
          obtain ⟨-, -, -, w48⟩ := wokB_iff.1 hw
          have HN : Hid (runE (edF P) (k + 1) l = some (wrL L a d)) := by
            show (runE (edF P) k l).bind (edF P k) = _
            rw [HR.out]
            show wrF _ _ _ = _
            rw [hpk, wrF_yes hw, Int.toNat_natCast]
          have HW := Lib.hid (fun W => implTextWrite_any L a d (by omega) (by omega) W)
          rw [twS_ok hT, if_pos hw, twB_ok hT, hw, Int.toNat_natCast] at HW
          have y1 := cell_keep hbr c1
          have y2 := cell_keep hbr c2
          clear hpk hT hw c1 c2
          have d1 : ∀ x : BelowOf wr, x.w.cell? ⟨G, k * 2, none⟩ = some (.int .i64 a) := fun x => x.cell y1
          have d2 : ∀ x : BelowOf wr, x.w.cell? ⟨G, k * 2 + 1, none⟩ = some (.string (mkB d)) := fun x => x.cell y2
          have j1 : (0 : Int) ≤ (k : Int) := Int.natCast_nonneg _
          have j2 : (k : Int) < (P.length : Int) := by omega
          generalize wrL L a d = L2 at *
          go_wp2_with fail
          refine wp_region_calm (by kernel_rfl) (by kernel_rfl) ?_
          repeat (go_big_quiet_step ((go_at_call 14; exact Calls.calm (HW.out _))))
          refine wpQuiet_nil ?_
          rintro _ ⟨x, rfl⟩
          have hb2 := hbr.trans (x.below.mono hbr.size)
          go_wp2
          go_roundg (P.length - (k + 1))
          case measure => omega
          case rel => exact ⟨k + 1, L2, rfl, by omega, by go_num, rfl, HN, hb2⟩
        · obtain rfl : k = P.length := by omega
          have hXL : X = L := by
            have h1 := HXX.out; have h2 := HR.out
            rw [h1] at h2; exact Option.some.inj h2
          subst hXL
          have e4 := e3.trans (hbr.mono e3.size)
          have HC4 : Hid (∀ i, i < P.length → ∃ (a : Nat) (d : List UInt8), P.getD i (0, []) = ((a : Int), d) ∧ wokB a d = true ∧ wr.cell? ⟨G, i * 2, none⟩ = some (.int .i64 a) ∧ wr.cell? ⟨G, i * 2 + 1, none⟩ = some (.string (mkB d))) := fun i hi => by
            obtain ⟨a, d, h1, h2, h3, h4⟩ := HCC.out i hi
            exact ⟨a, d, h1, h2, cell_keep hbr h3, cell_keep hbr h4⟩
          have hal : Below wr.heap.size wr (wr.alloc (.cells #[] 30)) := (Below.refl _ _).alloc (Nat.le_refl _) _
          have hO : (wr.alloc (.cells #[] 30)).ownsRow wr.heap.size 30 2 (.slice (some ⟨wr.heap.size, 0, none⟩) 0 0) 0 (flatP []) := by
            have := World.ownsRow_made wr (e := 30) (base := wr.heap.size) (size := 2) #[] 0 (Nat.le_refl _) (by unfold maxLen; omega) rfl
            simpa [flatP] using this
          have HO := Lib.hid hO
          have HAL := Lib.hid hal
          clear hO hal HCC e3 hbr HR
          go_wp2
          obtain ⟨W5, hW5⟩ : ∃ W5, W5 = wr := ⟨_, rfl⟩
          rw [← hW5] at HC4 HO HAL e4 ⊢
          clear hW5
          obtain ⟨n, hn⟩ : ∃ n, P.length = n := ⟨_, rfl⟩
          have HN := Lib.hid hn
          have hn5 : n ≤ 5 := by omega
          simp only [hn] at HC4 ⊢
          clear hn
          go_loopg [11, 12] n (fun gm s11 s12 wo => ∃ (j g cap m : Nat), gm = j ∧ j ≤ n ∧ m + j = n ∧ s12 = .int .i64 ((j : Int) - 1) ∧ s11 = .slice (some ⟨g, 0, none⟩) m cap ∧ Hid (wo.ownsRow W5.heap.size 30 2 (.slice (some ⟨g, 0, none⟩) m cap) m (flatP (P.drop j).reverse)) ∧ Below W5.heap.size W5 wo ∧ Hid (∀ i k, k < i → j ≤ i → i < n → apart (P.getD k (0, [])) (P.getD i (0, []))))
          case atStart => exact ⟨n, W5.heap.size, 0, 0, rfl, Nat.le_refl _, by omega, rfl, rfl, by rw [List.drop_of_length_le (by rw [HN.out]; exact Nat.le_refl _)]; exact HO, HAL.out, Lib.hid (fun i k h1 h2 h3 => by omega)⟩
          case round =>
            obtain ⟨j, g, cap, m, hgj, hj, hmj, rfl, rfl, HOj, hbo, HA⟩ := hrel
            obtain rfl := hgj.symm
            rcases j with _ | i
            · have hj0 : (((0 : Nat) : Int) - 1) = -1 := rfl
              simp only [hj0]
              clear hj0
              have HREV := Lib.hid (run_rev HXX.out (fun i k h1 h2 => HA.out i k h1 (Nat.zero_le _) (by rw [HN.out] at h2; exact h2)))
              obtain rfl : m = n := by omega
              have hrl : P.reverse.length = m := by rw [List.length_reverse, HN.out]
              have hPR : ∀ p ∈ P.reverse, p.2.length ≤ 49 := fun p hp => HPD.out p (List.mem_reverse.1 hp)
              have HPT : Hid (Ptc wr (.slice (some ⟨g, 0, none⟩) m cap) P.reverse) := Lib.hid (own_ptc HOj.out hrl hPR)
              have HU := fun W h => implTextAll_any (.slice (some ⟨g, 0, none⟩) m cap) P.reverse l W h (by omega) (fun i => by have := getD_len hPR i; omega) (by omega)
              have hrun : runE (edF P.reverse) P.reverse.length l = some X := by rw [List.length_reverse]; exact HREV.out
              have hS2 : edS (edF P.reverse) P.reverse.length l = X := by unfold edS; rw [if_pos HT.out, hrun]; rfl
              have hB2 : edB (edF P.reverse) P.reverse.length l = true := by unfold edB; rw [HT.out, hrun]; rfl
              rw [hS2, hB2] at HU
              have HU2 := Lib.hid HU
              clear HU hrun hS2 hB2 hrl hPR HREV
              go_wp2_with fail
              refine (HU2.out _ HPT.out).mono ?_; rintro e w8 ⟨rfl, hb8⟩
              go_wp2
              go_ret
              exact ⟨rfl, (e4.trans (hbo.mono e4.size)).trans (hb8.mono (e4.trans (hbo.mono e4.size)).size)⟩
            · have hji : (((i + 1 : Nat) : Int) - 1) = (i : Int) := by omega
              simp only [hji]
              obtain ⟨a, d, hpi, hwi, ci1, ci2⟩ := HC4.out i (by omega)
              obtain ⟨-, -, -, wi48⟩ := wokB_iff.1 hwi
              have y1 := cell_keep hbo ci1
              have y2 := cell_keep hbo ci2
              have HPI := Lib.hid hpi
              have HWI := Lib.hid hwi
              have hsb := hbo.size
              have HT2 := Lib.hid (rev_step P i (by rw [HN.out]; omega))
              clear hpi hwi ci1 ci2 hji
              have j1 : (0 : Int) ≤ (i : Int) := Int.natCast_nonneg _
              have j2 : (i : Int) < (n : Int) := by omega
              go_wp2_with (at_builtin; refine wpList_append_own _ rfl _ _ 23 rfl W5.heap.size 30 i0 (.agg #[.int .i64 0, .string ⟨#[]⟩]) 2 24 Try.underlying23 HI0.out.1 HI0.out.2.1 HI0.out.2.2.1 HI0.out.2.2.2 rfl (by decide) _ _ _ rfl (HOj.out.alloc _) ⟨wr.heap.size, 0, none⟩ 1 1 [.int .i64 a, .string (mkB d)] rfl rfl ?c1 ?c2 ?c3 ?c4 ?c5 ?_)
              case c2 => simp [Value.oneCell']
              case c3 => unfold maxLen; omega
              case c4 => omega
              case c5 => first | omega | (simp; omega)
              intro v' w9 hown' hgrow _
              have hgB := HOj.out.lt g rfl
              have hb9 : Below W5.heap.size W5 w9 := (hbo.alloc hbo.size (.cells #[.int .i64 a, .string (mkB d)] 30)).grown hgrow (by simp; omega) (fun q e => by first | (simp [Value.ownBlock] at e; omega) | (injection e with e; omega))
              obtain ⟨g', cap', rfl⟩ : ∃ g' cap', v' = .slice (some ⟨g', 0, none⟩) (m + 1) cap' := by
                rcases hown'.2 with ⟨-, h0⟩ | ⟨g', cap', cur, h, -⟩
                · omega
                · exact ⟨g', cap', h⟩
              have HO9 : Hid (w9.ownsRow W5.heap.size 30 2 (.slice (some ⟨g', 0, none⟩) (m + 1) cap') (m + 1) (flatP (P.drop i).reverse)) := by
                show World.ownsRow _ _ _ _ _ _ _
                rw [HT2.out, flatP_append, HPI.out]
                exact hown'
              clear hown' hgrow y1 y2 HOj hgB HT2
              have HC9 : Hid (∀ i, i < n → ∃ (a : Nat) (d : List UInt8), P.getD i (0, []) = ((a : Int), d) ∧ wokB a d = true ∧ w9.cell? ⟨G, i * 2, none⟩ = some (.int .i64 a) ∧ w9.cell? ⟨G, i * 2 + 1, none⟩ = some (.string (mkB d))) := fun i hi => by
                obtain ⟨a, d, h1, h2, h3, h4⟩ := HC4.out i hi
                exact ⟨a, d, h1, h2, cell_keep hb9 h3, cell_keep hb9 h4⟩
              go_wp2
              have e9 := e4.trans (hb9.mono e4.size)
              go_loopg [13] i (fun gm s13 wi => ∃ k : Nat, gm = i - k ∧ k ≤ i ∧ s13 = .int .i64 k ∧ Below w9.heap.size w9 wi ∧ Hid (∀ k', k' < k → apart (P.getD k' (0, [])) (P.getD i (0, []))))
              case atStart => exact ⟨0, rfl, Nat.zero_le _, rfl, Below.refl _ _, Lib.hid (fun k' h => by omega)⟩
              case round =>
                obtain ⟨k, rfl, hk, rfl, hbi, HAk⟩ := hrel
                by_cases hlt : k < i
                · obtain ⟨b, f, hpk, hwk, ck1, ck2⟩ := HC9.out k (by omega)
                  obtain ⟨a', d', hpi', -, ci1, ci2⟩ := HC9.out i (by omega)
                  have hEq : ((a : Int), d) = ((a' : Int), d') := by rw [← HPI.out, hpi']
                  simp only [Prod.mk.injEq] at hEq
                  obtain ⟨ha', rfl⟩ := hEq
                  obtain rfl : a = a' := by omega
                  obtain ⟨-, -, -, wk48⟩ := wokB_iff.1 hwk
                  have y1 := cell_keep hbi ci1
                  have y2 := cell_keep hbi ci2
                  have y3 := cell_keep hbi ck1
                  have y4 := cell_keep hbi ck2
                  have HPK := Lib.hid hpk
                  have HWK := Lib.hid hwk
                  have k1 : (0 : Int) ≤ (k : Int) := Int.natCast_nonneg _
                  have k2 : (k : Int) < (n : Int) := by omega
                  have u1 : IntKind.i64.wrap ((a : Int) + d.length) = (a : Int) + d.length := IntWalk.i64_in _ (by omega)
                  have u2 : IntKind.i64.wrap ((b : Int) + f.length) = (b : Int) + f.length := IntWalk.i64_in _ (by omega)
                  have zd : (mkB d).size = d.length := mkB_size d
                  have zf : (mkB f).size = f.length := mkB_size f
                  have hG := World.block_lt_of_cell? _ _ y1
                  simp only at hG
                  have hSM := fun W => implSpanMeet_any a ((a : Int) + d.length) b ((b : Int) + f.length) W
                  by_cases hsm : smB a ((a : Int) + d.length) b ((b : Int) + f.length) = true
                  · rw [hsm] at hSM
                    generalize smLo a ((a : Int) + d.length) b ((b : Int) + f.length) = m1 at *
                    generalize smHi a ((a : Int) + d.length) b ((b : Int) + f.length) = m2 at *
                    have HSM := Lib.hid hSM
                    clear hSM hsm hpk hwk ck1 ck2 ci1 ci2 hpi' ha'
                    go_wp2_with fail
                    go_region_held3 (fun w' => w'.cell? ⟨G, i * 2, none⟩ = some (.int .i64 a) ∧ w'.cell? ⟨G, i * 2 + 1, none⟩ = some (.string (mkB d)) ∧ w'.cell? ⟨G, k * 2, none⟩ = some (.int .i64 b) ∧ w'.cell? ⟨G, k * 2 + 1, none⟩ = some (.string (mkB f)))
                      (refine ⟨?_, ?_, ?_, ?_⟩ <;> first | (go_keep; done) | (refine cell_keep hb ?_; first | (go_keep; done) | (go_simp; done)) | (go_split_ands; exact alloc_swap (by omega) (by assumption)) | (go_split_ands; exact set2_far (by omega) (by assumption)))
                      (first | (go_at_call 15; refine (HSM.out _).mono ?_; rintro e w' ⟨rfl, hb⟩; have hl : Below wr.heap.size wr w' := (by exact Below.trans (by (repeat (first | exact Below.refl _ _ | refine Below.alloc ?_ (by first | omega | (simp; done) | (simp; omega)) _ | refine Below.drew ?_))) (hb.mono (by first | omega | (simp; done) | (simp; omega)))); have hGw : G < w'.heap.size := (by have := hl.size; omega); (first | (have hx : Box2 w' _ 0 0 := box_alloc hb; obtain ⟨x1, x2, x3, x4⟩ := id hx) | (have hx : Box2 w' _ 0 0 := box_alloc_drew hb; (try simp at hx); obtain ⟨x1, x2, x3, x4⟩ := id hx) | skip)))
                    all_goals
                      go_wp2
                      go_ret
                      exact ⟨rfl, e9.trans ((hbi.trans ((by (repeat (first | exact hl | refine Below.drew ?_ | refine Below.alloc ?_ (by first | exact hl.size | omega | (simp; omega)) _ | refine Below.setCell ?_ (by simp only; omega) _)) : Below wr.heap.size wr _).mono hbi.size)).mono e9.size)⟩
                  · replace hsm : smB a ((a : Int) + d.length) b ((b : Int) + f.length) = false := by simpa using hsm
                    have hap := apart_of HWI.out HWK.out hsm
                    have HAP2 : Hid (∀ k', k' < k + 1 → apart (P.getD k' (0, [])) (P.getD i (0, []))) := fun k' h => by
                      by_cases hkk : k' = k
                      · subst hkk; rw [HPK.out, HPI.out]; exact hap
                      · exact HAk.out k' (by omega)
                    clear hap
                    rw [hsm] at hSM
                    generalize smLo a ((a : Int) + d.length) b ((b : Int) + f.length) = m1 at *
                    generalize smHi a ((a : Int) + d.length) b ((b : Int) + f.length) = m2 at *
                    have HSM := Lib.hid hSM
                    clear hSM hsm hpk hwk ck1 ck2 ci1 ci2 hpi' ha'
                    go_wp2_with fail
                    go_region_held3 (fun w' => w'.cell? ⟨G, i * 2, none⟩ = some (.int .i64 a) ∧ w'.cell? ⟨G, i * 2 + 1, none⟩ = some (.string (mkB d)) ∧ w'.cell? ⟨G, k * 2, none⟩ = some (.int .i64 b) ∧ w'.cell? ⟨G, k * 2 + 1, none⟩ = some (.string (mkB f)))
                      (refine ⟨?_, ?_, ?_, ?_⟩ <;> first | (go_keep; done) | (refine cell_keep hb ?_; first | (go_keep; done) | (go_simp; done)) | (go_split_ands; exact alloc_swap (by omega) (by assumption)) | (go_split_ands; exact set2_far (by omega) (by assumption)))
                      (first | (go_at_call 15; refine (HSM.out _).mono ?_; rintro e w' ⟨rfl, hb⟩; have hl : Below wr.heap.size wr w' := (by exact Below.trans (by (repeat (first | exact Below.refl _ _ | refine Below.alloc ?_ (by first | omega | (simp; done) | (simp; omega)) _ | refine Below.drew ?_))) (hb.mono (by first | omega | (simp; done) | (simp; omega)))); have hGw : G < w'.heap.size := (by have := hl.size; omega); (first | (have hx : Box2 w' _ 0 0 := box_alloc hb; obtain ⟨x1, x2, x3, x4⟩ := id hx) | (have hx : Box2 w' _ 0 0 := box_alloc_drew hb; (try simp at hx); obtain ⟨x1, x2, x3, x4⟩ := id hx) | skip)))
                    all_goals
                      go_wp2
                      go_roundg (i - (k + 1))
                      case measure => omega
                      case rel => exact ⟨k + 1, rfl, by omega, by go_num, hbi.trans ((by (repeat (first | exact hl | refine Below.drew ?_ | refine Below.alloc ?_ (by first | exact hl.size | omega | (simp; omega)) _ | refine Below.setCell ?_ (by simp only; omega) _)) : Below wr.heap.size wr _).mono hbi.size), HAP2⟩
                · have HA2 : Hid (∀ i' k', k' < i' → i ≤ i' → i' < n → apart (P.getD k' (0, [])) (P.getD i' (0, []))) := fun i' k' h1 h2 h3 => by
                    by_cases hii : i' = i
                    · subst hii; exact HAk.out k' (by omega)
                    · exact HA.out i' k' h1 (by omega) h3
                  have HO10 := Lib.hid (own_below HO9.out hbi)
                  have hb10 := hb9.trans (hbi.mono hb9.size)
                  go_wp2
                  go_roundg i
                  case measure => omega
                  case rel => exact ⟨i, g', cap', m + 1, rfl, by omega, by omega, rfl, rfl, HO10, hb10, HA2⟩
    · replace hok : edB (edF P) P.length l = false := by simpa using hok
      rw [hok]
      clear hok
      generalize edS (edF P) P.length l = X at *
      have q1 : ((mkB X).toList == (mkB X).toList) = true := by simp
      go_wp2
      go_ret
      exact ⟨rfl, e3⟩
  · go_enter Try.func3, Try.ntmps3
    go_wp2
    go_ret
    exact ⟨rfl, Below.refl _ _⟩

end Go.Proofs.Ytehpmdmfolmaoab.fnTextAll
