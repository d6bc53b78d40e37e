/-
  laws.FnLayPieces returns true at every code: the walk of the law. No condition.
-/
import Derived.Test.YteglfdcoeogilaaDrawLayParts
import Derived.Test.YteglfdcoeogilaaPartCollect
import Derived.Test.YteglfdcoeogilaaSpecParts
import Derived.Test.YteglfdcoeogilaaPartChain
import Derived.Test.YteglfdcoeogilaaCalm
import Derived.Test.YteglfdcoeogilaaMeetS
import Derived.Deep.RegionHeld3
namespace Go.Proofs.Yteglfdcoeogilaa.fnLayPieces
open Go.RowKit

theorem new_two (w : World) (x y a b : Int) (T U : TypeId) : Box2 ((w.alloc (.cells #[.int .i64 x, .int .i64 y] T)).alloc (.cells #[.int .i64 a, .int .i64 b] U)) w.heap.size x y ∧ Box2 ((w.alloc (.cells #[.int .i64 x, .int .i64 y] T)).alloc (.cells #[.int .i64 a, .int .i64 b] U)) (w.heap.size + 1) a b :=
  ⟨(new_box w x y T).keep ((Below.refl _ _).alloc (Nat.le_refl _) _), by simpa using new_box (w.alloc (.cells #[.int .i64 x, .int .i64 y] T)) a b U⟩

set_option maxRecDepth 100000 in
set_option maxHeartbeats 8000000 in
theorem walk (v : Value) (len : Nat) (w : World) (h : Byt w v len) :
    Calls Try.prog 11 #[v] w fun e w' => e = .returned (.bool true) ∧ Below w.heap.size w w' := by
  have HB := Lib.hid h
  have hlen : len ≤ 9223372036854775807 := by obtain ⟨z, a, cap, -, h1, h2, -⟩ := h; unfold maxLen at h2; omega
  obtain ⟨z, a, cap, rfl, -, -, -⟩ := h
  by_cases hL : len ≤ 1048576
  · go_enter Try.func11, Try.ntmps11
    go_wp2_with fail
    refine (drawLayParts_any _ len _ HB.out).mono ?_; rintro e w1 ⟨size, many, lo, hi, rfl, hb1⟩
    obtain ⟨kl, ks⟩ := new_two w1 size many lo hi 24 35
    have hal1 : Below w1.heap.size w1 ((w1.alloc (.cells #[.int .i64 size, .int .i64 many] 24)).alloc (.cells #[.int .i64 lo, .int .i64 hi] 35)) := ((Below.refl _ _).alloc (Nat.le_refl _) _).alloc (by simp) _
    have e1 := hb1.trans (hal1.mono hb1.size)
    obtain ⟨L, hLl⟩ : ∃ L, lpL size many lo hi = L := ⟨_, rfl⟩
    have hlen48 : L.length ≤ 48 := by
      rw [← hLl]; unfold lpL
      split
      · next h => have h2 := spanOkB_iff.1 h.2; have := prS_len (size := size) (many := many) (lo := lo) (hi - lo).toNat; unfold prts; omega
      · simp
    have H1 : Hid (∀ X, Calls Try.prog 22 #[.agg #[.int .i64 size, .int .i64 many], .agg #[.int .i64 lo, .int .i64 hi]] X (RgP X L)) := fun X => by rw [← hLl]; exact implLayParts_any size many lo hi X
    have H2 : Hid (∀ X, Calls Try.prog 23 #[.agg #[.int .i64 size, .int .i64 many], .agg #[.int .i64 lo, .int .i64 hi]] X (RgP X L)) := fun X => by rw [← hLl]; exact specLayParts_any size many lo hi X
    have H3 := Lib.hid (fun W => specLayOk_any size many W)
    have H4 := Lib.hid (fun W => specSpanOk_any lo hi W)
    have HLl := Lib.hid hLl
    clear hLl
    obtain ⟨x1, x2, -, -⟩ := id kl
    obtain ⟨y1, y2, -, -⟩ := id ks
    go_wp2_with fail
    refine (H1.out _).mono ?_; rintro e w2 ⟨v1, rfl, ho2, hb2⟩
    have e2 := e1.trans (hb2.mono e1.size)
    have P2 := Lib.hid (own_pts ho2.out)
    have kl2 := kl.keep hb2
    have ks2 := ks.keep hb2
    clear x1 x2 y1 y2 ho2 hb2 kl ks hal1 hb1 e1
    obtain ⟨x1, x2, -, -⟩ := id kl2
    obtain ⟨y1, y2, -, -⟩ := id ks2
    obtain ⟨a1, cap1, rfl, -, -, -⟩ := P2.out
    go_wp2_with fail
    refine (H2.out _).mono ?_; rintro e w3 ⟨v2, rfl, ho3, hb3⟩
    have e3 := e2.trans (hb3.mono e2.size)
    have P3 := Lib.hid (P2.out.keep hb3)
    have kl3 := kl2.keep hb3
    have ks3 := ks2.keep hb3
    obtain ⟨a2, cap2, rfl, -, -, -⟩ := own_pts ho3.out
    clear x1 x2 y1 y2 ho3 hb3 kl2 ks2 P2 e2
    obtain ⟨a1', cap1', hq1, hl1', hm1, hc1⟩ := P3.out
    obtain ⟨rfl, -, rfl⟩ := Value.slice.inj hq1
    clear hq1 hl1'
    unfold maxLen at hm1
    have HC1 := Lib.hid hc1
    clear hc1
    by_cases hval : layOkB size many = true ∧ spanOkB lo hi = true
    · obtain ⟨hy, hs⟩ := hval
      obtain ⟨c1, c2, c3, c4⟩ := layOkB_iff.1 hy
      obtain ⟨b1, b2, b3⟩ := spanOkB_iff.1 hs
      have hch : Chain size many lo hi L := by
        have := HLl.out
        unfold lpL at this
        rw [if_pos ⟨hy, hs⟩] at this
        rw [← this]
        exact prts_chain hy b1 _ hi rfl (by omega) b3
      rw [hy] at H3
      rw [hs] at H4
      have HY := Lib.hid hy
      have HCh := Lib.hid hch
      have HLast := Lib.hid hch.last
      clear hy hs hch HLl
      obtain ⟨x1, x2, -, -⟩ := id kl3
      obtain ⟨y1, y2, -, -⟩ := id ks3
      go_wp2_with fail
      refine (H3.out _).mono ?_; rintro e w4 ⟨rfl, hb4⟩
      have e4 := e3.trans (hb4.mono e3.size)
      have kl4 := kl3.keep hb4
      have ks4 := ks3.keep hb4
      clear x1 x2 y1 y2
      obtain ⟨y1, y2, -, -⟩ := id ks4
      go_wp2_with fail
      refine (H4.out _).mono ?_; rintro e w5 ⟨rfl, hb5⟩
      have e5 := e4.trans (hb5.mono e4.size)
      have B35 := Lib.hid (hb4.trans (hb5.mono hb4.size))
      have KS := Lib.hid (ks4.keep hb5)
      have E5 := Lib.hid e5
      clear y1 y2 kl3 ks3 kl4 ks4 e3 e4 e5 hb4 hb5
      go_wp2_with fail
      go_loopg [6, 7] L.length (fun g s6 s7 wr => ∃ k : Nat, g = L.length - k ∧ k ≤ L.length ∧ s7 = .int .i64 k ∧ s6 = .int .i64 (nextF lo L k - lo) ∧ Below w5.heap.size w5 wr)
      case atStart => exact ⟨0, rfl, Nat.zero_le _, rfl, by show Value.int .i64 0 = Value.int .i64 (lo - lo); rw [Int.sub_self], Below.refl _ _⟩
      case round =>
        obtain ⟨k, rfl, hk, rfl, rfl, hbr⟩ := hrel
        by_cases hlt : k < L.length
        · have hne : L ≠ [] := fun e => by subst e; simp at hlt
          obtain ⟨b, off, rfl, hcc⟩ := HC1.out hne
          have HCC := Lib.hid hcc
          have hg := HCh.out.good k hlt
          have HNx : Hid (nextF lo L (k + 1) = nextF lo L k + ((L.getD k pD).2.2.1 - (L.getD k pD).2.1)) := rfl
          have HAp : Hid (∀ j a, j < k → (L.getD k pD).2.1 ≤ a → a < (L.getD k pD).2.2.1 → (L.getD j pD).2.1 ≤ a → a < (L.getD j pD).2.2.1 → (L.getD k pD).1 ≠ (L.getD j pD).1) := fun j a hj h1 h2 h3 h4 => HCh.out.apart HY.out hj hlt h1 h2 h3 h4
          have HP := Lib.hid (hcc k hlt)
          have HG0 : Hid (∀ j, j < k → 0 ≤ (L.getD j pD).2.1 ∧ (L.getD j pD).2.1 < (L.getD j pD).2.2.1 ∧ (L.getD j pD).2.2.1 ≤ 48) := fun j hj => by
            obtain ⟨⟨g1, g2, g3, g4, -⟩, -⟩ := HCh.out.good j (by omega)
            exact ⟨g2, g3, g4⟩
          obtain ⟨x, hx⟩ : ∃ x, L.getD k pD = x := ⟨_, rfl⟩
          obtain ⟨f, hf⟩ : ∃ f, nextF lo L k = f := ⟨_, rfl⟩
          rw [hx] at hg HNx HP HAp
          rw [hf] at hg HNx
          rw [hf]
          obtain ⟨o, xa, xb, fr⟩ := x
          obtain ⟨⟨g1, g2, g3, g4, g5, g6, -⟩, g8⟩ := hg
          simp only at g1 g2 g3 g4 g5 g6
          subst g1
          clear hcc hne hx hf
          have i0 : (0 : Int) ≤ (k : Int) := by omega
          have i1 : (k : Int) < (L.length : Int) := by omega
          have facts : ∀ (W' : World), Below w5.heap.size w5 W' → ∀ X : BelowOf W', X.w.cell? ⟨b, off + k * 4, none⟩ = some (.int .i64 o) ∧ X.w.cell? ⟨b, off + k * 4 + 1, none⟩ = some (.int .i64 xa) ∧ X.w.cell? ⟨b, off + k * 4 + 2, none⟩ = some (.int .i64 xb) := fun W' hb' X =>
            ⟨X.cell (cell_keep hb' (cell_keep B35.out HP.out.1)), X.cell (cell_keep hb' (cell_keep B35.out HP.out.2.1)), X.cell (cell_keep hb' (cell_keep B35.out HP.out.2.2.1))⟩
          have HFa := Lib.hid facts
          clear facts HP
          go_wp2_with fail
          have d1 : ∀ X : BelowOf wr, X.w.cell? ⟨b, off + k * 4 + 1, none⟩ = some (.int .i64 xa) := fun X => (HFa.out wr hbr X).2.1
          have d2 : ∀ X : BelowOf wr, X.w.cell? ⟨b, off + k * 4 + 2, none⟩ = some (.int .i64 xb) := fun X => (HFa.out wr hbr X).2.2
          have j1 : IntKind.i64.wrap (fr - lo + xb) = fr - lo + xb := IntWalk.i64_in _ (by omega)
          have j2 : IntKind.i64.wrap (fr - lo + xb - xa) = fr - lo + xb - xa := IntWalk.i64_in _ (by omega)
          refine wp_region_calm (by kernel_rfl) (by kernel_rfl) ?_
          repeat (go_big_quiet_step (fail))
          refine wpQuiet_nil ?_
          rintro _ ⟨X, rfl⟩
          have hbo := hbr.trans (X.below.mono hbr.size)
          clear d1 d2 j1 j2
          generalize X.w = wo at *
          go_wp2_with fail
          go_loopg [8] k (fun gi s8 wi => ∃ j : Nat, gi = k - j ∧ j ≤ k ∧ s8 = .int .i64 j ∧ Below w5.heap.size w5 wi)
          case atStart => exact ⟨0, rfl, Nat.zero_le _, rfl, hbo⟩
          case round =>
            obtain ⟨j, rfl, hj, rfl, hbi⟩ := hrel
            by_cases hjl : j < k
            · have hq := HCC.out j (by omega)
              have hap := HAp.out j
              have hg0 := HG0.out j hjl
              obtain ⟨y, hy⟩ : ∃ y, L.getD j pD = y := ⟨_, rfl⟩
              rw [hy] at hq hap hg0
              obtain ⟨o', ya, yb, fr'⟩ := y
              obtain ⟨q0, q1, q2, -⟩ := hq
              simp only at q0 q1 q2 hap hg0
              obtain ⟨u1, u2, u3⟩ := hg0
              clear hy
              have k0 : (0 : Int) ≤ (j : Int) := by omega
              have k1 : (j : Int) < (L.length : Int) := by omega
              replace q0 := cell_keep hbi (cell_keep B35.out q0)
              replace q1 := cell_keep hbi (cell_keep B35.out q1)
              replace q2 := cell_keep hbi (cell_keep B35.out q2)
              obtain ⟨p0, p1, p2⟩ := HFa.out wr hbi ⟨wr, Below.refl _ _⟩
              dsimp only at p0 p1 p2
              have hsm : smB xa xb ya yb = true → (o == o') = false := fun hb => by
                have hne : o ≠ o' := by
                  unfold smB mtB at hb
                  simp only [Bool.and_eq_true, decide_eq_true_eq] at hb
                  obtain ⟨-, hm⟩ := hb
                  unfold mx mn at hm
                  refine hap (if ya < xa then xa else ya) hjl ?_ ?_ ?_ ?_ <;> (split at hm <;> split at hm <;> split <;> omega)
                simpa using hne
              have HSm := Lib.hid hsm
              have hbl := World.block_lt_of_cell? wr _ p1
              simp only at hbl
              clear hsm hap
              go_wp2_with fail
              go_region_held3 (fun w' => w'.cell? ⟨b, off + k * 4 + 1, none⟩ = some (.int .i64 xa) ∧ w'.cell? ⟨b, off + k * 4 + 2, none⟩ = some (.int .i64 xb) ∧ w'.cell? ⟨b, off + j * 4 + 1, none⟩ = some (.int .i64 ya) ∧ w'.cell? ⟨b, off + j * 4 + 2, none⟩ = some (.int .i64 yb))
                (refine ⟨?_, ?_, ?_, ?_⟩ <;> first | (go_keep; done) | (refine cell_keep hb ?_; first | (go_keep; done) | (go_simp; done)) | (go_split_ands; exact alloc_swap (by omega) (by assumption)) | (go_split_ands; exact set2_far (by omega) (by assumption)))
                (first | (go_at_call 41; refine (implSpanMeet_any xa xb ya yb _).mono ?_; rintro e w' ⟨rfl, hb⟩; have hnn : b < w'.heap.size := (by have hs := hb.size; (try simp at hs); omega); have hl : Below wr.heap.size wr w' := (by exact Below.trans (by (repeat (first | exact Below.refl _ _ | refine Below.alloc ?_ (by first | omega | (simp; done) | (simp; omega)) _ | refine Below.drew ?_))) (hb.mono (by first | omega | (simp; done) | (simp; omega)))); (first | (have hx : Box2 w' _ 0 0 := box_alloc hb; obtain ⟨z1, z2, z3, z4⟩ := id hx) | (have hx : Box2 w' _ 0 0 := box_alloc_drew hb; (try simp at hx); obtain ⟨z1, z2, z3, z4⟩ := id hx) | skip)))
              · obtain ⟨wz, hwz, hz⟩ : ∃ wz, wz = (w'.alloc (.cells #[.int .i64 (smLo xa xb ya yb), .int .i64 (smHi xa xb ya yb)] 35)) ∧ Below wr.heap.size wr wz := ⟨_, rfl, hl.alloc hl.size _⟩
                rw [← hwz]
                have hbz := hbi.trans (hz.mono hbi.size)
                replace p0 := cell_keep hz p0
                replace q0 := cell_keep hz q0
                clear hwz hl hb hnn p1 p2 q1 q2 hz
                generalize smLo xa xb ya yb = ml at *
                generalize smHi xa xb ya yb = mh at *
                have HS2 := HSm.out
                generalize smB xa xb ya yb = B at *
                cases B with
                | true =>
                  have heq := HS2 rfl
                  clear HS2
                  go_wp2_with fail
                  have d0 : ∀ X : BelowOf wz, X.w.cell? ⟨b, off + k * 4, none⟩ = some (.int .i64 o) := fun X => X.cell p0
                  have d1 : ∀ X : BelowOf wz, X.w.cell? ⟨b, off + j * 4, none⟩ = some (.int .i64 o') := fun X => X.cell q0
                  refine wp_region_calm (by kernel_rfl) (by kernel_rfl) ?_
                  repeat (go_big_quiet_step (fail))
                  refine wpQuiet_nil ?_
                  rintro _ ⟨X, rfl⟩
                  have hbj := hbz.trans (X.below.mono hbz.size)
                  clear d0 d1 p0 q0
                  generalize X.w = wj at *
                  go_wp2
                  go_roundg (k - (j + 1))
                  case measure => omega
                  case rel => exact ⟨j + 1, rfl, by omega, by go_num, hbj⟩
                | false =>
                  clear HS2
                  go_wp2_with fail
                  refine wp_region_calm (by kernel_rfl) (by kernel_rfl) ?_
                  repeat (go_big_quiet_step (fail))
                  refine wpQuiet_nil ?_
                  rintro _ ⟨X, rfl⟩
                  have hbj := hbz.trans (X.below.mono hbz.size)
                  clear p0 q0
                  generalize X.w = wj at *
                  go_wp2
                  go_roundg (k - (j + 1))
                  case measure => omega
                  case rel => exact ⟨j + 1, rfl, by omega, by go_num, hbj⟩
              · obtain ⟨wz, hwz, hz⟩ : ∃ wz, wz = ((w'.setCell ⟨wr.heap.size, 0, none⟩ (.int .i64 (smLo xa xb ya yb))).setCell ⟨wr.heap.size, 1, none⟩ (.int .i64 (smHi xa xb ya yb))) ∧ Below wr.heap.size wr wz := ⟨_, rfl, (hl.setCell (by simp only; omega) _).setCell (by simp only; omega) _⟩
                rw [← hwz]
                have hbz := hbi.trans (hz.mono hbi.size)
                replace p0 := cell_keep hz p0
                replace q0 := cell_keep hz q0
                clear hwz hl hb hnn hx z1 z2 z3 z4 p1 p2 q1 q2 hz
                generalize smLo xa xb ya yb = ml at *
                generalize smHi xa xb ya yb = mh at *
                have HS2 := HSm.out
                generalize smB xa xb ya yb = B at *
                cases B with
                | true =>
                  have heq := HS2 rfl
                  clear HS2
                  go_wp2_with fail
                  have d0 : ∀ X : BelowOf wz, X.w.cell? ⟨b, off + k * 4, none⟩ = some (.int .i64 o) := fun X => X.cell p0
                  have d1 : ∀ X : BelowOf wz, X.w.cell? ⟨b, off + j * 4, none⟩ = some (.int .i64 o') := fun X => X.cell q0
                  refine wp_region_calm (by kernel_rfl) (by kernel_rfl) ?_
                  repeat (go_big_quiet_step (fail))
                  refine wpQuiet_nil ?_
                  rintro _ ⟨X, rfl⟩
                  have hbj := hbz.trans (X.below.mono hbz.size)
                  clear d0 d1 p0 q0
                  generalize X.w = wj at *
                  go_wp2
                  go_roundg (k - (j + 1))
                  case measure => omega
                  case rel => exact ⟨j + 1, rfl, by omega, by go_num, hbj⟩
                | false =>
                  clear HS2
                  go_wp2_with fail
                  refine wp_region_calm (by kernel_rfl) (by kernel_rfl) ?_
                  repeat (go_big_quiet_step (fail))
                  refine wpQuiet_nil ?_
                  rintro _ ⟨X, rfl⟩
                  have hbj := hbz.trans (X.below.mono hbz.size)
                  clear p0 q0
                  generalize X.w = wj at *
                  go_wp2
                  go_roundg (k - (j + 1))
                  case measure => omega
                  case rel => exact ⟨j + 1, rfl, by omega, by go_num, hbj⟩
            · obtain rfl : j = k := by omega
              have HNe : Hid (fr - lo + xb - xa = nextF lo L (j + 1) - lo) := by show _ = _; rw [HNx.out]; omega
              obtain ⟨F, hF⟩ : ∃ F, fr - lo + xb - xa = F := ⟨_, rfl⟩
              rw [hF] at HNe ⊢
              clear hF
              go_wp2
              go_roundg (L.length - (j + 1))
              case measure => omega
              case rel => exact ⟨j + 1, rfl, by omega, by go_num, by rw [HNe.out], hbi⟩
        · obtain rfl : k = L.length := by omega
          have e6 := E5.out.trans (hbr.mono E5.out.size)
          obtain ⟨y1, y2, -, -⟩ := KS.out.keep hbr
          rw [HLast.out]
          go_wp2
          go_ret
          exact ⟨rfl, e6⟩
    · by_cases hy : layOkB size many = true
      · have hs : spanOkB lo hi = false := by
          cases hh : spanOkB lo hi with
          | false => rfl
          | true => exact absurd ⟨hy, hh⟩ hval
        rw [hy] at H3
        rw [hs] at H4
        clear hy hs hval
        obtain ⟨x1, x2, -, -⟩ := id kl3
        obtain ⟨y1, y2, -, -⟩ := id ks3
        go_wp2_with fail
        refine (H3.out _).mono ?_; rintro e w4 ⟨rfl, hb4⟩
        have e4 := e3.trans (hb4.mono e3.size)
        have kl4 := kl3.keep hb4
        have ks4 := ks3.keep hb4
        clear x1 x2 y1 y2
        obtain ⟨y1, y2, -, -⟩ := id ks4
        go_wp2_with fail
        refine (H4.out _).mono ?_; rintro e w5 ⟨rfl, hb5⟩
        have e5 := e4.trans (hb5.mono e4.size)
        clear y1 y2
        obtain ⟨x1, x2, -, -⟩ := kl4.keep hb5
        obtain ⟨y1, y2, -, -⟩ := ks4.keep hb5
        go_wp2_with fail
        refine (H2.out _).mono ?_; rintro e w6 ⟨v3, rfl, ho6, hb6⟩
        obtain ⟨a3, cap3, rfl, -, -, -⟩ := own_pts ho6.out
        have e6 := e5.trans (hb6.mono e5.size)
        go_wp2
        go_ret
        exact ⟨rfl, e6⟩
      · replace hy : layOkB size many = false := by simpa using hy
        rw [hy] at H3
        clear hy hval
        obtain ⟨x1, x2, -, -⟩ := id kl3
        go_wp2_with fail
        refine (H3.out _).mono ?_; rintro e w4 ⟨rfl, hb4⟩
        have e4 := e3.trans (hb4.mono e3.size)
        clear x1 x2
        obtain ⟨x1, x2, -, -⟩ := kl3.keep hb4
        obtain ⟨y1, y2, -, -⟩ := ks3.keep hb4
        go_wp2_with fail
        refine (H2.out _).mono ?_; rintro e w6 ⟨v3, rfl, ho6, hb6⟩
        obtain ⟨a3, cap3, rfl, -, -, -⟩ := own_pts ho6.out
        have e6 := e4.trans (hb6.mono e4.size)
        go_wp2
        go_ret
        exact ⟨rfl, e6⟩
  · go_enter Try.func11, Try.ntmps11
    go_wp2
    go_ret
    exact ⟨rfl, Below.refl _ _⟩

end Go.Proofs.Yteglfdcoeogilaa.fnLayPieces
