/-
  Contract of DrawLayText: a layout, a list of at most five short texts; nothing that existed has changed.
-/
import Derived.Test.YtdlofeemeeabjaaDrawLayLong
import Derived.Test.YtdlofeemeeabjaaDrawText
import Derived.Test.YtdlofeemeeabjaaSpecLof
import Derived.Test.YtdlofeemeeabjaaStrEq
import Derived.Test.YtdlofeemeeabjaaLofLaws
namespace Go.Proofs.Ytdlofeemeeabjaa
open Go.RowKit

def DtLT (w : World) (e : Ending) (w' : World) : Prop :=
  ∃ (size many : Int) (v : Value) (L : List (List UInt8)), e = .returned (.tuple #[.agg #[.int .i64 size, .int .i64 many], v]) ∧ Hid (Vls w' v L.length (fun i => .string (mkB (L.getD i [])))) ∧ (∀ i, (L.getD i []).length ≤ 49) ∧ L.length ≤ 5 ∧ Below w.heap.size w w'

theorem loL_short (size many : Int) (l : List UInt8) : (loL size many l).length ≤ 5 ∧ ∀ i, ((loL size many l).getD i []).length ≤ 49 := by
  by_cases h : layOkB size many = true ∧ tokB l = true
  · obtain ⟨hy, ht⟩ := h
    obtain ⟨c1, c2, c3, c4⟩ := layOkB_iff.1 hy
    have hn := loL_len hy ht
    refine ⟨by omega, fun i => ?_⟩
    by_cases hi : i < many.toNat
    · rw [loL_get hy ht hi]
      have := loF_len (size := size) (many := many) (l := l) (o := i) l.length
      have := tokB_len ht
      omega
    · rw [List.getD_eq_getElem?_getD, List.getElem?_eq_none (by omega)]; simp
  · have : loL size many l = [] := if_neg h
    rw [this]; simp
theorem strs_len (L : List (List UInt8)) : (strs L).length = L.length := by unfold strs; simp
theorem LLI.put {w wr : World} {rb q B g cap n : Nat} {size many : Int} {L : List (List UInt8)} {s : List UInt8} (hn : L.length = n) (h : LLI w wr rb q B size many 9 (.slice (some ⟨g, 0, none⟩) n cap) (strs L)) (o : Nat) :
    LLI w (wr.setCell ⟨g, o, none⟩ (.string (mkB s))) rb q B size many 9 (.slice (some ⟨g, 0, none⟩) n cap) (strs (L.set o s)) := by
  have ho := h.own
  rw [strs_len, hn] at ho
  have hg := (ho.lt g rfl).1
  have hs := (ho.stored o (.string (mkB s))).1
  rw [strs_set] at hs
  have hl : (strs (L.set o s)).length = n := by rw [strs_len]; simpa using hn
  have hgr := grown_set wr g o (.string (mkB s))
  have b1 := h.b1
  have b2 := h.b2
  exact ⟨box_far1 h.k0 (by omega), box_far1 h.kp (by omega), by rw [hl]; exact hs, rd_grown1 h.rd hgr (by omega), h.bel.setCell (p := ⟨g, o, none⟩) (by simp only; omega) _, h.b1, h.b2, by simpa [World.setCell] using h.b3⟩
theorem lt_fin {w W' : World} {u : Value} {b : Nat} {size many : Int} {L : List (List UInt8)} (hb : w.heap.size < b) (ho : W'.ownsRow b 9 1 u L.length (strs L)) (h1 : ∀ i, (L.getD i []).length ≤ 49) (h2 : L.length ≤ 5) (hbel : Below w.heap.size w W') :
    DtLT w (.returned (.tuple #[.agg #[.int .i64 size, .int .i64 many], u])) ((W'.setCell ⟨w.heap.size, 0, none⟩ (.int .i64 size)).setCell ⟨w.heap.size, 1, none⟩ (.int .i64 many)) :=
  have hne : Value.ownBlock u ≠ some w.heap.size := fun e => by have := (ho.lt _ e).1; omega
  have o1 := World.ownsRow.kept (World.ownsRow.kept ho (grown_set W' w.heap.size 0 (.int .i64 size)) (Or.inr hne)) (grown_set _ w.heap.size 1 (.int .i64 many)) (Or.inr hne)
  ⟨size, many, u, L, rfl, own_strs rfl o1, h1, h2, (hbel.setCell (p := ⟨w.heap.size, 0, none⟩) (Nat.le_refl _) _).setCell (p := ⟨w.heap.size, 1, none⟩) (Nat.le_refl _) _⟩

set_option maxRecDepth 100000 in
set_option maxHeartbeats 4000000 in
theorem drawLayText_any (v : Value) (len : Nat) (w : World) (h : Byt w v len) :
    Calls Try.prog 14 #[v] w (DtLT w) := by
  have k0 := new_box w 0 0 24
  have hal : Below w.heap.size w (w.alloc (.cells #[.int .i64 0, .int .i64 0] 24)) := (Below.refl _ _).alloc (Nat.le_refl _) _
  have hs : (w.alloc (.cells #[.int .i64 0, .int .i64 0] 24)).heap.size = w.heap.size + 1 := by simp
  have HS := Lib.hid hs
  have HB := Lib.hid (byt_keep h hal)
  clear h hs
  go_enter Try.func14, Try.ntmps14
  go_wp2_with fail
  refine (open_any v len _ HB.out).mono ?_; rintro e w1 ⟨rb, rfl, hrb, hr1, hb1⟩
  rw [HS.out] at hrb
  have k1 := k0.keep hb1
  have e1 := hal.trans (hb1.mono hal.size)
  have HR1 := Lib.hid hr1
  have hsz1 : w.heap.size < w1.heap.size := by have := hb1.size; rw [HS.out] at this; omega
  clear hr1 hb1 hal HB HS k0
  go_wp2_with fail
  refine (l3Lays_any rb 0 _ HR1.out (by omega)).mono ?_; rintro e w2 ⟨size, many, q, rfl, s0, s1, m0, m1, hr2, hq2, hg2⟩
  have k2 := k1.grown hg2 (by omega)
  have e2 := e1.trans (below_grown hg2 (by omega) e1.size)
  have hlt2 := hr2.lt
  have kp2 := new_box w2 size many 24
  have hal2 : Below w2.heap.size w2 (w2.alloc (.cells #[.int .i64 size, .int .i64 many] 24)) := (Below.refl _ _).alloc (Nat.le_refl _) _
  have k3 := k2.keep hal2
  have HR3 := Lib.hid (hr2.keep hal2)
  have e3 := e2.trans (hal2.mono e2.size)
  have hsz3 : w.heap.size < w2.heap.size := by have := hr2.lt; omega
  have hl3 : w2.heap.size < (w2.alloc (.cells #[.int .i64 size, .int .i64 many] 24)).heap.size := by simp
  clear hr2 hg2 HR1 e1 k1 k2 e2 hal2
  go_wp2_with fail
  obtain ⟨B, hB⟩ : ∃ B, B = w2.heap.size := ⟨_, rfl⟩
  rw [← hB] at kp2 hsz3 hlt2 hl3
  simp only [← hB]
  generalize w2.alloc (.cells #[.int .i64 size, .int .i64 many] 24) = W at *
  clear hB
  refine (pick_any rb q 2 _ HR3.out (by omega) (by omega) (by omega)).mono ?_; rintro e w3 ⟨pc, rfl, c0, -, hr3, hg3⟩
  have k4 := k3.grown hg3 (by omega)
  have kp4 := kp2.grown hg3 (by omega)
  have e4 := e3.trans (below_grown hg3 (by omega) e3.size)
  have HR4 := Lib.hid hr3
  have hs4 := hg3.size
  clear hr3 hg3 HR3 e3 k3 kp2
  by_cases hc : pc = 0
  · subst hc
    obtain ⟨y1, y2, y3, y4⟩ := id kp4
    have K0 := k4
    have E0 := e4
    have hSH := Lib.hid (loL_short size many)
    go_wp2_with fail
    go_region_held3 (fun w' => w'.cell? ⟨B, 0, none⟩ = some (.int .i64 size) ∧ w'.cell? ⟨B, 1, none⟩ = some (.int .i64 many))
      (refine ⟨?_, ?_⟩ <;> first | (go_keep; done) | (refine grown_cell hg6 (by omega) ?_; first | (go_keep; done) | (go_simp; done)) | (refine cell_keep hb7 ?_; first | assumption | (go_keep; done)) | (refine set2_far (by omega) ?_; first | assumption | (go_keep; done)))
      (first
        | (go_at_call 9; refine (specLayOf_any size many l (by omega) _).mono ?_; rintro e w7 ⟨v7, rfl, ho7, hb7⟩; have k7 := k6.keep hb7; obtain ⟨m1', m2', m3', m4'⟩ := id k7; have e7 := e6.trans (hb7.mono e6.size))
        | (go_at_call 29; refine (l2Some_any rb (q + 1) _ (HR4.out.keep (Below.refl _ _).drew) (by omega)).mono ?_; rintro e w6 ⟨l, q6, rfl, hl, hr6, hq6, hg6⟩; have k6 := (K0.keep (Below.refl _ _).drew).grown hg6 (by omega); have e6 := (E0.trans ((Below.refl _ _).drew.mono E0.size)).trans (below_grown hg6 (by omega) (by have := E0.size; simpa using this))))
    have HZ : Hid (DtLT w _ _) := lt_fin (size := size) (many := many) (World.block_lt_of_cell? w6 _ k6.1) ho7.out (hSH.out l).2 (hSH.out l).1 e7
    go_wp2
    exact bodyPost_ret (v := .tuple #[.agg #[.int .i64 size, .int .i64 many], v7]) (by simp [results, Try.results14, go_sem, *]) rfl HZ.out
  · have ho := new_row1 w3 9 (B := B + 1) (by omega)
    have hbo : Below w3.heap.size w3 (w3.alloc (.cells #[] 9)) := (Below.refl _ _).alloc (Nat.le_refl _) _
    have HI : Hid (LLI w (w3.alloc (.cells #[] 9)) rb (q + 1) B size many 9 (.slice (some ⟨w3.heap.size, 0, none⟩) 0 0) (strs [])) :=
      ⟨k4.keep hbo, kp4.keep hbo, ho, HR4.out.keep hbo, e4.trans (hbo.mono e4.size), by omega, hlt2, by simp; omega⟩
    obtain ⟨i0, hi, hz0, hz1, hz2⟩ := info_parts infoStr
    have HI0 : Hid (Try.prog.info? 9 = some i0 ∧ i0.zero = some (.string (mkB [])) ∧ i0.size = 1 ∧ i0.bytes = 16) := ⟨hi, hz0, hz1, hz2⟩
    clear hi hz0 hz1 hz2 ho hbo k4 kp4 e4 HR4
    have hpc : (pc == 0) = false := by simpa using hc
    go_wp2_with fail
    generalize w3.alloc (.cells #[] 9) = X0 at *
    go_loopg [6, 7] 5 (fun gm s6 s7 wr => ∃ (i q' : Nat) (u : Value) (L : List (List UInt8)), gm = 5 - i ∧ i ≤ 5 ∧ s7 = .int .i64 i ∧ u = s6 ∧ Hid (LLI w wr rb q' B size many 9 u (strs L)) ∧ L.length = i ∧ q' ≤ q + 1 + 20 * i ∧ (∀ j, (L.getD j []).length ≤ 49))
    case atStart => exact ⟨0, q + 1, _, [], rfl, by omega, rfl, rfl, HI, rfl, by omega, fun j => by simp⟩
    case round =>
      obtain ⟨i, q', u, L, rfl, hi5, rfl, rfl, HI, hLi, hq', hLb⟩ := hrel
      have HLb := Lib.hid hLb
      have HLi := Lib.hid hLi
      clear hLb hLi
      obtain ⟨y1, y2, y3, y4⟩ := id HI.out.kp
      by_cases hc : (i : Int) < many ∧ i < 5
      · obtain ⟨hc1, hc2⟩ := hc
        have hcd : decide (i < 5) = true := by simpa using hc2
        have hcd2 : decide ((i : Int) < 5) = true := by simp; omega
        go_wp2_with fail
        refine (l2Text_any rb q' 14 _ HI.out.rd (by omega) (by omega)).mono ?_; rintro e w7 ⟨x, q7, rfl, hx, hr7, hq7, hg7⟩
        have HI7 := Lib.hid (HI.out.step hr7 hg7)
        have HLx : Hid (∀ j, ((L ++ [x]).getD j []).length ≤ 49) := fun j => by
          have h0 := HLb.out j
          rw [List.getD_eq_getElem?_getD] at h0 ⊢
          by_cases hj : j < L.length
          · rw [List.getElem?_append_left hj]; exact h0
          · rw [List.getElem?_append_right (by omega)]
            by_cases hj2 : j - L.length = 0
            · rw [hj2]; simp; omega
            · rw [List.getElem?_eq_none (by simp; omega)]; simp
        clear hr7 hg7 HI y1 y2 y3 y4
        have hsz : B + 1 ≤ w7.heap.size := HI7.out.b3
        have HON : Hid (w7.ownsRow (B + 1) 9 1 u i (strs L)) := by have := HI7.out.own; rwa [strs_len, HLi.out] at this
        go_wp2_with (at_builtin; refine wpList_append_own _ rfl _ _ 27 rfl (B + 1) 9 i0 (.string (mkB [])) 1 16 Try.underlying27 HI0.out.1 HI0.out.2.1 HI0.out.2.2.1 HI0.out.2.2.2 rfl (by decide) _ _ _ rfl (HON.out.alloc _) ⟨w7.heap.size, 0, none⟩ 1 1 [.string (mkB x)] rfl rfl ?c1 ?c2 ?c3 ?c4 ?c5 ?_)
        case c1 => exact one_new _ _ _
        case c2 => simp [Value.oneCell']
        case c3 => have := HLi.out; unfold maxLen; omega
        case c4 => have := HLi.out; omega
        case c5 => first | omega | (simp; omega)
        intro v' w9 hown' hgrow _
        have HI9 : Hid (LLI w w9 rb q7 B size many 9 v' (strs (L ++ [x]))) := by
          show LLI _ _ _ _ _ _ _ _ _ _
          have e : strs (L ++ [x]) = strs L ++ [.string (mkB x)] := by unfold strs; rw [List.map_append]; rfl
          rw [e]
          exact HI7.out.app (by rw [strs_len, HLi.out]) hown' hgrow
        clear hown' hgrow HON HI7
        go_wp2
        go_roundg (5 - (i + 1))
        case measure => omega
        case rel => exact ⟨i + 1, q7, v', L ++ [x], rfl, by omega, by go_num, rfl, HI9, by rw [List.length_append, HLi.out]; rfl, by omega, HLx.out⟩
      · have hgo : ((i : Int) < many ∧ ¬ i < 5) ∨ ¬ ((i : Int) < many) := by omega
        clear hc
        rcases hgo with ⟨h1, h2⟩ | h1
        · exfalso; omega
        · have HON : Hid (wr.ownsRow (B + 1) 9 1 u i (strs L)) := by have := HI.out.own; rwa [strs_len, HLi.out] at this
          by_cases hi0 : i = 0
          · subst hi0
            obtain ⟨x1, x2, x3, x4⟩ := id HI.out.k0
            have hl0 : L = [] := List.eq_nil_of_length_eq_zero HLi.out
            subst hl0
            obtain ⟨au, cu, rfl⟩ : ∃ au cu, u = .slice au 0 cu := by
              rcases HON.out.2 with ⟨rfl, -⟩ | ⟨g, cap, cur, rfl, -⟩
              · exact ⟨_, _, rfl⟩
              · exact ⟨_, _, rfl⟩
            have HZ := Lib.hid (lt_fin (size := size) (many := many) (show w.heap.size < B + 1 by omega) (L := []) HON.out HLb.out (by simp) HI.out.bel)
            go_wp2
            exact bodyPost_ret (v := .tuple #[.agg #[.int .i64 size, .int .i64 many], .slice au 0 cu]) (by simp [results, Try.results14, go_sem, *]) rfl HZ.out
          · obtain ⟨gu, cu, rfl⟩ : ∃ gu cu, u = .slice (some ⟨gu, 0, none⟩) i cu := by
              rcases HON.out.2 with ⟨-, h0⟩ | ⟨g, cap, cur, rfl, -⟩
              · exfalso; omega
              · exact ⟨_, _, rfl⟩
            have hip : (0 : Int) < (i : Int) := by omega
            go_wp2_with fail
            refine (pick_any rb q' 16 _ HI.out.rd (by omega) (by omega) (by omega)).mono ?_; rintro e w5 ⟨pd, rfl, d0, -, hr5, hg5⟩
            have HI5 := Lib.hid (HI.out.step hr5 hg5)
            clear hr5 hg5 HI HON y1 y2 y3 y4
            by_cases hd : pd = 0
            · subst hd
              go_wp2_with fail
              refine (l2Some_any rb (q' + 1) _ HI5.out.rd (by omega)).mono ?_; rintro e w6 ⟨x, q6, rfl, hx, hr6, hq6, hg6⟩
              have HI6 := Lib.hid (HI5.out.step hr6 hg6)
              clear hr6 hg6 HI5
              have HON : Hid (w6.ownsRow (B + 1) 9 1 (.slice (some ⟨gu, 0, none⟩) i cu) i (strs L)) := by have := HI6.out.own; rwa [strs_len, HLi.out] at this
              have q0 : w6.cell? ⟨gu, 0, none⟩ = some (.string (mkB (L.getD 0 []))) := by
                rw [HON.out.cellAt _ (by omega)]
                unfold strs
                rw [List.getElem?_map, List.getElem?_eq_getElem (by have := HLi.out; omega), List.getD_eq_getElem?_getD, List.getElem?_eq_getElem (by have := HLi.out; omega)]; rfl
              have q1 : w6.frozen? ⟨gu, 0, none⟩ = false := HON.out.frozenAt _
              have HI7 := Lib.hid (HI6.out.put HLi.out 0 (s := x))
              have HLx : Hid (∀ j, ((L.set 0 x).getD j []).length ≤ 49) := fun j => by
                have h0 := HLb.out j
                rw [List.getD_eq_getElem?_getD] at h0 ⊢
                rw [List.getElem?_set]
                by_cases hj : 0 = j
                · subst hj; rw [if_pos rfl]; split <;> simp <;> omega
                · rw [if_neg hj]; exact h0
              have HLn : Hid ((L.set 0 x).length = i) := by show _ = _; simpa using HLi.out
              clear HON HI6
              obtain ⟨X7, hX7⟩ : ∃ X, w6.setCell ⟨gu, 0, none⟩ (.string (mkB x)) = X := ⟨_, rfl⟩
              rw [hX7] at HI7
              obtain ⟨x1, x2, x3, x4⟩ := id HI7.out.k0
              obtain ⟨y1, y2, y3, y4⟩ := id HI7.out.kp
              have HO7 : Hid (X7.ownsRow (B + 1) 9 1 (.slice (some ⟨gu, 0, none⟩) i cu) (L.set 0 x).length (strs (L.set 0 x))) := by have := HI7.out.own; rw [strs_len] at this; exact this
              have HZ := Lib.hid (lt_fin (size := size) (many := many) (show w.heap.size < B + 1 by omega) HO7.out HLx.out (by rw [HLn.out]; omega) HI7.out.bel)
              go_wp2
              exact bodyPost_ret (v := .tuple #[.agg #[.int .i64 size, .int .i64 many], .slice (some ⟨gu, 0, none⟩) i cu]) (by simp [results, Try.results14, go_sem, *]) rfl HZ.out
            · obtain ⟨x1, x2, x3, x4⟩ := id HI5.out.k0
              obtain ⟨y1, y2, y3, y4⟩ := id HI5.out.kp
              have HO5 : Hid (w5.ownsRow (B + 1) 9 1 (.slice (some ⟨gu, 0, none⟩) i cu) L.length (strs L)) := by have := HI5.out.own; rw [strs_len] at this; exact this
              have HZ := Lib.hid (lt_fin (size := size) (many := many) (show w.heap.size < B + 1 by omega) HO5.out HLb.out (by rw [HLi.out]; omega) HI5.out.bel)
              have hpd : (pd == 0) = false := by simpa using hd
              go_wp2
              exact bodyPost_ret (v := .tuple #[.agg #[.int .i64 size, .int .i64 many], .slice (some ⟨gu, 0, none⟩) i cu]) (by simp [results, Try.results14, go_sem, *]) rfl HZ.out

end Go.Proofs.Ytdlofeemeeabjaa
