/-
  Contract of DrawLayLong: a layout, a list of at most six small numbers; nothing that existed has changed.
-/
import Derived.Test.YteglfdcoeogilaaDrawLay
import Derived.Test.YteglfdcoeogilaaRow1
import Derived.Deep.LoopGhost
import Derived.Deep.DeepCutAuto
namespace Go.Proofs.Yteglfdcoeogilaa
open Go.RowKit

def DtLL (w : World) (e : Ending) (w' : World) : Prop :=
  ∃ (size many : Int) (v : Value) (L : List Int), e = .returned (.tuple #[.agg #[.int .i64 size, .int .i64 many], v]) ∧ Hid (Vls w' v L.length (fun i => .int .i64 (L.getD i 0))) ∧ (∀ x ∈ L, -1 ≤ x ∧ x ≤ 49) ∧ L.length ≤ 6 ∧ Below w.heap.size w w'

theorem infoIntR : (Try.prog.info? 3).map (fun i => (i.zero, i.size, i.bytes)) = some (some (.int .i64 0), 1, 8) := by kernel_rfl

theorem vls_list {w : World} {v : Value} {n : Nat} {L : List Int} (hn : n = L.length) (h : Vls w v n (fun i => (L.map (Value.int .i64)).getD i (.bool false))) : Vls w v L.length (fun i => .int .i64 (L.getD i 0)) := by
  subst hn
  refine h.congr fun i hi => ?_
  simp [List.getD_eq_getElem?_getD, List.getElem?_map, List.getElem?_eq_getElem hi]

/-- What holds between two draws: the two boxes, the row, the reader. -/
structure LLI (w wr : World) (rb q B : Nat) (size many : Int) (T : TypeId) (v : Value) (xs : List Value) : Prop where
  k0 : Box2 wr w.heap.size 0 0
  kp : Box2 wr B size many
  own : wr.ownsRow (B + 1) T 1 v xs.length xs
  rd : Rd wr rb q
  bel : Below w.heap.size w wr
  b1 : w.heap.size < rb
  b2 : rb < B
  b3 : B < wr.heap.size

theorem LLI.step {w wr w' : World} {rb q q' B : Nat} {size many : Int} {T : TypeId} {v : Value} {xs : List Value} (h : LLI w wr rb q B size many T v xs) (hr : Rd w' rb q') (hg : wr.grownBy w' (some rb)) : LLI w w' rb q' B size many T v xs :=
  ⟨h.k0.grown hg (by have := h.b1; omega), h.kp.grown hg (by have := h.b2; omega), World.ownsRow.kept h.own hg (by
      by_cases e : v.ownBlock = some rb
      · exact absurd (h.own.lt rb e).1 (by have := h.b2; omega)
      · exact Or.inr e), hr, h.bel.trans (below_grown hg (by have := h.b1; omega) h.bel.size), h.b1, h.b2, Nat.lt_of_lt_of_le h.b3 hg.size⟩
theorem LLI.alloc {w wr : World} {rb q B : Nat} {size many : Int} {T : TypeId} {v : Value} {xs : List Value} (h : LLI w wr rb q B size many T v xs) (o : Obj) : LLI w (wr.alloc o) rb q B size many T v xs :=
  have hb : Below wr.heap.size wr (wr.alloc o) := (Below.refl _ _).alloc (Nat.le_refl _) _
  ⟨h.k0.keep hb, h.kp.keep hb, h.own.alloc o, h.rd.keep hb, h.bel.trans (hb.mono h.bel.size), h.b1, h.b2, Nat.lt_of_lt_of_le h.b3 hb.size⟩
theorem rd_grown1 {a b : World} {rb q g : Nat} (h : Rd a rb q) (hg : a.grownBy b (some g)) (hlt : rb < g) : Rd b rb q := by
  obtain ⟨z, x, len, cap, h0, h1, h2, h3, h4⟩ := h
  refine ⟨z, x, len, cap, grown_cell hg (by omega) h0, grown_cell hg (by omega) h1, (grown_frozen hg (by omega) h1).trans h2, h3, fun hp => ?_⟩
  obtain ⟨b', off, ha, hne, hc⟩ := h4 hp
  exact ⟨b', off, ha, hne, fun i hi => ⟨grown_cell hg (by omega) (hc i hi).1, (hc i hi).2⟩⟩
theorem LLI.app {w wr w9 : World} {rb q B n : Nat} {size many : Int} {T : TypeId} {v v' x : Value} {xs : List Value} {C : Array Value} {U : TypeId} (h : LLI w wr rb q B size many T v xs) (hn : n = xs.length)
    (hown : w9.ownsRow (B + 1) T 1 v' (n + 1) (xs ++ [x])) (hgrow : (wr.alloc (.cells C U)).grownBy w9 v.ownBlock) : LLI w w9 rb q B size many T v' (xs ++ [x]) := by
  have ha := h.alloc (.cells C U)
  have hne : ∀ g, v.ownBlock = some g → B + 1 ≤ g := fun g e => (h.own.lt g e).1
  have hsz := hgrow.size
  cases hv : v.ownBlock with
  | none =>
    rw [hv] at hgrow
    have hg2 : (wr.alloc (.cells C U)).grownBy w9 (some rb) := ⟨hgrow.os, hgrow.tape, hgrow.output, hgrow.size, fun i hi _ => hgrow.block i hi (by simp)⟩
    have hb9 : Below (wr.alloc (.cells C U)).heap.size (wr.alloc (.cells C U)) w9 := ⟨hgrow.os, hgrow.tape, hgrow.output, hgrow.size, fun i hi => hgrow.block i hi (by simp)⟩
    exact ⟨ha.k0.keep hb9, ha.kp.keep hb9, by rw [List.length_append, ← hn]; exact hown, ha.rd.keep hb9, ha.bel.trans (hb9.mono ha.bel.size), h.b1, h.b2, Nat.lt_of_lt_of_le ha.b3 hsz⟩
  | some g =>
    have hg := hne g hv
    rw [hv] at hgrow
    exact ⟨ha.k0.grown hgrow (by have := h.b1; have := h.b2; omega), ha.kp.grown hgrow (by omega), by rw [List.length_append, ← hn]; exact hown, rd_grown1 ha.rd hgrow (by have := h.b2; omega),
      ha.bel.trans (below_grown hgrow (by have := h.b1; have := h.b2; omega) ha.bel.size), h.b1, h.b2, Nat.lt_of_lt_of_le ha.b3 hsz⟩

set_option maxHeartbeats 4000000 in
theorem drawLayLong_any (v : Value) (len : Nat) (w : World) (h : Byt w v len) :
    Calls Try.prog 31 #[v] w (DtLL w) := by
  have k0 := new_box w 0 0 24
  have hal : Below w.heap.size w (w.alloc (.cells #[.int .i64 0, .int .i64 0] 24)) := (Below.refl _ _).alloc (Nat.le_refl _) _
  have hs : (w.alloc (.cells #[.int .i64 0, .int .i64 0] 24)).heap.size = w.heap.size + 1 := by simp
  have HS := Lib.hid hs
  have HB := Lib.hid (byt_keep h hal)
  clear h hs
  go_enter Try.func31, Try.ntmps31
  go_wp2_with fail
  refine (open_any v len _ HB.out).mono ?_; rintro e w1 ⟨rb, rfl, hrb, hr1, hb1⟩
  rw [HS.out] at hrb
  have k1 := k0.keep hb1
  have e1 := hal.trans (hb1.mono hal.size)
  have HR1 := Lib.hid hr1
  have hsz1 : w.heap.size < w1.heap.size := by have := hb1.size; rw [HS.out] at this; omega
  clear hr1 hb1 hal HB HS k0
  go_wp2_with fail
  refine (l3Lays_any rb 0 _ HR1.out (by omega)).mono ?_; rintro e w2 ⟨size, many, q, rfl, s0, s1, m0, m1, hr2, hq2, hg2⟩
  have k2 := k1.grown hg2 (by omega)
  have e2 := e1.trans (below_grown hg2 (by omega) e1.size)
  have hlt2 := hr2.lt
  have kp2 := new_box w2 size many 24
  have hal2 : Below w2.heap.size w2 (w2.alloc (.cells #[.int .i64 size, .int .i64 many] 24)) := (Below.refl _ _).alloc (Nat.le_refl _) _
  have k3 := k2.keep hal2
  have HR3 := Lib.hid (hr2.keep hal2)
  have e3 := e2.trans (hal2.mono e2.size)
  have hsz3 : w.heap.size < w2.heap.size := by have := hr2.lt; omega
  clear hr2 hg2 HR1 e1 k1 k2 e2 hal2
  have hs2 : (w2.alloc (.cells #[.int .i64 size, .int .i64 many] 24)).heap.size = w2.heap.size + 1 := by simp
  have ho := new_row1 (w2.alloc (.cells #[.int .i64 size, .int .i64 many] 24)) 3 (B := w2.heap.size + 1) (by rw [hs2]; exact Nat.le_refl _)
  rw [hs2] at ho
  have hbo : Below (w2.alloc (.cells #[.int .i64 size, .int .i64 many] 24)).heap.size _ ((w2.alloc (.cells #[.int .i64 size, .int .i64 many] 24)).alloc (.cells #[] 3)) := (Below.refl _ _).alloc (Nat.le_refl _) _
  have HI : Hid (LLI w ((w2.alloc (.cells #[.int .i64 size, .int .i64 many] 24)).alloc (.cells #[] 3)) rb q w2.heap.size size many 3 (.slice (some ⟨w2.heap.size + 1, 0, none⟩) 0 0) ([].map (Value.int .i64))) :=
    ⟨k3.keep hbo, kp2.keep hbo, ho, HR3.out.keep hbo, e3.trans (hbo.mono e3.size), by omega, hlt2, by simp; omega⟩
  have hrbw : w.heap.size < rb := by omega
  clear hs2 ho hbo k3 kp2 HR3 e3
  obtain ⟨i0, hi, hz0, hz1, hz2⟩ := info_parts infoIntR
  have HI0 : Hid (Try.prog.info? 3 = some i0 ∧ i0.zero = some (.int .i64 0) ∧ i0.size = 1 ∧ i0.bytes = 8) := ⟨hi, hz0, hz1, hz2⟩
  clear hi hz0 hz1 hz2
  go_wp2_with fail
  generalize (w2.alloc (.cells #[.int .i64 size, .int .i64 many] 24)).alloc (.cells #[] 3) = W at *
  generalize w2.heap.size = B at *
  go_loopg [6, 7] 5 (fun gm s6 s7 wr => ∃ (i q' : Nat) (u : Value) (L : List Int), gm = 5 - i ∧ i ≤ 5 ∧ s7 = .int .i64 i ∧ u = s6 ∧ Hid (LLI w wr rb q' B size many 3 u (L.map (Value.int .i64))) ∧ L.length = i ∧ q' ≤ q + 10 * i ∧ (∀ x ∈ L, -1 ≤ x ∧ x ≤ 49))
  case atStart => exact ⟨0, q, _, [], rfl, by omega, rfl, rfl, HI, rfl, by omega, fun x hx => by simp at hx⟩
  case round =>
    obtain ⟨i, q', u, L, rfl, hi5, rfl, rfl, HI, hLi, hq', hLb⟩ := hrel
    have HLb := Lib.hid hLb
    have HLi := Lib.hid hLi
    clear hLb hLi
    obtain ⟨y1, y2, y3, y4⟩ := id HI.out.kp
    by_cases hc : (i : Int) < many ∧ i < 5
    · obtain ⟨hc1, hc2⟩ := hc
      have hcd : decide (i < 5) = true := by simpa using hc2
      have hcd2 : decide ((i : Int) < 5) = true := by simp; omega
      go_wp2_with fail
      refine (pick_any rb q' 17 _ HI.out.rd (by omega) (by omega) (by omega)).mono ?_; rintro e w3 ⟨a, rfl, a0, a1, hr3, hg3⟩
      have a2 := a1 (by omega)
      have HI3 := Lib.hid (HI.out.step hr3 hg3)
      clear a1 hr3 hg3 HI
      go_wp2_with fail
      refine (pick_any rb (q' + 1) 17 _ HI3.out.rd (by omega) (by omega) (by omega)).mono ?_; rintro e w4 ⟨b, rfl, b0, b1, hr4, hg4⟩
      have b2 := b1 (by omega)
      have HI4 := Lib.hid (HI3.out.step hr4 hg4)
      clear b1 hr4 hg4 HI3
      go_wp2_with fail
      refine (pick_any rb (q' + 1 + 1) 12 _ HI4.out.rd (by omega) (by omega) (by omega)).mono ?_; rintro e w5 ⟨c, rfl, c0, c1, hr5, hg5⟩
      have c2 := c1 (by omega)
      have HI5 := Lib.hid (HI4.out.step hr5 hg5)
      clear c1 hr5 hg5 HI4
      go_wp2_with fail
      refine (pick_any rb (q' + 1 + 1 + 1) 48 _ HI5.out.rd (by omega) (by omega) (by omega)).mono ?_; rintro e w6 ⟨d, rfl, d0, d1, hr6, hg6⟩
      have d2 := d1 (by omega)
      have HI6 := Lib.hid (HI5.out.step hr6 hg6)
      clear d1 hr6 hg6 HI5
      go_wp2_with fail
      refine (numLA_any rb (q' + 1 + 1 + 1 + 1) [a, b, c, 0, d, 49, -1] 7 (fun v => -1 ≤ v ∧ v ≤ 49) w6 w6.heap.size _ _ rfl rfl rfl HI6.out.rd (by omega) (by omega) (by omega) (by simp; omega)).mono ?_; rintro e w7 ⟨x, q7, rfl, ⟨x0, x1⟩, hr7, hq7, hg7⟩
      have HI7 := Lib.hid (HI6.out.step hr7 hg7)
      have HLx : Hid (∀ y ∈ L ++ [x], -1 ≤ y ∧ y ≤ 49) := fun y hy => by
        rcases List.mem_append.1 hy with h | h
        · exact HLb.out y h
        · simp at h; subst h; exact ⟨x0, x1⟩
      clear hr7 hg7 HI6 y1 y2 y3 y4
      have hsz : B + 1 ≤ w7.heap.size := HI7.out.b3
      have HON : Hid (w7.ownsRow (B + 1) 3 1 u i (L.map (Value.int .i64))) := by have := HI7.out.own; rwa [List.length_map, HLi.out] at this
      go_wp2_with (at_builtin; refine wpList_append_own _ rfl _ _ 47 rfl (B + 1) 3 i0 (.int .i64 0) 1 8 Try.underlying47 HI0.out.1 HI0.out.2.1 HI0.out.2.2.1 HI0.out.2.2.2 rfl (by decide) _ _ _ rfl (HON.out.alloc _) ⟨w7.heap.size, 0, none⟩ 1 1 [.int .i64 x] rfl rfl ?c1 ?c2 ?c3 ?c4 ?c5 ?_)
      case c1 => exact one_new _ _ _
      case c2 => simp [Value.oneCell']
      case c3 => have := HLi.out; unfold maxLen; omega
      case c4 => have := HLi.out; omega
      case c5 => first | omega | (simp; omega)
      intro v' w9 hown' hgrow _
      have HI9 : Hid (LLI w w9 rb q7 B size many 3 v' ((L ++ [x]).map (Value.int .i64))) := by
        show LLI _ _ _ _ _ _ _ _ _ _
        rw [List.map_append]
        exact HI7.out.app (by rw [List.length_map, HLi.out]) hown' hgrow
      clear hown' hgrow HON HI7
      go_wp2
      go_roundg (5 - (i + 1))
      case measure => omega
      case rel => exact ⟨i + 1, q7, v', L ++ [x], rfl, by omega, by go_num, rfl, HI9, by rw [List.length_append, HLi.out]; rfl, by omega, HLx.out⟩
    · have HON : Hid (wr.ownsRow (B + 1) 3 1 u i (L.map (Value.int .i64))) := by have := HI.out.own; rwa [List.length_map, HLi.out] at this
      have hgo : ((i : Int) < many ∧ ¬ i < 5) ∨ ¬ ((i : Int) < many) := by omega
      clear hc
      have fin : ∀ (W' : World) (u' : Value) (q9 : Nat) (L' : List Int), LLI w W' rb q9 B size many 3 u' (L'.map (Value.int .i64)) → (∀ x ∈ L', -1 ≤ x ∧ x ≤ 49) → L'.length ≤ 6 → DtLL w (.returned (.tuple #[.agg #[.int .i64 size, .int .i64 many], u'])) ((W'.setCell ⟨w.heap.size, 0, none⟩ (.int .i64 size)).setCell ⟨w.heap.size, 1, none⟩ (.int .i64 many)) := fun W' u' q9 L' hI hb hl => by
        have g1 := hI.own.lt
        have hne : Value.ownBlock u' ≠ some w.heap.size := fun e => by have := (g1 _ e).1; have := hI.b1; have := hI.b2; omega
        have o1 := World.ownsRow.kept (World.ownsRow.kept hI.own (grown_set W' w.heap.size 0 (.int .i64 size)) (Or.inr hne)) (grown_set _ w.heap.size 1 (.int .i64 many)) (Or.inr hne)
        exact ⟨size, many, u', L', rfl, vls_list (by rw [List.length_map]) (own_vls o1), hb, hl, (hI.bel.setCell (p := ⟨w.heap.size, 0, none⟩) (Nat.le_refl _) _).setCell (p := ⟨w.heap.size, 1, none⟩) (Nat.le_refl _) _⟩
      have HFin := Lib.hid fin
      clear fin
      rcases hgo with ⟨h1, h2⟩ | h1
      · exfalso; omega
      · go_wp2_with fail
        refine (pick_any rb q' 20 _ HI.out.rd (by omega) (by omega) (by omega)).mono ?_; rintro e w3 ⟨c, rfl, c0, c1, hr3, hg3⟩
        have HI3 := Lib.hid (HI.out.step hr3 hg3)
        clear c1 hr3 hg3 y1 y2 y3 y4 HI HON
        obtain ⟨y1, y2, y3, y4⟩ := id HI3.out.kp
        obtain ⟨x1, x2, x3, x4⟩ := id HI3.out.k0
        by_cases hc : c = 0
        · subst hc
          have hsz : B + 1 ≤ w3.heap.size := HI3.out.b3
          have HON : Hid (w3.ownsRow (B + 1) 3 1 u i (L.map (Value.int .i64))) := by have := HI3.out.own; rwa [List.length_map, HLi.out] at this
          go_wp2_with (at_builtin; refine wpList_append_own _ rfl _ _ 47 rfl (B + 1) 3 i0 (.int .i64 0) 1 8 Try.underlying47 HI0.out.1 HI0.out.2.1 HI0.out.2.2.1 HI0.out.2.2.2 rfl (by decide) _ _ _ rfl (HON.out.alloc _) ⟨w3.heap.size, 0, none⟩ 1 1 [.int .i64 1] rfl rfl ?c1 ?c2 ?c3 ?c4 ?c5 ?_)
          case c1 => exact one_new _ _ _
          case c2 => simp [Value.oneCell']
          case c3 => unfold maxLen; omega
          case c4 => omega
          case c5 => first | omega | (simp; omega)
          intro v' w9 hown' hgrow _
          have HI9 : Hid (LLI w w9 rb (q' + 1) B size many 3 v' ((L ++ [1]).map (Value.int .i64))) := by
            show LLI _ _ _ _ _ _ _ _ _ _
            rw [List.map_append]
            exact HI3.out.app (by rw [List.length_map, HLi.out]) hown' hgrow
          clear hown' hgrow HON HI3 y1 y2 y3 y4 x1 x2 x3 x4
          obtain ⟨y1, y2, y3, y4⟩ := id HI9.out.kp
          obtain ⟨x1, x2, x3, x4⟩ := id HI9.out.k0
          have HZ := Lib.hid (HFin.out w9 v' (q' + 1) (L ++ [1]) HI9.out (fun y hy => by
            rcases List.mem_append.1 hy with h | h
            · exact HLb.out y h
            · simp at h; subst h; omega) (by rw [List.length_append, HLi.out]; simp <;> omega))
          go_wp2
          exact bodyPost_ret (v := .tuple #[.agg #[.int .i64 size, .int .i64 many], v']) (by simp [results, Try.results31, go_sem, *]) rfl HZ.out
        · have HZ := Lib.hid (HFin.out w3 u (q' + 1) L HI3.out HLb.out (by rw [HLi.out]; omega))
          go_wp2
          exact bodyPost_ret (v := .tuple #[.agg #[.int .i64 size, .int .i64 many], u]) (by simp [results, Try.results31, go_sem, *]) rfl HZ.out

end Go.Proofs.Yteglfdcoeogilaa
