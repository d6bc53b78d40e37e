/-
  Draws of tables: l4None, l4Some.
-/
import Derived.Test.YtfifimdaepebeaaDrawLists
import Derived.Test.YtfifimdaepebeaaDrawNum
import Derived.Test.YtfifimdaepebeaaSpecDown
import Derived.Test.YtfifimdaepebeaaSpecGive
import Derived.Test.YtfifimdaepebeaaImplGive
import Derived.Deep.RegionHeld3
namespace Go.Proofs.Ytfifimdaepebeaa
open Go.RowKit

def noT : List HoldT := [([], []), ([], []), ([], [])]
theorem noT_ok : lockOkB noT = true := by decide

/-- What a draw of a valid table leaves. -/
def Smt (w : World) (rb p k : Nat) (e : Ending) (w' : World) : Prop :=
  ∃ v T q, e = .returned v ∧ lockOkB T = true ∧ Hid (OTab w' w.heap.size w'.heap.size v T) ∧ Rd w' rb q ∧ q ≤ p + k ∧ w.grownBy w' (some rb)

theorem otab_none {w w' : World} {nb : Nat} (h : RowV2 w' nb 3 (fun _ => .slice none 0 0) (fun _ => .slice none 0 0)) (h1 : w.heap.size ≤ nb) (h2 : nb < w'.heap.size) : OTab w' w.heap.size w'.heap.size (.slice (some ⟨nb, 0, none⟩) 3 3) noT :=
  ⟨_, 3, fun _ => .slice none 0 0, fun _ => .slice none 0 0, rfl, by decide, by decide, fun _ => ⟨nb, rfl, h1, h2, ⟨h, fun i hi => by
    have hi : i < 3 := hi
    match i, hi with
    | 0, _ => exact ⟨⟨none, 0, rfl, fun h => absurd h (by decide)⟩, ⟨none, 0, rfl, fun h => absurd h (by decide)⟩⟩
    | 1, _ => exact ⟨⟨none, 0, rfl, fun h => absurd h (by decide)⟩, ⟨none, 0, rfl, fun h => absurd h (by decide)⟩⟩
    | 2, _ => exact ⟨⟨none, 0, rfl, fun h => absurd h (by decide)⟩, ⟨none, 0, rfl, fun h => absurd h (by decide)⟩⟩⟩,
    ⟨fun i _ => ⟨by simp [Value.ownBlock], by simp [Value.ownBlock]⟩, fun i j _ _ b h => by simp [Value.ownBlock] at h, fun i j _ _ b h => by simp [Value.ownBlock] at h⟩,
    fun i _ => ⟨⟨none, 0, 0, rfl, by decide, by decide⟩, ⟨none, 0, 0, rfl, by decide, by decide⟩⟩⟩⟩

set_option maxRecDepth 100000 in
set_option maxHeartbeats 1000000 in
theorem l4None_any (w : World) : Calls Try.prog 85 #[] w (TbC w noT) := by
  obtain ⟨i0, hi, hz0, hz1, hz2⟩ := info_parts infoHoldT
  have hmk := fun w => run_make_rowN (P := Try.prog) 23 48 i0 (.agg #[.slice none 0 0, .slice none 0 0]) Try.underlying23 hi hz0 .i64 .i64 3 3 (Nat.le_refl _) (by rw [hz2]; omega) (by omega) w
  rw [hz1] at hmk
  clear hi hz0 hz1 hz2
  have HT := Lib.hid (otab_none (w := w) (RowV2.made w 3 (.slice none 0 0) 48) (Nat.le_refl _) (by simp))
  have HB := Lib.hid ((Below.refl _ w).alloc (Nat.le_refl _) (.cells (madeCells #[.slice none 0 0, .slice none 0 0] (3 * 2)) 48))
  go_enter Try.func85, Try.ntmps85
  have hmk3 := hmk w
  rw [show ((3 : Nat) : Int) = 3 from rfl] at hmk3
  go_wp2
  go_ret
  exact ⟨_, rfl, HT, HB.out⟩

theorem chT_val {T : List HoldT} {who lo hi : Int} {f : Int → Int} (h : lockOkB T = true) : lockOkB (chT T who lo hi f).1 = true := by
  unfold chT
  rw [if_pos h]
  split
  · split
    · rename_i h1; exact h1
    · exact h
  · exact h

/-- A table of one's own stays when the reader goes on. -/
theorem OTab.rd {w w1 : World} {lo hi rb : Nat} {v : Value} {T : List HoldT} (ht : OTab w lo hi v T) (hg : w.grownBy w1 (some rb)) (hlt : rb < lo) : OTab w1 lo hi v T :=
  ht.btw (l := rb) (h := rb + 1) ⟨hg.os, hg.tape, hg.output, hg.size, fun i hi' hn => hg.block i hi' (fun e => by injection e with e; omega)⟩ (.inr (by omega))
theorem OTab.rdL {w0 w w1 : World} {rb : Nat} {v : Value} {T : List HoldT} (ht : OTab w w0.heap.size w.heap.size v T) (hg : w.grownBy w1 (some rb)) (hlt : rb < w0.heap.size) : OTab w1 w0.heap.size w1.heap.size v T :=
  (ht.rd hg hlt).widen (Nat.le_refl _) hg.size

/-- What the head of a round of l4Some says. -/
structure Smi (w wr : World) (rb q : Nat) (v : Value) (T : List HoldT) : Prop where
  ok : lockOkB T = true
  tab : OTab wr w.heap.size wr.heap.size v T
  rd : Rd wr rb q
  gr : w.grownBy wr (some rb)
theorem Smi.below {w wr w1 : World} {rb q : Nat} {v : Value} {T : List HoldT} (h : Smi w wr rb q v T) (hb : Below wr.heap.size wr w1) : Smi w w1 rb q v T :=
  ⟨h.ok, h.tab.later hb, h.rd.keep hb, grown_trans h.gr (grown_below hb _)⟩
theorem Smi.read {w wr w1 : World} {rb q q' : Nat} {v : Value} {T : List HoldT} (h : Smi w wr rb q v T) (hlt : rb < w.heap.size) (hr : Rd w1 rb q') (hg : wr.grownBy w1 (some rb)) : Smi w w1 rb q' v T :=
  ⟨h.ok, h.tab.rdL hg hlt, hr, grown_trans h.gr hg⟩
theorem Smi.turn {w wr w1 : World} {rb q : Nat} {v v1 : Value} {T T1 : List HoldT} (h : Smi w wr rb q v T) (hok : lockOkB T1 = true) (ht : OTab w1 wr.heap.size w1.heap.size v1 T1) (hb : Below wr.heap.size wr w1) : Smi w w1 rb q v1 T1 :=
  ⟨hok, ht.wide h.gr.size, h.rd.keep hb, grown_trans h.gr (grown_below hb _)⟩

set_option maxRecDepth 100000 in
set_option maxHeartbeats 8000000 in
theorem l4Some_any (rb p : Nat) (w : World) (h : Rd w rb p) (hp : p ≤ 500000000) :
    Calls Try.prog 64 #[.pointer (some ⟨rb, 0, none⟩)] w (Smt w rb p 100) := by
  have hrb := h.lt
  have HR0 := Lib.hid h
  clear h
  go_enter Try.func64, Try.ntmps64
  go_wp2_with fail
  refine (l4None_any w).mono ?_; rintro e w1 ⟨v1, rfl, ht1, hb1⟩
  have HS1 : Hid (Smi w w1 rb p v1 noT) := ⟨noT_ok, ht1.out, HR0.out.keep hb1, grown_below hb1 _⟩
  clear ht1 hb1 HR0
  go_wp2_with fail
  refine (numLA_any rb p [4, 8, 12, 2, 0] 5 (fun v => 0 ≤ v ∧ v ≤ 12) w1 w1.heap.size _ _ rfl rfl rfl HS1.out.rd (by omega) (by omega) (by omega) (by simp)).mono ?_; rintro e w2 ⟨i, q1, rfl, ⟨i1, i2⟩, hr2, hq2, hg2⟩
  obtain ⟨n0, rfl⟩ : ∃ n : Nat, i = n := ⟨i.toNat, by omega⟩
  have HS2 := Lib.hid (HS1.out.read hrb hr2 hg2)
  clear HS1 hr2 hg2
  go_wp2
  go_loopg [3, 4] n0 (fun gm s3 s4 wr => ∃ (k q : Nat) (T : List HoldT), gm = k ∧ k ≤ n0 ∧ s4 = .int .i64 k ∧ Hid (Smi w wr rb q s3 T) ∧ q ≤ p + 1 + 6 * (12 - k))
  case atStart => exact ⟨n0, q1, noT, rfl, Nat.le_refl _, rfl, HS2, by omega⟩
  case round =>
    obtain ⟨k, q, T, hgk, hk, rfl, HS, hq⟩ := hrel
    obtain rfl := hgk.symm
    clear HS2
    by_cases hk0 : 0 < k
    · go_wp2_with fail
      refine (pick_any rb q 3 _ HS.out.rd (by omega) (by omega) (by omega)).mono ?_; rintro e w3 ⟨who, rfl, c0, c1, hr3, hg3⟩
      have HS3 := Lib.hid (HS.out.read hrb hr3 hg3)
      clear hr3 hg3 HS c1
      go_wp2_with fail
      refine (l1Span_any rb (q + 1) _ HS3.out.rd (by omega)).mono ?_; rintro e w4 ⟨lo, hi, rfl, hsp, hr4, hg4⟩
      have HS4 := Lib.hid (HS3.out.read hrb hr4 hg4)
      obtain ⟨W5, hW5⟩ : ∃ W5, w4.alloc (.cells #[.int .i64 lo, .int .i64 hi] 25) = W5 := ⟨_, rfl⟩
      have hb5 : Below w4.heap.size w4 W5 := by rw [← hW5]; exact (Below.refl _ _).alloc (Nat.le_refl _) _
      have B5 : Box2 W5 w4.heap.size lo hi := by rw [← hW5]; exact new_box w4 lo hi 25
      have HS5 := Lib.hid (HS4.out.below hb5)
      have hne : w4.heap.size ≠ rb := by have := HS4.out.rd.lt; omega
      have HB5 := Lib.hid B5
      obtain ⟨b1, b2, -, -⟩ := B5
      clear hr4 hg4 HS3 HS4 hsp hb5
      go_wp2_with fail
      clear hW5
      refine (pick_any rb (q + 1 + 2) 6 _ HS5.out.rd (by omega) (by omega) (by omega)).mono ?_; rintro e w6 ⟨c, rfl, d0, -, hr6, hg6⟩
      have HS6 := Lib.hid (HS5.out.read hrb hr6 hg6)
      have B6 := HB5.out.grown hg6 hne
      have HB6 := Lib.hid B6
      obtain ⟨x1, x2, -, -⟩ := B6
      clear hr6 hg6 HS5 HB5 b1 b2
      by_cases hc0 : c = 0
      · subst hc0
        have KD := Lib.hid (specDrop_any _ T who lo hi w6 HS6.out.tab.hds)
        have hok := Lib.hid (chT_val (who := who) (lo := lo) (hi := hi) (f := fun x => mn x 0) HS6.out.ok)
        generalize chT T who lo hi (fun x => mn x 0) = C at *
        go_wp2_with fail
        refine KD.out.mono ?_; rintro e w7 ⟨v7, rfl, ht7, hb7⟩
        have HS7 := Lib.hid (HS6.out.turn hok.out ht7.out hb7)
        clear ht7 hb7 HS6 HB6 x1 x2 KD
        go_wp2
        go_roundg (k - 1)
        case measure => omega
        case rel => exact ⟨k - 1, q + 1 + 2 + 1, C.1, rfl, by omega, by go_num, HS7, by omega⟩
      · by_cases hc1 : c = 1
        · subst hc1
          have KD := Lib.hid (specDown_any _ T who lo hi w6 HS6.out.tab.hds)
          have hok := Lib.hid (chT_val (who := who) (lo := lo) (hi := hi) (f := fun x => mn x 1) HS6.out.ok)
          generalize chT T who lo hi (fun x => mn x 1) = C at *
          go_wp2_with fail
          refine KD.out.mono ?_; rintro e w7 ⟨v7, rfl, ht7, hb7⟩
          have HS7 := Lib.hid (HS6.out.turn hok.out ht7.out hb7)
          clear ht7 hb7 HS6 HB6 x1 x2 KD
          go_wp2
          go_roundg (k - 1)
          case measure => omega
          case rel => exact ⟨k - 1, q + 1 + 2 + 1, C.1, rfl, by omega, by go_num, HS7, by omega⟩
        · have hd0 : (c == 0) = false := by simpa using hc0
          have hd1 : (c == 1) = false := by simpa using hc1
          have hq6 : q + 1 + 2 + 1 ≤ 1000000000 := by omega
          go_wp2_with fail
          go_region_held3 (fun w' => w'.cell? ⟨w4.heap.size, 0, none⟩ = some (.int .i64 lo) ∧ w'.cell? ⟨w4.heap.size, 1, none⟩ = some (.int .i64 hi))
            (refine ⟨?_, ?_⟩ <;> first | (go_keep; done) | (refine cell_keep hb ?_; first | (go_keep; done) | assumption) | (refine grown_cell hgr hne ?_; first | (go_keep; done) | assumption))
            (first
              | (go_at_call 16; refine (specGive_any _ T who _ lo hi _ HS7.out.tab.hds).mono ?_; rintro e w8 ⟨v8, rfl, ht8, hb⟩)
              | (go_at_call 72; refine (pick_any rb (q + 1 + 2 + 1) 2 _ (HS6.out.below (Below.refl _ _).drew).rd hq6 (by omega) (by omega)).mono ?_; rintro e w7 ⟨c7, rfl, e0, -, hr7, hgr⟩; have HS7 := Lib.hid ((HS6.out.below (Below.refl _ _).drew).read hrb hr7 hgr)))
          have HS8 := Lib.hid (HS7.out.turn (chT_val HS7.out.ok) ht8.out hb)
          clear ht8 hb HS7 HS6 HB6 x1 x2 hr7 hgr
          go_wp2
          go_roundg (k - 1)
          case measure => omega
          case rel => exact ⟨k - 1, q + 1 + 2 + 1 + 1, _, rfl, by omega, by go_num, HS8, by omega⟩
    · obtain rfl : k = 0 := by omega
      have HSS := Lib.hid HS.out
      go_wp2
      go_ret
      exact ⟨_, T, q, rfl, HSS.out.ok, Lib.hid HSS.out.tab, HSS.out.rd, by omega, HSS.out.gr⟩

end Go.Proofs.Ytfifimdaepebeaa
