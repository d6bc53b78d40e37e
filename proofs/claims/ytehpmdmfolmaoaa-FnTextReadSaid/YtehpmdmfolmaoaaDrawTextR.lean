/-
  DrawTextRead: a text and a pair of numbers; nothing that existed has changed.
-/
import Derived.Test.YtehpmdmfolmaoaaDrawText
import Derived.Test.YtehpmdmfolmaoaaDrawSpan
import Derived.Deep.RegionHeld3
namespace Go.Proofs.Ytehpmdmfolmaoaa
open Go.RowKit

def DtR (w : World) (e : Ending) (w' : World) : Prop :=
  ∃ (l : List UInt8) (lo hi : Int), e = .returned (.tuple #[.string (mkB l), .agg #[.int .i64 lo, .int .i64 hi]]) ∧ l.length ≤ 49 ∧ Below w.heap.size w w'

theorem byt_keep {w w1 : World} {v : Value} {len : Nat} (h : Byt w v len) (hb : Below w.heap.size w w1) : Byt w1 v len := by
  obtain ⟨z, a, cap, hv, hl, hm, hc⟩ := h
  refine ⟨z, a, cap, hv, hl, hm, fun hp => ?_⟩
  obtain ⟨b, off, ha, hcc⟩ := hc hp
  exact ⟨b, off, ha, fun i hi => ⟨cell_keep hb (hcc i hi).1, (hcc i hi).2⟩⟩

set_option maxHeartbeats 4000000 in
theorem drawTextRead_any (v : Value) (len : Nat) (w : World) (h : Byt w v len) :
    Calls Try.prog 18 #[v] w (DtR w) := by
  have k0 := new_box w 0 0 24
  have hal : Below w.heap.size w (w.alloc (.cells #[.int .i64 0, .int .i64 0] 24)) := (Below.refl _ _).alloc (Nat.le_refl _) _
  have hs : (w.alloc (.cells #[.int .i64 0, .int .i64 0] 24)).heap.size = w.heap.size + 1 := by simp
  have HS := Lib.hid hs
  have HB := Lib.hid (byt_keep h hal)
  clear h hs
  go_enter Try.func18, Try.ntmps18
  go_wp2_with fail
  refine (open_any v len _ HB.out).mono ?_; rintro e w1 ⟨rb, rfl, hrb, hr1, hb1⟩
  rw [HS.out] at hrb
  replace k0 := k0.keep hb1
  have e1 := hal.trans (hb1.mono hal.size)
  have HR1 := Lib.hid hr1
  clear hr1 hb1 hal HB HS
  go_wp2_with fail
  refine (l2Some_any rb 0 _ HR1.out (by omega)).mono ?_; rintro e w2 ⟨l, q2, rfl, hl, hr2, hq2, hg2⟩
  replace k0 := k0.grown hg2 (by omega)
  have HR2 := Lib.hid hr2
  have e2 := e1.trans (below_grown hg2 (by omega) e1.size)
  clear hr2 hg2 HR1 e1
  go_wp2_with fail
  refine (l1Some_any rb q2 _ HR2.out (by omega)).mono ?_; rintro e w3 ⟨lo, hi, rfl, -, hr3, hg3⟩
  replace k0 := k0.grown hg3 (by omega)
  have e3 := e2.trans (below_grown hg3 (by omega) e2.size)
  have hlt3 := hr3.lt
  have kp := new_box w3 lo hi 24
  have hal3 : Below w3.heap.size w3 (w3.alloc (.cells #[.int .i64 lo, .int .i64 hi] 24)) := (Below.refl _ _).alloc (Nat.le_refl _) _
  replace k0 := k0.keep hal3
  have HR3 := Lib.hid (hr3.keep hal3)
  have e4 := e3.trans (hal3.mono e3.size)
  clear hr3 hg3 HR2 e2 e3 hal3
  obtain ⟨y1, y2, y3, y4⟩ := id kp
  go_wp2_with fail
  obtain ⟨g, hg⟩ : ∃ g, g = w3.heap.size := ⟨_, rfl⟩
  rw [← hg] at kp y1 y2 y3 y4
  simp only [← hg]
  have hgg : rb < g := by omega
  generalize w3.alloc (.cells #[.int .i64 lo, .int .i64 hi] 24) = W at *
  clear hg hlt3
  refine (pick_any rb (q2 + 3) 2 _ HR3.out (by omega) (by omega) (by omega)).mono ?_; rintro e w4 ⟨c, rfl, c0, -, hr4, hg4⟩
  replace k0 := k0.grown hg4 (by omega)
  replace kp := kp.grown hg4 (by omega)
  have e5 := e4.trans (below_grown hg4 (by omega) e4.size)
  have HR4 := Lib.hid hr4
  clear y1 y2 y3 y4 hr4 hg4 HR3 e4
  by_cases hc : c = 0
  · subst hc
    go_wp2_with fail
    refine (pick_any rb (q2 + 3 + 1) 8 _ HR4.out (by omega) (by omega) (by omega)).mono ?_; rintro e w5 ⟨a, rfl, a0, a1, hr5, hg5⟩
    replace k0 := k0.grown hg5 (by omega)
    replace kp := kp.grown hg5 (by omega)
    have e6 := e5.trans (below_grown hg5 (by omega) e5.size)
    have HR5 := Lib.hid hr5
    have a2 := a1 (by omega)
    clear a1 hr5 hg5 HR4 e5
    go_wp2_with fail
    refine (pick_any rb (q2 + 3 + 1 + 1) 8 _ HR5.out (by omega) (by omega) (by omega)).mono ?_; rintro e w6 ⟨b, rfl, b0, b1, hr6, hg6⟩
    replace k0 := k0.grown hg6 (by omega)
    replace kp := kp.grown hg6 (by omega)
    have e7 := e6.trans (below_grown hg6 (by omega) e6.size)
    have b2 := b1 (by omega)
    clear b1 hr6 hg6 HR5 e6
    obtain ⟨y1, y2, y3, y4⟩ := id kp
    have hkp2 : ∀ x y : Int, Box2 ((w6.setCell ⟨g, 0, none⟩ (.int .i64 x)).setCell ⟨g, 1, none⟩ (.int .i64 y)) g x y := fun x y => set2_box kp
    have hk02 : ∀ x y : Int, Box2 ((w6.setCell ⟨g, 0, none⟩ (.int .i64 x)).setCell ⟨g, 1, none⟩ (.int .i64 y)) w.heap.size 0 0 := fun x y => by
      obtain ⟨p1, p2, p3, p4⟩ := k0
      exact ⟨set2_far (by omega) p1, set2_far (by omega) p2, by go_simp, by go_simp⟩
    have he8 : ∀ x y : Int, Below w.heap.size w ((w6.setCell ⟨g, 0, none⟩ (.int .i64 x)).setCell ⟨g, 1, none⟩ (.int .i64 y)) := fun x y => (e7.setCell (by simp only; omega) _).setCell (by simp only; omega) _
    have HQ := Lib.hid (And.intro (hkp2 a (9 + b)) (And.intro (hk02 a (9 + b)) (he8 a (9 + b))))
    clear hkp2 hk02 he8
    go_wp2
    obtain ⟨kp2, k02, e8⟩ := HQ.out
    generalize (w6.setCell ⟨g, 0, none⟩ (.int .i64 a)).setCell ⟨g, 1, none⟩ (.int .i64 (9 + b)) = W6 at *
    clear kp k0 HQ y1 y2 y3 y4
    obtain ⟨y1, y2, y3, y4⟩ := kp2
    obtain ⟨x1, x2, x3, x4⟩ := k02
    have hgR : ¬ g = w.heap.size := by omega
    go_region_held3 (fun w' => w'.cell? ⟨g, 0, none⟩ = some (.int .i64 a) ∧ w'.cell? ⟨g, 1, none⟩ = some (.int .i64 (9 + b)))
      (refine ⟨?_, ?_⟩ <;> first | (go_keep; done) | (go_split_ands; exact set2_far (by omega) (by assumption)))
      (fail)
    go_wp2
    exact bodyPost_ret (v := .tuple #[.string (mkB l), .agg #[.int .i64 a, .int .i64 (9 + b)]]) (by simp [results, Try.results18, go_sem, *]) rfl ⟨l, a, (9 + b), rfl, hl, by (repeat (first | exact e8 | exact e8.drew | refine Below.drew ?_ | refine Below.setCell ?_ (by simp only; omega) _))⟩
  · obtain ⟨y1, y2, y3, y4⟩ := id kp
    obtain ⟨x1, x2, x3, x4⟩ := id k0
    go_wp2
    have hgR : ¬ g = w.heap.size := by omega
    go_region_held3 (fun w' => w'.cell? ⟨g, 0, none⟩ = some (.int .i64 lo) ∧ w'.cell? ⟨g, 1, none⟩ = some (.int .i64 hi))
      (refine ⟨?_, ?_⟩ <;> first | (go_keep; done) | (go_split_ands; exact set2_far (by omega) (by assumption)))
      (fail)
    go_wp2
    exact bodyPost_ret (v := .tuple #[.string (mkB l), .agg #[.int .i64 lo, .int .i64 hi]]) (by simp [results, Try.results18, go_sem, *]) rfl ⟨l, lo, hi, rfl, hl, by (repeat (first | exact e5 | exact e5.drew | refine Below.drew ?_ | refine Below.setCell ?_ (by simp only; omega) _))⟩

end Go.Proofs.Ytehpmdmfolmaoaa
