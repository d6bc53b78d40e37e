/-
  Contract of DrawSpanMeet: two pairs of numbers; nothing that existed has changed.
-/
import Derived.Test.YtcnjceobjmbffaaDrawSpan
namespace Go.Proofs.Ytcnjceobjmbffaa
open Go.RowKit

def Ds2 (w : World) (e : Ending) (w' : World) : Prop :=
  ∃ a b c d : Int, e = .returned (.tuple #[.agg #[.int .i64 a, .int .i64 b], .agg #[.int .i64 c, .int .i64 d]]) ∧ Below w.heap.size w w'

theorem Byt.keep {w w1 : World} {v : Value} {len : Nat} (h : Byt w v len) (hb : Below w.heap.size w w1) : Byt w1 v len := by
  obtain ⟨z, a, cap, hv, hl, hm, hc⟩ := h
  refine ⟨z, a, cap, hv, hl, hm, fun hp => ?_⟩
  obtain ⟨b, off, ha, hcc⟩ := hc hp
  exact ⟨b, off, ha, fun i hi => ⟨cell_keep hb (hcc i hi).1, (hcc i hi).2⟩⟩

set_option maxHeartbeats 4000000 in
theorem drawSpanMeet_any (v : Value) (len : Nat) (w : World) (h : Byt w v len) :
    Calls Try.prog 7 #[v] w (Ds2 w) := by
  have k0 : Box2 ((w.alloc (.cells #[.int .i64 0, .int .i64 0] 24)).alloc (.cells #[.int .i64 0, .int .i64 0] 24)) w.heap.size 0 0 := (new_box w 0 0 24).keep ((Below.refl _ _).alloc (Nat.le_refl _) _)
  have k1 : Box2 ((w.alloc (.cells #[.int .i64 0, .int .i64 0] 24)).alloc (.cells #[.int .i64 0, .int .i64 0] 24)) (w.heap.size + 1) 0 0 := by simpa using new_box (w.alloc (.cells #[.int .i64 0, .int .i64 0] 24)) 0 0 24
  have hal : Below w.heap.size w ((w.alloc (.cells #[.int .i64 0, .int .i64 0] 24)).alloc (.cells #[.int .i64 0, .int .i64 0] 24)) := ((Below.refl _ _).alloc (Nat.le_refl _) _).alloc (by simp) _
  have HB := Lib.hid (h.keep hal)
  have hs : ((w.alloc (.cells #[.int .i64 0, .int .i64 0] 24)).alloc (.cells #[.int .i64 0, .int .i64 0] 24)).heap.size = w.heap.size + 1 + 1 := by simp
  have HS := Lib.hid hs
  clear h hs
  go_enter Try.func7, Try.ntmps7
  go_wp2_with fail
  refine (open_any v len _ HB.out).mono ?_; rintro e w1 ⟨rb, rfl, hrb, hr1, hb1⟩
  rw [HS.out] at hrb
  replace k0 := k0.keep hb1
  replace k1 := k1.keep hb1
  have e1 := hal.trans (hb1.mono hal.size)
  have HR1 := Lib.hid hr1
  have hlt1 := hr1.lt
  clear hr1 hb1 hal HB HS
  go_wp2_with fail
  refine (l1Some_any rb 0 _ HR1.out (by omega)).mono ?_; rintro e w2 ⟨a, b, rfl, -, hr2, hg2⟩
  replace k0 := k0.grown hg2 (by omega)
  replace k1 := k1.grown hg2 (by omega)
  have e2 := e1.trans (below_grown hg2 (by omega) e1.size)
  have hs2 := hg2.size
  have HR2 := Lib.hid hr2
  clear hr2 hg2 HR1 e1
  have kb := new_box w2 a b 24
  have hal2 : Below w2.heap.size w2 (w2.alloc (.cells #[.int .i64 a, .int .i64 b] 24)) := (Below.refl _ _).alloc (Nat.le_refl _) _
  replace k0 := k0.keep hal2
  replace k1 := k1.keep hal2
  have e3 := e2.trans (hal2.mono e2.size)
  have HR3 := Lib.hid (HR2.out.keep hal2)
  go_wp2_with fail
  obtain ⟨g, hg⟩ : ∃ g, g = w2.heap.size := ⟨_, rfl⟩
  rw [← hg] at kb
  simp only [← hg]
  have hgg : rb < g := by omega
  generalize w2.alloc (.cells #[.int .i64 a, .int .i64 b] 24) = W at *
  clear hal2 HR2 e2 hs2 hg hlt1
  obtain ⟨y1, y2, -, -⟩ := id kb
  go_region_held3 (fun w' => w'.cell? ⟨g, 0, none⟩ = some (.int .i64 a) ∧ w'.cell? ⟨g, 1, none⟩ = some (.int .i64 b))
    (refine ⟨?_, ?_⟩ <;> first | (go_keep; done) | (go_split_ands; exact grown_cell hg4 (by omega) (by assumption)) | (go_split_ands; exact set2_far (by omega) (by assumption)) | (go_split_ands; exact set2_far (by omega) (set2_far (by omega) (by assumption))))
    (first | (go_at_call 20; refine (l1Some_any rb 3 _ (HR3.out.keep (Below.refl _ _).drew) (by omega)).mono ?_; rintro e w' ⟨c, d, rfl, -, -, hg4⟩; have hgW := grown_trans (grown_below (Below.drew (Below.refl _ _)) _) hg4; have k00 := k0.grown hgW (by omega); have k11 := k1.grown hgW (by omega); obtain ⟨p1, p2, p3, p4⟩ := k00; obtain ⟨q1, q2, q3, q4⟩ := k11; have e4 := e3.trans (below_grown hgW (by omega) e3.size)))
  go_wp2
  exact bodyPost_ret (v := .tuple #[.agg #[.int .i64 a, .int .i64 b], .agg #[.int .i64 c, .int .i64 d]]) (by simp [results, Try.results7, go_sem, *]) rfl ⟨a, b, c, d, rfl, by (repeat (first | exact e4 | refine Below.setCell ?_ (by simp only; omega) _))⟩

end Go.Proofs.Ytcnjceobjmbffaa
