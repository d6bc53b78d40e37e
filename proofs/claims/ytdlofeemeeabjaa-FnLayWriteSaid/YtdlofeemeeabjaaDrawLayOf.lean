/-
  Contract of DrawLayOf: a layout, a text; nothing that existed has changed.
-/
import Derived.Test.YtdlofeemeeabjaaDrawLay
import Derived.Test.YtdlofeemeeabjaaDrawText
namespace Go.Proofs.Ytdlofeemeeabjaa
open Go.RowKit

def DtLO (w : World) (e : Ending) (w' : World) : Prop :=
  ∃ (size many : Int) (l : List UInt8), e = .returned (.tuple #[.agg #[.int .i64 size, .int .i64 many], .string (mkB l)]) ∧ l.length ≤ 49 ∧ Below w.heap.size w w'

set_option maxHeartbeats 4000000 in
theorem drawLayOf_any (v : Value) (len : Nat) (w : World) (h : Byt w v len) :
    Calls Try.prog 7 #[v] w (DtLO w) := by
  have k0 := new_box w 0 0 24
  have hal : Below w.heap.size w (w.alloc (.cells #[.int .i64 0, .int .i64 0] 24)) := (Below.refl _ _).alloc (Nat.le_refl _) _
  have hs : (w.alloc (.cells #[.int .i64 0, .int .i64 0] 24)).heap.size = w.heap.size + 1 := by simp
  have HS := Lib.hid hs
  have HB := Lib.hid (byt_keep h hal)
  clear h hs
  go_enter Try.func7, Try.ntmps7
  go_wp2_with fail
  refine (open_any v len _ HB.out).mono ?_; rintro e w1 ⟨rb, rfl, hrb, hr1, hb1⟩
  rw [HS.out] at hrb
  have k1 := k0.keep hb1
  have e1 := hal.trans (hb1.mono hal.size)
  have HR1 := Lib.hid hr1
  have hsz1 : w.heap.size < w1.heap.size := by have := hb1.size; rw [HS.out] at this; omega
  clear hr1 hb1 hal HB HS k0
  go_wp2_with fail
  refine (l3Lays_any rb 0 _ HR1.out (by omega)).mono ?_; rintro e w2 ⟨size, many, q, rfl, s0, s1, m0, m1, hr2, hq2, hg2⟩
  have k2 := k1.grown hg2 (by omega)
  have e2 := e1.trans (below_grown hg2 (by omega) e1.size)
  have hlt2 := hr2.lt
  have kp2 := new_box w2 size many 24
  have hal2 : Below w2.heap.size w2 (w2.alloc (.cells #[.int .i64 size, .int .i64 many] 24)) := (Below.refl _ _).alloc (Nat.le_refl _) _
  have k3 := k2.keep hal2
  have HR3 := Lib.hid (hr2.keep hal2)
  have e3 := e2.trans (hal2.mono e2.size)
  have hsz3 : w.heap.size < w2.heap.size := by have := hr2.lt; omega
  clear hr2 hg2 HR1 e1 k1 k2 e2 hal2
  go_wp2_with fail
  obtain ⟨g, hg⟩ : ∃ g, g = w2.heap.size := ⟨_, rfl⟩
  rw [← hg] at kp2 hsz3 hlt2
  simp only [← hg]
  have hgg : rb < g := by omega
  generalize w2.alloc (.cells #[.int .i64 size, .int .i64 many] 24) = W at *
  clear hg
  have hgR : ¬ g = w.heap.size := by omega
  obtain ⟨y1, y2, y3, y4⟩ := id kp2
  have K0 := k3
  have E0 := e3
  go_region_held3 (fun w' => w'.cell? ⟨g, 0, none⟩ = some (.int .i64 size) ∧ w'.cell? ⟨g, 1, none⟩ = some (.int .i64 many))
    (refine ⟨?_, ?_⟩ <;> first | (go_keep; done) | (refine grown_cell hg6 (by omega) ?_; first | (go_keep; done) | (go_simp; done)) | (refine set2_far (by omega) ?_; first | assumption | (go_keep; done)))
    ((go_at_call 29; refine (l2Some_any rb q _ (HR3.out.keep (Below.refl _ _).drew) (by omega)).mono ?_; rintro e w6 ⟨l, q6, rfl, hl, hr6, hq6, hg6⟩; have k6 := (K0.keep (Below.refl _ _).drew).grown hg6 (by omega); obtain ⟨m1', m2', m3', m4'⟩ := id k6; have e6 := (E0.trans ((Below.refl _ _).drew.mono E0.size)).trans (below_grown hg6 (by omega) (by have := E0.size; simpa using this))))
  go_wp2
  exact bodyPost_ret (v := .tuple #[.agg #[.int .i64 size, .int .i64 many], .string (mkB l)]) (by simp [results, Try.results7, go_sem, *]) rfl ⟨size, many, l, rfl, hl, (e6.setCell (p := ⟨w.heap.size, 0, none⟩) (Nat.le_refl _) _).setCell (p := ⟨w.heap.size, 1, none⟩) (Nat.le_refl _) _⟩

end Go.Proofs.Ytdlofeemeeabjaa
