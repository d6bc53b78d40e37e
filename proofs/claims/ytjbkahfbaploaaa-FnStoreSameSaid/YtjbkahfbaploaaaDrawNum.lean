/-
  Contract of the draw of a number out of a list, with what kind of number it is.
-/
import Derived.Test.YtjbkahfbaploaaaDraw
import Derived.Laws.IdiomStrings
namespace Go.Proofs.Ytjbkahfbaploaaa
open Go.RowKit

theorem Rd.lt' {w : World} {rb p : Nat} (h : Rd w rb p) : rb < w.heap.size := by
  obtain ⟨z, a, len, cap, h0, -⟩ := h
  exact World.block_lt_of_cell? w _ h0

/-- What a draw of a number leaves. -/
def Nd (Q : Int → Prop) (w : World) (rb p k : Nat) (e : Ending) (w' : World) : Prop :=
  ∃ (v : Int) (q : Nat), e = .returned (.int .i64 v) ∧ Q v ∧ Rd w' rb q ∧ q ≤ p + k ∧ w.grownBy w' (some rb)

set_option maxHeartbeats 1000000 in
theorem numQ_any (rb p lb ln : Nat) (f : Nat → Int) (Q : Int → Prop) (w : World) (h : Rd w rb p) (hp : p ≤ 1000000000) (hne : lb ≠ rb) (h1 : 1 ≤ ln) (h2 : ln ≤ 1000)
    (hf : ∀ i, i < ln → w.cell? ⟨lb, i, none⟩ = some (.int .i64 (f i)) ∧ Q (f i)) :
    Calls Try.prog 44 #[.pointer (some ⟨rb, 0, none⟩), .slice (some ⟨lb, 0, none⟩) ln ln] w (Nd Q w rb p 1) := by
  have HR := Lib.hid h
  have HF := Lib.hid hf
  clear h hf
  go_enter Try.func44, Try.ntmps44
  go_wp2_with fail
  refine (pick_any rb p ln _ HR.out hp (by omega) (by omega)).mono ?_; rintro e w1 ⟨v, rfl, v0, v1, hr1, hg1⟩
  have v2 := v1 (by omega)
  obtain ⟨c1, c2⟩ := HF.out v.toNat (by omega)
  have c4 := grown_cell hg1 hne c1
  have HR1 := Lib.hid hr1
  have HG1 := Lib.hid hg1
  have HQ := Lib.hid c2
  clear v1 hr1 hg1 c1 c2
  generalize f v.toNat = y at *
  go_wp2
  go_ret
  exact ⟨y, _, rfl, HQ.out, HR1.out, Nat.le_refl _, HG1.out⟩

theorem numL_any (rb p : Nat) (L : List Int) (ln : Nat) (Q : Int → Prop) (W : World) (C : Array Value) (T : TypeId) (hC : C = (L.map (Value.int .i64)).toArray) (hln : L.length = ln) (h : Rd W rb p) (hp : p ≤ 1000000000) (h1 : 1 ≤ ln) (h2 : ln ≤ 1000) (hQ : ∀ x ∈ L, Q x) :
    Calls Try.prog 44 #[.pointer (some ⟨rb, 0, none⟩), .slice (some ⟨W.heap.size, 0, none⟩) ln ln] (W.alloc (.cells C T)) (Nd Q W rb p 1) := by
  subst hC
  have hal : Below W.heap.size W (W.alloc (.cells (L.map (Value.int .i64)).toArray T)) := (Below.refl _ _).alloc (Nat.le_refl _) _
  have hlt := h.lt'
  refine (numQ_any rb p W.heap.size ln (fun i => L.getD i 0) Q _ (h.keep hal) hp (by omega) h1 h2 (fun i hi => ?_)).mono ?_
  · refine ⟨?_, ?_⟩
    · rw [World.cell?_alloc_mark]
      simp [List.getD_eq_getElem?_getD, show i < L.length by omega]
    · rw [List.getD_eq_getElem?_getD, List.getElem?_eq_getElem (by omega)]
      exact hQ _ (List.getElem_mem _)
  · rintro e w' ⟨v, q, rfl, hv, hr, hq, hg⟩
    exact ⟨v, q, rfl, hv, hr, hq, grown_trans (grown_below hal _) hg⟩
theorem numLA_any (rb p : Nat) (L : List Int) (ln : Nat) (Q : Int → Prop) (W : World) (ad : Nat) (C : Array Value) (T : TypeId) (hC : C = (L.map (Value.int .i64)).toArray) (hln : L.length = ln) (had : W.heap.size = ad) (h : Rd W rb p) (hp : p ≤ 1000000000) (h1 : 1 ≤ ln) (h2 : ln ≤ 1000) (hQ : ∀ x ∈ L, Q x) :
    Calls Try.prog 44 #[.pointer (some ⟨rb, 0, none⟩), .slice (some ⟨ad, 0, none⟩) ln ln] (W.alloc (.cells C T)) (Nd Q W rb p 1) := by
  subst had
  exact numL_any rb p L ln Q W C T hC hln h hp h1 h2 hQ

end Go.Proofs.Ytjbkahfbaploaaa
