/-
  For w0, w1 := StoreDo(toStore(a), toReq(q)) in whatever order: what its calls give, apart from its new box; toReq and szReq.
-/
import Derived.Test.YtadoihddmbbjoaaDoorRegFree
import Derived.Test.YtadoihddmbbjoaaDoorRegChain
import Derived.Test.YtadoihddmbbjoaaDoorStoIDoA
namespace Go.Proofs.YtadoihddmbbjoaaDoor
open Go.RowKit

def CSt (S : StT) (v : Value) (w : World) : Prop := ∃ t0 t1 t2 t3 t4, v = .agg #[t0, t1, t2, t3, t4] ∧ Sto w t0 t1 t2 t3 t4 S
def CTk (base : Nat) (T : StT) (k : Int) (v : Value) (w : World) : Prop := ∃ (lo hi : Nat) (v0 v1 v2 v3 v4 : Value), v = .tuple #[.agg #[v0, v1, v2, v3, v4], .int .i64 k] ∧ base ≤ lo ∧ hi ≤ w.heap.size ∧ Hid (M5 w lo hi v0 v1 v2 v3 v4 T.n5 T.f5)
def InR (lo hi : Nat) (v : Value) : Prop := ∀ b, v.ownBlock = some b → lo ≤ b ∧ b < hi
def Apt (v : Value) (g : Nat) : Prop := ∃ lo hi : Nat, (g < lo ∨ hi ≤ g) ∧ ∀ v0 v1 v2 v3 v4 z, v = .tuple #[.agg #[v0, v1, v2, v3, v4], z] → InR lo hi v0 ∧ InR lo hi v1 ∧ InR lo hi v2 ∧ InR lo hi v3 ∧ InR lo hi v4
theorem CSt.keep {S : StT} {v : Value} {w w1 : World} (h : CSt S v w) (hb : Below w.heap.size w w1) : CSt S v w1 := by
  obtain ⟨t0, t1, t2, t3, t4, e, h⟩ := h; exact ⟨t0, t1, t2, t3, t4, e, h.keep hb⟩
theorem CTk.keep {base : Nat} {T : StT} {k : Int} {v : Value} {w w1 : World} (h : CTk base T k v w) (hb : Below w.heap.size w w1) : CTk base T k v w1 := by
  obtain ⟨lo, hi, v0, v1, v2, v3, v4, e, h1, h2, h3⟩ := h; exact ⟨lo, hi, v0, v1, v2, v3, v4, e, h1, Nat.le_trans h2 hb.size, Lib.hid (h3.out.keep hb)⟩
theorem Mk1.inR {w : World} {lo hi n : Nat} {v : Value} {f : Nat → Value} (h : Mk1 w lo hi v n f) : InR lo hi v := by
  obtain ⟨a, cap, hv, hl, hm, ho, hc⟩ := h; exact ho
theorem tuple_inj {v0 v1 v2 v3 v4 z u0 u1 u2 u3 u4 y : Value} (h : Value.tuple #[.agg #[v0, v1, v2, v3, v4], z] = .tuple #[.agg #[u0, u1, u2, u3, u4], y]) : v0 = u0 ∧ v1 = u1 ∧ v2 = u2 ∧ v3 = u3 ∧ v4 = u4 ∧ z = y := by
  injection h with h
  simp at h
  obtain ⟨⟨h0, h1, h2, h3, h4⟩, h5⟩ := h
  exact ⟨h0, h1, h2, h3, h4, h5⟩
theorem apt_of {lo hi g : Nat} {v0 v1 v2 v3 v4 z : Value} {w : World} {N : N5} {F : F5} (h : M5 w lo hi v0 v1 v2 v3 v4 N F) (hd : g < lo ∨ hi ≤ g) : Apt (.tuple #[.agg #[v0, v1, v2, v3, v4], z]) g :=
  ⟨lo, hi, hd, fun u0 u1 u2 u3 u4 y e => by
    obtain ⟨rfl, rfl, rfl, rfl, rfl, -⟩ := tuple_inj e
    exact ⟨h.a.inR, h.b.inR, h.c.inR, h.d.inR, h.e.inR⟩⟩
theorem apt_late {base : Nat} {T : StT} {k : Int} {v : Value} {w : World} {g : Nat} (h : CTk base T k v w) (hg : w.heap.size ≤ g) : Apt v g := by
  obtain ⟨lo, hi, v0, v1, v2, v3, v4, rfl, h1, h2, h3⟩ := h
  exact apt_of h3.out (.inr (by omega))
theorem Mk1.narrow {w : World} {lo hi lo' hi' n : Nat} {v : Value} {f : Nat → Value} (h : Mk1 w lo hi v n f) (h2 : InR lo' hi' v) : Mk1 w (max lo lo') (min hi hi') v n f := by
  obtain ⟨a, cap, hv, hl, hm, ho, hc⟩ := h
  exact ⟨a, cap, hv, hl, hm, fun b hb => by have := ho b hb; have := h2 b hb; omega, hc⟩
/-- What stands when the box is written. -/
def RSt (w0 : World) (T : StT) (k : Int) (xa xc : Value) (w' : World) : Prop :=
  ∃ (g lo hi : Nat) (v0 v1 v2 v3 v4 : Value), xa = .pointer (some ⟨g, 0, none⟩) ∧ xc = .tuple #[.agg #[v0, v1, v2, v3, v4], .int .i64 k] ∧ w0.heap.size ≤ g ∧ w0.heap.size ≤ lo ∧ hi ≤ w'.heap.size ∧ g < w'.heap.size ∧ (g < lo ∨ hi ≤ g) ∧ Hid (M5 w' lo hi v0 v1 v2 v3 v4 T.n5 T.f5) ∧ Hid (Box5W w' g v0 v1 v2 v3 v4) ∧ Below w0.heap.size w0 w'
theorem rst_of {w0 w' Z : World} {T : StT} {k : Int} {g lo hi : Nat} {v0 v1 v2 v3 v4 : Value} {D : TypeId} (hb : Below w0.heap.size w0 w') (hg : w0.heap.size ≤ g) (hO : w'.heap[g]? = some (.cells #[.slice none 0 0, .slice none 0 0, .slice none 0 0, .slice none 0 0, .slice none 0 0] D (0, 0)))
    (h1 : w0.heap.size ≤ lo) (h2 : hi ≤ w'.heap.size) (hM : M5 w' lo hi v0 v1 v2 v3 v4 T.n5 T.f5) (hA : Apt (.tuple #[.agg #[v0, v1, v2, v3, v4], .int .i64 k]) g)
    (hZ : (((((w'.setCell ⟨g, 0, none⟩ v0).setCell ⟨g, 1, none⟩ v1).setCell ⟨g, 2, none⟩ v2).setCell ⟨g, 3, none⟩ v3).setCell ⟨g, 4, none⟩ v4) = Z) : RSt w0 T k (.pointer (some ⟨g, 0, none⟩)) (.tuple #[.agg #[v0, v1, v2, v3, v4], .int .i64 k]) Z := by
  obtain ⟨lo2, hi2, hd, hin⟩ := hA
  obtain ⟨i0, i1, i2, i3, i4⟩ := hin _ _ _ _ _ _ rfl
  have hgl : g < w'.heap.size := (Array.getElem?_eq_some_iff.1 hO).1
  have ht : Btn g (g + 1) w' Z := by rw [← hZ]; exact ((((btn_set _ _ _ _).trans (btn_set _ _ _ _)).trans (btn_set _ _ _ _)).trans (btn_set _ _ _ _)).trans (btn_set _ _ _ _)
  have hB : Box5W w' g (.slice none 0 0) (.slice none 0 0) (.slice none 0 0) (.slice none 0 0) (.slice none 0 0) :=
    ⟨row_cell hO _ _ rfl, row_cell hO _ _ rfl, row_cell hO _ _ rfl, row_cell hO _ _ rfl, row_cell hO _ _ rfl, row_free hO _, row_free hO _, row_free hO _, row_free hO _, row_free hO _⟩
  have hM2 : M5 w' (max lo lo2) (min hi hi2) v0 v1 v2 v3 v4 T.n5 T.f5 := { hM with a := hM.a.narrow i0, b := hM.b.narrow i1, c := hM.c.narrow i2, d := hM.d.narrow i3, e := hM.e.narrow i4 }
  exact ⟨g, max lo lo2, min hi hi2, v0, v1, v2, v3, v4, rfl, rfl, hg, by omega, by have := ht.size; omega, by have := ht.size; omega, by omega, Lib.hid (hM2.btn ht (by omega)), Lib.hid (by rw [← hZ]; exact ((((hB.set0 _).set1 _).set2 _).set3 _).set4 _), hb.trans (ht.below (n := w0.heap.size) hg hb.size)⟩

set_option maxHeartbeats 2000000 in
theorem toReq_any (q : ReqT) (w : World) :
    Calls Tryd.prog 10 #[.agg (rqA q)] w fun e w' => e = .returned (.agg (rqA q)) ∧ Below w.heap.size w w' := by
  obtain ⟨who, ep, num, obj, pos, data⟩ := q
  go_enter Tryd.func10, Tryd.ntmps10
  go_wp2
  exact bodyPost_ret (v := .agg (rqA ⟨who, ep, num, obj, pos, data⟩)) (by simp [results, Tryd.results10, go_sem]) rfl ⟨rfl, (((Below.refl _ _).alloc (Nat.le_refl _) _).alloc (by simp) _).alloc (by simp <;> omega) _⟩

set_option maxHeartbeats 2000000 in
theorem szReq_any (q : ReqT) (left : Int) (w : World) (hd : q.data.length ≤ 9223372036854775807) (l0 : 0 ≤ left) (l1 : left ≤ 1048576) :
    Calls Tryd.prog 7 #[.agg (rqA q), .int .i64 left] w fun e w' => ∃ z : Int, e = .returned (.int .i64 z) ∧ (0 ≤ z → q.data.length ≤ 1048576) ∧ Below w.heap.size w w' := by
  obtain ⟨who, ep, num, obj, pos, data⟩ := q
  simp only at hd
  have q4 : (mkB data).size = data.length := mkB_size data
  by_cases c : left - data.length < 0
  · go_enter Tryd.func7, Tryd.ntmps7
    go_wp2
    go_ret
    exact ⟨_, rfl, fun h => absurd h (by decide), (Below.refl _ _).alloc (Nat.le_refl _) _⟩
  · have c' : (data.length : Int) ≤ left := by omega
    go_enter Tryd.func7, Tryd.ntmps7
    go_wp2
    go_ret
    exact ⟨_, rfl, fun _ => by show data.length ≤ _; omega, (Below.refl _ _).alloc (Nat.le_refl _) _⟩

end Go.Proofs.YtadoihddmbbjoaaDoor
