/-
  An argument that is a store: what can be read of it are five lists.
-/
import Derived.Test.YtadoihddmbbjoaaDoorFrame
import Derived.Test.YtadoihddmbbjoaaDoorStoOk
import Derived.SliceStrings
import Derived.ChangeSame
import Derived.Deep.Slices
import Derived.Deep.Fields
namespace Go.Proofs.YtadoihddmbbjoaaDoor
open Go.ChangeShapes Go.WideShapes Go.ChangeAt Go.RowKit Go.Joins Go.Deep

theorem addr_addV (b off i : Nat) : (⟨b, off, none⟩ : Addr).add i = ⟨b, off + i, none⟩ := by
  rcases Nat.eq_zero_or_pos i with e | e
  · subst e; simp [Addr.add]
  · simp [Addr.add, Nat.ne_of_gt e]
theorem getD_take {α : Type} (L : List α) (d : α) {n i : Nat} (h : i < n) : (L.take n).getD i d = L.getD i d := by
  simp [List.getD_eq_getElem?_getD, h]

theorem row_nums {H : Type} {enc : TypeId × Value → H} {P : Program} {w : World} {base : Nat} {t e : TypeId} {v : Value} {fuel : Nat} {x : DataW H × List MemPlace}
    (ht : P.underlying t = some (.slice e)) (he : P.underlying e = some (.int .i64)) (hC : P.cellsOf e = 1) (hf : DataW.trod enc P w base (fun _ => true) true fuel t [v] = some x) :
    ∃ L : List Int, Vls w v L.length (intF L) := by
  rcases open_ints ht he hC hf with ⟨hcs, _⟩ | ⟨a, l, c, zs, hcs, _, hl, hm, hz, _, hcell, hwz⟩
  · simp at hcs
    subst hcs
    exact ⟨[], Vls.nil _ _⟩
  · simp at hcs
    subst hcs
    have hz' : zs.length = c := by simpa using hz
    have hn : (zs.take l).length = l := by simp; omega
    refine ⟨zs.take l, some a, c, by rw [hn], by rw [hn]; exact hl, hm, fun hp => ?_⟩
    rw [hn] at hp
    have h0 := hcell 0 (by omega)
    obtain ⟨b, off, spot⟩ := a
    have hs : spot = none := by simpa [Addr.add] using World.cell?_spot h0
    subst hs
    refine ⟨b, off, rfl, fun i hi => ?_⟩
    rw [hn] at hi
    have hc := hcell i (by omega)
    rw [addr_addV] at hc
    rw [hc]
    show some _ = some (Value.int .i64 ((zs.take l).getD i 0))
    rw [getD_take _ _ hi]

theorem row_strs {H : Type} {enc : TypeId × Value → H} {P : Program} {w : World} {base : Nat} {t e : TypeId} {v : Value} {fuel : Nat} {x : DataW H × List MemPlace}
    (ht : P.underlying t = some (.slice e)) (he : P.underlying e = some .string) (hC : P.cellsOf e = 1) (hf : DataW.trod enc P w base (fun _ => true) true fuel t [v] = some x) :
    ∃ L : List (List UInt8), Vls w v L.length (strF L) ∧ szL L := by
  rcases Go.ChangeShapes.open_strings ht he hC hf with ⟨hcs, _⟩ | ⟨a, l, c, ss, hcs, _, hl, hm, hz, _, hcell, hwz⟩
  · simp at hcs
    subst hcs
    exact ⟨[], Vls.nil _ _, fun i => by simp⟩
  · simp at hcs
    subst hcs
    have hz' : ss.length = c := by simpa using hz
    have hn : ((ss.take l).map (fun s => s.data.toList)).length = l := by simp; omega
    have hg : ∀ i, i < l → mkB (((ss.take l).map (fun s => s.data.toList)).getD i []) = ss.getD i ByteArray.empty := fun i hi => by
      have e1 : ss[i]? = some (ss[i]'(by omega)) := List.getElem?_eq_getElem (by omega)
      simp only [List.getD_eq_getElem?_getD, List.getElem?_map, List.getElem?_take, if_pos hi, e1, Option.map_some, Option.getD_some]
      exact mkB_self _
    refine ⟨(ss.take l).map (fun s => s.data.toList), ⟨some a, c, by rw [hn], by rw [hn]; exact hl, hm, fun hp => ?_⟩, fun i => ?_⟩
    · rw [hn] at hp
      have h0 := hcell 0 (by omega)
      obtain ⟨b, off, spot⟩ := a
      have hs : spot = none := by simpa [Addr.add] using World.cell?_spot h0
      subst hs
      refine ⟨b, off, rfl, fun i hi => ?_⟩
      rw [hn] at hi
      have hc := hcell i (by omega)
      rw [addr_addV] at hc
      rw [hc]
      show some _ = some (Value.string (mkB (((ss.take l).map (fun s => s.data.toList)).getD i [])))
      rw [hg i hi]
    · by_cases hi : i < l
      · have e1 : ss[i]? = some (ss[i]'(by omega)) := List.getElem?_eq_getElem (by omega)
        have := hwz _ (List.getElem_mem (by omega : i < ss.length))
        simp only [List.getD_eq_getElem?_getD, List.getElem?_map, List.getElem?_take, if_pos hi, e1, Option.map_some, Option.getD_some]
        rw [size_length]
        unfold maxLen at this
        exact this
      · rw [List.getD_eq_getElem?_getD, List.getElem?_eq_none (by omega)]; simp

theorem open_sto {H : Type} {enc : TypeId × Value → H} {P : Program} {w : World} {base : Nat} {r : Reach} {b0 : Nat} {t ts ti es ei : TypeId} {f0 f1 f2 f3 f4 : Field} {v : Value} {d : DataW H} {p : List MemPlace}
    (hs : P.underlying t = some (.struct #[f0, f1, f2, f3, f4])) (hone : oneCellFields P #[f0, f1, f2, f3, f4] = true) (hC : P.cellsOf t = 5)
    (e0 : f0.type = ts) (e1 : f1.type = ts) (e2 : f2.type = ti) (e3 : f3.type = ti) (e4 : f4.type = ti)
    (hts : P.underlying ts = some (.slice es)) (hes : P.underlying es = some .string) (hCs : P.cellsOf es = 1) (hti : P.underlying ti = some (.slice ei)) (hei : P.underlying ei = some (.int .i64)) (hCi : P.cellsOf ei = 1)
    (hv : Value.okWide P w r b0 t v) (h : DataW.Trod enc P w base (fun _ => true) true t v d p) :
    ∃ (v0 v1 v2 v3 v4 : Value) (S : StT), v = .agg #[v0, v1, v2, v3, v4] ∧ Sto w v0 v1 v2 v3 v4 S ∧ szT S := by
  obtain ⟨cs, rfl, hsz⟩ := okWide_struct hs hv
  obtain ⟨l⟩ := cs
  match l, hsz.trans hC with
  | [c0, c1, c2, c3, c4], _ =>
    obtain ⟨fuel, hf⟩ := h
    obtain ⟨xs, n, _, _, _, hlen, hg⟩ := DataW.trod_struct hs hf
    match xs, hlen with
    | [y0, y1, y2, y3, y4], _ =>
      have g0 : DataW.trod enc P w base (fun _ => true) true n ts [c0] = some y0 := by
        obtain ⟨o, k⟩ := hone_of hone 0 f0 rfl
        have := hg 0 f0 rfl
        rw [← e0]
        simpa [Value.cells, o, k] using this
      have g1 : DataW.trod enc P w base (fun _ => true) true n ts [c1] = some y1 := by
        obtain ⟨o, k⟩ := hone_of hone 1 f1 rfl
        have := hg 1 f1 rfl
        rw [← e1]
        simpa [Value.cells, o, k] using this
      have g2 : DataW.trod enc P w base (fun _ => true) true n ti [c2] = some y2 := by
        obtain ⟨o, k⟩ := hone_of hone 2 f2 rfl
        have := hg 2 f2 rfl
        rw [← e2]
        simpa [Value.cells, o, k] using this
      have g3 : DataW.trod enc P w base (fun _ => true) true n ti [c3] = some y3 := by
        obtain ⟨o, k⟩ := hone_of hone 3 f3 rfl
        have := hg 3 f3 rfl
        rw [← e3]
        simpa [Value.cells, o, k] using this
      have g4 : DataW.trod enc P w base (fun _ => true) true n ti [c4] = some y4 := by
        obtain ⟨o, k⟩ := hone_of hone 4 f4 rfl
        have := hg 4 f4 rfl
        rw [← e4]
        simpa [Value.cells, o, k] using this
      obtain ⟨L0, q0, s0⟩ := row_strs hts hes hCs g0
      obtain ⟨L1, q1, s1⟩ := row_strs hts hes hCs g1
      obtain ⟨L2, q2⟩ := row_nums hti hei hCi g2
      obtain ⟨L3, q3⟩ := row_nums hti hei hCi g3
      obtain ⟨L4, q4⟩ := row_nums hti hei hCi g4
      exact ⟨c0, c1, c2, c3, c4, ⟨L0, L1, L2, L3, L4⟩, rfl, ⟨q0, q1, q2, q3, q4⟩, ⟨s0, s1⟩⟩

end Go.Proofs.YtadoihddmbbjoaaDoor
