/-
  An argument that is a request: what can be read of it are five numbers and a text.
-/
import Derived.Test.YtadoihddmbbjoaaDoorFrame
import Derived.Test.YtadoihddmbbjoaaDoorOpenSto
import Derived.Test.YtadoihddmbbjoaaDoorStoReq
namespace Go.Proofs.YtadoihddmbbjoaaDoor
open Go.ChangeShapes Go.WideShapes Go.ChangeAt Go.RowKit Go.Joins Go.Deep

theorem size_len (s : ByteArray) : s.data.toList.length = s.size := rfl
theorem open_req {H : Type} {enc : TypeId × Value → H} {P : Program} {w : World} {base : Nat} {r : Reach} {b0 : Nat} {t ti ts : TypeId} {f0 f1 f2 f3 f4 f5 : Field} {v : Value} {d : DataW H} {p : List MemPlace}
    (hs : P.underlying t = some (.struct #[f0, f1, f2, f3, f4, f5])) (hone : oneCellFields P #[f0, f1, f2, f3, f4, f5] = true) (hC : P.cellsOf t = 6)
    (e0 : f0.type = ti) (e1 : f1.type = ti) (e2 : f2.type = ti) (e3 : f3.type = ti) (e4 : f4.type = ti) (e5 : f5.type = ts)
    (hti : P.underlying ti = some (.int .i64)) (hts : P.underlying ts = some .string)
    (hv : Value.okWide P w r b0 t v) (h : DataW.Trod enc P w base (fun _ => true) true t v d p) :
    ∃ q : ReqT, v = .agg (rqA q) ∧ q.data.length ≤ 9223372036854775807 := by
  obtain ⟨cs, rfl, hsz⟩ := okWide_struct hs hv
  obtain ⟨l⟩ := cs
  match l, hsz.trans hC with
  | [c0, c1, c2, c3, c4, c5], _ =>
    obtain ⟨fuel, hf⟩ := h
    obtain ⟨xs, n, _, _, _, hlen, hg⟩ := DataW.trod_struct hs hf
    match xs, hlen with
    | [y0, y1, y2, y3, y4, y5], _ =>
      have g0 : DataW.trod enc P w base (fun _ => true) true n ti [c0] = some y0 := by
        obtain ⟨o, k⟩ := hone_of hone 0 f0 rfl
        have := hg 0 f0 rfl
        rw [← e0]
        simpa [Value.cells, o, k] using this
      have g1 : DataW.trod enc P w base (fun _ => true) true n ti [c1] = some y1 := by
        obtain ⟨o, k⟩ := hone_of hone 1 f1 rfl
        have := hg 1 f1 rfl
        rw [← e1]
        simpa [Value.cells, o, k] using this
      have g2 : DataW.trod enc P w base (fun _ => true) true n ti [c2] = some y2 := by
        obtain ⟨o, k⟩ := hone_of hone 2 f2 rfl
        have := hg 2 f2 rfl
        rw [← e2]
        simpa [Value.cells, o, k] using this
      have g3 : DataW.trod enc P w base (fun _ => true) true n ti [c3] = some y3 := by
        obtain ⟨o, k⟩ := hone_of hone 3 f3 rfl
        have := hg 3 f3 rfl
        rw [← e3]
        simpa [Value.cells, o, k] using this
      have g4 : DataW.trod enc P w base (fun _ => true) true n ti [c4] = some y4 := by
        obtain ⟨o, k⟩ := hone_of hone 4 f4 rfl
        have := hg 4 f4 rfl
        rw [← e4]
        simpa [Value.cells, o, k] using this
      have g5 : DataW.trod enc P w base (fun _ => true) true n ts [c5] = some y5 := by
        obtain ⟨o, k⟩ := hone_of hone 5 f5 rfl
        have := hg 5 f5 rfl
        rw [← e5]
        simpa [Value.cells, o, k] using this
      obtain ⟨z0, a0, -, -⟩ := DataW.trod_int hti g0
      simp at a0
      subst a0
      obtain ⟨z1, a1, -, -⟩ := DataW.trod_int hti g1
      simp at a1
      subst a1
      obtain ⟨z2, a2, -, -⟩ := DataW.trod_int hti g2
      simp at a2
      subst a2
      obtain ⟨z3, a3, -, -⟩ := DataW.trod_int hti g3
      simp at a3
      subst a3
      obtain ⟨z4, a4, -, -⟩ := DataW.trod_int hti g4
      simp at a4
      subst a4
      obtain ⟨s, a5, -, hz⟩ := DataW.trod_string hts g5
      simp at a5
      subst a5
      refine ⟨⟨z0, z1, z2, z3, z4, s.data.toList⟩, by show _ = Value.agg #[_, _, _, _, _, .string (mkB s.data.toList)]; rw [mkB_self], ?_⟩
      show s.data.toList.length ≤ _
      rw [size_len]
      unfold maxLen at hz
      exact hz

end Go.Proofs.YtadoihddmbbjoaaDoor
