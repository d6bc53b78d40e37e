/-
  An argument that is a cache: what can be read of it are a text and two lists of ranges.
-/
import Derived.Test.YtldafphfnkamjaaFrame
import Derived.Test.YtldafphfnkamjaaOpenHolds
import Derived.Test.YtldafphfnkamjaaOwnV
import Derived.Lib.SmallJoins
namespace Go.Proofs.Ytldafphfnkamjaa
open Go.ChangeShapes Go.WideShapes Go.ChangeAt Go.RowKit Go.Joins Go.Deep

theorem open_own {H : Type} {enc : TypeId × Value → H} {P : Program} {w : World} {base : Nat} {r : Reach} {b0 : Nat} {t tt ts e ti : TypeId} {f0 f1 f2 n0 n1 : Field} {v : Value} {d : DataW H} {p : List MemPlace}
    (hs : P.underlying t = some (.struct #[f0, f1, f2])) (hone : oneCellFields P #[f0, f1, f2] = true) (hC : P.cellsOf t = 3)
    (e0 : f0.type = tt) (e1 : f1.type = ts) (e2 : f2.type = ts) (htt : P.underlying tt = some .string)
    (hts : P.underlying ts = some (.slice e)) (he : P.underlying e = some (.struct #[n0, n1])) (h0 : n0.type = ti) (h1 : n1.type = ti) (hti : P.underlying ti = some (.int .i64))
    (hone2 : oneCellFields P #[n0, n1] = true) (hC2 : P.cellsOf e = 2)
    (hv : Value.okWide P w r b0 t v) (h : DataW.Trod enc P w base (fun _ => true) true t v d p) :
    ∃ (v1 v2 : Value) (O : OwT), v = .agg #[.string (mkB O.text), v1, v2] ∧ Ow w v1 v2 O ∧ O.text.length ≤ 9223372036854775807 := by
  obtain ⟨c0, c1, c2, y0, y1, y2, n, rfl, -, -, g0, g1, g2⟩ := open_agg3 hs hone hC hv h
  rw [e0] at g0
  rw [e1] at g1
  rw [e2] at g2
  obtain ⟨s, hcs, -, hz⟩ := DataW.trod_string htt g0
  simp at hcs
  subst hcs
  obtain ⟨L, hL⟩ := trod_spans hts he h0 h1 hti hone2 hC2 g1
  obtain ⟨M, hM⟩ := trod_spans hts he h0 h1 hti hone2 hC2 g2
  refine ⟨c1, c2, ⟨s.data.toList, L, M⟩, by rw [mkB_self], ⟨hL, hM⟩, ?_⟩
  show s.data.toList.length ≤ _
  rw [size_length]
  unfold maxLen at hz
  exact hz

end Go.Proofs.Ytldafphfnkamjaa
