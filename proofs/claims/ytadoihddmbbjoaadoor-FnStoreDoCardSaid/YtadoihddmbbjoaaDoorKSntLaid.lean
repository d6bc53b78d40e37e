/-
  The four sentinels: what the rows' condition says of them; a world that meets it.
-/
import Derived.Test.YtadoihddmbbjoaaDoorRows
import Derived.Test.YtadoihddmbbjoaaDoorKErrIs
import Derived.ProofKit
import Derived.OpenShut
import Derived.Deep.DeepHandedRow
import Derived.Stop.LaidErr
namespace Go.Proofs.YtadoihddmbbjoaaDoor
open Go.ChangeShapes Go.WideShapes Go.ChangeAt Go.RowKit

theorem gS0 : Tryd.prog.globalNamed "loop.example/pannage/impl.errForm" = some 0 := by kernel_rfl
theorem gS1 : Tryd.prog.globalNamed "loop.example/pannage/impl.errFenced" = some 1 := by kernel_rfl
theorem gS2 : Tryd.prog.globalNamed "loop.example/pannage/impl.errAgain" = some 2 := by kernel_rfl
theorem gS3 : Tryd.prog.globalNamed "loop.example/pannage/impl.errGap" = some 3 := by kernel_rfl
theorem gT0 : (Tryd.prog.globals[0]?).map (·.type) = some 62 := by kernel_rfl
theorem gT1 : (Tryd.prog.globals[1]?).map (·.type) = some 62 := by kernel_rfl
theorem gT2 : (Tryd.prog.globals[2]?).map (·.type) = some 62 := by kernel_rfl
theorem gT3 : (Tryd.prog.globals[3]?).map (·.type) = some 62 := by kernel_rfl
theorem cellsES : Tryd.prog.cellsOf 156 = 1 := by kernel_rfl
theorem cellsStr : Tryd.prog.cellsOf 9 = 1 := by kernel_rfl
theorem starES : "*" ++ "errors.errorString" = "*errors.errorString" := by decide
theorem rowES (u : TypeId) (h : Tryd.prog.typeName? 3 u = some "*errors.errorString") : u = 128 :=
  typeName_ptr_named (nm := "errors.errorString") (by rw [starES]; kernel_rfl) (by kernel_rfl) (by decide) u (by rw [starES]; exact h)

/-- Four sentinels of one type: where they point to, each to another place. -/
theorem laid_sentinels4 {P : Program} {n0 n1 n2 n3 nm : String} {text0 text1 text2 text3 : List UInt8} {W : World} {g0 g1 g2 g3 : Nat} {ti tp te ts : TypeId} {ms : Array (String × TypeId)} {f : Field}
    (h : laidMet P [(n0, .iface nm (.ptr (.agg [.lit (.string text0)]))), (n1, .iface nm (.ptr (.agg [.lit (.string text1)]))), (n2, .iface nm (.ptr (.agg [.lit (.string text2)]))), (n3, .iface nm (.ptr (.agg [.lit (.string text3)])))] W)
    (hg0 : P.globalNamed n0 = some g0) (ht0 : (P.globals[g0]?).map (·.type) = some ti) (hg1 : P.globalNamed n1 = some g1) (ht1 : (P.globals[g1]?).map (·.type) = some ti)
    (hg2 : P.globalNamed n2 = some g2) (ht2 : (P.globals[g2]?).map (·.type) = some ti) (hg3 : P.globalNamed n3 = some g3) (ht3 : (P.globals[g3]?).map (·.type) = some ti)
    (hi : P.underlying ti = some (.interface ms)) (hrow : ∀ u, P.typeName? 3 u = some nm → u = tp)
    (hp : P.underlying tp = some (.pointer te)) (he : P.underlying te = some (.struct #[f])) (hft : f.type = ts) (hfo : f.offset = 0) (hs : P.underlying ts = some .string) (hc : P.cellsOf te = 1) (hcs : P.cellsOf ts = 1) :
    ∃ a0 a1 a2 a3 : Addr,
      (W.var? P n0 = some #[.iface tp (.pointer (some a0))] ∧ W.var? P n1 = some #[.iface tp (.pointer (some a1))] ∧ W.var? P n2 = some #[.iface tp (.pointer (some a2))] ∧ W.var? P n3 = some #[.iface tp (.pointer (some a3))]) ∧
      ((∃ c t, W.heap[a0.block]? = some (.cells c t (0, 0))) ∧ (∃ c t, W.heap[a1.block]? = some (.cells c t (0, 0))) ∧ (∃ c t, W.heap[a2.block]? = some (.cells c t (0, 0))) ∧ (∃ c t, W.heap[a3.block]? = some (.cells c t (0, 0)))) ∧
      (a0 ≠ a1 ∧ a0 ≠ a2 ∧ a0 ≠ a3 ∧ a1 ≠ a2 ∧ a1 ≠ a3 ∧ a2 ≠ a3) := by
  obtain ⟨ps, ⟨g0', t0', cs0, f0, p0, q0, hg0', ht0', hv0, hd0, ⟨g1', t1', cs1, f1, p1, q1, hg1', ht1', hv1, hd1, ⟨g2', t2', cs2, f2, p2, q2, hg2', ht2', hv2, hd2, ⟨g3', t3', cs3, f3, p3, q3, hg3', ht3', hv3, hd3, _, e3⟩, e2⟩, e1⟩, e0⟩, hnd, hrows⟩ := h
  obtain rfl := Option.some.inj (hg0.symm.trans hg0')
  obtain rfl := Option.some.inj (hg1.symm.trans hg1')
  obtain rfl := Option.some.inj (hg2.symm.trans hg2')
  obtain rfl := Option.some.inj (hg3.symm.trans hg3')
  obtain rfl := Option.some.inj (ht0.symm.trans ht0')
  obtain rfl := Option.some.inj (ht1.symm.trans ht1')
  obtain rfl := Option.some.inj (ht2.symm.trans ht2')
  obtain rfl := Option.some.inj (ht3.symm.trans ht3')
  subst e3
  subst e2
  subst e1
  subst e0
  obtain ⟨l0⟩ := cs0
  obtain ⟨l1⟩ := cs1
  obtain ⟨l2⟩ := cs2
  obtain ⟨l3⟩ := cs3
  have ok0 : ∀ u v, l0 = [.iface u v] → Value.okWide P W .any 0 u v := fun u v e => by
    subst e
    exact (hrows g0 0 (by simp [MemPlace.row])).2 u v (by simpa using World.var?_cell hg0' hv0 0)
  have ok1 : ∀ u v, l1 = [.iface u v] → Value.okWide P W .any 0 u v := fun u v e => by
    subst e
    exact (hrows g1 0 (by simp [MemPlace.row])).2 u v (by simpa using World.var?_cell hg1' hv1 0)
  have ok2 : ∀ u v, l2 = [.iface u v] → Value.okWide P W .any 0 u v := fun u v e => by
    subst e
    exact (hrows g2 0 (by simp [MemPlace.row])).2 u v (by simpa using World.var?_cell hg2' hv2 0)
  have ok3 : ∀ u v, l3 = [.iface u v] → Value.okWide P W .any 0 u v := fun u v e => by
    subst e
    exact (hrows g3 0 (by simp [MemPlace.row])).2 u v (by simpa using World.var?_cell hg3' hv3 0)
  obtain ⟨a0, s0, rfl, hc0, hs0, hz0, rfl⟩ := errorString_of_trod hi hrow hp he hft hfo hs hc hcs hd0 ok0
  obtain ⟨a1, s1, rfl, hc1, hs1, hz1, rfl⟩ := errorString_of_trod hi hrow hp he hft hfo hs hc hcs hd1 ok1
  obtain ⟨a2, s2, rfl, hc2, hs2, hz2, rfl⟩ := errorString_of_trod hi hrow hp he hft hfo hs hc hcs hd2 ok2
  obtain ⟨a3, s3, rfl, hc3, hs3, hz3, rfl⟩ := errorString_of_trod hi hrow hp he hft hfo hs hc hcs hd3 ok3
  refine ⟨a0, a1, a2, a3, ⟨hv0, hv1, hv2, hv3⟩, ⟨(hrows a0.block a0.off (by simp [MemPlace.row])).1, (hrows a1.block a1.off (by simp [MemPlace.row])).1, (hrows a2.block a2.off (by simp [MemPlace.row])).1, (hrows a3.block a3.off (by simp [MemPlace.row])).1⟩, ?_, ?_, ?_, ?_, ?_, ?_⟩
  all_goals
    rintro rfl
    simp [MemPlace.row] at hnd

theorem var?_keep {P : Program} {W W' : World} {n : String} {cs : Array Value} (h : W.var? P n = some cs) (hb : Below W.heap.size W W') : W'.var? P n = some cs := by
  unfold World.var? at h ⊢
  cases hg : P.globalNamed n with
  | none => simp [hg] at h
  | some g =>
    simp only [hg, Option.bind_some] at h ⊢
    have hlt : g < W.heap.size := by
      rcases Nat.lt_or_ge g W.heap.size with h' | h'
      · exact h'
      · simp [Array.getElem?_eq_none h'] at h
    rw [hb.block g hlt]
    exact h

abbrev sntNames : List String := ["loop.example/pannage/impl.errForm", "loop.example/pannage/impl.errFenced", "loop.example/pannage/impl.errAgain", "loop.example/pannage/impl.errGap"]
abbrev sntPlaces : List MemPlace := [.cell 0 0, .cell 1 0, .cell 2 0, .cell 3 0]
structure SntV (W : World) (a0 a1 a2 a3 : Addr) : Prop where
  v0 : W.var? Tryd.prog "loop.example/pannage/impl.errForm" = some #[errI a0]
  v1 : W.var? Tryd.prog "loop.example/pannage/impl.errFenced" = some #[errI a1]
  v2 : W.var? Tryd.prog "loop.example/pannage/impl.errAgain" = some #[errI a2]
  v3 : W.var? Tryd.prog "loop.example/pannage/impl.errGap" = some #[errI a3]
theorem SntV.keep {W W' : World} {a0 a1 a2 a3 : Addr} (h : SntV W a0 a1 a2 a3) (hb : Below W.heap.size W W') : SntV W' a0 a1 a2 a3 :=
  ⟨var?_keep h.v0 hb, var?_keep h.v1 hb, var?_keep h.v2 hb, var?_keep h.v3 hb⟩
theorem iface_err (a : Addr) : IsIface (errI a) := trivial
theorem snt_reads {H : Type} (enc : TypeId × Value → H) {W : World} {a0 a1 a2 a3 : Addr} (h : SntV W a0 a1 a2 a3) (sp : Nat → Bool) :
    DataW.TrodVars enc Tryd.prog W sp sntNames [tok enc (errI a0), tok enc (errI a1), tok enc (errI a2), tok enc (errI a3)] sntPlaces :=
  ⟨_, _, _, 1, [], _, gS0, gT0, h.v0, trod_held Tryd.underlying62 (iface_err a0) 0, ⟨_, _, _, 1, [], _, gS1, gT1, h.v1, trod_held Tryd.underlying62 (iface_err a1) 0, ⟨_, _, _, 1, [], _, gS2, gT2, h.v2, trod_held Tryd.underlying62 (iface_err a2) 0, ⟨_, _, _, 1, [], [], gS3, gT3, h.v3, trod_held Tryd.underlying62 (iface_err a3) 0, rfl, rfl⟩, rfl⟩, rfl⟩, rfl⟩

theorem snt_of_laid {W : World} (h : laidMetH Tryd.prog [("loop.example/pannage/impl.errForm", Rows.laid_loop_example_pannage_impl_errForm), ("loop.example/pannage/impl.errFenced", Rows.laid_loop_example_pannage_impl_errFenced), ("loop.example/pannage/impl.errAgain", Rows.laid_loop_example_pannage_impl_errAgain), ("loop.example/pannage/impl.errGap", Rows.laid_loop_example_pannage_impl_errGap)] W) :
    ∃ a0 a1 a2 a3, Snt W a0 a1 a2 a3 ∧ SntV W a0 a1 a2 a3 := by
  obtain ⟨a0, a1, a2, a3, ⟨v0, v1, v2, v3⟩, ⟨p0, p1, p2, p3⟩, ⟨n01, n02, n03, n12, n13, n23⟩⟩ := laid_sentinels4 h gS0 gT0 gS1 gT1 gS2 gT2 gS3 gT3 Tryd.underlying62 rowES Tryd.underlying128 Tryd.underlying156 rfl rfl Tryd.underlying9 cellsES cellsStr
  exact ⟨a0, a1, a2, a3, ⟨by simpa using World.var?_cell gS0 v0 0, by simpa using World.var?_cell gS1 v1 0, by simpa using World.var?_cell gS2 v2 0, by simpa using World.var?_cell gS3 v3 0, p0, p1, p2, p3, n01, n02, n03, n12, n13, n23⟩, ⟨v0, v1, v2, v3⟩⟩

/-! A start that fits: the sentinels as their initialisers lay them. -/
noncomputable def low : Nat := (World.holding Tryd.prog default ⟨#[], #[], []⟩).heap.size
noncomputable def laidWorld (os : Os) : World :=
  let w0 := World.holding Tryd.prog os ⟨#[.cells #[.string ⟨#[102, 111, 114, 109]⟩] 156, .cells #[.string ⟨#[102, 101, 110, 99, 101, 100]⟩] 156, .cells #[.string ⟨#[97, 103, 97, 105, 110]⟩] 156, .cells #[.string ⟨#[103, 97, 112]⟩] 156], #[], []⟩
  { w0 with heap := (((w0.heap.modify 0 fun
      | .cells _ t frozen => .cells #[.iface 128 (.pointer (some ⟨low, 0, none⟩))] t frozen
      | o => o).modify 1 fun
      | .cells _ t frozen => .cells #[.iface 128 (.pointer (some ⟨low + 1, 0, none⟩))] t frozen
      | o => o).modify 2 fun
      | .cells _ t frozen => .cells #[.iface 128 (.pointer (some ⟨low + 2, 0, none⟩))] t frozen
      | o => o).modify 3 fun
      | .cells _ t frozen => .cells #[.iface 128 (.pointer (some ⟨low + 3, 0, none⟩))] t frozen
      | o => o }

end Go.Proofs.YtadoihddmbbjoaaDoor
