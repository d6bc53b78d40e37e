/-
  An argument that is a slice of holds: what can be read of it is a table.
-/
import Derived.Test.YtldafphfnkamjaaOpenSpans
import Derived.Test.YtldafphfnkamjaaToHold
namespace Go.Proofs.Ytldafphfnkamjaa
open Go.ChangeShapes Go.WideShapes Go.ChangeAt Go.RowKit Go.Deep

theorem trod_spans {H : Type} {enc : TypeId × Value → H} {P : Program} {w : World} {base : Nat} {spare : Nat → Bool} {held : Bool} {t e ti : TypeId} {n0 n1 : Field} {fuel : Nat} {v : Value} {x : DataW H × List MemPlace}
    (ht : P.underlying t = some (.slice e)) (he : P.underlying e = some (.struct #[n0, n1])) (h0 : n0.type = ti) (h1 : n1.type = ti) (hti : P.underlying ti = some (.int .i64))
    (hone : oneCellFields P #[n0, n1] = true) (hC : P.cellsOf e = 2) (h : DataW.trod enc P w base spare held fuel t [v] = some x) : ∃ L, Spn w v L := by
  rcases open_slice_fields ht he hone hC h with ⟨hcs, _⟩ | ⟨a, len, cap, m, D, Pl, hcs, _, hl, hm, hmm, _, hi⟩
  · simp at hcs
    subst hcs
    exact ⟨[], none, 0, rfl, Nat.le_refl _, by unfold maxLen; omega, fun e => absurd rfl e⟩
  · simp at hcs
    subst hcs
    have hlm : len ≤ m := by rw [hmm]; split <;> omega
    have hex : ∀ i, ∃ q : Rng, i < len → w.cell? (a.add (i * 2)) = some (.int .i64 q.1) ∧ w.cell? (a.add (i * 2 + 1)) = some (.int .i64 q.2) := by
      intro i
      by_cases hlt : i < len
      · obtain ⟨ys, n, _, _, _, hj⟩ := hi i (by omega)
        obtain ⟨v0, y0, hc0, _, ht0⟩ := hj 0 n0 rfl
        obtain ⟨v1, y1, hc1, _, ht1⟩ := hj 1 n1 rfl
        rw [h0] at ht0
        rw [h1] at ht1
        obtain ⟨x0, e0, _, _⟩ := DataW.trod_int hti ht0
        obtain ⟨x1, e1, _, _⟩ := DataW.trod_int hti ht1
        simp at e0 e1
        subst e0 e1
        exact ⟨(x0, x1), fun _ => ⟨by simpa using hc0, by simpa using hc1⟩⟩
      · exact ⟨(0, 0), fun h => absurd h hlt⟩
    obtain ⟨f, hf'⟩ := Classical.axiomOfChoice hex
    have hlen : ((List.range len).map f).length = len := by simp
    refine ⟨(List.range len).map f, some a, _, by rw [hlen], by rw [hlen]; exact hl, hm, fun hn => ?_⟩
    have hpos : 0 < len := by
      rcases Nat.eq_zero_or_pos len with e | e
      · subst e; simp at hn
      · exact e
    obtain ⟨b, off, spot⟩ := a
    have hs : spot = none := by simpa [Addr.add] using World.cell?_spot (hf' 0 hpos).1
    subst hs
    refine ⟨b, off, rfl, fun i hi' => ?_⟩
    rw [hlen] at hi'
    have hg : ((List.range len).map f).getD i (0, 0) = f i := by
      rw [List.getD_eq_getElem?_getD, List.getElem?_map, List.getElem?_range hi']; rfl
    rw [hg]
    have ha : ∀ k, (⟨b, off, none⟩ : Addr).add k = ⟨b, off + k, none⟩ := fun k => by
      rcases Nat.eq_zero_or_pos k with e | e
      · subst e; simp [Addr.add]
      · simp [Addr.add, Nat.ne_of_gt e]
    have := hf' i hi'
    rw [ha, ha, ← Nat.add_assoc] at this
    exact this

theorem open_holds {H : Type} {enc : TypeId × Value → H} {P : Program} {w : World} {base : Nat} {th eh t e ti : TypeId} {m0 m1 n0 n1 : Field} {v : Value} {d : DataW H} {p : List MemPlace}
    (hth : P.underlying th = some (.slice eh)) (heh : P.underlying eh = some (.struct #[m0, m1])) (hm0 : m0.type = t) (hm1 : m1.type = t) (honeh : oneCellFields P #[m0, m1] = true) (hCh : P.cellsOf eh = 2)
    (ht : P.underlying t = some (.slice e)) (he : P.underlying e = some (.struct #[n0, n1])) (h0 : n0.type = ti) (h1 : n1.type = ti) (hti : P.underlying ti = some (.int .i64))
    (hone : oneCellFields P #[n0, n1] = true) (hC : P.cellsOf e = 2) {r : Reach} {b0 : Nat} (hv : Value.okWide P w r b0 th v) (h : DataW.Trod enc P w base (fun _ => true) true th v d p) : ∃ T, Hds w v T := by
  obtain ⟨a0, len, cap, rfl⟩ := okWide_slice hth hv
  obtain ⟨fuel, hf⟩ := h
  rcases open_slice_fields hth heh honeh hCh hf with ⟨hcs, _⟩ | ⟨a, len', cap', m, D, Pl, hcs, _, hl, hm, hmm, _, hi⟩
  · simp [Value.cells] at hcs
    obtain ⟨rfl, rfl, rfl⟩ := hcs
    exact ⟨[], none, 0, rfl, Nat.le_refl _, by unfold maxLen; omega, fun e => absurd rfl e⟩
  · simp [Value.cells] at hcs
    obtain ⟨rfl, rfl, rfl⟩ := hcs
    simp only [if_true] at hmm
    subst hmm
    have hex : ∀ i, ∃ q : HoldT, i < len → ∃ r s, w.cell? (a.add (i * 2)) = some r ∧ w.cell? (a.add (i * 2 + 1)) = some s ∧ Spn w r q.1 ∧ Spn w s q.2 := by
      intro i
      by_cases hlt : i < len
      · obtain ⟨ys, n, _, _, _, hj⟩ := hi i (by omega)
        obtain ⟨v0, y0, hc0, _, ht0⟩ := hj 0 m0 rfl
        obtain ⟨v1, y1, hc1, _, ht1⟩ := hj 1 m1 rfl
        rw [hm0] at ht0
        rw [hm1] at ht1
        obtain ⟨L, hL⟩ := trod_spans ht he h0 h1 hti hone hC ht0
        obtain ⟨M, hM⟩ := trod_spans ht he h0 h1 hti hone hC ht1
        exact ⟨(L, M), fun _ => ⟨v0, v1, by simpa using hc0, by simpa using hc1, hL, hM⟩⟩
      · exact ⟨([], []), fun h => absurd h hlt⟩
    obtain ⟨f, hf'⟩ := Classical.axiomOfChoice hex
    have hlen : ((List.range len).map f).length = len := by simp
    refine ⟨(List.range len).map f, some a, _, by rw [hlen], by rw [hlen]; exact hl, hm, fun hn => ?_⟩
    have hpos : 0 < len := by
      rcases Nat.eq_zero_or_pos len with e | e
      · subst e; simp at hn
      · exact e
    obtain ⟨b, off, spot⟩ := a
    obtain ⟨r0, s0, q0, -⟩ := hf' 0 hpos
    have hs : spot = none := by simpa [Addr.add] using World.cell?_spot q0
    subst hs
    refine ⟨b, off, rfl, fun i hi' => ?_⟩
    rw [hlen] at hi'
    have hg : ((List.range len).map f).getD i hd0 = f i := by
      rw [List.getD_eq_getElem?_getD, List.getElem?_map, List.getElem?_range hi']; rfl
    rw [hg]
    have ha : ∀ k, (⟨b, off, none⟩ : Addr).add k = ⟨b, off + k, none⟩ := fun k => by
      rcases Nat.eq_zero_or_pos k with e | e
      · subst e; simp [Addr.add]
      · simp [Addr.add, Nat.ne_of_gt e]
    obtain ⟨r, s, c1, c2, p1, p2⟩ := hf' i hi'
    rw [ha] at c1
    rw [ha, ← Nat.add_assoc] at c2
    exact ⟨r, s, c1, c2, p1, p2⟩

end Go.Proofs.Ytldafphfnkamjaa
