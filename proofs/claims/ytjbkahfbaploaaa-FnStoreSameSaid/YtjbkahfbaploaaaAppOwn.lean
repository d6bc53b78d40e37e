/-
  append([]T{}, v...) whose result is appended to again: the new slice owns its row.
-/
import Derived.Test.YtjbkahfbaploaaaStoTexts
namespace Go.Proofs.Ytjbkahfbaploaaa
open Go.RowKit

theorem run_app0_own {P : Program} (w : World) (ST T ty : TypeId) (i0 : TypeInfo) (z : Value) (bytes : Nat) (ht : P.underlying ST = some (.slice T)) (hi : P.info? T = some i0) (hz : i0.zero = some z) (hsz : i0.size = 1) (hzs : z.cells.size = 1) (hby : i0.bytes = bytes) (hb16 : bytes ≤ 16)
    (lo g : Nat) (hlo : lo ≤ g) (hg : w.heap[g]? = some (.cells #[] T (0, 0))) (v : Value) (n : Nat) (f : Nat → Value) (hv : Vls w v n f) (h1 : ∀ i, (f i).oneCell' = true) (hn : n ≤ 1048576) :
    ∃ v' w', (Builtin.append_ #[ST, ST] ty #[.slice (some ⟨g, 0, none⟩) 0 0, v]).run P w = .ok v' w' ∧ w'.ownsRow lo T 1 v' n ((List.range n).map f) ∧ v' ≠ .slice none 0 0 ∧ Below w.heap.size w w' := by
  have hs := vls_src hv h1 ST T P ht
  have hgl : g < w.heap.size := by
    rcases Nat.lt_or_ge g w.heap.size with h | h
    · exact h
    · rw [Array.getElem?_eq_none h] at hg; cases hg
  by_cases hp : 0 < n
  · have hr := run_append_grow_src w ST ST ty T i0 z ht hi hz (some ⟨g, 0, none⟩) 0 0 [] (by rw [hsz]; exact run_firstCells_some w.drew 1 0 _ 0 0 [] (by simp) (fun j u h => by simp at h)) v n _ (by rw [hsz]; exact hs) (by omega) (by omega) (growslice_fits (by omega) (by
      rw [hby, Nat.zero_add]
      have := Nat.mul_le_mul hn hb16
      omega))
    rw [Nat.zero_add, List.nil_append] at hr
    have hge := grownCap_ge w n 0 T
    have hcm : grownCap w n 0 T ≤ maxLen := grownCap_le_maxLen w n 0 T (by unfold maxLen; omega)
    have e : w.drew.heap.size = w.heap.size := rfl
    refine ⟨_, _, hr, ⟨by simp, .inr ⟨w.heap.size, _, _, rfl, by omega, by rw [← e]; exact heap_alloc_new _ _, hge, hcm, ?_, ?_⟩⟩, by simp, (Below.refl _ _).drew.alloc (by simp) _⟩
    · rw [Array.size_append, size_zeroCells, hzs]; simp; omega
    · rw [Nat.mul_one, Array.toList_append, List.take_append_of_le_length (by simp)]
      rw [List.take_of_length_le (by simp)]
  · obtain rfl : n = 0 := by omega
    obtain ⟨a, cap, rfl, -, -, -⟩ := id hv
    exact ⟨_, w, run_append_nothing (P := P) w ST ST ty T i0 ht hi (some ⟨g, 0, none⟩) 0 0 (Nat.le_refl _) _ (by rw [hsz]; exact hs), ⟨by simp, .inr ⟨g, 0, #[], rfl, hlo, hg, Nat.le_refl _, by unfold maxLen; omega, by simp, by simp⟩⟩, by simp, Below.refl _ _⟩

theorem wp_app0_own {o : Oper} {a : Act} {w : World} {K : Act → World → Prop} {Q : Exit → Act → World → Prop} (s y : Operand) (ST T : TypeId) (ho : o.op = .call { callee := .builtin .append, args := #[s, y], argTypes := #[ST, ST] })
    (ht : Try.prog.underlying ST = some (.slice T)) (z : Value) (hzs : z.cells.size = 1) (bytes : Nat) (hinfo : (Try.prog.info? T).map (fun i => (i.zero, i.size, i.bytes)) = some (some z, 1, bytes)) (hb16 : bytes ≤ 16)
    (lo g : Nat) (hlo : lo ≤ g) (hg : w.heap[g]? = some (.cells #[] T (0, 0))) (hs : a.eval s = .slice (some ⟨g, 0, none⟩) 0 0) (v : Value) (hx : a.eval y = v) (n : Nat) (f : Nat → Value) (hv : Vls w v n f) (h1 : ∀ i, (f i).oneCell' = true) (hn : n ≤ 1048576)
    (h : ∀ v' w', w'.ownsRow lo T 1 v' n ((List.range n).map f) → v' ≠ .slice none 0 0 → Below w.heap.size w w' → K (a.put o.dst v') w') : o.wp Try.prog a w K Q := by
  obtain ⟨i0, hi, hz0, hz1, hz2⟩ := info_parts hinfo
  obtain ⟨v', w', hr, h2, h3, h4⟩ := run_app0_own (P := Try.prog) w ST T o.type i0 z bytes ht hi hz0 hz1 hzs hz2 hb16 lo g hlo hg v n f hv h1 hn
  unfold Oper.wp execOp
  simp only [ho, resolve, invoke, builtin, Sem.run_bind, Sem.run_pure, Result.andThen_ok, List.map_toArray, List.map_cons, List.map_nil, hs, hx, hr]
  exact h v' w' h2 h3 h4

theorem wpList_app0_own {ops : Array Oper} {rest : List Oper} {o : Oper} {a : Act} {w : World} {Q : Exit → Act → World → Prop} (hgd : o.guard = none) (s y : Operand) (ST T : TypeId) (ho : o.op = .call { callee := .builtin .append, args := #[s, y], argTypes := #[ST, ST] })
    (ht : Try.prog.underlying ST = some (.slice T)) (z : Value) (hzs : z.cells.size = 1) (bytes : Nat) (hinfo : (Try.prog.info? T).map (fun i => (i.zero, i.size, i.bytes)) = some (some z, 1, bytes)) (hb16 : bytes ≤ 16)
    (lo g : Nat) (hlo : lo ≤ g) (hg : w.heap[g]? = some (.cells #[] T (0, 0))) (hs : a.eval s = .slice (some ⟨g, 0, none⟩) 0 0) (v : Value) (hx : a.eval y = v) (n : Nat) (f : Nat → Value) (hv : Vls w v n f) (h1 : ∀ i, (f i).oneCell' = true) (hn : n ≤ 1048576)
    (h : ∀ v' w', w'.ownsRow lo T 1 v' n ((List.range n).map f) → v' ≠ .slice none 0 0 → Below w.heap.size w w' → wpList Try.prog ops Q rest (a.put o.dst v') w') : wpList Try.prog ops Q (o :: rest) a w :=
  wpList_plain hgd fun _ hK => wp_app0_own s y ST T ho ht z hzs bytes hinfo hb16 lo g hlo hg hs v hx n f hv h1 hn fun v' w' q1 q2 q3 => hK _ _ (h v' w' q1 q2 q3)

theorem below_own {a b : World} {row : Option Nat} {B : Nat} (h : a.grownBy b row) (hr : ∀ k, row = some k → B ≤ k) (hs : B ≤ a.heap.size) : Below B a b :=
  ⟨h.os, h.tape, h.output, h.size, fun i hi => h.block i (Nat.lt_of_lt_of_le hi hs) (by intro e; have := hr i e.symm; omega)⟩

/-- A list of strings with one more. -/
theorem mk_snoc {w : World} {B : Nat} {T : TypeId} {v : Value} {L : List (List UInt8)} (h : w.ownsRow B T 1 v (L.length + 1) ((List.range L.length).map (strF L) ++ [.string ⟨#[]⟩])) : Mk1 w B w.heap.size v (L ++ [[]]).length (strF (L ++ [[]])) := by
  have := Mk1.of_own h
  rw [List.length_append]
  refine this.congr fun i hi => ?_
  show _ = Value.string (mkB ((L ++ [[]]).getD i []))
  rw [List.getD_eq_getElem?_getD, List.getD_eq_getElem?_getD]
  rcases Nat.lt_or_ge i L.length with h1 | h1
  · rw [List.getElem?_append_left (by simpa using h1), List.getElem?_append_left h1, List.getElem?_map, List.getElem?_range h1]
    rfl
  · obtain rfl : i = L.length := by omega
    rw [List.getElem?_append_right (by simp), List.getElem?_append_right (Nat.le_refl _)]
    simp [mkB]

end Go.Proofs.Ytjbkahfbaploaaa
