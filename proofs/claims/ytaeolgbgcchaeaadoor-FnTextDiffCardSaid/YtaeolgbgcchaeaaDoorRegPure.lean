/-
  A region that draws its order: its first n operations yield the same in every world (a move, arithmetic, a comparison, an index of a string; or they are not wanted); the rest comes up in one order alone.
-/
import Derived.Test.YtaeolgbgcchaeaaDoorRows
import Derived.Orders
import Derived.StillTail
namespace Go.Proofs.YtaeolgbgcchaeaaDoor
open Go

/-- No panic. -/
def noPan (Q : Exit → Act → World → Prop) : Exit → Act → World → Prop := fun e a w => match e with | .panic _ => False | e => Q e a w

theorem noPan_of {Q : Exit → Act → World → Prop} {a : Act} {w : World} (h : Q .normal a w) : noPan Q .normal a w := h

section
variable {P : Program} {ops : Array Oper} {md : Region.Mode} {Q : Exit → Act → World → Prop}

def wpPure (P : Program) (ops : Array Oper) (K : Act → Prop) : List Oper → Act → Prop
  | [], a => K a
  | o :: l, a => ∃ v, Yields P ops o v a ∧ wpPure P ops K l (a.put o.dst v)

theorem wpPure_nil {K : Act → Prop} {a : Act} (h : K a) : wpPure P ops K [] a := h
theorem wpPure_end {a : Act} {w : World} (h : Q .normal a w) : wpPure P ops (fun a' => wpList P ops (noPan Q) [] a' w) [] a := h
theorem wpPure_yes {K : Act → Prop} {a : Act} {o : Oper} {l : List Oper} (v : Value) (hw : Region.wanted o (yielded ops a.tmps) = true) (hr : ∀ w, (execOp a.eval o).run P w = .ok (.value v) w) (h : wpPure P ops K l (a.put o.dst v)) : wpPure P ops K (o :: l) a :=
  ⟨v, .inl ⟨hw, hr⟩, h⟩
theorem wpPure_no {K : Act → Prop} {a : Act} {o : Oper} {l : List Oper} (hw : Region.wanted o (yielded ops a.tmps) = false) (h : wpPure P ops K l (a.put o.dst undef)) : wpPure P ops K (o :: l) a :=
  ⟨undef, .inr ⟨hw, rfl⟩, h⟩

theorem wpAny_pure (hs : Region.noSelect ops = true) {tl : List Oper} {w : World} (hQ : ∀ c a w, ¬ Q (.panic c) a w) : ∀ (l : List Oper) (k : Nat) (listed : Array Bool) (a : Act), (∀ j, j < l.length → l[j]? = ops[k + j]?) → (∀ j, tl[j]? = ops[k + l.length + j]?) →
    Region.lexHead md ops tl.length l.length k listed = true → wpPure P ops (fun a' => wpList P ops Q tl a' w) l a → wpAny P md ops Q (l.length + tl.length) listed a w
  | [], k, listed, a, _, ht, hB, h => by
    rw [List.length_nil, Nat.zero_add]
    exact wpAny_of_seq tl k listed a w (fun j => by have := ht j; rwa [List.length_nil, Nat.add_zero] at this) hB h
  | o :: l, k, listed, a, hl, ht, hB, h => by
    have h0 : ops[k]? = some o := by simpa using (hl 0 (by simp)).symm
    simp only [List.length_cons, Region.lexHead, Bool.and_eq_true] at hB
    obtain ⟨v, hy, hK⟩ := h
    rw [show (o :: l).length + tl.length = (l.length + tl.length) + 1 by rw [List.length_cons]; omega]
    refine wpAny_take h0 hs hB.1.2 hB.1.1 (fun c a w q => absurd q (hQ c _ w)) hy ?_
    refine wpAny_pure hs hQ l (k + 1) _ _ (fun j hj => ?_) (fun j => ?_) hB.2 hK
    · have := hl (j + 1) (by rw [List.length_cons]; omega)
      rw [List.getElem?_cons_succ] at this
      rw [this]; congr 1; omega
    · rw [ht j]
      congr 1
      rw [List.length_cons]; omega

theorem wp_region_pure (n : Nat) {id : Nat} {a : Act} {w : World} (hd tl : List Oper) (he : ops.toList = hd ++ tl) (hn : hd.length = n) (hm : P.follows .mixedOrders = true) (hs : Region.noSelect ops = true)
    (hx : Region.lexHead .any ops tl.length n 0 (Array.replicate ops.size false) = true) (h : wpPure P ops (fun a' => wpList P ops (noPan Q) tl a' w.drew) hd a) : (Code.region id ops true).wp P Q a w := by
  refine Code.wp_mono (Q := noPan Q) (fun e a w q => by cases e <;> first | exact q | exact q.elim) ?_
  subst hn
  have hg : ∀ j, ops[j]? = (hd ++ tl)[j]? := fun j => by rw [← he, Array.getElem?_toList]
  refine wp_region_any hm ?_
  have hsz : ops.size = hd.length + tl.length := by rw [← List.length_append, ← he]; simp
  have := wpAny_pure (md := .any) (Q := noPan Q) (tl := tl) (w := w.drew) hs (fun _ _ _ q => q) hd 0 (Array.replicate ops.size false) a
    (fun j hj => by rw [hg, Nat.zero_add, List.getElem?_append_left hj]) (fun j => by rw [hg, Nat.zero_add, List.getElem?_append_right (by omega)]; congr 1; omega) hx h
  rw [← hsz] at this
  exact this
end

end Go.Proofs.YtaeolgbgcchaeaaDoor
