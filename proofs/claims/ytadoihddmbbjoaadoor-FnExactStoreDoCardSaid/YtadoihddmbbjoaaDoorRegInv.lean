/-
  A region that draws its order, by an invariant: what holds of the operations that have come up, of the frame and of the world; each operation that may come up keeps it.
-/
import Derived.Test.YtadoihddmbbjoaaDoorRows
import Derived.Orders
import Derived.StillTail
namespace Go.Proofs.YtadoihddmbbjoaaDoor
open Go

section
variable {P : Program} {ops : Array Oper} {Q : Exit → Act → World → Prop}

/-- Every edge that binds in whatever order leads back. -/
def backB (ops : Array Oper) : Bool := (List.range ops.size).all fun i => match ops[i]? with | some o => o.after.all fun e => !Region.binds .any e || decide (e.on < i) | none => true
theorem backB_spec (h : backB ops = true) {i : Nat} {o : Oper} (ho : ops[i]? = some o) : ∀ e ∈ o.after, Region.binds .any e = true → e.on < i := by
  intro e he hbd
  have hi : i < ops.size := (Array.getElem?_eq_some_iff.1 ho).1
  have := List.all_eq_true.1 h i (List.mem_range.2 hi)
  simp only [ho] at this
  have h2 := Array.all_eq_true_iff_forall_mem.1 this e he
  simpa [hbd] using h2

theorem ready_all (hb : backB ops = true) {listed : Array Bool} (hs : listed.size = ops.size) (hr : Region.ready .any ops listed = []) : ∀ i, i < ops.size → listed.getD i false = true := by
  intro i
  induction i using Nat.strongRecOn with
  | _ i ih =>
    intro hi
    cases hl : listed.getD i false with
    | true => rfl
    | false =>
      exfalso
      have ho : ops[i]? = some ops[i] := Array.getElem?_eq_getElem hi
      have : i ∈ Region.ready .any ops listed := mem_ready.2 ⟨getD_in (by omega) hl, _, ho, fun e he hbd => ih e.on (backB_spec hb ho e he hbd) (Nat.lt_trans (backB_spec hb ho e he hbd) hi)⟩
      rw [hr] at this
      cases this

theorem wpAny_inv (hb : backB ops = true) (I : (Nat → Bool) → Act → World → Prop)
    (hstep : ∀ (L : Nat → Bool) a w i oi, I L a w → ops[i]? = some oi → L i = false → (∀ e ∈ oi.after, Region.binds .any e = true → L e.on = true) →
      if Region.wanted oi (yielded ops a.tmps) = true then oi.wp P a w (fun a' w' => I (fun j => if j = i then true else L j) a' w') Q else I (fun j => if j = i then true else L j) (a.put oi.dst undef) w)
    (hend : ∀ L a w, I L a w → (∀ i, i < ops.size → L i = true) → Q .normal a w) :
    ∀ (fuel : Nat) (listed : Array Bool) (a : Act) (w : World), listed.size = ops.size → listed.toList.count false ≤ fuel → I (fun j => listed.getD j false) a w → wpAny P .any ops Q fuel listed a w := by
  intro fuel
  induction fuel with
  | zero =>
    intro listed a w hs hc hI
    have hall : ∀ i, i < ops.size → listed.getD i false = true := by
      intro i hi
      cases hl : listed.getD i false with
      | true => rfl
      | false =>
        exfalso
        have hi' : i < listed.toList.length := by simpa [hs] using hi
        have hm : false ∈ listed.toList := by
          have : listed.toList[i] = false := by
            have := hl
            rw [Array.getD_eq_getD_getElem?, Array.getElem?_eq_getElem (by omega)] at this
            simpa using this
          rw [← this]; exact List.getElem_mem hi'
        have := List.count_pos_iff.2 hm
        omega
    refine ⟨?_, hend _ _ _ hI hall⟩
    cases hr : Region.ready .any ops listed with
    | nil => rfl
    | cons x xs =>
      exfalso
      have hx : x ∈ Region.ready .any ops listed := by rw [hr]; simp
      obtain ⟨h1, o, ho, -⟩ := mem_ready.1 hx
      have hlt : x < ops.size := (Array.getElem?_eq_some_iff.1 ho).1
      have h2 := hall x hlt
      rw [getD_both h1] at h2
      cases h2
  | succ fuel ih =>
    intro listed a w hs hc hI
    refine ⟨fun hr => hend _ _ _ hI (ready_all hb hs hr), fun i hi => ?_⟩
    obtain ⟨h1, o, ho, hall⟩ := mem_ready.1 hi
    have hlt : i < ops.size := (Array.getElem?_eq_some_iff.1 ho).1
    have hst := hstep _ a w i o hI ho (getD_both h1) hall
    have hnext : ∀ a' w', I (fun j => if j = i then true else listed.getD j false) a' w' → wpAny P .any ops Q fuel (listed.setIfInBounds i true) a' w' := by
      intro a' w' h
      refine ih _ a' w' (by simpa using hs) ?_ ?_
      · have hi' : i < listed.toList.length := by simpa [hs] using hlt
        have hli : listed.toList[i] = false := by
          have := getD_both h1
          rw [Array.getD_eq_getD_getElem?, Array.getElem?_eq_getElem (by omega)] at this
          simpa using this
        have hpos : 0 < listed.toList.count false := List.count_pos_iff.2 (by rw [← hli]; exact List.getElem_mem hi')
        rw [Array.toList_setIfInBounds, List.count_set hi', hli]
        show List.count false listed.toList - 1 + 0 ≤ fuel
        omega
      · have e : (fun j => (listed.setIfInBounds i true).getD j false) = fun j => if j = i then true else listed.getD j false := by
          funext j
          by_cases hj : j = i
          · subst hj
            simp [hs, hlt]
          · rw [if_neg hj, getD_set_ne false (fun e => hj e.symm)]
        rw [e]; exact h
    unfold wpOp
    simp only [ho]
    split
    · rename_i hw
      rw [if_pos hw] at hst
      exact .inl (Oper.wp_mono hnext hst)
    · rename_i hw
      rw [if_neg hw] at hst
      exact hnext _ _ hst

theorem wp_region_inv {id : Nat} {a : Act} {w : World} (hm : P.follows .mixedOrders = true) (hb : backB ops = true) (I : (Nat → Bool) → Act → World → Prop) (h0 : I (fun _ => false) a w.drew)
    (hstep : ∀ (L : Nat → Bool) a w i oi, I L a w → ops[i]? = some oi → L i = false → (∀ e ∈ oi.after, Region.binds .any e = true → L e.on = true) →
      if Region.wanted oi (yielded ops a.tmps) = true then oi.wp P a w (fun a' w' => I (fun j => if j = i then true else L j) a' w') Q else I (fun j => if j = i then true else L j) (a.put oi.dst undef) w)
    (hend : ∀ L a w, I L a w → (∀ i, i < ops.size → L i = true) → Q .normal a w) : (Code.region id ops true).wp P Q a w := by
  refine wp_region_any hm (wpAny_inv hb I hstep hend ops.size _ a _ (by simp) (by simp) ?_)
  have e : (fun j => (Array.replicate ops.size false).getD j false) = fun _ => false := by funext j; exact getD_replicate_false _ _
  rw [e]; exact h0
end

end Go.Proofs.YtadoihddmbbjoaaDoor
