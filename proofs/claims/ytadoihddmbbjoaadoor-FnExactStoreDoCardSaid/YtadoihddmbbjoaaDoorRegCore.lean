/-
  Operations of a region that draws its order, one by one: what each leaves.
-/
import Derived.Test.YtadoihddmbbjoaaDoorRegInv
import Derived.Test.YtadoihddmbbjoaaDoorBtn
import Derived.Laws.Tables
import Derived.Deep.RegionHeld3
namespace Go.Proofs.YtadoihddmbbjoaaDoor
open Go.RowKit

/-- A slot set. -/
def upd (x : Nat → Value) (i : Nat) (v : Value) : Nat → Value := fun j => if j = i then v else x j
theorem upd_eq (x : Nat → Value) (i : Nat) (v : Value) : upd x i v i = v := if_pos rfl
theorem upd_ne {x : Nat → Value} {i j : Nat} {v : Value} (h : j ≠ i) : upd x i v j = x j := if_neg h

abbrev lset (L : Nat → Bool) (i : Nat) : Nat → Bool := fun j => if j = i then true else L j
theorem lset_ne {L : Nat → Bool} {i j : Nat} (h : j ≠ i) : lset L i j = L j := if_neg h

theorem wp_value {P : Program} {o : Oper} {a : Act} {w w' : World} {v : Value} {K : Act → World → Prop} {Q : Exit → Act → World → Prop} (h : (execOp a.eval o).run P w = .ok (.value v) w') (hK : K (a.put o.dst v) w') : o.wp P a w K Q := by
  unfold Oper.wp; rw [h]; exact hK
theorem wp_skip {P : Program} {o : Oper} {a : Act} {w w' : World} {K : Act → World → Prop} {Q : Exit → Act → World → Prop} (h : (execOp a.eval o).run P w = .ok .skip w') (hK : K (a.put o.dst undef) w') : o.wp P a w K Q := by
  unfold Oper.wp; rw [h]; exact hK

theorem lset_mono {L : Nat → Bool} {i j : Nat} (h : L j = true) : lset L i j = true := by
  unfold lset; split
  · rfl
  · exact h
theorem wp_build2 {P : Program} {o : Oper} {a : Act} {w : World} {K : Act → World → Prop} {Q : Exit → Act → World → Prop} (t : TypeId) (parts : Array (Nat × Operand)) (ho : o.op = .build t parts) (cells : Array Value)
    (hp : P.built t (parts.map fun (i, x) => (i, a.eval x)).toList = some cells) (h : K (a.put o.dst (.agg cells)) w) : o.wp P a w K Q :=
  wp_build t parts ho (by rw [hp]; rfl) (by rw [hp]; exact h)
theorem setRow_btnV (w : World) (g : Nat) (cells : Array Value) : Btn g (g + 1) w (w.setRow g cells) :=
  ⟨rfl, rfl, rfl, by simp [World.setRow], fun i hi hn => setRow_other w g i cells (by omega)⟩
theorem wp_load1 {o : Oper} {a : Act} {w : World} {K : Act → World → Prop} {Q : Exit → Act → World → Prop} (ty : TypeId) (y : Operand) (ho : o.op = .load ty y) (ad : Addr) (hy : a.eval y = .pointer (some ad)) (v : Value) (hc : w.cell? ad = some v)
    (hr : ∀ w, w.cell? ad = some v → (Instr.loadAt ty (.pointer (some ad))).run Tryd.prog w = .ok v w) (h : K (a.put o.dst v) w) : o.wp Tryd.prog a w K Q := by
  unfold Oper.wp execOp
  simp only [ho, hy, Sem.run_bind, hr w hc, Result.andThen_ok, Sem.run_pure]
  exact h
theorem wp_enter {P : Program} {o : Oper} {a : Act} {w : World} {K : Act → World → Prop} {Q : Exit → Act → World → Prop} (f : FuncId) (args : Array Value) (h : (execOp a.eval o).run P w = .ok (.enter f args) w)
    (hc : Calls P f args w fun e w' => ∃ v, e = .returned v ∧ K (a.put o.dst v) w') : o.wp P a w K Q := by
  unfold Oper.wp; rw [h]
  exact hc.mono fun e w' ⟨v, he, hk⟩ => by subst he; exact hk
theorem wp_arr {P : Program} {o : Oper} {a : Act} {w : World} {K : Act → World → Prop} {Q : Exit → Act → World → Prop} (ty : TypeId) (y : Operand) (ho : o.op = .sliceToArrayPointer ty y) (s v : Value) (hy : a.eval y = s)
    (hr : (Instr.arrayAt ty s).run P w = .ok v w) (h : K (a.put o.dst v) w) : o.wp P a w K Q := by
  unfold Oper.wp execOp
  simp only [ho, hy, Sem.run_bind, hr, Result.andThen_ok, Sem.run_pure]
  exact h

/-! A region that draws its order, each of whose operations yields one value whatever ran ahead of it; calls may make memory; the operation n comes behind all others but the late ones, and may write; the late ones look at no memory. -/
open Go
section
variable {P : Program} {ops : Array Oper} {Q : Exit → Act → World → Prop}

/-- Each operation that is not late is waited for by a later one that is not, or by n. -/
def foreB (ops : Array Oper) (n : Nat) (late : Nat → Bool) : Bool := (List.range n).all fun j => late j || (List.range (n + 1)).any fun k => decide (j < k) && (!late k && match ops[k]? with | some o => o.after.any (fun e => e.on == j && Region.binds .any e) | none => false)
theorem foreB_spec {n : Nat} {late : Nat → Bool} (h : foreB ops n late = true) {j : Nat} (hj : j < n) (hlj : late j = false) : ∃ k o e, j < k ∧ k ≤ n ∧ late k = false ∧ ops[k]? = some o ∧ e ∈ o.after ∧ e.on = j ∧ Region.binds .any e = true := by
  have h1 := List.all_eq_true.1 h j (List.mem_range.2 hj)
  rw [hlj, Bool.false_or] at h1
  obtain ⟨k, hk, h2⟩ := List.any_eq_true.1 h1
  rw [Bool.and_eq_true, Bool.and_eq_true] at h2
  obtain ⟨h3, h6, h4⟩ := h2
  cases ho : ops[k]? with
  | none => rw [ho] at h4; cases h4
  | some o =>
    rw [ho] at h4
    obtain ⟨e, he, h5⟩ := Array.any_eq_true'.1 h4
    rw [Bool.and_eq_true] at h5
    exact ⟨k, o, e, by simpa using h3, by have := List.mem_range.1 hk; omega, by simpa using h6, ho, he, by simpa using h5.1, h5.2⟩

theorem wp_region_fix {id : Nat} {a : Act} {w : World} (n : Nat) (late : Nat → Bool) (Fr : (Nat → Value) → Act) (V : Nat → Value) (R : World → Prop) {x0 : Nat → Value} (ha : a = Fr x0) (hm : P.follows .mixedOrders = true) (hb : backB ops = true) (hg : ops.all (fun o => o.guard.isNone) = true) (hn : ops.size = n + 1)
    (hl : foreB ops n late = true) (hx : ∀ x y : Nat → Value, (∀ j, j ≤ n → x j = y j) → Fr x = Fr y)
    (hstep : ∀ i oi (x : Nat → Value) w', i < n → ops[i]? = some oi → Below w.heap.size w w' → (∀ e ∈ oi.after, Region.binds .any e = true → x e.on = V e.on) → oi.wp P (Fr x) w' (fun a' w2 => a' = Fr (upd x i (V i)) ∧ Below w'.heap.size w' w2) Q)
    (hlate : ∀ i oi (x : Nat → Value) w', i < n → late i = true → ops[i]? = some oi → (∀ e ∈ oi.after, Region.binds .any e = true → x e.on = V e.on) → oi.wp P (Fr x) w' (fun a' w2 => a' = Fr (upd x i (V i)) ∧ w2 = w') Q)
    (hlast : ∀ oi (x : Nat → Value) w', ops[n]? = some oi → Below w.heap.size w w' → (∀ j, j < n → late j = false → x j = V j) → oi.wp P (Fr x) w' (fun a' w2 => a' = Fr (upd x n (V n)) ∧ R w2) Q)
    (hend : ∀ w', R w' → Q .normal (Fr V) w') : (Code.region id ops true).wp P Q a w := by
  subst ha
  refine wp_region_inv hm hb (fun L a w' => (∀ k o e, ops[k]? = some o → L k = true → e ∈ o.after → Region.binds .any e = true → L e.on = true) ∧ (∃ x : Nat → Value, a = Fr x ∧ (∀ j, j ≤ n → L j = true → x j = V j) ∧ ((L n = false ∧ Below w.heap.size w w') ∨ (L n = true ∧ (∀ j, j < n → late j = false → L j = true) ∧ R w')))) ?_ ?_ ?_
  · exact ⟨fun k o e _ h => (by cases h), _, rfl, fun j _ h => (by cases h), .inl ⟨rfl, (Below.refl _ _).drew⟩⟩
  · rintro L a w' i oi ⟨hclo, x, rfl, hv, hI⟩ ho hli hall
    have hi : i < n + 1 := by rw [← hn]; exact (Array.getElem?_eq_some_iff.1 ho).1
    have hw : Region.wanted oi (yielded ops (Fr x).tmps) = true := by
      have h := Array.all_eq_true_iff_forall_mem.1 hg oi (Array.mem_of_getElem? ho)
      have h2 : oi.guard = none := by simpa using h
      simp [Region.wanted, h2]
    rw [if_pos hw]
    have hclo' : ∀ k o e, ops[k]? = some o → (if k = i then true else L k) = true → e ∈ o.after → Region.binds .any e = true → (if e.on = i then true else L e.on) = true := fun k o e hk hlk he hbd => by
      by_cases c : e.on = i
      · rw [if_pos c]
      · rw [if_neg c]
        by_cases d : k = i
        · subst d
          rw [ho] at hk; cases hk
          exact hall e he hbd
        · rw [if_neg d] at hlk
          exact hclo k o e hk hlk he hbd
    have hv' : ∀ j, j ≤ n → (if j = i then true else L j) = true → upd x i (V i) j = V j := fun j hj hlj => by
      by_cases d : j = i
      · subst d; exact upd_eq _ _ _
      · rw [upd_ne d]; rw [if_neg d] at hlj; exact hv j hj hlj
    have hon : ∀ e ∈ oi.after, Region.binds .any e = true → x e.on = V e.on := fun e he hbd => hv _ (by have := backB_spec hb ho e he hbd; omega) (hall e he hbd)
    rcases hI with ⟨hLn, hbe⟩ | ⟨hLn, hLj, hR⟩
    · by_cases c : i = n
      · subst c
        have hd : ∀ m j, i - j ≤ m → j < i → late j = false → L j = true := by
          intro m
          induction m with
          | zero => intro j h1 h2; omega
          | succ m ih =>
            intro j h1 h2 h0
            obtain ⟨k, o, e, h3, h4, h9, h5, h6, h7, h8⟩ := foreB_spec hl h2 h0
            subst h7
            by_cases d : k = i
            · subst d
              rw [ho] at h5; cases h5
              exact hall e h6 h8
            · exact hclo k o e h5 (ih k (by omega) (by omega) h9) h6 h8
        exact Oper.wp_mono (fun a' w2 h => ⟨hclo', _, h.1, hv', .inr ⟨if_pos rfl, fun j hj h0 => by dsimp only; rw [if_neg (by omega)]; exact hd _ j (Nat.le_refl _) hj h0, h.2⟩⟩) (hlast oi x w' ho hbe fun j hj h0 => hv j (by omega) (hd _ j (Nat.le_refl _) hj h0))
      · exact Oper.wp_mono (fun a' w2 h => ⟨hclo', _, h.1, hv', .inl ⟨by dsimp only; rw [if_neg (fun e => c e.symm)]; exact hLn, hbe.trans (h.2.mono hbe.size)⟩⟩) (hstep i oi x w' (by omega) ho hbe hon)
    · have c : i ≠ n := fun e => by subst e; rw [hLn] at hli; cases hli
      have hlt : late i = true := by
        cases h0 : late i with
        | true => rfl
        | false => rw [hLj i (by omega) h0] at hli; cases hli
      refine Oper.wp_mono (fun a' w2 h => ⟨hclo', _, h.1, hv', .inr ⟨by dsimp only; rw [if_neg (fun e => c e.symm)]; exact hLn, fun j hj h0 => ?_, by rw [h.2]; exact hR⟩⟩) (hlate i oi x w' (by omega) hlt ho hon)
      dsimp only
      by_cases d : j = i
      · rw [if_pos d]
      · rw [if_neg d]; exact hLj j hj h0
  · rintro L a w' ⟨-, x, rfl, hv, hI⟩ hall
    rcases hI with ⟨hLn, -⟩ | ⟨-, -, hR⟩
    · rw [hall n (by omega)] at hLn; cases hLn
    · rw [hx x V fun j hj => hv j hj (hall j (by omega))]
      exact hend _ hR
end

end Go.Proofs.YtadoihddmbbjoaaDoor
