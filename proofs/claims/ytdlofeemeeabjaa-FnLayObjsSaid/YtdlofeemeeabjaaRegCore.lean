/-
  Operations of a region that draws its order, one by one: what each leaves.
-/
import Derived.Test.YtdlofeemeeabjaaRegInv
import Derived.Test.YtdlofeemeeabjaaBtn
import Derived.Laws.Tables
import Derived.Deep.RegionHeld3
namespace Go.Proofs.Ytdlofeemeeabjaa
open Go.RowKit

/-- A slot set. -/
def upd (x : Nat → Value) (i : Nat) (v : Value) : Nat → Value := fun j => if j = i then v else x j
theorem upd_eq (x : Nat → Value) (i : Nat) (v : Value) : upd x i v i = v := if_pos rfl
theorem upd_ne {x : Nat → Value} {i j : Nat} {v : Value} (h : j ≠ i) : upd x i v j = x j := if_neg h

abbrev lset (L : Nat → Bool) (i : Nat) : Nat → Bool := fun j => if j = i then true else L j
theorem lset_ne {L : Nat → Bool} {i j : Nat} (h : j ≠ i) : lset L i j = L j := if_neg h

theorem wp_value {P : Program} {o : Oper} {a : Act} {w w' : World} {v : Value} {K : Act → World → Prop} {Q : Exit → Act → World → Prop} (h : (execOp a.eval o).run P w = .ok (.value v) w') (hK : K (a.put o.dst v) w') : o.wp P a w K Q := by
  unfold Oper.wp; rw [h]; exact hK
theorem wp_skip {P : Program} {o : Oper} {a : Act} {w w' : World} {K : Act → World → Prop} {Q : Exit → Act → World → Prop} (h : (execOp a.eval o).run P w = .ok .skip w') (hK : K (a.put o.dst undef) w') : o.wp P a w K Q := by
  unfold Oper.wp; rw [h]; exact hK

theorem lset_mono {L : Nat → Bool} {i j : Nat} (h : L j = true) : lset L i j = true := by
  unfold lset; split
  · rfl
  · exact h
theorem wp_build2 {P : Program} {o : Oper} {a : Act} {w : World} {K : Act → World → Prop} {Q : Exit → Act → World → Prop} (t : TypeId) (parts : Array (Nat × Operand)) (ho : o.op = .build t parts) (cells : Array Value)
    (hp : P.built t (parts.map fun (i, x) => (i, a.eval x)).toList = some cells) (h : K (a.put o.dst (.agg cells)) w) : o.wp P a w K Q :=
  wp_build t parts ho (by rw [hp]; rfl) (by rw [hp]; exact h)
theorem setRow_btnV (w : World) (g : Nat) (cells : Array Value) : Btn g (g + 1) w (w.setRow g cells) :=
  ⟨rfl, rfl, rfl, by simp [World.setRow], fun i hi hn => setRow_other w g i cells (by omega)⟩
theorem wp_load1 {o : Oper} {a : Act} {w : World} {K : Act → World → Prop} {Q : Exit → Act → World → Prop} (ty : TypeId) (y : Operand) (ho : o.op = .load ty y) (ad : Addr) (hy : a.eval y = .pointer (some ad)) (v : Value) (hc : w.cell? ad = some v)
    (hr : ∀ w, w.cell? ad = some v → (Instr.loadAt ty (.pointer (some ad))).run Try.prog w = .ok v w) (h : K (a.put o.dst v) w) : o.wp Try.prog a w K Q := by
  unfold Oper.wp execOp
  simp only [ho, hy, Sem.run_bind, hr w hc, Result.andThen_ok, Sem.run_pure]
  exact h
theorem wp_enter {P : Program} {o : Oper} {a : Act} {w : World} {K : Act → World → Prop} {Q : Exit → Act → World → Prop} (f : FuncId) (args : Array Value) (h : (execOp a.eval o).run P w = .ok (.enter f args) w)
    (hc : Calls P f args w fun e w' => ∃ v, e = .returned v ∧ K (a.put o.dst v) w') : o.wp P a w K Q := by
  unfold Oper.wp; rw [h]
  exact hc.mono fun e w' ⟨v, he, hk⟩ => by subst he; exact hk
theorem wp_arr {P : Program} {o : Oper} {a : Act} {w : World} {K : Act → World → Prop} {Q : Exit → Act → World → Prop} (ty : TypeId) (y : Operand) (ho : o.op = .sliceToArrayPointer ty y) (s v : Value) (hy : a.eval y = s)
    (hr : (Instr.arrayAt ty s).run P w = .ok v w) (h : K (a.put o.dst v) w) : o.wp P a w K Q := by
  unfold Oper.wp execOp
  simp only [ho, hy, Sem.run_bind, hr, Result.andThen_ok, Sem.run_pure]
  exact h

/-! A region that draws its order, each of whose operations yields one value whatever ran ahead of it; a call may make memory; the last one comes behind all others and may write. -/
open Go
section
variable {P : Program} {ops : Array Oper} {Q : Exit → Act → World → Prop}

/-- Each operation but the last one is waited for by a later one. -/
def foreB (ops : Array Oper) (n : Nat) : Bool := (List.range n).all fun j => (List.range (n + 1)).any fun k => decide (j < k) && match ops[k]? with | some o => o.after.any (fun e => e.on == j && Region.binds .any e) | none => false
theorem foreB_spec {n : Nat} (h : foreB ops n = true) {j : Nat} (hj : j < n) : ∃ k o e, j < k ∧ k ≤ n ∧ ops[k]? = some o ∧ e ∈ o.after ∧ e.on = j ∧ Region.binds .any e = true := by
  have h1 := List.all_eq_true.1 h j (List.mem_range.2 hj)
  obtain ⟨k, hk, h2⟩ := List.any_eq_true.1 h1
  rw [Bool.and_eq_true] at h2
  obtain ⟨h3, h4⟩ := h2
  cases ho : ops[k]? with
  | none => rw [ho] at h4; cases h4
  | some o =>
    rw [ho] at h4
    obtain ⟨e, he, h5⟩ := Array.any_eq_true'.1 h4
    rw [Bool.and_eq_true] at h5
    exact ⟨k, o, e, by simpa using h3, by have := List.mem_range.1 hk; omega, ho, he, by simpa using h5.1, h5.2⟩

theorem wp_region_fix {id : Nat} {a : Act} {w : World} (n : Nat) (Fr : (Nat → Value) → Act) (V : Nat → Value) (ha : a = Fr fun _ => undef) (hm : P.follows .mixedOrders = true) (hb : backB ops = true) (hg : ops.all (fun o => o.guard.isNone) = true) (hn : ops.size = n + 1)
    (hl : foreB ops n = true) (hx : ∀ x y : Nat → Value, (∀ j, j ≤ n → x j = y j) → Fr x = Fr y) (hV : V n = undef)
    (hstep : ∀ i oi (x : Nat → Value) w', i < n → ops[i]? = some oi → Below w.heap.size w w' → (∀ e ∈ oi.after, Region.binds .any e = true → x e.on = V e.on) → oi.wp P (Fr x) w' (fun a' w2 => a' = Fr (upd x i (V i)) ∧ Below w'.heap.size w' w2) Q)
    (hlast : ∀ oi w', ops[n]? = some oi → Below w.heap.size w w' → oi.wp P (Fr V) w' (fun a' w2 => Q .normal a' w2) Q) : (Code.region id ops true).wp P Q a w := by
  subst ha
  refine wp_region_inv hm hb (fun L a w' => (∀ k o e, ops[k]? = some o → L k = true → e ∈ o.after → Region.binds .any e = true → L e.on = true) ∧ ((∃ x : Nat → Value, a = Fr x ∧ L n = false ∧ Below w.heap.size w w' ∧ (∀ j, j < n → L j = true → x j = V j) ∧ (∀ j, L j = false → x j = undef)) ∨ (L n = true ∧ (∀ j, j < n → L j = true) ∧ Q .normal a w'))) ?_ ?_ ?_
  · exact ⟨fun k o e _ h => (by cases h), .inl ⟨_, rfl, rfl, (Below.refl _ _).drew, fun j _ h => (by cases h), fun _ _ => rfl⟩⟩
  · rintro L a w' i oi ⟨hclo, hI⟩ ho hli hall
    have hi : i < n + 1 := by rw [← hn]; exact (Array.getElem?_eq_some_iff.1 ho).1
    have hw : Region.wanted oi (yielded ops a.tmps) = true := by
      have h := Array.all_eq_true_iff_forall_mem.1 hg oi (Array.mem_of_getElem? ho)
      have h2 : oi.guard = none := by simpa using h
      simp [Region.wanted, h2]
    rw [if_pos hw]
    have hclo' : ∀ k o e, ops[k]? = some o → (if k = i then true else L k) = true → e ∈ o.after → Region.binds .any e = true → (if e.on = i then true else L e.on) = true := fun k o e hk hlk he hbd => by
      by_cases c : e.on = i
      · rw [if_pos c]
      · rw [if_neg c]
        by_cases d : k = i
        · subst d
          rw [ho] at hk; cases hk
          exact hall e he hbd
        · rw [if_neg d] at hlk
          exact hclo k o e hk hlk he hbd
    rcases hI with ⟨x, rfl, hLn, hbe, hv, hu⟩ | ⟨hLn, hLj, -⟩
    · by_cases c : i = n
      · subst c
        have hd : ∀ m j, i - j ≤ m → j < i → L j = true := by
          intro m
          induction m with
          | zero => intro j h1 h2; omega
          | succ m ih =>
            intro j h1 h2
            obtain ⟨k, o, e, h3, h4, h5, h6, h7, h8⟩ := foreB_spec hl h2
            subst h7
            by_cases d : k = i
            · subst d
              rw [ho] at h5; cases h5
              exact hall e h6 h8
            · exact hclo k o e h5 (ih k (by omega) (by omega)) h6 h8
        have hFr : Fr x = Fr V := hx _ _ fun j hj => by
          by_cases d : j = i
          · subst d; rw [hu _ hli, hV]
          · exact hv j (by omega) (hd _ j (Nat.le_refl _) (by omega))
        rw [hFr]
        exact Oper.wp_mono (fun a' w2 h => ⟨hclo', .inr ⟨if_pos rfl, fun j hj => by dsimp only; rw [if_neg (by omega)]; exact hd _ j (Nat.le_refl _) hj, h⟩⟩) (hlast oi w' ho hbe)
      · refine Oper.wp_mono (fun a' w2 h => ⟨hclo', .inl ⟨_, h.1, by dsimp only; rw [if_neg (fun e => c e.symm)]; exact hLn, hbe.trans (h.2.mono hbe.size), fun j hj hlj => ?_, fun j hlj => ?_⟩⟩) (hstep i oi x w' (by omega) ho hbe fun e he hbd => hv _ (by have := backB_spec hb ho e he; omega) (hall e he hbd))
        · by_cases d : j = i
          · subst d; exact upd_eq _ _ _
          · rw [upd_ne d]; dsimp only at hlj; rw [if_neg d] at hlj; exact hv j hj hlj
        · dsimp only at hlj
          by_cases d : j = i
          · rw [if_pos d] at hlj; cases hlj
          · rw [upd_ne d]; rw [if_neg d] at hlj; exact hu j hlj
    · exfalso
      by_cases c : i = n
      · subst c; rw [hLn] at hli; cases hli
      · rw [hLj i (by omega)] at hli; cases hli
  · rintro L a w' ⟨-, hI⟩ hall
    rcases hI with ⟨x, -, hLn, -⟩ | ⟨-, -, h⟩
    · rw [hall n (by omega)] at hLn; cases hLn
    · exact h
end

end Go.Proofs.Ytdlofeemeeabjaa
