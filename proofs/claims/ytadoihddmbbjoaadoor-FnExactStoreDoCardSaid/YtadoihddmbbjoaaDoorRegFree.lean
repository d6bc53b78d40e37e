/-
  A region that draws its order, with calls that make memory, one new box (wherever it comes up), a store into that box, and values drawn out of what the calls gave, which may come up behind the store.
-/
import Derived.Test.YtadoihddmbbjoaaDoorRegCore
import Derived.Below
namespace Go.Proofs.YtadoihddmbbjoaaDoor
open Go Go.RowKit

/-- The checks that a region and its kinds (0: a value, 1: out of a call's result, 2: a call, 3: the new box, 4: the store) must pass. -/
def freeB (ops : Array Oper) (n ja jc : Nat) (tag root : Nat → Nat) : Bool :=
  decide (n < ops.size) && decide (ja < ops.size) && decide (jc < ops.size) && decide (tag n = 4) && decide (tag ja = 3) && decide (tag jc = 2) &&
  (List.range ops.size).all fun i =>
    decide (tag i ≤ 4) && (decide (tag i ≠ 3) || decide (i = ja)) && (decide (tag i ≠ 4) || decide (i = n)) &&
    (decide (tag i ≠ 1) || (decide (tag (root i) = 2) && decide (root i < ops.size) && match ops[i]? with
      | some o => o.after.any fun e => Region.binds .any e && (decide (e.on = root i) || (decide (tag e.on = 1) && decide (root e.on = root i)))
      | none => false)) &&
    (decide (i = n) || decide (tag i = 1) || match ops[n]? with
      | some o => o.after.any fun e => Region.binds .any e && decide (e.on = i)
      | none => false)

section
variable {P : Program} {ops : Array Oper} {Q : Exit → Act → World → Prop}

structure FreeI (w0 : World) (ja jc : Nat) (tag root : Nat → Nat) (fn : Nat → Value → Value) (val : Nat → Value) (C : Nat → Value → World → Prop) (Ap : Value → Nat → Prop) (O : Obj) (L : Nat → Bool) (x : Nat → Value) (w' : World) : Prop where
  bel : Below w0.heap.size w0 w'
  v : ∀ j, tag j = 0 → L j = true → x j = val j
  c : ∀ j, tag j = 2 → L j = true → C j (x j) w'
  s : ∀ i, tag i = 1 → L i = true → L (root i) = true ∧ x i = fn i (x (root i))
  a : L ja = true → ∃ g, x ja = .pointer (some ⟨g, 0, none⟩) ∧ w0.heap.size ≤ g ∧ w'.heap[g]? = some O ∧ (L jc = true → Ap (x jc) g)

structure FreeE (ops : Array Oper) (ja jc : Nat) (tag root : Nat → Nat) (fn : Nat → Value → Value) (val : Nat → Value) (C : Nat → Value → World → Prop) (R : Value → Value → World → Prop) (L : Nat → Bool) (x : Nat → Value) (w' : World) : Prop where
  l : ∀ j, j < ops.size → tag j ≠ 1 → L j = true
  v : ∀ j, j < ops.size → tag j = 0 → x j = val j
  c : ∀ j, j < ops.size → tag j = 2 → ∃ w, C j (x j) w
  s : ∀ i, i < ops.size → tag i = 1 → L i = true → x i = fn i (x (root i))
  r : R (x ja) (x jc) w'

/-- What an operation may lean on: its operands. -/
def DepOk (tag root : Nat → Nat) (fn : Nat → Value → Value) (val : Nat → Value) (C : Nat → Value → World → Prop) (oi : Oper) (x : Nat → Value) : Prop :=
  ∀ e ∈ oi.after, Region.binds .any e = true → (tag e.on = 0 → x e.on = val e.on) ∧ (tag e.on = 1 → x e.on = fn e.on (x (root e.on)) ∧ ∃ w, C (root e.on) (x (root e.on)) w)

theorem wp_region_free {id : Nat} {a : Act} {w : World} (n ja jc : Nat) (tag root : Nat → Nat) (fn : Nat → Value → Value) (val : Nat → Value) (C : Nat → Value → World → Prop) (Ap : Value → Nat → Prop) (O : Obj) (R : Value → Value → World → Prop) (Fr : (Nat → Value) → Act) {x0 : Nat → Value} (ha : a = Fr x0)
    (hm : P.follows .mixedOrders = true) (hb : backB ops = true) (hg : ops.all (fun o => o.guard.isNone) = true) (hk : freeB ops n ja jc tag root = true)
    (hC : ∀ j v w1 w2, C j v w1 → Below w1.heap.size w1 w2 → C j v w2) (hAp : ∀ v w1 g, C jc v w1 → w1.heap.size ≤ g → Ap v g)
    (hval : ∀ i oi x w', i < ops.size → tag i = 0 → ops[i]? = some oi → Below w.heap.size w w' → DepOk tag root fn val C oi x → oi.wp P (Fr x) w' (fun a' w2 => a' = Fr (upd x i (val i)) ∧ w2 = w') Q)
    (hsrc : ∀ i oi x w', i < ops.size → tag i = 1 → ops[i]? = some oi → (∃ w, C (root i) (x (root i)) w) → DepOk tag root fn val C oi x → oi.wp P (Fr x) w' (fun a' w2 => a' = Fr (upd x i (fn i (x (root i)))) ∧ w2 = w') Q)
    (hcall : ∀ i oi x w', i < ops.size → tag i = 2 → ops[i]? = some oi → Below w.heap.size w w' → DepOk tag root fn val C oi x → (∀ e ∈ oi.after, Region.binds .any e = true → tag e.on = 2 → C e.on (x e.on) w') →
      oi.wp P (Fr x) w' (fun a' w2 => ∃ v, a' = Fr (upd x i v) ∧ C i v w2 ∧ Below w'.heap.size w' w2 ∧ (i = jc → ∀ g, g < w'.heap.size → Ap v g)) Q)
    (hnew : ∀ oi x w', ops[ja]? = some oi → oi.wp P (Fr x) w' (fun a' w2 => a' = Fr (upd x ja (.pointer (some ⟨w'.heap.size, 0, none⟩))) ∧ w2 = w'.alloc O) Q)
    (hlast : ∀ oi x w' g, ops[n]? = some oi → Below w.heap.size w w' → x ja = .pointer (some ⟨g, 0, none⟩) → w.heap.size ≤ g → w'.heap[g]? = some O → C jc (x jc) w' → Ap (x jc) g → DepOk tag root fn val C oi x → oi.wp P (Fr x) w' (fun a' w2 => a' = Fr x ∧ R (x ja) (x jc) w2) Q)
    (hend : ∀ x w' F, F = Fr x → (∀ j, j < ops.size → tag j = 0 → x j = val j) → (∀ i, i < ops.size → tag i = 1 → x i = fn i (x (root i))) → R (x ja) (x jc) w' → Q .normal F w') : (Code.region id ops true).wp P Q a w := by
  subst ha
  unfold freeB at hk
  simp only [Bool.and_eq_true, decide_eq_true_eq] at hk
  obtain ⟨⟨⟨⟨⟨⟨kn, kja⟩, kjc⟩, tn⟩, ta⟩, tc⟩, hall⟩ := hk
  have hi1 : ∀ i, i < ops.size → tag i ≤ 4 ∧ (tag i = 3 → i = ja) ∧ (tag i = 4 → i = n) := fun i hi => by
    have h := List.all_eq_true.1 hall i (List.mem_range.2 hi)
    simp only [Bool.and_eq_true, Bool.or_eq_true, decide_eq_true_eq] at h
    obtain ⟨⟨⟨⟨h1, h2⟩, h3⟩, -⟩, -⟩ := h
    exact ⟨h1, fun e => h2.resolve_left (fun c => c e), fun e => h3.resolve_left (fun c => c e)⟩
  have hi2 : ∀ i oi, i < ops.size → tag i = 1 → ops[i]? = some oi → tag (root i) = 2 ∧ ∃ e ∈ oi.after, Region.binds .any e = true ∧ (e.on = root i ∨ (tag e.on = 1 ∧ root e.on = root i)) := fun i oi hi ht ho => by
    have h := List.all_eq_true.1 hall i (List.mem_range.2 hi)
    simp only [Bool.and_eq_true, Bool.or_eq_true, decide_eq_true_eq, ho] at h
    obtain ⟨⟨-, h4⟩, -⟩ := h
    rcases h4 with h4 | ⟨h4, h5⟩
    · exact absurd ht h4
    · obtain ⟨e, he, h6⟩ := Array.any_eq_true'.1 h5
      simp only [Bool.and_eq_true, Bool.or_eq_true, decide_eq_true_eq] at h6
      exact ⟨h4.1, e, he, h6.1, h6.2⟩
  have hroot : ∀ i, i < ops.size → tag i = 1 → root i < ops.size := fun i hi ht => by
    have h := List.all_eq_true.1 hall i (List.mem_range.2 hi)
    simp only [Bool.and_eq_true, Bool.or_eq_true, decide_eq_true_eq] at h
    obtain ⟨⟨-, h4⟩, -⟩ := h
    rcases h4 with h4 | ⟨h4, -⟩
    · exact absurd ht h4
    · exact h4.2
  have hi3 : ∀ i on, i < ops.size → i ≠ n → tag i ≠ 1 → ops[n]? = some on → ∃ e ∈ on.after, Region.binds .any e = true ∧ e.on = i := fun i on hi hne ht ho => by
    have h := List.all_eq_true.1 hall i (List.mem_range.2 hi)
    simp only [Bool.and_eq_true, Bool.or_eq_true, decide_eq_true_eq, ho] at h
    obtain ⟨-, h5⟩ := h
    rcases h5 with (h5 | h5) | h5
    · exact absurd h5 hne
    · exact absurd h5 ht
    · obtain ⟨e, he, h6⟩ := Array.any_eq_true'.1 h5
      simp only [Bool.and_eq_true, decide_eq_true_eq] at h6
      exact ⟨e, he, h6.1, h6.2⟩
  refine wp_region_inv hm hb (fun L a w' => ∃ x : Nat → Value, a = Fr x ∧ ((L n = false ∧ FreeI w ja jc tag root fn val C Ap O L x w') ∨ (L n = true ∧ FreeE ops ja jc tag root fn val C R L x w'))) ?_ ?_ ?_
  · exact ⟨x0, rfl, .inl ⟨rfl, ⟨(Below.refl _ _).drew, (fun _ _ h => by cases h), (fun _ _ h => by cases h), (fun _ _ h => by cases h), (fun h => by cases h)⟩⟩⟩
  · rintro L _ w' i oi ⟨x, rfl, hI⟩ ho hl hdone
    have hi : i < ops.size := (Array.getElem?_eq_some_iff.1 ho).1
    have hgn : oi.guard = none := by
      have := Array.all_eq_true_iff_forall_mem.1 hg oi (Array.mem_of_getElem? ho)
      simpa using this
    rw [if_pos (by simp [Region.wanted, hgn])]
    obtain ⟨q1, q3, q4⟩ := hi1 i hi
    have hrt : ∀ k, k < ops.size → tag k = 1 → tag (root k) = 2 := fun k hk tk => by
      obtain ⟨o2, ho2⟩ : ∃ o2, ops[k]? = some o2 := ⟨_, Array.getElem?_eq_getElem hk⟩
      exact (hi2 k o2 hk tk ho2).1
    rcases hI with ⟨ln, hI⟩ | ⟨ln, hE⟩
    · have hdep : DepOk tag root fn val C oi x := fun e he hbd => ⟨fun t => hI.v _ t (hdone e he hbd), fun t => by
        obtain ⟨l1, e1⟩ := hI.s _ t (hdone e he hbd)
        have heon : e.on < ops.size := Nat.lt_trans (backB_spec hb ho e he hbd) hi
        exact ⟨e1, w', hI.c _ (hrt _ heon t) l1⟩⟩
      have hnext : ∀ v w2, Below w'.heap.size w' w2 → (tag i = 0 → v = val i) → (tag i = 2 → C i v w2) → (tag i = 1 → L (root i) = true ∧ v = fn i (x (root i))) →
          (i = ja → ∃ g, v = .pointer (some ⟨g, 0, none⟩) ∧ w.heap.size ≤ g ∧ w2.heap[g]? = some O ∧ (L jc = true → Ap (x jc) g)) → (i = jc → ∀ g, g < w'.heap.size → Ap v g) → FreeI w ja jc tag root fn val C Ap O (lset L i) (upd x i v) w2 := by
        intro v w2 hbl h0 h2 h1 h3 h4
        refine ⟨hI.bel.trans (hbl.mono hI.bel.size), fun j tj hj => ?_, fun j tj hj => ?_, fun k tk hk => ?_, fun hja => ?_⟩
        · by_cases e : j = i
          · subst e; rw [upd_eq]; exact h0 tj
          · rw [upd_ne e]; rw [lset_ne e] at hj; exact hI.v j tj hj
        · by_cases e : j = i
          · subst e; rw [upd_eq]; exact h2 tj
          · rw [upd_ne e]; rw [lset_ne e] at hj; exact hC _ _ _ _ (hI.c j tj hj) hbl
        · by_cases e : k = i
          · subst e
            obtain ⟨l1, e1⟩ := h1 tk
            have hr : root k ≠ k := fun e => by rw [e, hl] at l1; cases l1
            exact ⟨lset_mono l1, by rw [upd_eq, upd_ne hr]; exact e1⟩
          · rw [lset_ne e] at hk
            obtain ⟨l1, e1⟩ := hI.s k tk hk
            have hr : root k ≠ i := fun e => by rw [e, hl] at l1; cases l1
            exact ⟨lset_mono l1, by rw [upd_ne e, upd_ne hr]; exact e1⟩
        · by_cases e : ja = i
          · obtain ⟨g, e1, e2, e3, e4⟩ := h3 e.symm
            have hjc : jc ≠ i := fun c => by rw [c, ← e, ta] at tc; cases tc
            exact ⟨g, by rw [e, upd_eq]; exact e1, e2, e3, fun hj => by rw [upd_ne hjc]; rw [lset_ne hjc] at hj; exact e4 hj⟩
          · rw [lset_ne e] at hja
            obtain ⟨g, e1, e2, e3, e4⟩ := hI.a hja
            have hgl : g < w'.heap.size := (Array.getElem?_eq_some_iff.1 e3).1
            refine ⟨g, by rw [upd_ne e]; exact e1, e2, (hbl.block g hgl).trans e3, fun hj => ?_⟩
            by_cases ec : jc = i
            · rw [ec, upd_eq]; exact h4 ec.symm g hgl
            · rw [upd_ne ec]; rw [lset_ne ec] at hj; exact e4 hj
      by_cases t4 : tag i = 4
      · obtain rfl := q4 t4
        have hld : ∀ j, j < ops.size → j ≠ i → tag j ≠ 1 → L j = true := fun j hj hne htj => by
          obtain ⟨e, he, h1, h2⟩ := hi3 j oi hj hne htj ho
          rw [← h2]; exact hdone e he h1
        have hja : L ja = true := hld ja kja (fun c => by rw [c, tn] at ta; cases ta) (by rw [ta]; decide)
        have hjc : L jc = true := hld jc kjc (fun c => by rw [c, tn] at tc; cases tc) (by rw [tc]; decide)
        obtain ⟨g, e1, e2, e3, e4⟩ := hI.a hja
        refine Oper.wp_mono ?_ (hlast oi x w' g ho hI.bel e1 e2 e3 (hI.c jc tc hjc) (e4 hjc) hdep)
        rintro a' w2 ⟨h1, hR⟩
        refine ⟨x, h1, .inr ⟨if_pos rfl, ⟨fun j hj htj => ?_, fun j hj htj => ?_, fun j hj htj => ?_, fun k hk tk hlk => ?_, hR⟩⟩⟩
        · by_cases e : j = i
          · exact if_pos e
          · exact lset_mono (hld j hj e htj)
        · exact hI.v j htj (hld j hj (fun c => by rw [c, tn] at htj; cases htj) (by rw [htj]; decide))
        · exact ⟨w', hI.c j htj (hld j hj (fun c => by rw [c, tn] at htj; cases htj) (by rw [htj]; decide))⟩
        · have hne : k ≠ i := fun c => by rw [c, tn] at tk; cases tk
          have hlk' : lset L i k = true := hlk
          rw [lset_ne hne] at hlk'
          exact (hI.s k tk hlk').2
      have hin : i ≠ n := fun c => t4 (by rw [c]; exact tn)
      have lnn : (if n = i then true else L n) = false := by rw [if_neg (fun c => hin c.symm)]; exact ln
      by_cases t0 : tag i = 0
      · have hja : i ≠ ja := fun c => by rw [c, ta] at t0; cases t0
        have hjc : i ≠ jc := fun c => by rw [c, tc] at t0; cases t0
        refine Oper.wp_mono ?_ (hval i oi x w' hi t0 ho hI.bel hdep)
        rintro a' w2 ⟨h1, h2⟩
        subst h2
        exact ⟨_, h1, .inl ⟨lnn, hnext _ _ (Below.refl _ _) (fun _ => rfl) (fun t => by rw [t0] at t; cases t) (fun t => by rw [t0] at t; cases t) (fun c => absurd c hja) (fun c => absurd c hjc)⟩⟩
      by_cases t1 : tag i = 1
      · have hja : i ≠ ja := fun c => by rw [c, ta] at t1; cases t1
        have hjc : i ≠ jc := fun c => by rw [c, tc] at t1; cases t1
        obtain ⟨tr, e, he, hbd, h5⟩ := hi2 i oi hi t1 ho
        have hlr : L (root i) = true := by
          rcases h5 with h5 | ⟨h5, h6⟩
          · rw [← h5]; exact hdone e he hbd
          · rw [← h6]; exact (hI.s _ h5 (hdone e he hbd)).1
        refine Oper.wp_mono ?_ (hsrc i oi x w' hi t1 ho ⟨w', hI.c _ tr hlr⟩ hdep)
        rintro a' w2 ⟨h1, h2⟩
        subst h2
        exact ⟨_, h1, .inl ⟨lnn, hnext _ _ (Below.refl _ _) (fun t => by rw [t1] at t; cases t) (fun t => by rw [t1] at t; cases t) (fun _ => ⟨hlr, rfl⟩) (fun c => absurd c hja) (fun c => absurd c hjc)⟩⟩
      by_cases t2 : tag i = 2
      · have hja : i ≠ ja := fun c => by rw [c, ta] at t2; cases t2
        refine Oper.wp_mono ?_ (hcall i oi x w' hi t2 ho hI.bel hdep (fun e he hbd ht => hI.c _ ht (hdone e he hbd)))
        rintro a' w2 ⟨v, h1, h2, h3, h4⟩
        exact ⟨_, h1, .inl ⟨lnn, hnext v w2 h3 (fun t => by rw [t2] at t; cases t) (fun _ => h2) (fun t => by rw [t2] at t; cases t) (fun c => absurd c hja) h4⟩⟩
      · have t3 : tag i = 3 := by omega
        obtain rfl := q3 t3
        have hjc : i ≠ jc := fun c => by rw [c, tc] at t3; cases t3
        refine Oper.wp_mono ?_ (hnew oi x w' ho)
        rintro a' w2 ⟨h1, h2⟩
        subst h2
        exact ⟨_, h1, .inl ⟨lnn, hnext _ _ ((Below.refl _ _).alloc (Nat.le_refl _) _) (fun t => by rw [t3] at t; cases t) (fun t => by rw [t3] at t; cases t) (fun t => by rw [t3] at t; cases t)
          (fun _ => ⟨w'.heap.size, rfl, hI.bel.size, heap_alloc_new _ _, fun hj => hAp _ _ _ (hI.c jc tc hj) (Nat.le_refl _)⟩) (fun c => absurd c hjc)⟩⟩
    · have t1 : tag i = 1 := by
        by_cases h : tag i = 1
        · exact h
        · rw [hE.l i hi h] at hl; cases hl
      have hja : ja ≠ i := fun c => by rw [c, t1] at ta; cases ta
      have hjc : jc ≠ i := fun c => by rw [c, t1] at tc; cases tc
      obtain ⟨tr, e, he, hbd, h5⟩ := hi2 i oi hi t1 ho
      have hrs : ∀ k, k < ops.size → tag k = 1 → root k < ops.size := fun k hk tk => by
        exact hroot k hk tk
      have hdep : DepOk tag root fn val C oi x := fun e he hbd => by
        have heon : e.on < ops.size := Nat.lt_trans (backB_spec hb ho e he hbd) hi
        exact ⟨fun t => hE.v _ heon t, fun t => ⟨hE.s _ heon t (hdone e he hbd), hE.c _ (hrs _ heon t) (hrt _ heon t)⟩⟩
      refine Oper.wp_mono ?_ (hsrc i oi x w' hi t1 ho (hE.c _ (hrs i hi t1) tr) hdep)
      rintro a' w2 ⟨h1, h2⟩
      subst h2
      have hri : root i ≠ i := fun c => by rw [c, t1] at tr; cases tr
      refine ⟨_, h1, .inr ⟨lset_mono ln, ⟨fun j hj htj => lset_mono (hE.l j hj htj), fun j hj htj => ?_, fun j hj htj => ?_, fun k hk tk hlk => ?_, ?_⟩⟩⟩
      · rw [upd_ne (fun c => by rw [c, t1] at htj; cases htj)]; exact hE.v j hj htj
      · rw [upd_ne (fun c => by rw [c, t1] at htj; cases htj)]; exact hE.c j hj htj
      · by_cases e : k = i
        · subst e; rw [upd_eq, upd_ne hri]
        · have hlk' : lset L i k = true := hlk
          rw [lset_ne e] at hlk'
          have hr : root k ≠ i := fun c => by have := hrt k hk tk; rw [c, t1] at this; cases this
          rw [upd_ne e, upd_ne hr]; exact hE.s k hk tk hlk'
      · rw [upd_ne hja, upd_ne hjc]; exact hE.r
  · rintro L _ w' ⟨x, rfl, hI⟩ hd
    rcases hI with ⟨ln, -⟩ | ⟨-, hE⟩
    · rw [hd n kn] at ln; cases ln
    · exact hend x w' _ rfl hE.v (fun i hi ht => hE.s i hi ht (hd i hi)) hE.r
end

end Go.Proofs.YtadoihddmbbjoaaDoor
