/-
  A region that draws its order: a chain of operations that act (calls, at last a store), one behind the other; all others yield a value that hangs on what the chain has yielded so far.
-/
import Derived.Test.YtadoihddmbbjoaaDoorKRegCore
namespace Go.Proofs.YtadoihddmbbjoaaDoor
open Go Go.RowKit

section
variable {P : Program} {ops : Array Oper} {Q : Exit → Act → World → Prop}

/-- The value of an operation: what the chain has yielded, or what hangs on it. -/
def chVal (rank : Nat → Option Nat) (V : Nat → (Nat → Value) → Value) (j : Nat) (e : Nat → Value) : Value := match rank j with | some s => e s | none => V j e
/-- What a tuple has at a place. -/
def tupAt (v : Value) (i : Nat) : Value := match v with | .tuple a => a.getD i undef | _ => undef
/-- Does an edge of operation i lead to one for which f holds? -/
def edgeB (ops : Array Oper) (i : Nat) (f : Nat → Bool) : Bool := match ops[i]? with | some o => o.after.any (fun e => f e.on && Region.binds .any e) | none => false
theorem edgeB_spec {i : Nat} {f : Nat → Bool} (h : edgeB ops i f = true) : ∃ o e, ops[i]? = some o ∧ e ∈ o.after ∧ f e.on = true ∧ Region.binds .any e = true := by
  unfold edgeB at h
  cases ho : ops[i]? with
  | none => rw [ho] at h; cases h
  | some o =>
    rw [ho] at h
    obtain ⟨e, he, h5⟩ := Array.any_eq_true'.1 h
    rw [Bool.and_eq_true] at h5
    exact ⟨o, e, rfl, he, h5.1, h5.2⟩
/-- The ranks are a chain: each behind the one before it; n is the last. -/
def rankB (ops : Array Oper) (n m : Nat) (rank : Nat → Option Nat) (lv : Nat → Nat) : Bool :=
  (rank n == some m) && (List.range n).all fun i => match rank i with
    | some t => decide (t < m) && ((List.range n).all fun j => j == i || !(rank j == some t)) && (t == 0 || edgeB ops i fun d => rank d == some (t - 1))
    | none => lv i == 0 || edgeB ops i fun d => rank d == some (lv i - 1) || (rank d == none && lv d == lv i)
/-- The last one waits for the chain. -/
def tailB (ops : Array Oper) (n m : Nat) (rank : Nat → Option Nat) : Bool := m == 0 || edgeB ops n fun d => rank d == some (m - 1)

theorem wp_region_chain {id : Nat} {a : Act} {w : World} (n m : Nat) (late : Nat → Bool) (rank : Nat → Option Nat) (lv : Nat → Nat) (Fr : (Nat → Value) → Act) (V : Nat → (Nat → Value) → Value) (C : Nat → (Nat → Value) → World → Prop) (R : (Nat → Value) → World → Prop) {x0 : Nat → Value} (ha : a = Fr x0)
    (hm : P.follows .mixedOrders = true) (hb : backB ops = true) (hg : ops.all (fun o => o.guard.isNone) = true) (hn : ops.size = n + 1) (hl : foreB ops n late = true) (hr : rankB ops n m rank lv = true) (ht : tailB ops n m rank = true) (hll : (List.range n).all (fun j => !late j || rank j == none) = true)
    (hx : ∀ x y : Nat → Value, (∀ j, j < n → x j = y j) → Fr x = Fr y) (hV : ∀ i, i < n → rank i = none → ∀ e e' : Nat → Value, (∀ s, s < lv i → e s = e' s) → V i e = V i e') (h0 : C 0 (fun _ => undef) w.drew)
    (hpure : ∀ i oi (x e : Nat → Value) t w', i < n → rank i = none → ops[i]? = some oi → lv i ≤ t → t ≤ m → C t e w' → (∀ d ∈ oi.after, Region.binds .any d = true → x d.on = chVal rank V d.on e) → oi.wp P (Fr x) w' (fun a' w2 => a' = Fr (upd x i (V i e)) ∧ w2 = w') Q)
    (heff : ∀ i oi (x e : Nat → Value) t w', i < n → rank i = some t → ops[i]? = some oi → C t e w' → (∀ d ∈ oi.after, Region.binds .any d = true → x d.on = chVal rank V d.on e) → oi.wp P (Fr x) w' (fun a' w2 => ∃ v, a' = Fr (upd x i v) ∧ C (t + 1) (upd e t v) w2) Q)
    (hlast : ∀ oi (x e : Nat → Value) w', ops[n]? = some oi → C m e w' → (∀ d ∈ oi.after, Region.binds .any d = true → x d.on = chVal rank V d.on e) → oi.wp P (Fr x) w' (fun a' w2 => a' = Fr x ∧ R e w2) Q)
    (hlate : ∀ i oi (x e : Nat → Value) w', i < n → late i = true → rank i = none → ops[i]? = some oi → R e w' → (∀ d ∈ oi.after, Region.binds .any d = true → x d.on = chVal rank V d.on e) → oi.wp P (Fr x) w' (fun a' w2 => a' = Fr (upd x i (V i e)) ∧ w2 = w') Q)
    (hend : ∀ e w' F, F = (Fr fun j => chVal rank V j e) → R e w' → Q .normal F w') : (Code.region id ops true).wp P Q a w := by
  subst ha
  unfold rankB at hr
  rw [Bool.and_eq_true] at hr
  obtain ⟨hrn, hri⟩ := hr
  have hrn : rank n = some m := by simpa using hrn
  have hr1 : ∀ i t, i < n → rank i = some t → t < m ∧ (∀ j, j < n → rank j = some t → j = i) ∧ (t = 0 ∨ edgeB ops i (fun d => rank d == some (t - 1)) = true) := fun i t hi hit => by
    have h := List.all_eq_true.1 hri i (List.mem_range.2 hi)
    rw [hit] at h
    simp only [Bool.and_eq_true, decide_eq_true_eq] at h
    obtain ⟨⟨h1, h2⟩, h3⟩ := h
    refine ⟨h1, fun j hj hjt => ?_, ?_⟩
    · have h4 := List.all_eq_true.1 h2 j (List.mem_range.2 hj)
      rw [hjt] at h4
      simpa using h4
    · rw [Bool.or_eq_true] at h3
      rcases h3 with h3 | h3
      · left; simpa using h3
      · right; exact h3
  have hr2 : ∀ i, i < n → rank i = none → lv i = 0 ∨ edgeB ops i (fun d => rank d == some (lv i - 1) || (rank d == none && lv d == lv i)) = true := fun i hi hit => by
    have h := List.all_eq_true.1 hri i (List.mem_range.2 hi)
    rw [hit] at h
    simp only [Bool.or_eq_true] at h
    rcases h with h | h
    · left; simpa using h
    · right; exact h
  refine wp_region_inv hm hb (fun L a w' => (∀ k o e, ops[k]? = some o → L k = true → e ∈ o.after → Region.binds .any e = true → L e.on = true) ∧ ∃ (x e : Nat → Value) (t : Nat), a = Fr x ∧ t ≤ m + 1 ∧ (∀ i s, i ≤ n → rank i = some s → (L i = true ↔ s < t)) ∧ (∀ i, i < n → L i = true → x i = chVal rank V i e) ∧
      (∀ i, i < n → rank i = none → L i = true → lv i ≤ t) ∧ (t ≤ m → C t e w') ∧ (t = m + 1 → (∀ j, j < n → late j = false → L j = true) ∧ R e w')) ?_ ?_ ?_
  · exact ⟨fun k o e _ h => (by cases h), x0, fun _ => undef, 0, rfl, by omega, fun i s _ _ => ⟨fun h => (by cases h), fun h => by omega⟩, fun i _ h => (by cases h), fun i _ _ h => (by cases h), fun _ => h0, fun h => by omega⟩
  · rintro L a w' i oi ⟨hclo, x, e, t, rfl, htm, hrk, hv, hlv, hC, hR⟩ ho hli hall
    have hi : i < n + 1 := by rw [← hn]; exact (Array.getElem?_eq_some_iff.1 ho).1
    have hw : Region.wanted oi (yielded ops (Fr x).tmps) = true := by
      have h := Array.all_eq_true_iff_forall_mem.1 hg oi (Array.mem_of_getElem? ho)
      have h2 : oi.guard = none := by simpa using h
      simp [Region.wanted, h2]
    rw [if_pos hw]
    have hclo' : ∀ k o e, ops[k]? = some o → (if k = i then true else L k) = true → e ∈ o.after → Region.binds .any e = true → (if e.on = i then true else L e.on) = true := fun k o e hk hlk he hbd => by
      by_cases c : e.on = i
      · rw [if_pos c]
      · rw [if_neg c]
        by_cases d : k = i
        · subst d
          rw [ho] at hk; cases hk
          exact hall e he hbd
        · rw [if_neg d] at hlk
          exact hclo k o e hk hlk he hbd
    have hon : ∀ d ∈ oi.after, Region.binds .any d = true → x d.on = chVal rank V d.on e := fun d hd hbd => hv _ (by have := backB_spec hb ho d hd hbd; omega) (hall d hd hbd)
    -- what an edge tells of the chain
    have hed : ∀ s, edgeB ops i (fun d => rank d == some s) = true → s < t := fun s h => by
      obtain ⟨o, d, h1, h2, h3, h4⟩ := edgeB_spec h
      rw [ho] at h1; cases h1
      have h5 : rank d.on = some s := by simpa using h3
      have h6 := backB_spec hb ho d h2 h4
      exact (hrk d.on s (by omega) h5).1 (hall d h2 h4)
    by_cases c : i = n
    · subst c
      have htn : t ≤ m := by
        rcases Nat.lt_or_ge m t with q | q
        · have := (hrk i m (Nat.le_refl _) hrn).2 q
          rw [this] at hli; cases hli
        · exact q
      have htm' : t = m := by
        unfold tailB at ht
        rw [Bool.or_eq_true] at ht
        rcases ht with q | q
        · have : m = 0 := by simpa using q
          omega
        · by_cases q0 : m = 0
          · omega
          · have := hed _ q; omega
      subst htm'
      have hd : ∀ z j, i - j ≤ z → j < i → late j = false → L j = true := by
        intro z
        induction z with
        | zero => intro j h1 h2; omega
        | succ z ih =>
          intro j h1 h2 h0
          obtain ⟨k, o, d, h3, h4, h9, h5, h6, h7, h8⟩ := foreB_spec hl h2 h0
          subst h7
          by_cases q : k = i
          · subst q
            rw [ho] at h5; cases h5
            exact hall d h6 h8
          · exact hclo k o d h5 (ih k (by omega) (by omega) h9) h6 h8
      refine Oper.wp_mono (fun a' w2 h => ⟨hclo', x, e, t + 1, h.1, Nat.le_refl _, fun j s hj hjs => ?_, fun j hj hlj => hv j hj (by dsimp only at hlj; rw [if_neg (by omega)] at hlj; exact hlj), fun j hj hjn hlj => Nat.le_succ_of_le (hlv j hj hjn (by dsimp only at hlj; rw [if_neg (by omega)] at hlj; exact hlj)), fun q => by omega, fun _ => ⟨fun j hj h0 => by dsimp only; rw [if_neg (by omega)]; exact hd _ j (Nat.le_refl _) hj h0, h.2⟩⟩) (hlast oi x e w' ho (hC htn) hon)
      by_cases q : j = i
      · subst q
        rw [hrn] at hjs; cases hjs
        exact ⟨fun _ => Nat.lt_succ_self _, fun _ => by dsimp only; rw [if_pos rfl]⟩
      · have h1 := hrk j s hj hjs
        have h2 := (hr1 j s (by omega) hjs).1
        dsimp only
        rw [if_neg q]
        exact ⟨fun h => by omega, fun _ => h1.2 h2⟩
    · have hin : i < n := by omega
      cases hrank : rank i with
      | some s =>
        have hs := hr1 i s hin hrank
        have hst : ¬ s < t := fun q => by
          have := (hrk i s (by omega) hrank).2 q
          rw [this] at hli; cases hli
        have hst2 : s ≤ t := hs.2.2.elim (fun q => by omega) (fun q => by have := hed _ q; omega)
        obtain rfl : s = t := by omega
        refine Oper.wp_mono (fun a' w2 ⟨v, h1, h2⟩ => ⟨hclo', upd x i v, upd e s v, s + 1, h1, by omega, fun j r hj hjr => ?_, fun j hj hlj => ?_, fun j hj hjn hlj => ?_, fun _ => h2, fun q => by omega⟩) (heff i oi x e s w' hin hrank ho (hC (by omega)) hon)
        · dsimp only
          by_cases q : j = i
          · subst q
            rw [hrank] at hjr; cases hjr
            exact ⟨fun _ => Nat.lt_succ_self _, fun _ => by rw [if_pos rfl]⟩
          · rw [if_neg q]
            have h3 := hrk j r hj hjr
            refine ⟨fun h => by have := h3.1 h; omega, fun h => h3.2 ?_⟩
            have h4 : r ≠ s := fun e => by
              subst e
              by_cases q2 : j = n
              · subst q2; rw [hrn] at hjr; cases hjr; omega
              · exact q (hs.2.1 j (by omega) hjr)
            omega
        · by_cases q : j = i
          · subst q
            rw [upd_eq]; unfold chVal; rw [hrank]; exact (upd_eq _ _ _).symm
          · rw [upd_ne q]
            dsimp only at hlj
            rw [if_neg q] at hlj
            rw [hv j hj hlj]
            unfold chVal
            cases hrj : rank j with
            | some r =>
              have h4 : r ≠ s := fun e => by subst e; exact q (hs.2.1 j hj hrj)
              exact (upd_ne h4).symm
            | none =>
              have h5 := hlv j hj hrj hlj
              exact hV j hj hrj _ _ fun z hz => (upd_ne (by omega)).symm
        · by_cases q : j = i
          · subst q; rw [hrank] at hjn; cases hjn
          · dsimp only at hlj
            rw [if_neg q] at hlj
            exact Nat.le_succ_of_le (hlv j hj hjn hlj)
      | none =>
        have hlt : lv i ≤ t := (hr2 i hin hrank).elim (fun q => by omega) (fun q => by
          obtain ⟨o, d, h1, h2, h3, h4⟩ := edgeB_spec q
          rw [ho] at h1; cases h1
          have h6 := backB_spec hb ho d h2 h4
          rw [Bool.or_eq_true] at h3
          rcases h3 with h3 | h3
          · have h5 : rank d.on = some (lv i - 1) := by simpa using h3
            have := (hrk d.on _ (by omega) h5).1 (hall d h2 h4)
            omega
          · rw [Bool.and_eq_true] at h3
            have h7 : rank d.on = none := by simpa using h3.1
            have h8 : lv d.on = lv i := by simpa using h3.2
            have := hlv d.on (by omega) h7 (hall d h2 h4)
            omega)
        have fin : ∀ a' w2, (a' = Fr (upd x i (V i e)) ∧ w2 = w') → ((∀ k o e, ops[k]? = some o → (if k = i then true else L k) = true → e ∈ o.after → Region.binds .any e = true → (if e.on = i then true else L e.on) = true) ∧ ∃ (x e : Nat → Value) (t : Nat), a' = Fr x ∧ t ≤ m + 1 ∧ (∀ j s, j ≤ n → rank j = some s → ((if j = i then true else L j) = true ↔ s < t)) ∧ (∀ j, j < n → (if j = i then true else L j) = true → x j = chVal rank V j e) ∧
            (∀ j, j < n → rank j = none → (if j = i then true else L j) = true → lv j ≤ t) ∧ (t ≤ m → C t e w2) ∧ (t = m + 1 → (∀ j, j < n → late j = false → (if j = i then true else L j) = true) ∧ R e w2)) := fun a' w2 ⟨h1, h2⟩ => by
          subst h2
          refine ⟨hclo', upd x i (V i e), e, t, h1, htm, fun j s hj hjs => ?_, fun j hj hlj => ?_, fun j hj hjn hlj => ?_, hC, fun q => ⟨fun j hj h0 => ?_, (hR q).2⟩⟩
          · have q : j ≠ i := fun q => by subst q; rw [hrank] at hjs; cases hjs
            rw [if_neg q]; exact hrk j s hj hjs
          · by_cases q : j = i
            · subst q; rw [upd_eq]; unfold chVal; rw [hrank]
            · rw [if_neg q] at hlj; rw [upd_ne q]; exact hv j hj hlj
          · by_cases q : j = i
            · subst q; exact hlt
            · rw [if_neg q] at hlj; exact hlv j hj hjn hlj
          · by_cases q2 : j = i
            · rw [if_pos q2]
            · rw [if_neg q2]; exact (hR q).1 j hj h0
        rcases Nat.lt_or_ge m t with q | q
        · have hlt' : late i = true := by
            cases h0 : late i with
            | true => rfl
            | false =>
              have := (hR (by omega)).1 i hin h0
              rw [this] at hli; cases hli
          exact Oper.wp_mono fin (hlate i oi x e w' hin hlt' hrank ho (hR (by omega)).2 hon)
        · exact Oper.wp_mono fin (hpure i oi x e t w' hin hrank ho hlt q (hC q) hon)
  · rintro L a w' ⟨-, x, e, t, rfl, htm, hrk, hv, -, -, hR⟩ hall
    have htt : t = m + 1 := by
      have := (hrk n m (Nat.le_refl _) hrn).1 (hall n (by omega))
      omega
    rw [hx x (fun j => chVal rank V j e) fun j hj => hv j hj (hall j (by omega))]
    exact hend _ _ _ rfl (hR htt).2
end

end Go.Proofs.YtadoihddmbbjoaaDoor
