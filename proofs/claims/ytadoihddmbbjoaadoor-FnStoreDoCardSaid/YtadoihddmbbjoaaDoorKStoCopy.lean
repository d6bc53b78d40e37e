/-
  The model's l5Copy: a store's copy in new memory.
-/
import Derived.Test.YtadoihddmbbjoaaDoorKRegOps
import Derived.Deep.AppendSrc
import Derived.Deep.Upon
import Derived.Laws.Tables
namespace Go.Proofs.YtadoihddmbbjoaaDoor
open Go.RowKit

theorem vls_src {w : World} {v : Value} {n : Nat} {f : Nat → Value} (h : Vls w v n f) (h1 : ∀ i, (f i).oneCell' = true) (T T' : TypeId) (P : Program) (ht : P.underlying T = some (.slice T')) : Src P 1 T v n ((List.range n).map f) w := by
  obtain ⟨a, cap, rfl, hl, hm, hc⟩ := h
  by_cases hn : 0 < n
  · obtain ⟨b, off, rfl, hcc⟩ := hc hn
    refine Src.ofSlice w ht _ n cap _ (by simp) (fun j u hu => ?_) (fun u hu => ?_)
    · have hj : j < n := by have := (List.getElem?_eq_some_iff.1 hu).1; simpa using this
      rw [List.getElem?_map, List.getElem?_range hj] at hu
      injection hu with hu
      subst hu
      have e : (⟨b, off, none⟩ : Addr).add j = ⟨b, off + j, none⟩ := by
        rcases Nat.eq_zero_or_pos j with e | e
        · subst e; simp [Addr.add]
        · simp [Addr.add, Nat.ne_of_gt e]
      rw [e]; exact hcc j hj
    · obtain ⟨i, -, rfl⟩ := List.mem_map.1 hu
      exact h1 i
  · obtain rfl : n = 0 := by omega
    refine ⟨.inl ⟨T', ht⟩, fun _ => rfl, ?_, ?_, by simp, fun u hu => by simp at hu⟩
    · cases a with
      | none => exact run_firstCells_none w 1 0 0 cap
      | some ad => exact run_firstCells_some w 1 0 ad 0 cap [] (by simp) (fun j u h => by simp at h)
    · cases a with
      | none => exact run_firstCells_none w.drew 1 0 0 cap
      | some ad => exact run_firstCells_some w.drew 1 0 ad 0 cap [] (by simp) (fun j u h => by simp at h)

/-- append([]T{}, v...): a new slice that reads as v. -/
theorem run_app0 {P : Program} (w : World) (ST T ty : TypeId) (i0 : TypeInfo) (z : Value) (bytes : Nat) (ht : P.underlying ST = some (.slice T)) (hi : P.info? T = some i0) (hz : i0.zero = some z) (hsz : i0.size = 1) (hby : i0.bytes = bytes) (hb16 : bytes ≤ 16)
    (lo g : Nat) (hlo : lo ≤ g) (hg : g < w.heap.size) (v : Value) (n : Nat) (f : Nat → Value) (hv : Vls w v n f) (h1 : ∀ i, (f i).oneCell' = true) (hn : n ≤ 1048576) :
    ∃ v' w', (Builtin.append_ #[ST, ST] ty #[.slice (some ⟨g, 0, none⟩) 0 0, v]).run P w = .ok v' w' ∧ Mk1 w' lo w'.heap.size v' n f ∧ Below w.heap.size w w' ∧ (v'.ownBlock = some g ∨ (v'.ownBlock = some w.heap.size ∧ w.heap.size < w'.heap.size)) := by
  have hs := vls_src hv h1 ST T P ht
  by_cases hp : 0 < n
  · have hr := run_append_grow_src w ST ST ty T i0 z ht hi hz (some ⟨g, 0, none⟩) 0 0 [] (by rw [hsz]; exact run_firstCells_some w.drew 1 0 _ 0 0 [] (by simp) (fun j u h => by simp at h)) v n _ (by rw [hsz]; exact hs) (by omega) (by omega) (growslice_fits (by omega) (by
      rw [hby, Nat.zero_add]
      have := Nat.mul_le_mul hn hb16
      omega))
    rw [Nat.zero_add, List.nil_append] at hr
    have hge := grownCap_ge w n 0 T
    have hcm : grownCap w n 0 T ≤ maxLen := grownCap_le_maxLen w n 0 T (by unfold maxLen; omega)
    refine ⟨_, _, hr, Mk1.of_row (fun i hi' => ⟨?_, by go_simp⟩) (by omega) (by simp) hge hcm, (Below.refl _ _).drew.alloc (by simp) _, .inr ⟨rfl, by simp⟩⟩
    have e : w.drew.heap.size = w.heap.size := rfl
    rw [← e, World.cell?_alloc_new]
    rw [Array.getElem?_append_left (by simpa using hi'), List.getElem?_toArray, List.getElem?_map, List.getElem?_range hi']
    rfl
  · obtain rfl : n = 0 := by omega
    obtain ⟨a, cap, rfl, -, -, -⟩ := id hv
    exact ⟨_, w, run_append_nothing (P := P) w ST ST ty T i0 ht hi (some ⟨g, 0, none⟩) 0 0 (Nat.le_refl _) _ (by rw [hsz]; exact hs), ⟨_, 0, rfl, Nat.le_refl _, by unfold maxLen; omega, fun b hb => by simp [Value.ownBlock] at hb; omega, fun h => absurd h (by omega)⟩, Below.refl _ _, .inl rfl⟩


/-- The five inputs of a copy. -/
structure In5 (W : World) where
  u : Nat → Value
  n : Nat → Nat
  f : Nat → Nat → Value
  v : ∀ j, j < 5 → Vls W (u j) (n j) (f j)
  le : ∀ j, n j ≤ 1048576
  one : ∀ j i, (f j i).oneCell' = true

/-- While the copies are made, in whatever order: what holds of what has come up. -/
structure Cst {W : World} (D : In5 W) (bx : Nat) (L : Nat → Bool) (x : Nat → Value) (w : World) : Prop where
  bel : Below W.heap.size W w
  b : ∀ j, j < 5 → L (4 * j) = true → ∃ g, x (4 * j) = .slice (some ⟨g, 0, none⟩) 0 0 ∧ W.heap.size ≤ g ∧ g < w.heap.size
  f : ∀ j, j < 5 → L (4 * j + 1) = true → x (4 * j + 1) = .pointer (some ⟨bx, j, none⟩)
  l : ∀ j, j < 5 → L (4 * j + 2) = true → x (4 * j + 2) = D.u j
  p : ∀ j, j < 5 → L (4 * j + 3) = true → Mk1 w W.heap.size w.heap.size (x (4 * j + 3)) (D.n j) (D.f j)
  bb : ∀ j k, j < 5 → k < 5 → j ≠ k → L (4 * j) = true → L (4 * k) = true → Dis (x (4 * j)) (x (4 * k))
  bp : ∀ j k, j < 5 → k < 5 → j ≠ k → L (4 * j) = true → L (4 * k + 3) = true → Dis (x (4 * j)) (x (4 * k + 3))
  pp : ∀ j k, j < 5 → k < 5 → j ≠ k → L (4 * j + 3) = true → L (4 * k + 3) = true → Dis (x (4 * j + 3)) (x (4 * k + 3))

theorem Cst.old {W : World} {D : In5 W} {bx : Nat} {L : Nat → Bool} {x : Nat → Value} {w : World} (h : Cst D bx L x w) :
    (∀ j, j < 5 → L (4 * j) = true → ∀ b, (x (4 * j)).ownBlock = some b → b < w.heap.size) ∧ (∀ j, j < 5 → L (4 * j + 3) = true → ∀ b, (x (4 * j + 3)).ownBlock = some b → b < w.heap.size) := by
  refine ⟨fun j hj hl b hb => ?_, fun j hj hl b hb => ?_⟩
  · obtain ⟨g, hg, h1, h2⟩ := h.b j hj hl
    rw [hg] at hb
    simp [Value.ownBlock] at hb
    omega
  · obtain ⟨-, -, -, -, -, ho, -⟩ := h.p j hj hl
    exact (ho b hb).2

/-- An empty row is made. -/
theorem Cst.made {W : World} {D : In5 W} {bx : Nat} {L : Nat → Bool} {x : Nat → Value} {w w' : World} (h : Cst D bx L x w) {j : Nat} (hj : j < 5) (hb : Below w.heap.size w w') (hs : w.heap.size < w'.heap.size) :
    Cst D bx (lset L (4 * j)) (upd x (4 * j) (.slice (some ⟨w.heap.size, 0, none⟩) 0 0)) w' := by
  obtain ⟨o1, o2⟩ := h.old
  have hW := h.bel.size
  have nw : ∀ v : Value, (∀ b, v.ownBlock = some b → b < w.heap.size) → Dis v (.slice (some ⟨w.heap.size, 0, none⟩) 0 0) := fun v hv b hb' e => by
    have := hv b hb'
    simp [Value.ownBlock] at e
    omega
  refine ⟨h.bel.trans (hb.mono hW), fun k hk hl => ?_, fun k hk hl => ?_, fun k hk hl => ?_, fun k hk hl => ?_, fun i k hi hk hik hl hm => ?_, fun i k hi hk hik hl hm => ?_, fun i k hi hk hik hl hm => ?_⟩
  · by_cases e : k = j
    · subst e; rw [upd_eq]; exact ⟨_, rfl, hW, hs⟩
    · rw [upd_ne (by omega)]
      rw [lset_ne (by omega)] at hl
      obtain ⟨g, h1, h2, h3⟩ := h.b k hk hl
      exact ⟨g, h1, h2, by omega⟩
  · rw [upd_ne (by omega)]; rw [lset_ne (by omega)] at hl; exact h.f k hk hl
  · rw [upd_ne (by omega)]; rw [lset_ne (by omega)] at hl; exact h.l k hk hl
  · rw [upd_ne (by omega)]; rw [lset_ne (by omega)] at hl; exact ((h.p k hk hl).keep hb).wide (Nat.le_refl _) (by omega)
  · by_cases e : i = j
    · subst e
      rw [upd_eq, upd_ne (by omega)]
      rw [lset_ne (by omega)] at hm
      exact (nw _ (o1 k hk hm)).symm
    · by_cases e2 : k = j
      · subst e2
        rw [upd_eq, upd_ne (by omega)]
        rw [lset_ne (by omega)] at hl
        exact nw _ (o1 i hi hl)
      · rw [upd_ne (by omega), upd_ne (by omega)]
        rw [lset_ne (by omega)] at hl hm
        exact h.bb i k hi hk hik hl hm
  · rw [lset_ne (by omega)] at hm
    rw [upd_ne (j := 4 * k + 3) (by omega)]
    by_cases e : i = j
    · subst e
      rw [upd_eq]
      exact (nw _ (o2 k hk hm)).symm
    · rw [upd_ne (by omega)]
      rw [lset_ne (by omega)] at hl
      exact h.bp i k hi hk hik hl hm
  · rw [lset_ne (by omega)] at hl hm
    rw [upd_ne (by omega), upd_ne (by omega)]
    exact h.pp i k hi hk hik hl hm
/-- An address, or a value that is read. -/
theorem Cst.read {W : World} {D : In5 W} {bx : Nat} {L : Nat → Bool} {x : Nat → Value} {w : World} (h : Cst D bx L x w) {i : Nat} {v : Value} (hi : ∀ j, j < 5 → i ≠ 4 * j ∧ i ≠ 4 * j + 3)
    (h1 : ∀ j, j < 5 → i = 4 * j + 1 → v = .pointer (some ⟨bx, j, none⟩)) (h2 : ∀ j, j < 5 → i = 4 * j + 2 → v = D.u j) : Cst D bx (lset L i) (upd x i v) w := by
  refine ⟨h.bel, fun k hk hl => ?_, fun k hk hl => ?_, fun k hk hl => ?_, fun k hk hl => ?_, fun a k ha hk hik hl hm => ?_, fun a k ha hk hik hl hm => ?_, fun a k ha hk hik hl hm => ?_⟩
  · have := hi k hk; rw [upd_ne (by omega)]; rw [lset_ne (by omega)] at hl; exact h.b k hk hl
  · by_cases e : 4 * k + 1 = i
    · subst e; rw [upd_eq]; exact h1 k hk rfl
    · rw [upd_ne e]; rw [lset_ne e] at hl; exact h.f k hk hl
  · by_cases e : 4 * k + 2 = i
    · subst e; rw [upd_eq]; exact h2 k hk rfl
    · rw [upd_ne e]; rw [lset_ne e] at hl; exact h.l k hk hl
  · have := hi k hk; rw [upd_ne (by omega)]; rw [lset_ne (by omega)] at hl; exact h.p k hk hl
  · have := hi k hk; have := hi a ha; rw [upd_ne (by omega), upd_ne (by omega)]; rw [lset_ne (by omega)] at hl hm; exact h.bb a k ha hk hik hl hm
  · have := hi k hk; have := hi a ha; rw [upd_ne (by omega), upd_ne (by omega)]; rw [lset_ne (by omega)] at hl hm; exact h.bp a k ha hk hik hl hm
  · have := hi k hk; have := hi a ha; rw [upd_ne (by omega), upd_ne (by omega)]; rw [lset_ne (by omega)] at hl hm; exact h.pp a k ha hk hik hl hm
/-- A copy is made. -/
theorem Cst.copied {W : World} {D : In5 W} {bx : Nat} {L : Nat → Bool} {x : Nat → Value} {w w' : World} (h : Cst D bx L x w) {j : Nat} (hj : j < 5) (hl0 : L (4 * j) = true) {v : Value} (hb : Below w.heap.size w w')
    (hv : Mk1 w' W.heap.size w'.heap.size v (D.n j) (D.f j)) (ho : v.ownBlock = (x (4 * j)).ownBlock ∨ (v.ownBlock = some w.heap.size ∧ w.heap.size < w'.heap.size)) : Cst D bx (lset L (4 * j + 3)) (upd x (4 * j + 3) v) w' := by
  obtain ⟨o1, o2⟩ := h.old
  have hW := h.bel.size
  have hz := hb.size
  have nw : ∀ u : Value, Dis (x (4 * j)) u → (∀ b, u.ownBlock = some b → b < w.heap.size) → Dis v u := fun u hu hv' b hb' e => by
    rcases ho with ho | ⟨ho, -⟩
    · rw [ho] at hb'; exact hu b hb' e
    · rw [ho] at hb'; injection hb' with hb'; have := hv' b e; omega
  refine ⟨h.bel.trans (hb.mono hW), fun k hk hl => ?_, fun k hk hl => ?_, fun k hk hl => ?_, fun k hk hl => ?_, fun i k hi hk hik hl hm => ?_, fun i k hi hk hik hl hm => ?_, fun i k hi hk hik hl hm => ?_⟩
  · rw [upd_ne (by omega)]; rw [lset_ne (by omega)] at hl
    obtain ⟨g, h1, h2, h3⟩ := h.b k hk hl
    exact ⟨g, h1, h2, by omega⟩
  · rw [upd_ne (by omega)]; rw [lset_ne (by omega)] at hl; exact h.f k hk hl
  · rw [upd_ne (by omega)]; rw [lset_ne (by omega)] at hl; exact h.l k hk hl
  · by_cases e : k = j
    · subst e; rw [upd_eq]; exact hv
    · rw [upd_ne (by omega)]; rw [lset_ne (by omega)] at hl; exact ((h.p k hk hl).keep hb).wide (Nat.le_refl _) (by omega)
  · rw [upd_ne (by omega), upd_ne (by omega)]; rw [lset_ne (by omega)] at hl hm; exact h.bb i k hi hk hik hl hm
  · rw [lset_ne (by omega)] at hl
    rw [upd_ne (j := 4 * i) (by omega)]
    by_cases e : k = j
    · subst e
      rw [upd_eq]
      exact (nw _ (h.bb k i hk hi (fun e => hik e.symm) hl0 hl) (o1 i hi hl)).symm
    · rw [upd_ne (by omega)]
      rw [lset_ne (by omega)] at hm
      exact h.bp i k hi hk hik hl hm
  · by_cases e : i = j
    · subst e
      rw [upd_eq, upd_ne (by omega)]
      rw [lset_ne (by omega)] at hm
      exact nw _ (h.bp i k hi hk hik hl0 hm) (o2 k hk hm)
    · by_cases e2 : k = j
      · subst e2
        rw [upd_eq, upd_ne (by omega)]
        rw [lset_ne (by omega)] at hl
        exact (nw _ (h.bp k i hk hi (fun e => hik e.symm) hl0 hl) (o2 i hi hl)).symm
      · rw [upd_ne (by omega), upd_ne (by omega)]
        rw [lset_ne (by omega)] at hl hm
        exact h.pp i k hi hk hik hl hm

def pick5 {α : Type} (a b c d e : α) : Nat → α
  | 0 => a
  | 1 => b
  | 2 => c
  | 3 => d
  | _ => e
theorem five {P : Nat → Prop} (h0 : P 0) (h1 : P 1) (h2 : P 2) (h3 : P 3) (h4 : P 4) : ∀ j, j < 5 → P j
  | 0, _ => h0
  | 1, _ => h1
  | 2, _ => h2
  | 3, _ => h3
  | 4, _ => h4
theorem strF_one (L : List (List UInt8)) (i : Nat) : (strF L i).oneCell' = true := rfl
theorem intF_one (L : List Int) (i : Nat) : (intF L i).oneCell' = true := rfl

/-- append([]T{}, x...), as an operation. -/
theorem wp_app0 {o : Oper} {a : Act} {w : World} {K : Act → World → Prop} {Q : Exit → Act → World → Prop} (s y : Operand) (ST T : TypeId) (ho : o.op = .call { callee := .builtin .append, args := #[s, y], argTypes := #[ST, ST] })
    (ht : Tryd.prog.underlying ST = some (.slice T)) (z : Value) (bytes : Nat) (hinfo : (Tryd.prog.info? T).map (fun i => (i.zero, i.size, i.bytes)) = some (some z, 1, bytes)) (hb16 : bytes ≤ 16)
    (lo g : Nat) (hlo : lo ≤ g) (hg : g < w.heap.size) (hs : a.eval s = .slice (some ⟨g, 0, none⟩) 0 0) (v : Value) (hx : a.eval y = v) (n : Nat) (f : Nat → Value) (hv : Vls w v n f) (h1 : ∀ i, (f i).oneCell' = true) (hn : n ≤ 1048576)
    (h : ∀ v' w', Mk1 w' lo w'.heap.size v' n f → Below w.heap.size w w' → (v'.ownBlock = some g ∨ (v'.ownBlock = some w.heap.size ∧ w.heap.size < w'.heap.size)) → K (a.put o.dst v') w') : o.wp Tryd.prog a w K Q := by
  obtain ⟨i0, hi, hz0, hz1, hz2⟩ := info_parts hinfo
  obtain ⟨v', w', hr, h2, h3, h4⟩ := run_app0 (P := Tryd.prog) w ST T o.type i0 z bytes ht hi hz0 hz1 hz2 hb16 lo g hlo hg v n f hv h1 hn
  unfold Oper.wp execOp
  simp only [ho, resolve, invoke, builtin, Sem.run_bind, Sem.run_pure, Result.andThen_ok, List.map_toArray, List.map_cons, List.map_nil, hs, hx, hr]
  exact h v' w' h2 h3 h4

/-- The frame of l5Copy. -/
def Fc (t0 t1 t2 : Value) (x : Nat → Value) : Act := { tmps := #[t0, t1, t2, x 0, x 1, x 2, x 3, x 4, x 5, x 6, x 7, x 8, x 9, x 10, x 11, x 12, x 13, x 14, x 15, x 16, x 17, x 18, x 19, x 20], defers := [] }

end Go.Proofs.YtadoihddmbbjoaaDoor

namespace Go.Proofs.YtadoihddmbbjoaaDoor
open Go.RowKit

set_option maxRecDepth 100000 in
set_option maxHeartbeats 8000000 in
theorem l5Copy_any (v0 v1 v2 v3 v4 : Value) (S : StT) (w : World) (h : Sto w v0 v1 v2 v3 v4 S) (hn : S.n5.le) :
    Calls Tryd.prog 25 #[.agg #[v0, v1, v2, v3, v4]] w (ToSt w S) := by
  obtain ⟨a0, c0, rfl⟩ := h.now.form
  obtain ⟨a1, c1, rfl⟩ := h.sure.form
  obtain ⟨a2, c2, rfl⟩ := h.last.form
  obtain ⟨a3, c3, rfl⟩ := h.slast.form
  obtain ⟨a4, c4, rfl⟩ := h.floors.form
  obtain ⟨n0, n1, n2, n3, n4⟩ := hn
  obtain ⟨W, hW⟩ : ∃ W, (w.alloc (.cells #[.slice a0 S.now.length c0, .slice a1 S.sure.length c1, .slice a2 S.last.length c2, .slice a3 S.slast.length c3, .slice a4 S.floors.length c4] 30)).alloc (.cells #[.slice none 0 0, .slice none 0 0, .slice none 0 0, .slice none 0 0, .slice none 0 0] 30) = W := ⟨_, rfl⟩
  have hal : Below w.heap.size w W := by rw [← hW]; exact ((Below.refl _ _).alloc (Nat.le_refl _) _).alloc (by simp) _
  have A0 : Box5 W w.heap.size (.slice a0 S.now.length c0) (.slice a1 S.sure.length c1) (.slice a2 S.last.length c2) (.slice a3 S.slast.length c3) (.slice a4 S.floors.length c4) := by rw [← hW]; exact (new_box5 w _ _ _ _ _ _).keep ((Below.refl _ _).alloc (Nat.le_refl _) _)
  have R0 : W.heap[w.heap.size + 1]? = some (.cells #[.slice none 0 0, .slice none 0 0, .slice none 0 0, .slice none 0 0, .slice none 0 0] 30 (0, 0)) := by
    rw [← hW]
    have e : (w.alloc (.cells #[.slice a0 S.now.length c0, .slice a1 S.sure.length c1, .slice a2 S.last.length c2, .slice a3 S.slast.length c3, .slice a4 S.floors.length c4] 30)).heap.size = w.heap.size + 1 := by simp
    rw [← e]
    exact Array.getElem?_push_size
  have hsz : w.heap.size + 1 < W.heap.size := by rw [← hW]; simp
  obtain ⟨D, hDu, hDn, hDf⟩ : ∃ D : In5 W, D.u = pick5 (.slice a0 S.now.length c0) (.slice a1 S.sure.length c1) (.slice a2 S.last.length c2) (.slice a3 S.slast.length c3) (.slice a4 S.floors.length c4) ∧ D.n = pick5 S.now.length S.sure.length S.last.length S.slast.length S.floors.length ∧ D.f = pick5 (strF S.now) (strF S.sure) (intF S.last) (intF S.slast) (intF S.floors) :=
    ⟨⟨_, _, _, five (h.now.keep hal) (h.sure.keep hal) (h.last.keep hal) (h.slast.keep hal) (h.floors.keep hal), fun j => by match j with | 0 => exact n0 | 1 => exact n1 | 2 => exact n2 | 3 => exact n3 | _ + 4 => exact n4,
      fun j i => by match j with | 0 => rfl | 1 => rfl | 2 => rfl | 3 => rfl | _ + 4 => rfl⟩, rfl, rfl, rfl⟩
  have HA := Lib.hid A0
  have HR := Lib.hid R0
  have HE := Lib.hid hal
  have HS := Lib.hid hsz
  clear h hal A0 R0 n0 n1 n2 n3 n4 hsz
  go_enter Tryd.func25, Tryd.ntmps25
  go_wp2_with fail
  clear hW
  refine wp_region_inv (by kernel_rfl) (by kernel_rfl) (fun L a w' => ∃ x : Nat → Value, a = Fc (.agg #[.slice a0 S.now.length c0, .slice a1 S.sure.length c1, .slice a2 S.last.length c2, .slice a3 S.slast.length c3, .slice a4 S.floors.length c4]) (.pointer (some ⟨w.heap.size, 0, none⟩)) (.pointer (some ⟨w.heap.size + 1, 0, none⟩)) x ∧
    ((L 21 = false ∧ (L 20 = true → (∀ j, j < 5 → L (4 * j + 3) = true) ∧ x 20 = .agg #[x 3, x 7, x 11, x 15, x 19]) ∧ Cst D w.heap.size L x w') ∨ ((∀ j, j < 22 → L j = true) ∧ ∃ w0, Cst D w.heap.size (fun _ => true) x w0 ∧ w'.heap[w.heap.size + 1]? = some (.cells #[x 3, x 7, x 11, x 15, x 19] 30 (0, 0)) ∧ Btn (w.heap.size + 1) (w.heap.size + 1 + 1) w0 w'))) ?_ ?_ ?_
  · exact ⟨fun _ => undef, rfl, .inl ⟨rfl, fun h => (by cases h), ⟨(Below.refl _ _).drew, fun j _ h => (by cases h), fun j _ h => (by cases h), fun j _ h => (by cases h), fun j _ h => (by cases h), fun j k _ _ _ h => (by cases h), fun j k _ _ _ h => (by cases h), fun j k _ _ _ h => (by cases h)⟩⟩⟩
  · rintro L a w' i oi ⟨x, rfl, hI⟩ ho hl hall
    have hi : i < 22 := (Array.getElem?_eq_some_iff.1 ho).1
    have hJ : L 21 = false ∧ (L 20 = true → (∀ j, j < 5 → L (4 * j + 3) = true) ∧ x 20 = .agg #[x 3, x 7, x 11, x 15, x 19]) ∧ Cst D w.heap.size L x w' := by
      rcases hI with hI | ⟨h21, -⟩
      · exact hI
      · rw [h21 i hi] at hl; cases hl
    clear hI
    obtain ⟨j21, j20, hC⟩ := hJ
    obtain rfl | rfl | rfl | rfl | rfl | rfl | rfl | rfl | rfl | rfl | rfl | rfl | rfl | rfl | rfl | rfl | rfl | rfl | rfl | rfl | rfl | rfl : i = 0 ∨ i = 1 ∨ i = 2 ∨ i = 3 ∨ i = 4 ∨ i = 5 ∨ i = 6 ∨ i = 7 ∨ i = 8 ∨ i = 9 ∨ i = 10 ∨ i = 11 ∨ i = 12 ∨ i = 13 ∨ i = 14 ∨ i = 15 ∨ i = 16 ∨ i = 17 ∨ i = 18 ∨ i = 19 ∨ i = 20 ∨ i = 21 := by omega
    · obtain rfl := Option.some.inj ho
      rw [if_pos (by rfl)]
      refine wp_value (v := .slice (some ⟨w'.heap.size, 0, none⟩) 0 0) (w' := w'.alloc (.cells #[] 9)) (by kernel_rfl) ?_
      exact ⟨upd x 0 _, rfl, .inl ⟨j21, fun h => ⟨fun j hj => lset_mono ((j20 h).1 j hj), (j20 h).2⟩, hC.made (j := 0) (by omega) ((Below.refl _ _).alloc (Nat.le_refl _) _) (by simp)⟩⟩
    · obtain rfl := Option.some.inj ho
      rw [if_pos (by rfl)]
      refine wp_value (v := .pointer (some ⟨w.heap.size, 0, none⟩)) (w' := w') (by kernel_rfl) ?_
      exact ⟨upd x 1 _, rfl, .inl ⟨j21, fun h => ⟨fun j hj => lset_mono ((j20 h).1 j hj), (j20 h).2⟩, hC.read (i := 1) (fun j hj => by omega) (fun j hj h => (by have e : j = 0 := (by omega); subst e; rfl)) (fun j hj h => by omega)⟩⟩
    · obtain rfl := Option.some.inj ho
      rw [if_pos (by rfl)]
      have d1 := hall ⟨1, .data⟩ (by simp) rfl
      refine wp_load1 22 (.tmp 4) rfl _ (hC.f 0 (by omega) d1) (D.u 0) ?_ (by rw [hDu]; exact fun w hc => load_sliceS w _ _ _ _ hc) ?_
      · rw [hDu]; exact (HA.out.keep hC.bel).1
      · exact ⟨upd x 2 _, rfl, .inl ⟨j21, fun h => ⟨fun j hj => lset_mono ((j20 h).1 j hj), (j20 h).2⟩, hC.read (i := 2) (fun j hj => by omega) (fun j hj h => by omega) (fun j hj h => (by have e : j = 0 := (by omega); subst e; rfl))⟩⟩
    · obtain rfl := Option.some.inj ho
      rw [if_pos (by rfl)]
      have d0 := hall ⟨0, .data⟩ (by simp) rfl
      have d2 := hall ⟨2, .data⟩ (by simp) rfl
      obtain ⟨g, hg, hg1, hg2⟩ := hC.b 0 (by omega) d0
      refine wp_app0 (.tmp 3) (.tmp 5) 22 9 rfl Tryd.underlying22 _ 16 infoStrV (by omega) W.heap.size g hg1 hg2 hg (D.u 0) (hC.l 0 (by omega) d2) (D.n 0) (D.f 0) ((D.v 0 (by omega)).keep hC.bel) (D.one 0) (D.le 0) ?_
      intro v' w2 h2 h3 h4
      exact ⟨upd x 3 v', rfl, .inl ⟨j21, fun h => absurd ((j20 h).1 0 (by omega)) (by show ¬ L 3 = true; rw [hl]; simp), hC.copied (j := 0) (by omega) d0 h3 h2 (by rw [show x (4 * 0) = _ from hg]; exact h4)⟩⟩
    · obtain rfl := Option.some.inj ho
      rw [if_pos (by rfl)]
      refine wp_value (v := .slice (some ⟨w'.heap.size, 0, none⟩) 0 0) (w' := w'.alloc (.cells #[] 9)) (by kernel_rfl) ?_
      exact ⟨upd x 4 _, rfl, .inl ⟨j21, fun h => ⟨fun j hj => lset_mono ((j20 h).1 j hj), (j20 h).2⟩, hC.made (j := 1) (by omega) ((Below.refl _ _).alloc (Nat.le_refl _) _) (by simp)⟩⟩
    · obtain rfl := Option.some.inj ho
      rw [if_pos (by rfl)]
      refine wp_value (v := .pointer (some ⟨w.heap.size, 1, none⟩)) (w' := w') (by kernel_rfl) ?_
      exact ⟨upd x 5 _, rfl, .inl ⟨j21, fun h => ⟨fun j hj => lset_mono ((j20 h).1 j hj), (j20 h).2⟩, hC.read (i := 5) (fun j hj => by omega) (fun j hj h => (by have e : j = 1 := (by omega); subst e; rfl)) (fun j hj h => by omega)⟩⟩
    · obtain rfl := Option.some.inj ho
      rw [if_pos (by rfl)]
      have d1 := hall ⟨5, .data⟩ (by simp) rfl
      refine wp_load1 22 (.tmp 8) rfl _ (hC.f 1 (by omega) d1) (D.u 1) ?_ (by rw [hDu]; exact fun w hc => load_sliceS w _ _ _ _ hc) ?_
      · rw [hDu]; exact (HA.out.keep hC.bel).2.1
      · exact ⟨upd x 6 _, rfl, .inl ⟨j21, fun h => ⟨fun j hj => lset_mono ((j20 h).1 j hj), (j20 h).2⟩, hC.read (i := 6) (fun j hj => by omega) (fun j hj h => by omega) (fun j hj h => (by have e : j = 1 := (by omega); subst e; rfl))⟩⟩
    · obtain rfl := Option.some.inj ho
      rw [if_pos (by rfl)]
      have d0 := hall ⟨4, .data⟩ (by simp) rfl
      have d2 := hall ⟨6, .data⟩ (by simp) rfl
      obtain ⟨g, hg, hg1, hg2⟩ := hC.b 1 (by omega) d0
      refine wp_app0 (.tmp 7) (.tmp 9) 22 9 rfl Tryd.underlying22 _ 16 infoStrV (by omega) W.heap.size g hg1 hg2 hg (D.u 1) (hC.l 1 (by omega) d2) (D.n 1) (D.f 1) ((D.v 1 (by omega)).keep hC.bel) (D.one 1) (D.le 1) ?_
      intro v' w2 h2 h3 h4
      exact ⟨upd x 7 v', rfl, .inl ⟨j21, fun h => absurd ((j20 h).1 1 (by omega)) (by show ¬ L 7 = true; rw [hl]; simp), hC.copied (j := 1) (by omega) d0 h3 h2 (by rw [show x (4 * 1) = _ from hg]; exact h4)⟩⟩
    · obtain rfl := Option.some.inj ho
      rw [if_pos (by rfl)]
      refine wp_value (v := .slice (some ⟨w'.heap.size, 0, none⟩) 0 0) (w' := w'.alloc (.cells #[] 3)) (by kernel_rfl) ?_
      exact ⟨upd x 8 _, rfl, .inl ⟨j21, fun h => ⟨fun j hj => lset_mono ((j20 h).1 j hj), (j20 h).2⟩, hC.made (j := 2) (by omega) ((Below.refl _ _).alloc (Nat.le_refl _) _) (by simp)⟩⟩
    · obtain rfl := Option.some.inj ho
      rw [if_pos (by rfl)]
      refine wp_value (v := .pointer (some ⟨w.heap.size, 2, none⟩)) (w' := w') (by kernel_rfl) ?_
      exact ⟨upd x 9 _, rfl, .inl ⟨j21, fun h => ⟨fun j hj => lset_mono ((j20 h).1 j hj), (j20 h).2⟩, hC.read (i := 9) (fun j hj => by omega) (fun j hj h => (by have e : j = 2 := (by omega); subst e; rfl)) (fun j hj h => by omega)⟩⟩
    · obtain rfl := Option.some.inj ho
      rw [if_pos (by rfl)]
      have d1 := hall ⟨9, .data⟩ (by simp) rfl
      refine wp_load1 23 (.tmp 12) rfl _ (hC.f 2 (by omega) d1) (D.u 2) ?_ (by rw [hDu]; exact fun w hc => load_sliceI w _ _ _ _ hc) ?_
      · rw [hDu]; exact (HA.out.keep hC.bel).2.2.1
      · exact ⟨upd x 10 _, rfl, .inl ⟨j21, fun h => ⟨fun j hj => lset_mono ((j20 h).1 j hj), (j20 h).2⟩, hC.read (i := 10) (fun j hj => by omega) (fun j hj h => by omega) (fun j hj h => (by have e : j = 2 := (by omega); subst e; rfl))⟩⟩
    · obtain rfl := Option.some.inj ho
      rw [if_pos (by rfl)]
      have d0 := hall ⟨8, .data⟩ (by simp) rfl
      have d2 := hall ⟨10, .data⟩ (by simp) rfl
      obtain ⟨g, hg, hg1, hg2⟩ := hC.b 2 (by omega) d0
      refine wp_app0 (.tmp 11) (.tmp 13) 23 3 rfl Tryd.underlying23 _ 8 infoIntV (by omega) W.heap.size g hg1 hg2 hg (D.u 2) (hC.l 2 (by omega) d2) (D.n 2) (D.f 2) ((D.v 2 (by omega)).keep hC.bel) (D.one 2) (D.le 2) ?_
      intro v' w2 h2 h3 h4
      exact ⟨upd x 11 v', rfl, .inl ⟨j21, fun h => absurd ((j20 h).1 2 (by omega)) (by show ¬ L 11 = true; rw [hl]; simp), hC.copied (j := 2) (by omega) d0 h3 h2 (by rw [show x (4 * 2) = _ from hg]; exact h4)⟩⟩
    · obtain rfl := Option.some.inj ho
      rw [if_pos (by rfl)]
      refine wp_value (v := .slice (some ⟨w'.heap.size, 0, none⟩) 0 0) (w' := w'.alloc (.cells #[] 3)) (by kernel_rfl) ?_
      exact ⟨upd x 12 _, rfl, .inl ⟨j21, fun h => ⟨fun j hj => lset_mono ((j20 h).1 j hj), (j20 h).2⟩, hC.made (j := 3) (by omega) ((Below.refl _ _).alloc (Nat.le_refl _) _) (by simp)⟩⟩
    · obtain rfl := Option.some.inj ho
      rw [if_pos (by rfl)]
      refine wp_value (v := .pointer (some ⟨w.heap.size, 3, none⟩)) (w' := w') (by kernel_rfl) ?_
      exact ⟨upd x 13 _, rfl, .inl ⟨j21, fun h => ⟨fun j hj => lset_mono ((j20 h).1 j hj), (j20 h).2⟩, hC.read (i := 13) (fun j hj => by omega) (fun j hj h => (by have e : j = 3 := (by omega); subst e; rfl)) (fun j hj h => by omega)⟩⟩
    · obtain rfl := Option.some.inj ho
      rw [if_pos (by rfl)]
      have d1 := hall ⟨13, .data⟩ (by simp) rfl
      refine wp_load1 23 (.tmp 16) rfl _ (hC.f 3 (by omega) d1) (D.u 3) ?_ (by rw [hDu]; exact fun w hc => load_sliceI w _ _ _ _ hc) ?_
      · rw [hDu]; exact (HA.out.keep hC.bel).2.2.2.1
      · exact ⟨upd x 14 _, rfl, .inl ⟨j21, fun h => ⟨fun j hj => lset_mono ((j20 h).1 j hj), (j20 h).2⟩, hC.read (i := 14) (fun j hj => by omega) (fun j hj h => by omega) (fun j hj h => (by have e : j = 3 := (by omega); subst e; rfl))⟩⟩
    · obtain rfl := Option.some.inj ho
      rw [if_pos (by rfl)]
      have d0 := hall ⟨12, .data⟩ (by simp) rfl
      have d2 := hall ⟨14, .data⟩ (by simp) rfl
      obtain ⟨g, hg, hg1, hg2⟩ := hC.b 3 (by omega) d0
      refine wp_app0 (.tmp 15) (.tmp 17) 23 3 rfl Tryd.underlying23 _ 8 infoIntV (by omega) W.heap.size g hg1 hg2 hg (D.u 3) (hC.l 3 (by omega) d2) (D.n 3) (D.f 3) ((D.v 3 (by omega)).keep hC.bel) (D.one 3) (D.le 3) ?_
      intro v' w2 h2 h3 h4
      exact ⟨upd x 15 v', rfl, .inl ⟨j21, fun h => absurd ((j20 h).1 3 (by omega)) (by show ¬ L 15 = true; rw [hl]; simp), hC.copied (j := 3) (by omega) d0 h3 h2 (by rw [show x (4 * 3) = _ from hg]; exact h4)⟩⟩
    · obtain rfl := Option.some.inj ho
      rw [if_pos (by rfl)]
      refine wp_value (v := .slice (some ⟨w'.heap.size, 0, none⟩) 0 0) (w' := w'.alloc (.cells #[] 3)) (by kernel_rfl) ?_
      exact ⟨upd x 16 _, rfl, .inl ⟨j21, fun h => ⟨fun j hj => lset_mono ((j20 h).1 j hj), (j20 h).2⟩, hC.made (j := 4) (by omega) ((Below.refl _ _).alloc (Nat.le_refl _) _) (by simp)⟩⟩
    · obtain rfl := Option.some.inj ho
      rw [if_pos (by rfl)]
      refine wp_value (v := .pointer (some ⟨w.heap.size, 4, none⟩)) (w' := w') (by kernel_rfl) ?_
      exact ⟨upd x 17 _, rfl, .inl ⟨j21, fun h => ⟨fun j hj => lset_mono ((j20 h).1 j hj), (j20 h).2⟩, hC.read (i := 17) (fun j hj => by omega) (fun j hj h => (by have e : j = 4 := (by omega); subst e; rfl)) (fun j hj h => by omega)⟩⟩
    · obtain rfl := Option.some.inj ho
      rw [if_pos (by rfl)]
      have d1 := hall ⟨17, .data⟩ (by simp) rfl
      refine wp_load1 23 (.tmp 20) rfl _ (hC.f 4 (by omega) d1) (D.u 4) ?_ (by rw [hDu]; exact fun w hc => load_sliceI w _ _ _ _ hc) ?_
      · rw [hDu]; exact (HA.out.keep hC.bel).2.2.2.2
      · exact ⟨upd x 18 _, rfl, .inl ⟨j21, fun h => ⟨fun j hj => lset_mono ((j20 h).1 j hj), (j20 h).2⟩, hC.read (i := 18) (fun j hj => by omega) (fun j hj h => by omega) (fun j hj h => (by have e : j = 4 := (by omega); subst e; rfl))⟩⟩
    · obtain rfl := Option.some.inj ho
      rw [if_pos (by rfl)]
      have d0 := hall ⟨16, .data⟩ (by simp) rfl
      have d2 := hall ⟨18, .data⟩ (by simp) rfl
      obtain ⟨g, hg, hg1, hg2⟩ := hC.b 4 (by omega) d0
      refine wp_app0 (.tmp 19) (.tmp 21) 23 3 rfl Tryd.underlying23 _ 8 infoIntV (by omega) W.heap.size g hg1 hg2 hg (D.u 4) (hC.l 4 (by omega) d2) (D.n 4) (D.f 4) ((D.v 4 (by omega)).keep hC.bel) (D.one 4) (D.le 4) ?_
      intro v' w2 h2 h3 h4
      exact ⟨upd x 19 v', rfl, .inl ⟨j21, fun h => absurd ((j20 h).1 4 (by omega)) (by show ¬ L 19 = true; rw [hl]; simp), hC.copied (j := 4) (by omega) d0 h3 h2 (by rw [show x (4 * 4) = _ from hg]; exact h4)⟩⟩
    · obtain rfl := Option.some.inj ho
      rw [if_pos (by rfl)]
      have d3 := hall ⟨3, .data⟩ (by simp) rfl
      have d7 := hall ⟨7, .data⟩ (by simp) rfl
      have d11 := hall ⟨11, .data⟩ (by simp) rfl
      have d15 := hall ⟨15, .data⟩ (by simp) rfl
      have d19 := hall ⟨19, .data⟩ (by simp) rfl
      obtain ⟨b3, q3, e3⟩ := (hC.p 0 (by omega) d3).vls.form
      obtain ⟨b7, q7, e7⟩ := (hC.p 1 (by omega) d7).vls.form
      obtain ⟨b11, q11, e11⟩ := (hC.p 2 (by omega) d11).vls.form
      obtain ⟨b15, q15, e15⟩ := (hC.p 3 (by omega) d15).vls.form
      obtain ⟨b19, q19, e19⟩ := (hC.p 4 (by omega) d19).vls.form
      have hb : Tryd.prog.built 30 [(0, x 3), (1, x 7), (2, x 11), (3, x 15), (4, x 19)] = some #[x 3, x 7, x 11, x 15, x 19] := by
        rw [show x 3 = _ from e3, show x 7 = _ from e7, show x 11 = _ from e11, show x 15 = _ from e15, show x 19 = _ from e19]; kernel_rfl
      refine wp_build2 30 _ rfl #[x 3, x 7, x 11, x 15, x 19] (by rw [← hb]; congr 1; simp [Fc, Act.eval]) ?_
      exact ⟨upd x 20 (.agg #[x 3, x 7, x 11, x 15, x 19]), rfl, .inl ⟨j21, fun _ => ⟨five d3 d7 d11 d15 d19, rfl⟩, hC.read (i := 20) (fun j hj => by omega) (fun j hj h => by omega) (fun j hj h => by omega)⟩⟩
    · obtain rfl := Option.some.inj ho
      rw [if_pos (by rfl)]
      have g0 := hall ⟨0, .phase⟩ (by simp) rfl
      have g1 := hall ⟨1, .phase⟩ (by simp) rfl
      have g2 := hall ⟨2, .phase⟩ (by simp) rfl
      have g3 := hall ⟨3, .phase⟩ (by simp) rfl
      have g4 := hall ⟨4, .phase⟩ (by simp) rfl
      have g5 := hall ⟨5, .phase⟩ (by simp) rfl
      have g6 := hall ⟨6, .phase⟩ (by simp) rfl
      have g7 := hall ⟨7, .phase⟩ (by simp) rfl
      have g8 := hall ⟨8, .phase⟩ (by simp) rfl
      have g9 := hall ⟨9, .phase⟩ (by simp) rfl
      have g10 := hall ⟨10, .phase⟩ (by simp) rfl
      have g11 := hall ⟨11, .phase⟩ (by simp) rfl
      have g12 := hall ⟨12, .phase⟩ (by simp) rfl
      have g13 := hall ⟨13, .phase⟩ (by simp) rfl
      have g14 := hall ⟨14, .phase⟩ (by simp) rfl
      have g15 := hall ⟨15, .phase⟩ (by simp) rfl
      have g16 := hall ⟨16, .phase⟩ (by simp) rfl
      have g17 := hall ⟨17, .phase⟩ (by simp) rfl
      have g18 := hall ⟨18, .phase⟩ (by simp) rfl
      have g19 := hall ⟨19, .phase⟩ (by simp) rfl
      have g20 := hall ⟨20, .data⟩ (by simp) rfl
      have hL : ∀ k, k < 21 → L k = true := fun k hk => by
        obtain rfl | rfl | rfl | rfl | rfl | rfl | rfl | rfl | rfl | rfl | rfl | rfl | rfl | rfl | rfl | rfl | rfl | rfl | rfl | rfl | rfl : k = 0 ∨ k = 1 ∨ k = 2 ∨ k = 3 ∨ k = 4 ∨ k = 5 ∨ k = 6 ∨ k = 7 ∨ k = 8 ∨ k = 9 ∨ k = 10 ∨ k = 11 ∨ k = 12 ∨ k = 13 ∨ k = 14 ∨ k = 15 ∨ k = 16 ∨ k = 17 ∨ k = 18 ∨ k = 19 ∨ k = 20 := by omega
        all_goals assumption
      have hC2 : Cst D w.heap.size (fun _ => true) x w' := ⟨hC.bel, fun j hj _ => hC.b j hj (hL _ (by omega)), fun j hj _ => hC.f j hj (hL _ (by omega)), fun j hj _ => hC.l j hj (hL _ (by omega)), fun j hj _ => hC.p j hj (hL _ (by omega)), fun j k hj hk hjk _ _ => hC.bb j k hj hk hjk (hL _ (by omega)) (hL _ (by omega)), fun j k hj hk hjk _ _ => hC.bp j k hj hk hjk (hL _ (by omega)) (hL _ (by omega)), fun j k hj hk hjk _ _ => hC.pp j k hj hk hjk (hL _ (by omega)) (hL _ (by omega))⟩
      have hs := HS.out
      obtain ⟨b3, q3, e3⟩ := (hC2.p 0 (by omega) rfl).vls.form
      obtain ⟨b7, q7, e7⟩ := (hC2.p 1 (by omega) rfl).vls.form
      obtain ⟨b11, q11, e11⟩ := (hC2.p 2 (by omega) rfl).vls.form
      obtain ⟨b15, q15, e15⟩ := (hC2.p 3 (by omega) rfl).vls.form
      obtain ⟨b19, q19, e19⟩ := (hC2.p 4 (by omega) rfl).vls.form
      refine wp_store_row 30 (.tmp 2) (.tmp 23) rfl (w.heap.size + 1) #[x 3, x 7, x 11, x 15, x 19] rfl (j20 g20).2 30 _ ((hC.bel.block _ hs).trans HR.out) (by kernel_rfl) rfl (by
        rw [show x 3 = _ from e3, show x 7 = _ from e7, show x 11 = _ from e11, show x 15 = _ from e15, show x 19 = _ from e19]; simp [Value.oneCell']) ?_
      exact ⟨x, rfl, .inr ⟨fun k hk => by
        by_cases e : k = 21
        · subst e; rfl
        · show (if k = 21 then true else L k) = true
          rw [if_neg e]; exact hL k (by omega), w', hC2, setRow_heap _ _ _ _ _ _ ((hC.bel.block _ hs).trans HR.out), setRow_btnV _ _ _⟩⟩
  · rintro L a w' ⟨x, rfl, hI⟩ hL
    rcases hI with ⟨h21, -⟩ | ⟨-, w0, hC, hrow, hbt⟩
    · rw [hL 21 (by show 21 < 22; omega)] at h21; cases h21
    have hs := HS.out
    have hb0 := hC.bel.size
    have hZ := Lib.hid (HE.out.trans ((hC.bel.mono HE.out.size).trans (hbt.below (by omega) (by have := HE.out.size; omega))))
    have hz := hbt.size
    have HM : Hid (M5 w' w.heap.size w'.heap.size (x 3) (x 7) (x 11) (x 15) (x 19) S.n5 S.f5) := by
      have p0 := hC.p 0 (by omega) rfl
      have p1 := hC.p 1 (by omega) rfl
      have p2 := hC.p 2 (by omega) rfl
      have p3 := hC.p 3 (by omega) rfl
      have p4 := hC.p 4 (by omega) rfl
      rw [hDn, hDf] at p0 p1 p2 p3 p4
      have hw := HE.out.size
      exact ⟨(p0.btn hbt (.inr (by omega))).wide (by omega) (by omega), (p1.btn hbt (.inr (by omega))).wide (by omega) (by omega), (p2.btn hbt (.inr (by omega))).wide (by omega) (by omega), (p3.btn hbt (.inr (by omega))).wide (by omega) (by omega), (p4.btn hbt (.inr (by omega))).wide (by omega) (by omega),
        hC.pp 0 1 (by omega) (by omega) (by omega) rfl rfl, hC.pp 0 2 (by omega) (by omega) (by omega) rfl rfl, hC.pp 0 3 (by omega) (by omega) (by omega) rfl rfl, hC.pp 0 4 (by omega) (by omega) (by omega) rfl rfl, hC.pp 1 2 (by omega) (by omega) (by omega) rfl rfl, hC.pp 1 3 (by omega) (by omega) (by omega) rfl rfl, hC.pp 1 4 (by omega) (by omega) (by omega) rfl rfl, hC.pp 2 3 (by omega) (by omega) (by omega) rfl rfl, hC.pp 2 4 (by omega) (by omega) (by omega) rfl rfl, hC.pp 3 4 (by omega) (by omega) (by omega) rfl rfl⟩
    have r0 : w'.cell? ⟨w.heap.size + 1, 0, none⟩ = some (x 3) := by rw [cell_of_row w' _ 0 _ _ _ hrow]; rfl
    have r1 : w'.cell? ⟨w.heap.size + 1, 1, none⟩ = some (x 7) := by rw [cell_of_row w' _ 1 _ _ _ hrow]; rfl
    have r2 : w'.cell? ⟨w.heap.size + 1, 2, none⟩ = some (x 11) := by rw [cell_of_row w' _ 2 _ _ _ hrow]; rfl
    have r3 : w'.cell? ⟨w.heap.size + 1, 3, none⟩ = some (x 15) := by rw [cell_of_row w' _ 3 _ _ _ hrow]; rfl
    have r4 : w'.cell? ⟨w.heap.size + 1, 4, none⟩ = some (x 19) := by rw [cell_of_row w' _ 4 _ _ _ hrow]; rfl
    clear hL hC hrow hbt HA HR HE HS hDu hDn hDf
    unfold Fc
    generalize x 3 = y3 at *
    generalize x 7 = y7 at *
    generalize x 11 = y11 at *
    generalize x 15 = y15 at *
    generalize x 19 = y19 at *
    go_wp2
    exact bodyPost_ret (v := .agg #[y3, y7, y11, y15, y19]) (by simp [results, Tryd.results25, go_sem, r0, r1, r2, r3, r4]) rfl ⟨_, _, _, _, _, rfl, HM, hZ.out⟩

end Go.Proofs.YtadoihddmbbjoaaDoor
