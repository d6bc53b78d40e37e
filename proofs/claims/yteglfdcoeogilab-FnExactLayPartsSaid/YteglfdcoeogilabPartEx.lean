/-
  Contracts of eqPartS, markPartS, heldPartS: two slices of parts that read the same; numbers written into a slice of parts one by one, and found there again.
-/
import Derived.Test.YteglfdcoeogilabPartRow
import Derived.Test.YteglfdcoeogilabEq
import Derived.Test.YteglfdcoeogilabCalm
import Derived.Deep.LoopGhost
import Derived.Laws.OwnMore
namespace Go.Proofs.Yteglfdcoeogilab
open Go.RowKit

theorem spEq_refl (a b : Int) : spEq a b a b = true := by unfold spEq; simp

set_option maxHeartbeats 1000000 in
theorem eqPart_same (o a b f : Int) (w : World) :
    Calls Try.prog 53 #[.agg #[.int .i64 o, .int .i64 a, .int .i64 b, .int .i64 f], .agg #[.int .i64 o, .int .i64 a, .int .i64 b, .int .i64 f]] w fun e w' => e = .returned (.bool true) ∧ Below w.heap.size w w' := by
  have he := fun W => eqSpan_any a b a b W
  rw [spEq_refl] at he
  have HE := Lib.hid he
  clear he
  have bx : ∀ (W : World), Below W.heap.size ((w.alloc (.cells #[.int .i64 o, .int .i64 a, .int .i64 b, .int .i64 f] 70)).alloc (.cells #[.int .i64 o, .int .i64 a, .int .i64 b, .int .i64 f] 70)) W → True := fun _ _ => trivial
  clear bx
  obtain ⟨W1, hW1⟩ : ∃ W1, (w.alloc (.cells #[.int .i64 o, .int .i64 a, .int .i64 b, .int .i64 f] 70)).alloc (.cells #[.int .i64 o, .int .i64 a, .int .i64 b, .int .i64 f] 70) = W1 := ⟨_, rfl⟩
  have q1 : W1.cell? ⟨w.heap.size, 3, none⟩ = some (.int .i64 f) := by subst hW1; go_simp
  have q2 : W1.cell? ⟨w.heap.size + 1, 3, none⟩ = some (.int .i64 f) := by subst hW1; go_simp
  have hal : Below w.heap.size w W1 := by rw [← hW1]; exact ((Below.refl _ _).alloc (Nat.le_refl _) _).alloc (by simp) _
  have HQ := Lib.hid (And.intro q1 q2)
  subst hW1
  clear q1 q2
  go_enter Try.func53, Try.ntmps53
  go_wp2_with fail
  refine (HE.out _).mono ?_; rintro e w1 ⟨rfl, hb1⟩
  have q1 := cell_keep hb1 HQ.out.1
  have q2 := cell_keep hb1 HQ.out.2
  have e1 := hal.trans (hb1.mono hal.size)
  clear HQ
  go_wp2
  go_ret
  exact ⟨rfl, e1⟩

set_option maxHeartbeats 1000000 in
theorem eqPartS_same (v u : Value) (L : List PartT) (w : World) (h : Pts w v L) (h' : Pts w u L) :
    Calls Try.prog 25 #[v, u] w fun e w' => e = .returned (.bool true) ∧ Below w.heap.size w w' := by
  obtain ⟨a, cap, rfl, hl, hm, hc⟩ := h
  obtain ⟨a', cap', rfl, hl', hm', hc'⟩ := h'
  unfold maxLen at hm hm'
  have HC := Lib.hid hc
  have HC' := Lib.hid hc'
  clear hc hc'
  go_enter Try.func25, Try.ntmps25
  go_wp2
  go_loopg [5] L.length (fun g s5 wr => ∃ k : Nat, g = L.length - k ∧ k ≤ L.length ∧ s5 = .int .i64 k ∧ Below w.heap.size w wr)
  case atStart => exact ⟨0, rfl, Nat.zero_le _, rfl, Below.refl _ _⟩
  case round =>
    obtain ⟨k, rfl, hk, rfl, hb⟩ := hrel
    by_cases hlt : k < L.length
    · have hne : L ≠ [] := fun e => by subst e; simp at hlt
      obtain ⟨b, off, rfl, hcc⟩ := HC.out hne
      obtain ⟨b', off', rfl, hcc'⟩ := HC'.out hne
      obtain ⟨p0, p1, p2, p3⟩ := hcc k hlt
      obtain ⟨r0, r1, r2, r3⟩ := hcc' k hlt
      replace p0 := cell_keep hb p0
      replace p1 := cell_keep hb p1
      replace p2 := cell_keep hb p2
      replace p3 := cell_keep hb p3
      replace r0 := cell_keep hb r0
      replace r1 := cell_keep hb r1
      replace r2 := cell_keep hb r2
      replace r3 := cell_keep hb r3
      generalize L.getD k (0, 0, 0, 0) = x at *
      obtain ⟨o, xa, xb, f⟩ := x
      simp only at p0 p1 p2 p3 r0 r1 r2 r3
      have i0 : (0 : Int) ≤ (k : Int) := by omega
      have i1 : (k : Int) < (L.length : Int) := by omega
      have H1 := Lib.hid (fun W => eqPart_same o xa xb f W)
      clear hcc hcc' hne
      go_wp2_with fail
      have d0 : ∀ x : BelowOf wr, x.w.cell? ⟨b, off + k * 4, none⟩ = some (.int .i64 o) := fun x => x.cell p0
      have d1 : ∀ x : BelowOf wr, x.w.cell? ⟨b, off + k * 4 + 1, none⟩ = some (.int .i64 xa) := fun x => x.cell p1
      have d2 : ∀ x : BelowOf wr, x.w.cell? ⟨b, off + k * 4 + 2, none⟩ = some (.int .i64 xb) := fun x => x.cell p2
      have d3 : ∀ x : BelowOf wr, x.w.cell? ⟨b, off + k * 4 + 3, none⟩ = some (.int .i64 f) := fun x => x.cell p3
      have e0 : ∀ x : BelowOf wr, x.w.cell? ⟨b', off' + k * 4, none⟩ = some (.int .i64 o) := fun x => x.cell r0
      have e1 : ∀ x : BelowOf wr, x.w.cell? ⟨b', off' + k * 4 + 1, none⟩ = some (.int .i64 xa) := fun x => x.cell r1
      have e2 : ∀ x : BelowOf wr, x.w.cell? ⟨b', off' + k * 4 + 2, none⟩ = some (.int .i64 xb) := fun x => x.cell r2
      have e3 : ∀ x : BelowOf wr, x.w.cell? ⟨b', off' + k * 4 + 3, none⟩ = some (.int .i64 f) := fun x => x.cell r3
      refine wp_region_calm (by kernel_rfl) (by kernel_rfl) ?_
      repeat (go_big_quiet_step (first | (go_at_call 53; exact Calls.calm (H1.out _))))
      refine wpQuiet_nil ?_
      rintro _ ⟨x, rfl⟩
      have hbn := hb.trans (x.below.mono hb.size)
      clear d0 d1 d2 d3 e0 e1 e2 e3
      generalize x.w = w4 at *
      go_wp2
      go_roundg (L.length - (k + 1))
      case measure => omega
      case rel => exact ⟨k + 1, rfl, by omega, by go_num, hbn⟩
    · go_wp2
      go_ret
      exact ⟨rfl, hb⟩

/-- A row of parts that may be written: four numbers each. -/
def Row4 (w : World) (b n : Nat) (f : Nat → PartT) : Prop :=
  ∀ i, i < n → (w.cell? ⟨b, i * 4, none⟩ = some (.int .i64 (f i).1) ∧ w.cell? ⟨b, i * 4 + 1, none⟩ = some (.int .i64 (f i).2.1) ∧ w.cell? ⟨b, i * 4 + 2, none⟩ = some (.int .i64 (f i).2.2.1) ∧ w.cell? ⟨b, i * 4 + 3, none⟩ = some (.int .i64 (f i).2.2.2)) ∧
    (w.frozen? ⟨b, i * 4, none⟩ = false ∧ w.frozen? ⟨b, i * 4 + 1, none⟩ = false ∧ w.frozen? ⟨b, i * 4 + 2, none⟩ = false ∧ w.frozen? ⟨b, i * 4 + 3, none⟩ = false)
theorem Row4.congr {w : World} {b n : Nat} {f g : Nat → PartT} (h : Row4 w b n f) (e : ∀ i, i < n → f i = g i) : Row4 w b n g := fun i hi => by
  rw [← e i hi]; exact h i hi
theorem Row4.keep {w w1 : World} {b n : Nat} {f : Nat → PartT} (h : Row4 w b n f) (hb : Below w.heap.size w w1) : Row4 w1 b n f := fun i hi => by
  obtain ⟨⟨h0, h1, h2, h3⟩, f0, f1, f2, f3⟩ := h i hi
  have hlt := World.block_lt_of_cell? w _ h0
  exact ⟨⟨cell_keep hb h0, cell_keep hb h1, cell_keep hb h2, cell_keep hb h3⟩, (hb.frozen (p := ⟨b, i * 4, none⟩) hlt).trans f0, (hb.frozen (p := ⟨b, i * 4 + 1, none⟩) hlt).trans f1, (hb.frozen (p := ⟨b, i * 4 + 2, none⟩) hlt).trans f2, (hb.frozen (p := ⟨b, i * 4 + 3, none⟩) hlt).trans f3⟩
theorem own_row4 {w : World} {B g cap : Nat} {L : List PartT} (h : w.ownsRow B 70 4 (.slice (some ⟨g, 0, none⟩) L.length cap) L.length (flat4 L)) : Row4 w g L.length (fun i => L.getD i (0, 0, 0, 0)) := fun i hi => by
  have f := flat4_get L i hi
  exact ⟨⟨by rw [h.cellAt _ (by omega)]; exact f.1, by rw [h.cellAt _ (by omega)]; exact f.2.1, by rw [h.cellAt _ (by omega)]; exact f.2.2.1, by rw [h.cellAt _ (by omega)]; exact f.2.2.2⟩, h.frozenAt _, h.frozenAt _, h.frozenAt _, h.frozenAt _⟩

theorem Row4.set {w : World} {b n k : Nat} {f : Nat → PartT} {x : PartT} (h : Row4 w b n f) (hk : k < n) :
    Row4 ((((w.setCell ⟨b, k * 4, none⟩ (.int .i64 x.1)).setCell ⟨b, k * 4 + 1, none⟩ (.int .i64 x.2.1)).setCell ⟨b, k * 4 + 2, none⟩ (.int .i64 x.2.2.1)).setCell ⟨b, k * 4 + 3, none⟩ (.int .i64 x.2.2.2)) b n (fun i => if i = k then x else f i) := fun i hi => by
  obtain ⟨⟨h0, h1, h2, h3⟩, f0, f1, f2, f3⟩ := h i hi
  obtain ⟨⟨k0, k1, k2, k3⟩, g0, g1, g2, g3⟩ := h k hk
  by_cases e : i = k
  · subst e
    simp only [if_true]
    exact ⟨⟨by go_simp, by go_simp, by go_simp, by go_simp⟩, by go_simp, by go_simp, by go_simp, by go_simp⟩
  · simp only [if_neg e]
    have far : ∀ (r : Nat), r < 4 → ∀ (u : Value), w.cell? ⟨b, i * 4 + r, none⟩ = some u → ((((w.setCell ⟨b, k * 4, none⟩ (.int .i64 x.1)).setCell ⟨b, k * 4 + 1, none⟩ (.int .i64 x.2.1)).setCell ⟨b, k * 4 + 2, none⟩ (.int .i64 x.2.2.1)).setCell ⟨b, k * 4 + 3, none⟩ (.int .i64 x.2.2.2)).cell? ⟨b, i * 4 + r, none⟩ = some u := fun r hr u hu => by
      rw [World.cell?_setCell_other _ _ _ _ (fun e => by injection e with _ e; omega), World.cell?_setCell_other _ _ _ _ (fun e => by injection e with _ e; omega), World.cell?_setCell_other _ _ _ _ (fun e => by injection e with _ e; omega), World.cell?_setCell_other _ _ _ _ (fun e => by injection e with _ e; omega)]
      exact hu
    exact ⟨⟨far 0 (by omega) _ h0, far 1 (by omega) _ h1, far 2 (by omega) _ h2, far 3 (by omega) _ h3⟩, by go_simp, by go_simp, by go_simp, by go_simp⟩

theorem grown_four {a w : World} {g o1 o2 o3 o4 : Nat} {u1 u2 u3 u4 : Value} (h : a.grownBy w (some g)) : a.grownBy ((((w.setCell ⟨g, o1, none⟩ u1).setCell ⟨g, o2, none⟩ u2).setCell ⟨g, o3, none⟩ u3).setCell ⟨g, o4, none⟩ u4) (some g) :=
  ⟨h.os, h.tape, h.output, by simpa [World.setCell] using h.size, fun i hi hne => by
    have hn : i ≠ g := fun e => hne (by rw [e])
    exact (Below.heap_setCell _ _ _ i hn).trans ((Below.heap_setCell _ _ _ i hn).trans ((Below.heap_setCell _ _ _ i hn).trans ((Below.heap_setCell w _ _ i hn).trans (h.block i hi hne))))⟩

/-- What is marked. -/
abbrev mk4 (k : Int) : Nat → PartT := fun i => (k + 4 * i, k + 4 * i + 1, k + 4 * i + 2, k + 4 * i + 3)

set_option maxRecDepth 100000 in
set_option maxHeartbeats 2000000 in
theorem mark4_any (nb n cap : Nat) (k : Int) (f : Nat → PartT) (w : World) (h : Row4 w nb n f) (hn : n ≤ 1048576) (h0 : 0 ≤ k) (h1 : k ≤ 1000000000) :
    Calls Try.prog 26 #[.slice (some ⟨nb, 0, none⟩) n cap, .int .i64 k] w fun e w' => e = .returned (.int .i64 (k + 4 * n)) ∧ Row4 w' nb n (mk4 k) ∧ w.grownBy w' (some nb) := by
  have HR := Lib.hid (h.congr (g := fun i => if i < 0 then mk4 k i else f i) fun i _ => by simp)
  have HG := Lib.hid (World.grownBy.refl w (some nb))
  clear h
  go_enter Try.func26, Try.ntmps26
  go_wp2
  go_loopg [1, 5] n (fun g s1 s5 wr => ∃ j : Nat, g = n - j ∧ j ≤ n ∧ s1 = .int .i64 (k + 4 * j) ∧ s5 = .int .i64 j ∧ Hid (Row4 wr nb n (fun i => if i < j then mk4 k i else f i)) ∧ Hid (w.grownBy wr (some nb)))
  case atStart => exact ⟨0, rfl, Nat.zero_le _, by simp, rfl, HR, HG⟩
  case round =>
    obtain ⟨j, rfl, hj, rfl, rfl, HR1, HG1⟩ := hrel
    clear HR HG
    by_cases hlt : j < n
    · have HS : Hid (Row4 ((((wr.setCell ⟨nb, j * 4, none⟩ (.int .i64 (k + 4 * j))).setCell ⟨nb, j * 4 + 1, none⟩ (.int .i64 (k + 4 * j + 1))).setCell ⟨nb, j * 4 + 2, none⟩ (.int .i64 (k + 4 * j + 1 + 1))).setCell ⟨nb, j * 4 + 3, none⟩ (.int .i64 (k + 4 * j + 1 + 1 + 1))) nb n (fun i => if i < j + 1 then mk4 k i else f i)) := by
        show Row4 _ _ _ _
        rw [show (k + 4 * (j : Int) + 1 + 1 + 1) = k + 4 * j + 3 by omega, show (k + 4 * (j : Int) + 1 + 1) = k + 4 * j + 2 by omega]
        exact (HR1.out.set (x := mk4 k j) hlt).congr fun i _ => by
          by_cases e : i = j
          · subst e; rw [if_pos rfl, if_pos (by omega)]
          · rw [if_neg e]
            by_cases e2 : i < j
            · rw [if_pos e2, if_pos (by omega)]
            · rw [if_neg e2, if_neg (by omega)]
      have HG2 : Hid (w.grownBy ((((wr.setCell ⟨nb, j * 4, none⟩ (.int .i64 (k + 4 * j))).setCell ⟨nb, j * 4 + 1, none⟩ (.int .i64 (k + 4 * j + 1))).setCell ⟨nb, j * 4 + 2, none⟩ (.int .i64 (k + 4 * j + 1 + 1))).setCell ⟨nb, j * 4 + 3, none⟩ (.int .i64 (k + 4 * j + 1 + 1 + 1))) (some nb)) := grown_four HG1.out
      obtain ⟨⟨x0, x1, x2, x3⟩, f0, f1, f2, f3⟩ := HR1.out j hlt
      go_wp2
      go_roundg (n - (j + 1))
      case measure => omega
      case rel => exact ⟨j + 1, rfl, by omega, by go_num, by go_num, HS, HG2⟩
    · obtain rfl : j = n := by omega
      go_wp2
      go_ret
      exact ⟨rfl, HR1.out.congr fun i hi => by rw [if_pos hi], HG1.out⟩

set_option maxHeartbeats 1000000 in
theorem mark4_nil (a : Option Addr) (cap : Nat) (k : Int) (w : World) :
    Calls Try.prog 26 #[.slice a 0 cap, .int .i64 k] w fun e w' => e = .returned (.int .i64 k) ∧ w = w' := by
  go_enter Try.func26, Try.ntmps26
  go_wp2
  go_loopg [1, 5] 0 (fun g s1 s5 wr => s1 = .int .i64 k ∧ s5 = .int .i64 0 ∧ w = wr)
  case atStart => exact ⟨rfl, rfl, rfl⟩
  case round =>
    obtain ⟨rfl, rfl, rfl⟩ := hrel
    go_wp2
    go_ret
    exact ⟨rfl, rfl⟩

set_option maxHeartbeats 2000000 in
theorem held4_any (nb n cap : Nat) (k : Int) (w : World) (h : Row4 w nb n (mk4 k)) (hn : n ≤ 1048576) (h0 : 0 ≤ k) (h1 : k ≤ 1000000000) :
    Calls Try.prog 27 #[.slice (some ⟨nb, 0, none⟩) n cap, .int .i64 k] w fun e w' => e = .returned (.int .i64 (k + 4 * n)) ∧ w = w' := by
  have HR := Lib.hid h
  clear h
  go_enter Try.func27, Try.ntmps27
  go_wp2
  go_loopg [1, 5] n (fun g s1 s5 wr => ∃ j : Nat, g = n - j ∧ j ≤ n ∧ s1 = .int .i64 (k + 4 * j) ∧ s5 = .int .i64 j ∧ w = wr)
  case atStart => exact ⟨0, rfl, Nat.zero_le _, by simp, rfl, rfl⟩
  case round =>
    obtain ⟨j, rfl, hj, rfl, rfl, rfl⟩ := hrel
    by_cases hlt : j < n
    · obtain ⟨⟨x0, x1, x2, x3⟩, -⟩ := HR.out j hlt
      go_wp2
      go_roundg (n - (j + 1))
      case measure => omega
      case rel => exact ⟨j + 1, rfl, by omega, by go_num, by go_num, rfl⟩
    · obtain rfl : j = n := by omega
      go_wp2
      go_ret
      exact ⟨rfl, rfl⟩

set_option maxHeartbeats 1000000 in
theorem held4_nil (a : Option Addr) (cap : Nat) (k : Int) (w : World) :
    Calls Try.prog 27 #[.slice a 0 cap, .int .i64 k] w fun e w' => e = .returned (.int .i64 k) ∧ w = w' := by
  go_enter Try.func27, Try.ntmps27
  go_wp2
  go_loopg [1, 5] 0 (fun g s1 s5 wr => s1 = .int .i64 k ∧ s5 = .int .i64 0 ∧ w = wr)
  case atStart => exact ⟨rfl, rfl, rfl⟩
  case round =>
    obtain ⟨rfl, rfl, rfl⟩ := hrel
    go_wp2
    go_ret
    exact ⟨rfl, rfl⟩

end Go.Proofs.Yteglfdcoeogilab
