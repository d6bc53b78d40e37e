/-
  (*disk).store: a store out of a disk, in new memory.
-/
import Derived.Test.YtadoihddmbbjoaaDoorKStoTexts
namespace Go.Proofs.YtadoihddmbbjoaaDoor
open Go.RowKit

/-- Block d is a disk that holds these; nil sheets are let in. -/
def Dsv (w : World) (d : Nat) (n0 n1 n2 u0 u1 u2 : List UInt8) (l0 l1 l2 m0 m1 m2 f0 f1 f2 : Int) : Prop :=
  ∃ s0 s1 s2 t0 t1 t2 : Value, w.heap[d]? = some (.cells #[s0, s1, s2, .int .i64 l0, .int .i64 l1, .int .i64 l2, t0, t1, t2, .int .i64 m0, .int .i64 m1, .int .i64 m2, .int .i64 f0, .int .i64 f1, .int .i64 f2] 88 (0, 0)) ∧ Shv w s0 n0 ∧ Shv w s1 n1 ∧ Shv w s2 n2 ∧ Shv w t0 u0 ∧ Shv w t1 u1 ∧ Shv w t2 u2
theorem Dsk.dsv {w : World} {lo d : Nat} {n0 n1 n2 u0 u1 u2 : List UInt8} {l0 l1 l2 m0 m1 m2 f0 f1 f2 : Int} (h : Dsk w lo d ⟨[n0, n1, n2], [u0, u1, u2], [l0, l1, l2], [m0, m1, m2], [f0, f1, f2]⟩) : Dsv w d n0 n1 n2 u0 u1 u2 l0 l1 l2 m0 m1 m2 f0 f1 f2 := by
  obtain ⟨s0, s1, s2, t0, t1, t2, h0, -, h1, h2, h3, h4, h5, h6, -⟩ := h
  exact ⟨s0, s1, s2, t0, t1, t2, h0, h1.sht.shv, h2.sht.shv, h3.sht.shv, h4.sht.shv, h5.sht.shv, h6.sht.shv⟩
theorem Dsv.keep {w w1 : World} {d : Nat} {n0 n1 n2 u0 u1 u2 : List UInt8} {l0 l1 l2 m0 m1 m2 f0 f1 f2 : Int} (h : Dsv w d n0 n1 n2 u0 u1 u2 l0 l1 l2 m0 m1 m2 f0 f1 f2) (hb : Below w.heap.size w w1) : Dsv w1 d n0 n1 n2 u0 u1 u2 l0 l1 l2 m0 m1 m2 f0 f1 f2 := by
  obtain ⟨s0, s1, s2, t0, t1, t2, h0, h1, h2, h3, h4, h5, h6⟩ := h
  exact ⟨s0, s1, s2, t0, t1, t2, row_keep h0 hb, h1.keep hb, h2.keep hb, h3.keep hb, h4.keep hb, h5.keep hb, h6.keep hb⟩

/-- While slices are made by calls: what holds of what has come up. -/
structure Mst (W : World) (ci : Nat → Nat) (rd : Nat → Option Value) (n : Nat → Nat) (f : Nat → Nat → Value) (L : Nat → Bool) (x : Nat → Value) (w : World) : Prop where
  bel : Below W.heap.size W w
  r : ∀ i v, rd i = some v → L i = true → x i = v
  p : ∀ j, j < 5 → L (ci j) = true → Mk1 w W.heap.size w.heap.size (x (ci j)) (n j) (f j)
  pp : ∀ j k, j < 5 → k < 5 → j ≠ k → L (ci j) = true → L (ci k) = true → Dis (x (ci j)) (x (ci k))
theorem Mst.read {W : World} {ci : Nat → Nat} {rd : Nat → Option Value} {n : Nat → Nat} {f : Nat → Nat → Value} {L : Nat → Bool} {x : Nat → Value} {w : World} (h : Mst W ci rd n f L x w) {i : Nat} (v : Value) (hi : ∀ j, j < 5 → ci j ≠ i) (hv : ∀ u, rd i = some u → v = u) : Mst W ci rd n f (lset L i) (upd x i v) w := by
  refine ⟨h.bel, fun k u hk hl => ?_, fun j hj hl => ?_, fun j k hj hk hjk hl hm => ?_⟩
  · by_cases e : k = i
    · subst e; rw [upd_eq]; exact hv u hk
    · rw [upd_ne e]; rw [lset_ne e] at hl; exact h.r k u hk hl
  · rw [upd_ne (hi j hj)]; rw [lset_ne (hi j hj)] at hl; exact h.p j hj hl
  · rw [upd_ne (hi j hj), upd_ne (hi k hk)]; rw [lset_ne (hi j hj)] at hl; rw [lset_ne (hi k hk)] at hm; exact h.pp j k hj hk hjk hl hm
theorem Mst.call {W : World} {ci : Nat → Nat} {rd : Nat → Option Value} {n : Nat → Nat} {f : Nat → Nat → Value} {L : Nat → Bool} {x : Nat → Value} {w w' : World} (h : Mst W ci rd n f L x w) {j : Nat} (hj : j < 5) (v : Value) (hci : ∀ j k, j < 5 → k < 5 → j ≠ k → ci j ≠ ci k) (hr : rd (ci j) = none)
    (hv : Mk1 w' w.heap.size w'.heap.size v (n j) (f j)) (hb : Below w.heap.size w w') : Mst W ci rd n f (lset L (ci j)) (upd x (ci j) v) w' := by
  have hs := h.bel.size
  have hz := hb.size
  have old : ∀ k, k < 5 → L (ci k) = true → Dis v (x (ci k)) := fun k hk hl b hb' e => by
    have h1 := hv.bnd b hb'
    have h2 := (h.p k hk hl).bnd b e
    omega
  refine ⟨h.bel.trans (hb.mono hs), fun k u hk hl => ?_, fun k hk hl => ?_, fun a k ha hk hak hl hm => ?_⟩
  · have e : k ≠ ci j := fun e => by rw [e, hr] at hk; cases hk
    rw [upd_ne e]; rw [lset_ne e] at hl; exact h.r k u hk hl
  · by_cases e : k = j
    · subst e; rw [upd_eq]; exact hv.wide hs (Nat.le_refl _)
    · have e' := hci k j hk hj e
      rw [upd_ne e']; rw [lset_ne e'] at hl; exact ((h.p k hk hl).keep hb).wide (Nat.le_refl _) hz
  · by_cases e : a = j
    · subst e
      have e' := hci k a hk ha (Ne.symm hak)
      rw [upd_eq, upd_ne e']; rw [lset_ne e'] at hm; exact old k hk hm
    · have ea := hci a j ha hj e
      by_cases e2 : k = j
      · subst e2
        rw [upd_eq, upd_ne ea]; rw [lset_ne ea] at hl; exact (old a ha hl).symm
      · have ek := hci k j hk hj e2
        rw [upd_ne ea, upd_ne ek]; rw [lset_ne ea] at hl; rw [lset_ne ek] at hm; exact h.pp a k ha hk hak hl hm

/-- The frame of (*disk).store. -/
def Fs (t0 t1 t2 : Value) (x : Nat → Value) : Act := { tmps := #[t0, t1, t2, x 0, x 1, x 2, x 3, x 4, x 5, x 6, x 7, x 8, x 9, x 10, x 11, x 12, x 13, x 14, x 15, x 16, x 17, x 18, x 19, x 20, x 21, x 22, x 23, x 24, x 25, x 26, x 27], defers := [] }

theorem run_at1 (x : Nat → Value) (q0 q1 q2 : Value) (o : Oper) (d : Nat) (w : World) (h : x 0 = .pointer (some ⟨d, 0, none⟩)) (ho : o.op = .nilCheck (.tmp 3) := by rfl) : (execOp (Fs q0 q1 q2 x).eval o).run Tryd.prog w = .ok (.value (.pointer (some ⟨d, 0, none⟩))) w := by
  have e : (Fs q0 q1 q2 x).eval (.tmp 3) = .pointer (some ⟨d, 0, none⟩) := h
  unfold execOp
  simp only [ho, e]
  first | kernel_rfl | go_simp
theorem run_at2 (x : Nat → Value) (q0 q1 q2 : Value) (o : Oper) (d : Nat) (w : World) (h : x 1 = .pointer (some ⟨d, 0, none⟩)) (ho : o.op = .fieldAddr 88 (.tmp 4) 0 := by rfl) : (execOp (Fs q0 q1 q2 x).eval o).run Tryd.prog w = .ok (.value (.pointer (some ⟨d, 0, none⟩))) w := by
  have e : (Fs q0 q1 q2 x).eval (.tmp 4) = .pointer (some ⟨d, 0, none⟩) := h
  unfold execOp
  simp only [ho, e]
  first | kernel_rfl | go_simp
theorem run_at6 (x : Nat → Value) (q0 q1 q2 : Value) (o : Oper) (d : Nat) (w : World) (h : x 5 = .pointer (some ⟨d, 0, none⟩)) (ho : o.op = .nilCheck (.tmp 8) := by rfl) : (execOp (Fs q0 q1 q2 x).eval o).run Tryd.prog w = .ok (.value (.pointer (some ⟨d, 0, none⟩))) w := by
  have e : (Fs q0 q1 q2 x).eval (.tmp 8) = .pointer (some ⟨d, 0, none⟩) := h
  unfold execOp
  simp only [ho, e]
  first | kernel_rfl | go_simp
theorem run_at7 (x : Nat → Value) (q0 q1 q2 : Value) (o : Oper) (d : Nat) (w : World) (h : x 6 = .pointer (some ⟨d, 0, none⟩)) (ho : o.op = .fieldAddr 88 (.tmp 9) 1 := by rfl) : (execOp (Fs q0 q1 q2 x).eval o).run Tryd.prog w = .ok (.value (.pointer (some ⟨d, 6, none⟩))) w := by
  have e : (Fs q0 q1 q2 x).eval (.tmp 9) = .pointer (some ⟨d, 0, none⟩) := h
  unfold execOp
  simp only [ho, e]
  first | kernel_rfl | go_simp
theorem run_at11 (x : Nat → Value) (q0 q1 q2 : Value) (o : Oper) (d : Nat) (w : World) (h : x 10 = .pointer (some ⟨d, 0, none⟩)) (ho : o.op = .nilCheck (.tmp 13) := by rfl) : (execOp (Fs q0 q1 q2 x).eval o).run Tryd.prog w = .ok (.value (.pointer (some ⟨d, 0, none⟩))) w := by
  have e : (Fs q0 q1 q2 x).eval (.tmp 13) = .pointer (some ⟨d, 0, none⟩) := h
  unfold execOp
  simp only [ho, e]
  first | kernel_rfl | go_simp
theorem run_at12 (x : Nat → Value) (q0 q1 q2 : Value) (o : Oper) (d : Nat) (w : World) (h : x 11 = .pointer (some ⟨d, 0, none⟩)) (ho : o.op = .fieldAddr 88 (.tmp 14) 0 := by rfl) : (execOp (Fs q0 q1 q2 x).eval o).run Tryd.prog w = .ok (.value (.pointer (some ⟨d, 0, none⟩))) w := by
  have e : (Fs q0 q1 q2 x).eval (.tmp 14) = .pointer (some ⟨d, 0, none⟩) := h
  unfold execOp
  simp only [ho, e]
  first | kernel_rfl | go_simp
theorem run_at13 (x : Nat → Value) (q0 q1 q2 : Value) (o : Oper) (d : Nat) (w : World) (h : x 12 = .pointer (some ⟨d, 0, none⟩)) (ho : o.op = .fieldAddr 86 (.tmp 15) 1 := by rfl) : (execOp (Fs q0 q1 q2 x).eval o).run Tryd.prog w = .ok (.value (.pointer (some ⟨d, 3, none⟩))) w := by
  have e : (Fs q0 q1 q2 x).eval (.tmp 15) = .pointer (some ⟨d, 0, none⟩) := h
  unfold execOp
  simp only [ho, e]
  first | kernel_rfl | go_simp
theorem run_at14 (x : Nat → Value) (q0 q1 q2 : Value) (o : Oper) (d : Nat) (w : World) (h : x 13 = .pointer (some ⟨d, 3, none⟩)) (ho : o.op = .slice 84 (.tmp 16) none none none := by rfl) : (execOp (Fs q0 q1 q2 x).eval o).run Tryd.prog w = .ok (.value (.slice (some ⟨d, 3, none⟩) 3 3)) w := by
  have e : (Fs q0 q1 q2 x).eval (.tmp 16) = .pointer (some ⟨d, 3, none⟩) := h
  unfold execOp
  simp only [ho, e]
  first | kernel_rfl | go_simp
theorem run_at17 (x : Nat → Value) (q0 q1 q2 : Value) (o : Oper) (d : Nat) (w : World) (h : x 16 = .pointer (some ⟨d, 0, none⟩)) (ho : o.op = .nilCheck (.tmp 19) := by rfl) : (execOp (Fs q0 q1 q2 x).eval o).run Tryd.prog w = .ok (.value (.pointer (some ⟨d, 0, none⟩))) w := by
  have e : (Fs q0 q1 q2 x).eval (.tmp 19) = .pointer (some ⟨d, 0, none⟩) := h
  unfold execOp
  simp only [ho, e]
  first | kernel_rfl | go_simp
theorem run_at18 (x : Nat → Value) (q0 q1 q2 : Value) (o : Oper) (d : Nat) (w : World) (h : x 17 = .pointer (some ⟨d, 0, none⟩)) (ho : o.op = .fieldAddr 88 (.tmp 20) 1 := by rfl) : (execOp (Fs q0 q1 q2 x).eval o).run Tryd.prog w = .ok (.value (.pointer (some ⟨d, 6, none⟩))) w := by
  have e : (Fs q0 q1 q2 x).eval (.tmp 20) = .pointer (some ⟨d, 0, none⟩) := h
  unfold execOp
  simp only [ho, e]
  first | kernel_rfl | go_simp
theorem run_at19 (x : Nat → Value) (q0 q1 q2 : Value) (o : Oper) (d : Nat) (w : World) (h : x 18 = .pointer (some ⟨d, 6, none⟩)) (ho : o.op = .fieldAddr 86 (.tmp 21) 1 := by rfl) : (execOp (Fs q0 q1 q2 x).eval o).run Tryd.prog w = .ok (.value (.pointer (some ⟨d, 9, none⟩))) w := by
  have e : (Fs q0 q1 q2 x).eval (.tmp 21) = .pointer (some ⟨d, 6, none⟩) := h
  unfold execOp
  simp only [ho, e]
  first | kernel_rfl | go_simp
theorem run_at20 (x : Nat → Value) (q0 q1 q2 : Value) (o : Oper) (d : Nat) (w : World) (h : x 19 = .pointer (some ⟨d, 9, none⟩)) (ho : o.op = .slice 84 (.tmp 22) none none none := by rfl) : (execOp (Fs q0 q1 q2 x).eval o).run Tryd.prog w = .ok (.value (.slice (some ⟨d, 9, none⟩) 3 3)) w := by
  have e : (Fs q0 q1 q2 x).eval (.tmp 22) = .pointer (some ⟨d, 9, none⟩) := h
  unfold execOp
  simp only [ho, e]
  first | kernel_rfl | go_simp
theorem run_at23 (x : Nat → Value) (q0 q1 q2 : Value) (o : Oper) (d : Nat) (w : World) (h : x 22 = .pointer (some ⟨d, 0, none⟩)) (ho : o.op = .nilCheck (.tmp 25) := by rfl) : (execOp (Fs q0 q1 q2 x).eval o).run Tryd.prog w = .ok (.value (.pointer (some ⟨d, 0, none⟩))) w := by
  have e : (Fs q0 q1 q2 x).eval (.tmp 25) = .pointer (some ⟨d, 0, none⟩) := h
  unfold execOp
  simp only [ho, e]
  first | kernel_rfl | go_simp
theorem run_at24 (x : Nat → Value) (q0 q1 q2 : Value) (o : Oper) (d : Nat) (w : World) (h : x 23 = .pointer (some ⟨d, 0, none⟩)) (ho : o.op = .fieldAddr 88 (.tmp 26) 2 := by rfl) : (execOp (Fs q0 q1 q2 x).eval o).run Tryd.prog w = .ok (.value (.pointer (some ⟨d, 12, none⟩))) w := by
  have e : (Fs q0 q1 q2 x).eval (.tmp 26) = .pointer (some ⟨d, 0, none⟩) := h
  unfold execOp
  simp only [ho, e]
  first | kernel_rfl | go_simp
theorem run_at25 (x : Nat → Value) (q0 q1 q2 : Value) (o : Oper) (d : Nat) (w : World) (h : x 24 = .pointer (some ⟨d, 12, none⟩)) (ho : o.op = .slice 84 (.tmp 27) none none none := by rfl) : (execOp (Fs q0 q1 q2 x).eval o).run Tryd.prog w = .ok (.value (.slice (some ⟨d, 12, none⟩) 3 3)) w := by
  have e : (Fs q0 q1 q2 x).eval (.tmp 27) = .pointer (some ⟨d, 12, none⟩) := h
  unfold execOp
  simp only [ho, e]
  first | kernel_rfl | go_simp
theorem load_stt (w : World) (d o : Nat) (c0 c1 c2 c3 c4 c5 : Value) (h0 : w.cell? ⟨d, o, none⟩ = some c0) (h1 : w.cell? ⟨d, o + 1, none⟩ = some c1) (h2 : w.cell? ⟨d, o + 2, none⟩ = some c2) (h3 : w.cell? ⟨d, o + 3, none⟩ = some c3) (h4 : w.cell? ⟨d, o + 4, none⟩ = some c4) (h5 : w.cell? ⟨d, o + 5, none⟩ = some c5) :
    (Instr.loadAt 86 (.pointer (some ⟨d, o, none⟩))).run Tryd.prog w = .ok (.agg #[c0, c1, c2, c3, c4, c5]) w := by go_simp

set_option maxRecDepth 100000 in
set_option maxHeartbeats 8000000 in
theorem diskStore_any (d : Nat) (n0 n1 n2 u0 u1 u2 : List UInt8) (l0 l1 l2 m0 m1 m2 f0 f1 f2 : Int) (w : World) (h : Dsv w d n0 n1 n2 u0 u1 u2 l0 l1 l2 m0 m1 m2 f0 f1 f2) :
    Calls Tryd.prog 31 #[.pointer (some ⟨d, 0, none⟩)] w (ToSt w ⟨[n0, n1, n2], [u0, u1, u2], [l0, l1, l2], [m0, m1, m2], [f0, f1, f2]⟩) := by
  obtain ⟨W, hW⟩ : ∃ W, w.alloc (.cells #[.slice none 0 0, .slice none 0 0, .slice none 0 0, .slice none 0 0, .slice none 0 0] 30) = W := ⟨_, rfl⟩
  have hal : Below w.heap.size w W := by rw [← hW]; exact (Below.refl _ _).alloc (Nat.le_refl _) _
  have R0 : W.heap[w.heap.size]? = some (.cells #[.slice none 0 0, .slice none 0 0, .slice none 0 0, .slice none 0 0, .slice none 0 0] 30 (0, 0)) := by rw [← hW]; exact row_new _ _ _
  have hsz : w.heap.size < W.heap.size := by rw [← hW]; simp
  obtain ⟨s0, s1, s2, t0, t1, t2, hrow, hs0, hs1, hs2, ht0, ht1, ht2⟩ := h.keep hal
  have HR := Lib.hid R0
  have HE := Lib.hid hal
  have HS := Lib.hid hsz
  have HD := Lib.hid hrow
  have H0 := Lib.hid hs0
  have H1 := Lib.hid hs1
  have H2 := Lib.hid hs2
  have H3 := Lib.hid ht0
  have H4 := Lib.hid ht1
  have H5 := Lib.hid ht2
  obtain ⟨ci, hci⟩ : ∃ ci : Nat → Nat, ci = pick5 4 9 15 21 26 := ⟨_, rfl⟩
  have hcd : ∀ j k, j < 5 → k < 5 → j ≠ k → ci j ≠ ci k := fun j k hj hk hjk => by
    rw [hci]
    obtain rfl | rfl | rfl | rfl | rfl : j = 0 ∨ j = 1 ∨ j = 2 ∨ j = 3 ∨ j = 4 := by omega
    all_goals (obtain rfl | rfl | rfl | rfl | rfl : k = 0 ∨ k = 1 ∨ k = 2 ∨ k = 3 ∨ k = 4 := by omega) <;> first | exact absurd rfl hjk | (show ¬ _ = _; decide)
  have hcr : ∀ i, (i ≠ 4 ∧ i ≠ 9 ∧ i ≠ 15 ∧ i ≠ 21 ∧ i ≠ 26) → ∀ j, j < 5 → ci j ≠ i := fun i hi j hj => by
    rw [hci]
    obtain rfl | rfl | rfl | rfl | rfl : j = 0 ∨ j = 1 ∨ j = 2 ∨ j = 3 ∨ j = 4 := by omega
    · exact Ne.symm hi.1
    · exact Ne.symm hi.2.1
    · exact Ne.symm hi.2.2.1
    · exact Ne.symm hi.2.2.2.1
    · exact Ne.symm hi.2.2.2.2
  obtain ⟨rd, hrd⟩ : ∃ rd : Nat → Option Value, rd = fun i => match i with | 0 => some (.pointer (some ⟨d, 0, none⟩)) | 1 => some (.pointer (some ⟨d, 0, none⟩)) | 2 => some (.pointer (some ⟨d, 0, none⟩)) | 3 => some (.agg #[s0, s1, s2, .int .i64 l0, .int .i64 l1, .int .i64 l2]) | 5 => some (.pointer (some ⟨d, 0, none⟩)) | 6 => some (.pointer (some ⟨d, 0, none⟩)) | 7 => some (.pointer (some ⟨d, 6, none⟩)) | 8 => some (.agg #[t0, t1, t2, .int .i64 m0, .int .i64 m1, .int .i64 m2]) | 10 => some (.pointer (some ⟨d, 0, none⟩)) | 11 => some (.pointer (some ⟨d, 0, none⟩)) | 12 => some (.pointer (some ⟨d, 0, none⟩)) | 13 => some (.pointer (some ⟨d, 3, none⟩)) | 14 => some (.slice (some ⟨d, 3, none⟩) 3 3) | 16 => some (.pointer (some ⟨d, 0, none⟩)) | 17 => some (.pointer (some ⟨d, 0, none⟩)) | 18 => some (.pointer (some ⟨d, 6, none⟩)) | 19 => some (.pointer (some ⟨d, 9, none⟩)) | 20 => some (.slice (some ⟨d, 9, none⟩) 3 3) | 22 => some (.pointer (some ⟨d, 0, none⟩)) | 23 => some (.pointer (some ⟨d, 0, none⟩)) | 24 => some (.pointer (some ⟨d, 12, none⟩)) | 25 => some (.slice (some ⟨d, 12, none⟩) 3 3) | _ => none := ⟨_, rfl⟩
  obtain ⟨nn, hnn⟩ : ∃ nn : Nat → Nat, nn = fun _ => 3 := ⟨_, rfl⟩
  obtain ⟨ff, hff⟩ : ∃ ff : Nat → Nat → Value, ff = pick5 (strF [n0, n1, n2]) (strF [u0, u1, u2]) (intF [l0, l1, l2]) (intF [m0, m1, m2]) (intF [f0, f1, f2]) := ⟨_, rfl⟩
  clear h hal R0 hsz hrow hs0 hs1 hs2 ht0 ht1 ht2
  go_enter Tryd.func31, Tryd.ntmps31
  go_wp2_with fail
  clear hW
  refine wp_region_inv (by kernel_rfl) (by kernel_rfl) (fun L a w' => ∃ x : Nat → Value, a = Fs (.pointer (some ⟨d, 0, none⟩)) undef (.pointer (some ⟨w.heap.size, 0, none⟩)) x ∧
    ((L 28 = false ∧ (L 27 = true → (∀ j, j < 5 → L (ci j) = true) ∧ x 27 = .agg #[x 4, x 9, x 15, x 21, x 26]) ∧ Mst W ci rd nn ff L x w') ∨ ((∀ j, j < 29 → L j = true) ∧ ∃ w0, Mst W ci (fun _ => none) nn ff (fun _ => true) x w0 ∧ w'.heap[w.heap.size]? = some (.cells #[x 4, x 9, x 15, x 21, x 26] 30 (0, 0)) ∧ Btn w.heap.size (w.heap.size + 1) w0 w'))) ?_ ?_ ?_
  · exact ⟨fun _ => undef, rfl, .inl ⟨rfl, fun h => (by cases h), ⟨(Below.refl _ _).drew, fun i v _ h => (by cases h), fun j _ h => (by cases h), fun j k _ _ _ h => (by cases h)⟩⟩⟩
  · rintro L a w' i oi ⟨x, rfl, hI⟩ ho hl hall
    have hi : i < 29 := (Array.getElem?_eq_some_iff.1 ho).1
    have hJ : L 28 = false ∧ (L 27 = true → (∀ j, j < 5 → L (ci j) = true) ∧ x 27 = .agg #[x 4, x 9, x 15, x 21, x 26]) ∧ Mst W ci rd nn ff L x w' := by
      rcases hI with hI | ⟨h28, -⟩
      · exact hI
      · rw [h28 i hi] at hl; cases hl
    clear hI
    obtain ⟨j28, b27, hC⟩ := hJ
    obtain rfl | rfl | rfl | rfl | rfl | rfl | rfl | rfl | rfl | rfl | rfl | rfl | rfl | rfl | rfl | rfl | rfl | rfl | rfl | rfl | rfl | rfl | rfl | rfl | rfl | rfl | rfl | rfl | rfl : i = 0 ∨ i = 1 ∨ i = 2 ∨ i = 3 ∨ i = 4 ∨ i = 5 ∨ i = 6 ∨ i = 7 ∨ i = 8 ∨ i = 9 ∨ i = 10 ∨ i = 11 ∨ i = 12 ∨ i = 13 ∨ i = 14 ∨ i = 15 ∨ i = 16 ∨ i = 17 ∨ i = 18 ∨ i = 19 ∨ i = 20 ∨ i = 21 ∨ i = 22 ∨ i = 23 ∨ i = 24 ∨ i = 25 ∨ i = 26 ∨ i = 27 ∨ i = 28 := by omega
    · obtain rfl := Option.some.inj ho
      rw [if_pos (by rfl)]
      refine wp_value (v := .pointer (some ⟨d, 0, none⟩)) (w' := w') (by kernel_rfl) ?_
      exact ⟨upd x 0 _, rfl, .inl ⟨j28, fun h => ⟨fun j hj => lset_mono ((b27 h).1 j hj), (b27 h).2⟩, hC.read (i := 0) _ (hcr 0 (by omega)) (fun u hu => by rw [hrd] at hu; exact Option.some.inj hu)⟩⟩
    · obtain rfl := Option.some.inj ho
      rw [if_pos (by rfl)]
      have d1 := hC.r 0 _ (congrFun hrd 0) (hall ⟨0, .data⟩ (by simp) rfl)
      refine wp_value (v := .pointer (some ⟨d, 0, none⟩)) (w' := w') (by show (execOp (Fs _ _ _ x).eval _).run _ _ = _; exact run_at1 x _ _ _ _ d w' d1) ?_
      exact ⟨upd x 1 _, rfl, .inl ⟨j28, fun h => ⟨fun j hj => lset_mono ((b27 h).1 j hj), (b27 h).2⟩, hC.read (i := 1) _ (hcr 1 (by omega)) (fun u hu => by rw [hrd] at hu; exact Option.some.inj hu)⟩⟩
    · obtain rfl := Option.some.inj ho
      rw [if_pos (by rfl)]
      have d1 := hC.r 1 _ (congrFun hrd 1) (hall ⟨1, .data⟩ (by simp) rfl)
      refine wp_value (v := .pointer (some ⟨d, 0, none⟩)) (w' := w') (by show (execOp (Fs _ _ _ x).eval _).run _ _ = _; exact run_at2 x _ _ _ _ d w' d1) ?_
      exact ⟨upd x 2 _, rfl, .inl ⟨j28, fun h => ⟨fun j hj => lset_mono ((b27 h).1 j hj), (b27 h).2⟩, hC.read (i := 2) _ (hcr 2 (by omega)) (fun u hu => by rw [hrd] at hu; exact Option.some.inj hu)⟩⟩
    · obtain rfl := Option.some.inj ho
      rw [if_pos (by rfl)]
      have d1 := hC.r 2 _ (congrFun hrd 2) (hall ⟨2, .data⟩ (by simp) rfl)
      have hrow := row_keep HD.out hC.bel
      refine wp_loadR 86 (.tmp 5) rfl _ d1 (.agg #[s0, s1, s2, .int .i64 l0, .int .i64 l1, .int .i64 l2]) (load_stt w' d 0 _ _ _ _ _ _ (row_cell hrow 0 _ rfl) (row_cell hrow 1 _ rfl) (row_cell hrow 2 _ rfl) (row_cell hrow 3 _ rfl) (row_cell hrow 4 _ rfl) (row_cell hrow 5 _ rfl)) ?_
      exact ⟨upd x 3 _, rfl, .inl ⟨j28, fun h => ⟨fun j hj => lset_mono ((b27 h).1 j hj), (b27 h).2⟩, hC.read (i := 3) _ (hcr 3 (by omega)) (fun u hu => by rw [hrd] at hu; exact Option.some.inj hu)⟩⟩
    · obtain rfl := Option.some.inj ho
      rw [if_pos (by rfl)]
      have d1 := hC.r 3 _ (congrFun hrd 3) (hall ⟨3, .data⟩ (by simp) rfl)
      refine wp_enter 59 #[x 3] (by kernel_rfl) ?_
      rw [d1]
      refine (texts_any _ _ _ n0 n1 n2 l0 l1 l2 w' (H0.out.keep hC.bel) (H1.out.keep hC.bel) (H2.out.keep hC.bel)).mono ?_; rintro e w2 ⟨v, rfl, hv, hb⟩
      have hq := hC.call (j := 0) (by omega) v hcd (by rw [hci]; exact congrFun hrd 4) (by rw [hnn, hff]; exact hv.out) hb
      rw [show ci 0 = 4 by rw [hci]; rfl] at hq
      exact ⟨_, rfl, upd x 4 v, rfl, .inl ⟨j28, fun h => absurd ((b27 h).1 0 (by omega)) (by rw [show ci 0 = 4 by rw [hci]; rfl, hl]; simp), hq⟩⟩
    · obtain rfl := Option.some.inj ho
      rw [if_pos (by rfl)]
      refine wp_value (v := .pointer (some ⟨d, 0, none⟩)) (w' := w') (by kernel_rfl) ?_
      exact ⟨upd x 5 _, rfl, .inl ⟨j28, fun h => ⟨fun j hj => lset_mono ((b27 h).1 j hj), (b27 h).2⟩, hC.read (i := 5) _ (hcr 5 (by omega)) (fun u hu => by rw [hrd] at hu; exact Option.some.inj hu)⟩⟩
    · obtain rfl := Option.some.inj ho
      rw [if_pos (by rfl)]
      have d1 := hC.r 5 _ (congrFun hrd 5) (hall ⟨5, .data⟩ (by simp) rfl)
      refine wp_value (v := .pointer (some ⟨d, 0, none⟩)) (w' := w') (by show (execOp (Fs _ _ _ x).eval _).run _ _ = _; exact run_at6 x _ _ _ _ d w' d1) ?_
      exact ⟨upd x 6 _, rfl, .inl ⟨j28, fun h => ⟨fun j hj => lset_mono ((b27 h).1 j hj), (b27 h).2⟩, hC.read (i := 6) _ (hcr 6 (by omega)) (fun u hu => by rw [hrd] at hu; exact Option.some.inj hu)⟩⟩
    · obtain rfl := Option.some.inj ho
      rw [if_pos (by rfl)]
      have d1 := hC.r 6 _ (congrFun hrd 6) (hall ⟨6, .data⟩ (by simp) rfl)
      refine wp_value (v := .pointer (some ⟨d, 6, none⟩)) (w' := w') (by show (execOp (Fs _ _ _ x).eval _).run _ _ = _; exact run_at7 x _ _ _ _ d w' d1) ?_
      exact ⟨upd x 7 _, rfl, .inl ⟨j28, fun h => ⟨fun j hj => lset_mono ((b27 h).1 j hj), (b27 h).2⟩, hC.read (i := 7) _ (hcr 7 (by omega)) (fun u hu => by rw [hrd] at hu; exact Option.some.inj hu)⟩⟩
    · obtain rfl := Option.some.inj ho
      rw [if_pos (by rfl)]
      have d1 := hC.r 7 _ (congrFun hrd 7) (hall ⟨7, .data⟩ (by simp) rfl)
      have hrow := row_keep HD.out hC.bel
      refine wp_loadR 86 (.tmp 10) rfl _ d1 (.agg #[t0, t1, t2, .int .i64 m0, .int .i64 m1, .int .i64 m2]) (load_stt w' d 6 _ _ _ _ _ _ (row_cell hrow 6 _ rfl) (row_cell hrow 7 _ rfl) (row_cell hrow 8 _ rfl) (row_cell hrow 9 _ rfl) (row_cell hrow 10 _ rfl) (row_cell hrow 11 _ rfl)) ?_
      exact ⟨upd x 8 _, rfl, .inl ⟨j28, fun h => ⟨fun j hj => lset_mono ((b27 h).1 j hj), (b27 h).2⟩, hC.read (i := 8) _ (hcr 8 (by omega)) (fun u hu => by rw [hrd] at hu; exact Option.some.inj hu)⟩⟩
    · obtain rfl := Option.some.inj ho
      rw [if_pos (by rfl)]
      have d1 := hC.r 8 _ (congrFun hrd 8) (hall ⟨8, .data⟩ (by simp) rfl)
      refine wp_enter 59 #[x 8] (by kernel_rfl) ?_
      rw [d1]
      refine (texts_any _ _ _ u0 u1 u2 m0 m1 m2 w' (H3.out.keep hC.bel) (H4.out.keep hC.bel) (H5.out.keep hC.bel)).mono ?_; rintro e w2 ⟨v, rfl, hv, hb⟩
      have hq := hC.call (j := 1) (by omega) v hcd (by rw [hci]; exact congrFun hrd 9) (by rw [hnn, hff]; exact hv.out) hb
      rw [show ci 1 = 9 by rw [hci]; rfl] at hq
      exact ⟨_, rfl, upd x 9 v, rfl, .inl ⟨j28, fun h => absurd ((b27 h).1 1 (by omega)) (by rw [show ci 1 = 9 by rw [hci]; rfl, hl]; simp), hq⟩⟩
    · obtain rfl := Option.some.inj ho
      rw [if_pos (by rfl)]
      refine wp_value (v := .pointer (some ⟨d, 0, none⟩)) (w' := w') (by kernel_rfl) ?_
      exact ⟨upd x 10 _, rfl, .inl ⟨j28, fun h => ⟨fun j hj => lset_mono ((b27 h).1 j hj), (b27 h).2⟩, hC.read (i := 10) _ (hcr 10 (by omega)) (fun u hu => by rw [hrd] at hu; exact Option.some.inj hu)⟩⟩
    · obtain rfl := Option.some.inj ho
      rw [if_pos (by rfl)]
      have d1 := hC.r 10 _ (congrFun hrd 10) (hall ⟨10, .data⟩ (by simp) rfl)
      refine wp_value (v := .pointer (some ⟨d, 0, none⟩)) (w' := w') (by show (execOp (Fs _ _ _ x).eval _).run _ _ = _; exact run_at11 x _ _ _ _ d w' d1) ?_
      exact ⟨upd x 11 _, rfl, .inl ⟨j28, fun h => ⟨fun j hj => lset_mono ((b27 h).1 j hj), (b27 h).2⟩, hC.read (i := 11) _ (hcr 11 (by omega)) (fun u hu => by rw [hrd] at hu; exact Option.some.inj hu)⟩⟩
    · obtain rfl := Option.some.inj ho
      rw [if_pos (by rfl)]
      have d1 := hC.r 11 _ (congrFun hrd 11) (hall ⟨11, .data⟩ (by simp) rfl)
      refine wp_value (v := .pointer (some ⟨d, 0, none⟩)) (w' := w') (by show (execOp (Fs _ _ _ x).eval _).run _ _ = _; exact run_at12 x _ _ _ _ d w' d1) ?_
      exact ⟨upd x 12 _, rfl, .inl ⟨j28, fun h => ⟨fun j hj => lset_mono ((b27 h).1 j hj), (b27 h).2⟩, hC.read (i := 12) _ (hcr 12 (by omega)) (fun u hu => by rw [hrd] at hu; exact Option.some.inj hu)⟩⟩
    · obtain rfl := Option.some.inj ho
      rw [if_pos (by rfl)]
      have d1 := hC.r 12 _ (congrFun hrd 12) (hall ⟨12, .data⟩ (by simp) rfl)
      refine wp_value (v := .pointer (some ⟨d, 3, none⟩)) (w' := w') (by show (execOp (Fs _ _ _ x).eval _).run _ _ = _; exact run_at13 x _ _ _ _ d w' d1) ?_
      exact ⟨upd x 13 _, rfl, .inl ⟨j28, fun h => ⟨fun j hj => lset_mono ((b27 h).1 j hj), (b27 h).2⟩, hC.read (i := 13) _ (hcr 13 (by omega)) (fun u hu => by rw [hrd] at hu; exact Option.some.inj hu)⟩⟩
    · obtain rfl := Option.some.inj ho
      rw [if_pos (by rfl)]
      have d1 := hC.r 13 _ (congrFun hrd 13) (hall ⟨13, .data⟩ (by simp) rfl)
      refine wp_value (v := .slice (some ⟨d, 3, none⟩) 3 3) (w' := w') (by show (execOp (Fs _ _ _ x).eval _).run _ _ = _; exact run_at14 x _ _ _ _ d w' d1) ?_
      exact ⟨upd x 14 _, rfl, .inl ⟨j28, fun h => ⟨fun j hj => lset_mono ((b27 h).1 j hj), (b27 h).2⟩, hC.read (i := 14) _ (hcr 14 (by omega)) (fun u hu => by rw [hrd] at hu; exact Option.some.inj hu)⟩⟩
    · obtain rfl := Option.some.inj ho
      rw [if_pos (by rfl)]
      have d1 := hC.r 14 _ (congrFun hrd 14) (hall ⟨14, .data⟩ (by simp) rfl)
      have hrow := row_keep HD.out hC.bel
      have hV : Vls w' (.slice (some ⟨d, 3, none⟩) 3 3) 3 (fun i => .int .i64 (([l0, l1, l2] : List Int).getD i 0)) := ⟨_, 3, rfl, Nat.le_refl _, by unfold maxLen; omega, fun _ => ⟨d, 3, rfl, fun i hi => by
        obtain rfl | rfl | rfl : i = 0 ∨ i = 1 ∨ i = 2 := by omega
        · exact row_cell hrow 3 _ rfl
        · exact row_cell hrow 4 _ rfl
        · exact row_cell hrow 5 _ rfl⟩⟩
      refine wp_enter 60 #[x 14] (by kernel_rfl) ?_
      rw [d1]
      refine (cloneInt_any _ 3 _ w' hV (by omega) (by omega)).mono ?_; rintro e w2 ⟨v, rfl, hv, hb⟩
      have hq := hC.call (j := 2) (by omega) v hcd (by rw [hci]; exact congrFun hrd 15) (by rw [hnn, hff]; exact hv.out) hb
      rw [show ci 2 = 15 by rw [hci]; rfl] at hq
      exact ⟨_, rfl, upd x 15 v, rfl, .inl ⟨j28, fun h => absurd ((b27 h).1 2 (by omega)) (by rw [show ci 2 = 15 by rw [hci]; rfl, hl]; simp), hq⟩⟩
    · obtain rfl := Option.some.inj ho
      rw [if_pos (by rfl)]
      refine wp_value (v := .pointer (some ⟨d, 0, none⟩)) (w' := w') (by kernel_rfl) ?_
      exact ⟨upd x 16 _, rfl, .inl ⟨j28, fun h => ⟨fun j hj => lset_mono ((b27 h).1 j hj), (b27 h).2⟩, hC.read (i := 16) _ (hcr 16 (by omega)) (fun u hu => by rw [hrd] at hu; exact Option.some.inj hu)⟩⟩
    · obtain rfl := Option.some.inj ho
      rw [if_pos (by rfl)]
      have d1 := hC.r 16 _ (congrFun hrd 16) (hall ⟨16, .data⟩ (by simp) rfl)
      refine wp_value (v := .pointer (some ⟨d, 0, none⟩)) (w' := w') (by show (execOp (Fs _ _ _ x).eval _).run _ _ = _; exact run_at17 x _ _ _ _ d w' d1) ?_
      exact ⟨upd x 17 _, rfl, .inl ⟨j28, fun h => ⟨fun j hj => lset_mono ((b27 h).1 j hj), (b27 h).2⟩, hC.read (i := 17) _ (hcr 17 (by omega)) (fun u hu => by rw [hrd] at hu; exact Option.some.inj hu)⟩⟩
    · obtain rfl := Option.some.inj ho
      rw [if_pos (by rfl)]
      have d1 := hC.r 17 _ (congrFun hrd 17) (hall ⟨17, .data⟩ (by simp) rfl)
      refine wp_value (v := .pointer (some ⟨d, 6, none⟩)) (w' := w') (by show (execOp (Fs _ _ _ x).eval _).run _ _ = _; exact run_at18 x _ _ _ _ d w' d1) ?_
      exact ⟨upd x 18 _, rfl, .inl ⟨j28, fun h => ⟨fun j hj => lset_mono ((b27 h).1 j hj), (b27 h).2⟩, hC.read (i := 18) _ (hcr 18 (by omega)) (fun u hu => by rw [hrd] at hu; exact Option.some.inj hu)⟩⟩
    · obtain rfl := Option.some.inj ho
      rw [if_pos (by rfl)]
      have d1 := hC.r 18 _ (congrFun hrd 18) (hall ⟨18, .data⟩ (by simp) rfl)
      refine wp_value (v := .pointer (some ⟨d, 9, none⟩)) (w' := w') (by show (execOp (Fs _ _ _ x).eval _).run _ _ = _; exact run_at19 x _ _ _ _ d w' d1) ?_
      exact ⟨upd x 19 _, rfl, .inl ⟨j28, fun h => ⟨fun j hj => lset_mono ((b27 h).1 j hj), (b27 h).2⟩, hC.read (i := 19) _ (hcr 19 (by omega)) (fun u hu => by rw [hrd] at hu; exact Option.some.inj hu)⟩⟩
    · obtain rfl := Option.some.inj ho
      rw [if_pos (by rfl)]
      have d1 := hC.r 19 _ (congrFun hrd 19) (hall ⟨19, .data⟩ (by simp) rfl)
      refine wp_value (v := .slice (some ⟨d, 9, none⟩) 3 3) (w' := w') (by show (execOp (Fs _ _ _ x).eval _).run _ _ = _; exact run_at20 x _ _ _ _ d w' d1) ?_
      exact ⟨upd x 20 _, rfl, .inl ⟨j28, fun h => ⟨fun j hj => lset_mono ((b27 h).1 j hj), (b27 h).2⟩, hC.read (i := 20) _ (hcr 20 (by omega)) (fun u hu => by rw [hrd] at hu; exact Option.some.inj hu)⟩⟩
    · obtain rfl := Option.some.inj ho
      rw [if_pos (by rfl)]
      have d1 := hC.r 20 _ (congrFun hrd 20) (hall ⟨20, .data⟩ (by simp) rfl)
      have hrow := row_keep HD.out hC.bel
      have hV : Vls w' (.slice (some ⟨d, 9, none⟩) 3 3) 3 (fun i => .int .i64 (([m0, m1, m2] : List Int).getD i 0)) := ⟨_, 3, rfl, Nat.le_refl _, by unfold maxLen; omega, fun _ => ⟨d, 9, rfl, fun i hi => by
        obtain rfl | rfl | rfl : i = 0 ∨ i = 1 ∨ i = 2 := by omega
        · exact row_cell hrow 9 _ rfl
        · exact row_cell hrow 10 _ rfl
        · exact row_cell hrow 11 _ rfl⟩⟩
      refine wp_enter 60 #[x 20] (by kernel_rfl) ?_
      rw [d1]
      refine (cloneInt_any _ 3 _ w' hV (by omega) (by omega)).mono ?_; rintro e w2 ⟨v, rfl, hv, hb⟩
      have hq := hC.call (j := 3) (by omega) v hcd (by rw [hci]; exact congrFun hrd 21) (by rw [hnn, hff]; exact hv.out) hb
      rw [show ci 3 = 21 by rw [hci]; rfl] at hq
      exact ⟨_, rfl, upd x 21 v, rfl, .inl ⟨j28, fun h => absurd ((b27 h).1 3 (by omega)) (by rw [show ci 3 = 21 by rw [hci]; rfl, hl]; simp), hq⟩⟩
    · obtain rfl := Option.some.inj ho
      rw [if_pos (by rfl)]
      refine wp_value (v := .pointer (some ⟨d, 0, none⟩)) (w' := w') (by kernel_rfl) ?_
      exact ⟨upd x 22 _, rfl, .inl ⟨j28, fun h => ⟨fun j hj => lset_mono ((b27 h).1 j hj), (b27 h).2⟩, hC.read (i := 22) _ (hcr 22 (by omega)) (fun u hu => by rw [hrd] at hu; exact Option.some.inj hu)⟩⟩
    · obtain rfl := Option.some.inj ho
      rw [if_pos (by rfl)]
      have d1 := hC.r 22 _ (congrFun hrd 22) (hall ⟨22, .data⟩ (by simp) rfl)
      refine wp_value (v := .pointer (some ⟨d, 0, none⟩)) (w' := w') (by show (execOp (Fs _ _ _ x).eval _).run _ _ = _; exact run_at23 x _ _ _ _ d w' d1) ?_
      exact ⟨upd x 23 _, rfl, .inl ⟨j28, fun h => ⟨fun j hj => lset_mono ((b27 h).1 j hj), (b27 h).2⟩, hC.read (i := 23) _ (hcr 23 (by omega)) (fun u hu => by rw [hrd] at hu; exact Option.some.inj hu)⟩⟩
    · obtain rfl := Option.some.inj ho
      rw [if_pos (by rfl)]
      have d1 := hC.r 23 _ (congrFun hrd 23) (hall ⟨23, .data⟩ (by simp) rfl)
      refine wp_value (v := .pointer (some ⟨d, 12, none⟩)) (w' := w') (by show (execOp (Fs _ _ _ x).eval _).run _ _ = _; exact run_at24 x _ _ _ _ d w' d1) ?_
      exact ⟨upd x 24 _, rfl, .inl ⟨j28, fun h => ⟨fun j hj => lset_mono ((b27 h).1 j hj), (b27 h).2⟩, hC.read (i := 24) _ (hcr 24 (by omega)) (fun u hu => by rw [hrd] at hu; exact Option.some.inj hu)⟩⟩
    · obtain rfl := Option.some.inj ho
      rw [if_pos (by rfl)]
      have d1 := hC.r 24 _ (congrFun hrd 24) (hall ⟨24, .data⟩ (by simp) rfl)
      refine wp_value (v := .slice (some ⟨d, 12, none⟩) 3 3) (w' := w') (by show (execOp (Fs _ _ _ x).eval _).run _ _ = _; exact run_at25 x _ _ _ _ d w' d1) ?_
      exact ⟨upd x 25 _, rfl, .inl ⟨j28, fun h => ⟨fun j hj => lset_mono ((b27 h).1 j hj), (b27 h).2⟩, hC.read (i := 25) _ (hcr 25 (by omega)) (fun u hu => by rw [hrd] at hu; exact Option.some.inj hu)⟩⟩
    · obtain rfl := Option.some.inj ho
      rw [if_pos (by rfl)]
      have d1 := hC.r 25 _ (congrFun hrd 25) (hall ⟨25, .data⟩ (by simp) rfl)
      have hrow := row_keep HD.out hC.bel
      have hV : Vls w' (.slice (some ⟨d, 12, none⟩) 3 3) 3 (fun i => .int .i64 (([f0, f1, f2] : List Int).getD i 0)) := ⟨_, 3, rfl, Nat.le_refl _, by unfold maxLen; omega, fun _ => ⟨d, 12, rfl, fun i hi => by
        obtain rfl | rfl | rfl : i = 0 ∨ i = 1 ∨ i = 2 := by omega
        · exact row_cell hrow 12 _ rfl
        · exact row_cell hrow 13 _ rfl
        · exact row_cell hrow 14 _ rfl⟩⟩
      refine wp_enter 60 #[x 25] (by kernel_rfl) ?_
      rw [d1]
      refine (cloneInt_any _ 3 _ w' hV (by omega) (by omega)).mono ?_; rintro e w2 ⟨v, rfl, hv, hb⟩
      have hq := hC.call (j := 4) (by omega) v hcd (by rw [hci]; exact congrFun hrd 26) (by rw [hnn, hff]; exact hv.out) hb
      rw [show ci 4 = 26 by rw [hci]; rfl] at hq
      exact ⟨_, rfl, upd x 26 v, rfl, .inl ⟨j28, fun h => absurd ((b27 h).1 4 (by omega)) (by rw [show ci 4 = 26 by rw [hci]; rfl, hl]; simp), hq⟩⟩
    · obtain rfl := Option.some.inj ho
      rw [if_pos (by rfl)]
      have d4 := hall ⟨4, .data⟩ (by simp) rfl
      have d9 := hall ⟨9, .data⟩ (by simp) rfl
      have d15 := hall ⟨15, .data⟩ (by simp) rfl
      have d21 := hall ⟨21, .data⟩ (by simp) rfl
      have d26 := hall ⟨26, .data⟩ (by simp) rfl
      have P0 := hC.p 0 (by omega) (by rw [show ci 0 = 4 by rw [hci]; rfl]; exact d4)
      rw [show ci 0 = 4 by rw [hci]; rfl] at P0
      obtain ⟨a0, c0, e0⟩ := P0.vls.form
      have P1 := hC.p 1 (by omega) (by rw [show ci 1 = 9 by rw [hci]; rfl]; exact d9)
      rw [show ci 1 = 9 by rw [hci]; rfl] at P1
      obtain ⟨a1, c1, e1⟩ := P1.vls.form
      have P2 := hC.p 2 (by omega) (by rw [show ci 2 = 15 by rw [hci]; rfl]; exact d15)
      rw [show ci 2 = 15 by rw [hci]; rfl] at P2
      obtain ⟨a2, c2, e2⟩ := P2.vls.form
      have P3 := hC.p 3 (by omega) (by rw [show ci 3 = 21 by rw [hci]; rfl]; exact d21)
      rw [show ci 3 = 21 by rw [hci]; rfl] at P3
      obtain ⟨a3, c3, e3⟩ := P3.vls.form
      have P4 := hC.p 4 (by omega) (by rw [show ci 4 = 26 by rw [hci]; rfl]; exact d26)
      rw [show ci 4 = 26 by rw [hci]; rfl] at P4
      obtain ⟨a4, c4, e4⟩ := P4.vls.form
      have hb : Tryd.prog.built 30 [(0, x 4), (1, x 9), (2, x 15), (3, x 21), (4, x 26)] = some #[x 4, x 9, x 15, x 21, x 26] := by
        rw [e0, e1, e2, e3, e4]; kernel_rfl
      refine wp_build2 30 _ rfl #[x 4, x 9, x 15, x 21, x 26] (by rw [← hb]; congr 1; simp [Fs, Act.eval]) ?_
      exact ⟨upd x 27 (.agg #[x 4, x 9, x 15, x 21, x 26]), rfl, .inl ⟨j28, fun _ => ⟨fun j hj => by
        rw [hci]
        obtain rfl | rfl | rfl | rfl | rfl : j = 0 ∨ j = 1 ∨ j = 2 ∨ j = 3 ∨ j = 4 := by omega
        · exact d4
        · exact d9
        · exact d15
        · exact d21
        · exact d26, rfl⟩, hC.read (i := 27) _ (hcr 27 (by omega)) (fun u hu => by rw [hrd] at hu; cases hu)⟩⟩
    · obtain rfl := Option.some.inj ho
      rw [if_pos (by rfl)]
      have g0 := hall ⟨0, .phase⟩ (by simp) rfl
      have g1 := hall ⟨1, .phase⟩ (by simp) rfl
      have g2 := hall ⟨2, .phase⟩ (by simp) rfl
      have g3 := hall ⟨3, .phase⟩ (by simp) rfl
      have g4 := hall ⟨4, .phase⟩ (by simp) rfl
      have g5 := hall ⟨5, .phase⟩ (by simp) rfl
      have g6 := hall ⟨6, .phase⟩ (by simp) rfl
      have g7 := hall ⟨7, .phase⟩ (by simp) rfl
      have g8 := hall ⟨8, .phase⟩ (by simp) rfl
      have g9 := hall ⟨9, .phase⟩ (by simp) rfl
      have g10 := hall ⟨10, .phase⟩ (by simp) rfl
      have g11 := hall ⟨11, .phase⟩ (by simp) rfl
      have g12 := hall ⟨12, .phase⟩ (by simp) rfl
      have g13 := hall ⟨13, .phase⟩ (by simp) rfl
      have g14 := hall ⟨14, .phase⟩ (by simp) rfl
      have g15 := hall ⟨15, .phase⟩ (by simp) rfl
      have g16 := hall ⟨16, .phase⟩ (by simp) rfl
      have g17 := hall ⟨17, .phase⟩ (by simp) rfl
      have g18 := hall ⟨18, .phase⟩ (by simp) rfl
      have g19 := hall ⟨19, .phase⟩ (by simp) rfl
      have g20 := hall ⟨20, .phase⟩ (by simp) rfl
      have g21 := hall ⟨21, .phase⟩ (by simp) rfl
      have g22 := hall ⟨22, .phase⟩ (by simp) rfl
      have g23 := hall ⟨23, .phase⟩ (by simp) rfl
      have g24 := hall ⟨24, .phase⟩ (by simp) rfl
      have g25 := hall ⟨25, .phase⟩ (by simp) rfl
      have g26 := hall ⟨26, .phase⟩ (by simp) rfl
      have g27 := hall ⟨27, .phase⟩ (by simp) rfl
      have hL : ∀ k, k < 28 → L k = true := fun k hk => by
        obtain rfl | rfl | rfl | rfl | rfl | rfl | rfl | rfl | rfl | rfl | rfl | rfl | rfl | rfl | rfl | rfl | rfl | rfl | rfl | rfl | rfl | rfl | rfl | rfl | rfl | rfl | rfl | rfl : k = 0 ∨ k = 1 ∨ k = 2 ∨ k = 3 ∨ k = 4 ∨ k = 5 ∨ k = 6 ∨ k = 7 ∨ k = 8 ∨ k = 9 ∨ k = 10 ∨ k = 11 ∨ k = 12 ∨ k = 13 ∨ k = 14 ∨ k = 15 ∨ k = 16 ∨ k = 17 ∨ k = 18 ∨ k = 19 ∨ k = 20 ∨ k = 21 ∨ k = 22 ∨ k = 23 ∨ k = 24 ∨ k = 25 ∨ k = 26 ∨ k = 27 := by omega
        all_goals assumption
      have hcl : ∀ j, j < 5 → L (ci j) = true := (b27 g27).1
      have hC2 : Mst W ci (fun _ => none) nn ff (fun _ => true) x w' := ⟨hC.bel, fun i v hv _ => (by cases hv), fun j hj _ => hC.p j hj (hcl j hj), fun j k hj hk hjk _ _ => hC.pp j k hj hk hjk (hcl j hj) (hcl k hk)⟩
      have hs := HS.out
      have P0 := hC2.p 0 (by omega) rfl
      rw [show ci 0 = 4 by rw [hci]; rfl] at P0
      obtain ⟨a0, c0, e0⟩ := P0.vls.form
      have P1 := hC2.p 1 (by omega) rfl
      rw [show ci 1 = 9 by rw [hci]; rfl] at P1
      obtain ⟨a1, c1, e1⟩ := P1.vls.form
      have P2 := hC2.p 2 (by omega) rfl
      rw [show ci 2 = 15 by rw [hci]; rfl] at P2
      obtain ⟨a2, c2, e2⟩ := P2.vls.form
      have P3 := hC2.p 3 (by omega) rfl
      rw [show ci 3 = 21 by rw [hci]; rfl] at P3
      obtain ⟨a3, c3, e3⟩ := P3.vls.form
      have P4 := hC2.p 4 (by omega) rfl
      rw [show ci 4 = 26 by rw [hci]; rfl] at P4
      obtain ⟨a4, c4, e4⟩ := P4.vls.form
      refine wp_store_row 30 (.tmp 2) (.tmp 30) rfl w.heap.size #[x 4, x 9, x 15, x 21, x 26] rfl (b27 g27).2 30 _ (row_keep HR.out hC.bel) (by kernel_rfl) rfl (by rw [e0, e1, e2, e3, e4]; simp [Value.oneCell']) ?_
      exact ⟨x, rfl, .inr ⟨fun k hk => by
        by_cases e : k = 28
        · subst e; rfl
        · show (if k = 28 then true else L k) = true
          rw [if_neg e]; exact hL k (by omega), w', hC2, setRow_heap _ _ _ _ _ _ (row_keep HR.out hC.bel), setRow_btnV _ _ _⟩⟩
  · rintro L a w' ⟨x, rfl, hI⟩ hL
    rcases hI with ⟨h28, -⟩ | ⟨-, w0, hC, hrow, hbt⟩
    · rw [hL 28 (by show 28 < 29; omega)] at h28; cases h28
    have hs := HS.out
    have hb0 := hC.bel.size
    have hZ := Lib.hid (HE.out.trans ((hC.bel.mono HE.out.size).trans (hbt.below (Nat.le_refl _) (by omega))))
    have hz := hbt.size
    have HM : Hid (M5 w' w.heap.size w'.heap.size (x 4) (x 9) (x 15) (x 21) (x 26) (StT.n5 ⟨[n0, n1, n2], [u0, u1, u2], [l0, l1, l2], [m0, m1, m2], [f0, f1, f2]⟩) (StT.f5 ⟨[n0, n1, n2], [u0, u1, u2], [l0, l1, l2], [m0, m1, m2], [f0, f1, f2]⟩)) := by
      have p0 := hC.p 0 (by omega) rfl
      have p1 := hC.p 1 (by omega) rfl
      have p2 := hC.p 2 (by omega) rfl
      have p3 := hC.p 3 (by omega) rfl
      have p4 := hC.p 4 (by omega) rfl
      have q01 := hC.pp 0 1 (by omega) (by omega) (by omega) rfl rfl
      have q02 := hC.pp 0 2 (by omega) (by omega) (by omega) rfl rfl
      have q03 := hC.pp 0 3 (by omega) (by omega) (by omega) rfl rfl
      have q04 := hC.pp 0 4 (by omega) (by omega) (by omega) rfl rfl
      have q12 := hC.pp 1 2 (by omega) (by omega) (by omega) rfl rfl
      have q13 := hC.pp 1 3 (by omega) (by omega) (by omega) rfl rfl
      have q14 := hC.pp 1 4 (by omega) (by omega) (by omega) rfl rfl
      have q23 := hC.pp 2 3 (by omega) (by omega) (by omega) rfl rfl
      have q24 := hC.pp 2 4 (by omega) (by omega) (by omega) rfl rfl
      have q34 := hC.pp 3 4 (by omega) (by omega) (by omega) rfl rfl
      rw [hnn, hff, hci] at p0 p1 p2 p3 p4
      rw [hci] at q01 q02 q03 q04 q12 q13 q14 q23 q24 q34
      exact ⟨(p0.btn hbt (.inr (by omega))).wide (by omega) (by omega), (p1.btn hbt (.inr (by omega))).wide (by omega) (by omega), (p2.btn hbt (.inr (by omega))).wide (by omega) (by omega), (p3.btn hbt (.inr (by omega))).wide (by omega) (by omega), (p4.btn hbt (.inr (by omega))).wide (by omega) (by omega), q01, q02, q03, q04, q12, q13, q14, q23, q24, q34⟩
    have r0 := row_cell hrow 0 _ rfl
    have r1 := row_cell hrow 1 _ rfl
    have r2 := row_cell hrow 2 _ rfl
    have r3 := row_cell hrow 3 _ rfl
    have r4 := row_cell hrow 4 _ rfl
    clear hL hC hrow hbt HR HE HS HD H0 H1 H2 H3 H4 H5 hci hcd hcr hrd hnn hff
    unfold Fs
    generalize x 4 = y0 at *
    generalize x 9 = y1 at *
    generalize x 15 = y2 at *
    generalize x 21 = y3 at *
    generalize x 26 = y4 at *
    go_wp2
    exact bodyPost_ret (v := .agg #[y0, y1, y2, y3, y4]) (by simp [results, Tryd.results31, go_sem, r0, r1, r2, r3, r4]) rfl ⟨_, _, _, _, _, rfl, HM, hZ.out⟩

end Go.Proofs.YtadoihddmbbjoaaDoor
