/-
  StoreNew of the model and of the program.
-/
import Derived.Test.YtadoihddmbbjoaaDoorKStoStore
namespace Go.Proofs.YtadoihddmbbjoaaDoor
open Go.RowKit


/-- The frame of the model's StoreNew. -/
def Fn (t0 : Value) (x : Nat → Value) : Act := { tmps := #[t0, x 0, x 1, x 2, x 3, x 4, x 5], defers := [] }
theorem mk_new (w : World) (z : Value) (T : TypeId) (f : Nat → Value) (hf : ∀ i, i < 3 → f i = z) : Mk1 (w.alloc (.cells #[z, z, z] T)) w.heap.size (w.alloc (.cells #[z, z, z] T)).heap.size (.slice (some ⟨w.heap.size, 0, none⟩) 3 3) 3 f :=
  Mk1.of_row (fun i hi => by
    rw [hf i hi]
    refine ⟨row_cell (row_new _ _ _) i _ ?_, row_free (row_new _ _ _) i⟩
    obtain rfl | rfl | rfl : i = 0 ∨ i = 1 ∨ i = 2 := by omega
    all_goals rfl) (Nat.le_refl _) (by simp) (Nat.le_refl _) (by unfold maxLen; omega)
set_option maxRecDepth 100000 in
set_option maxHeartbeats 8000000 in
theorem specNew_any (w : World) : Calls Tryd.prog 64 #[] w (ToSt w ⟨[[], [], []], [[], [], []], [0, 0, 0], [0, 0, 0], [0, 0, 0]⟩) := by
  obtain ⟨W, hW⟩ : ∃ W, w.alloc (.cells #[.slice none 0 0, .slice none 0 0, .slice none 0 0, .slice none 0 0, .slice none 0 0] 30) = W := ⟨_, rfl⟩
  have hal : Below w.heap.size w W := by rw [← hW]; exact (Below.refl _ _).alloc (Nat.le_refl _) _
  have R0 : W.heap[w.heap.size]? = some (.cells #[.slice none 0 0, .slice none 0 0, .slice none 0 0, .slice none 0 0, .slice none 0 0] 30 (0, 0)) := by rw [← hW]; exact row_new _ _ _
  have hsz : w.heap.size < W.heap.size := by rw [← hW]; simp
  have HR := Lib.hid R0
  have HE := Lib.hid hal
  have HS := Lib.hid hsz
  obtain ⟨ci, hci⟩ : ∃ ci : Nat → Nat, ci = pick5 0 1 2 3 4 := ⟨_, rfl⟩
  have hcd : ∀ j k, j < 5 → k < 5 → j ≠ k → ci j ≠ ci k := fun j k hj hk hjk => by
    rw [hci]
    obtain rfl | rfl | rfl | rfl | rfl : j = 0 ∨ j = 1 ∨ j = 2 ∨ j = 3 ∨ j = 4 := by omega
    all_goals (obtain rfl | rfl | rfl | rfl | rfl : k = 0 ∨ k = 1 ∨ k = 2 ∨ k = 3 ∨ k = 4 := by omega) <;> first | exact absurd rfl hjk | (show ¬ _ = _; decide)
  have hcr : ∀ i, 5 ≤ i → ∀ j, j < 5 → ci j ≠ i := fun i hi j hj => by
    rw [hci]
    obtain rfl | rfl | rfl | rfl | rfl : j = 0 ∨ j = 1 ∨ j = 2 ∨ j = 3 ∨ j = 4 := by omega
    all_goals (show ¬ _ = _; (first | (show ¬ 0 = i; omega) | (show ¬ 1 = i; omega) | (show ¬ 2 = i; omega) | (show ¬ 3 = i; omega) | (show ¬ 4 = i; omega)))
  obtain ⟨nn, hnn⟩ : ∃ nn : Nat → Nat, nn = fun _ => 3 := ⟨_, rfl⟩
  obtain ⟨ff, hff⟩ : ∃ ff : Nat → Nat → Value, ff = pick5 (strF [[], [], []]) (strF [[], [], []]) (intF [0, 0, 0]) (intF [0, 0, 0]) (intF [0, 0, 0]) := ⟨_, rfl⟩
  clear hal R0 hsz
  go_enter Tryd.func64, Tryd.ntmps64
  go_wp2_with fail
  clear hW
  refine wp_region_inv (by kernel_rfl) (by kernel_rfl) (fun L a w' => ∃ x : Nat → Value, a = Fn (.pointer (some ⟨w.heap.size, 0, none⟩)) x ∧
    ((L 6 = false ∧ (L 5 = true → (∀ j, j < 5 → L (ci j) = true) ∧ x 5 = .agg #[x 0, x 1, x 2, x 3, x 4]) ∧ Mst W ci (fun _ => none) nn ff L x w') ∨ ((∀ j, j < 7 → L j = true) ∧ ∃ w0, Mst W ci (fun _ => none) nn ff (fun _ => true) x w0 ∧ w'.heap[w.heap.size]? = some (.cells #[x 0, x 1, x 2, x 3, x 4] 30 (0, 0)) ∧ Btn w.heap.size (w.heap.size + 1) w0 w'))) ?_ ?_ ?_
  · exact ⟨fun _ => undef, rfl, .inl ⟨rfl, fun h => (by cases h), ⟨(Below.refl _ _).drew, fun i v _ h => (by cases h), fun j _ h => (by cases h), fun j k _ _ _ h => (by cases h)⟩⟩⟩
  · rintro L a w' i oi ⟨x, rfl, hI⟩ ho hl hall
    have hi : i < 7 := (Array.getElem?_eq_some_iff.1 ho).1
    have hJ : L 6 = false ∧ (L 5 = true → (∀ j, j < 5 → L (ci j) = true) ∧ x 5 = .agg #[x 0, x 1, x 2, x 3, x 4]) ∧ Mst W ci (fun _ => none) nn ff L x w' := by
      rcases hI with hI | ⟨h16, -⟩
      · exact hI
      · rw [h16 i hi] at hl; cases hl
    clear hI
    obtain ⟨j6, b5, hC⟩ := hJ
    obtain rfl | rfl | rfl | rfl | rfl | rfl | rfl : i = 0 ∨ i = 1 ∨ i = 2 ∨ i = 3 ∨ i = 4 ∨ i = 5 ∨ i = 6 := by omega
    · obtain rfl := Option.some.inj ho
      rw [if_pos (by rfl)]
      refine wp_value (v := .slice (some ⟨w'.heap.size, 0, none⟩) 3 3) (w' := w'.alloc (.cells #[.string ⟨#[]⟩, .string ⟨#[]⟩, .string ⟨#[]⟩] 9)) (by kernel_rfl) ?_
      have hm := mk_new w' (.string ⟨#[]⟩) 9 (ff 0) (fun k hk => by
        rw [hff]
        obtain rfl | rfl | rfl : k = 0 ∨ k = 1 ∨ k = 2 := by omega
        all_goals rfl)
      have hn : nn 0 = 3 := by rw [hnn]
      have hc := hC.call (j := 0) (by omega) (.slice (some ⟨w'.heap.size, 0, none⟩) 3 3) hcd rfl (by rw [hn]; exact hm) ((Below.refl _ _).alloc (Nat.le_refl _) _)
      rw [show ci 0 = 0 by rw [hci]; rfl] at hc
      exact ⟨upd x 0 _, rfl, .inl ⟨j6, fun h => absurd ((b5 h).1 0 (by omega)) (by rw [show ci 0 = 0 by rw [hci]; rfl, hl]; simp), hc⟩⟩
    · obtain rfl := Option.some.inj ho
      rw [if_pos (by rfl)]
      refine wp_value (v := .slice (some ⟨w'.heap.size, 0, none⟩) 3 3) (w' := w'.alloc (.cells #[.string ⟨#[]⟩, .string ⟨#[]⟩, .string ⟨#[]⟩] 9)) (by kernel_rfl) ?_
      have hm := mk_new w' (.string ⟨#[]⟩) 9 (ff 1) (fun k hk => by
        rw [hff]
        obtain rfl | rfl | rfl : k = 0 ∨ k = 1 ∨ k = 2 := by omega
        all_goals rfl)
      have hn : nn 1 = 3 := by rw [hnn]
      have hc := hC.call (j := 1) (by omega) (.slice (some ⟨w'.heap.size, 0, none⟩) 3 3) hcd rfl (by rw [hn]; exact hm) ((Below.refl _ _).alloc (Nat.le_refl _) _)
      rw [show ci 1 = 1 by rw [hci]; rfl] at hc
      exact ⟨upd x 1 _, rfl, .inl ⟨j6, fun h => absurd ((b5 h).1 1 (by omega)) (by rw [show ci 1 = 1 by rw [hci]; rfl, hl]; simp), hc⟩⟩
    · obtain rfl := Option.some.inj ho
      rw [if_pos (by rfl)]
      refine wp_value (v := .slice (some ⟨w'.heap.size, 0, none⟩) 3 3) (w' := w'.alloc (.cells #[.int .i64 0, .int .i64 0, .int .i64 0] 3)) (by kernel_rfl) ?_
      have hm := mk_new w' (.int .i64 0) 3 (ff 2) (fun k hk => by
        rw [hff]
        obtain rfl | rfl | rfl : k = 0 ∨ k = 1 ∨ k = 2 := by omega
        all_goals rfl)
      have hn : nn 2 = 3 := by rw [hnn]
      have hc := hC.call (j := 2) (by omega) (.slice (some ⟨w'.heap.size, 0, none⟩) 3 3) hcd rfl (by rw [hn]; exact hm) ((Below.refl _ _).alloc (Nat.le_refl _) _)
      rw [show ci 2 = 2 by rw [hci]; rfl] at hc
      exact ⟨upd x 2 _, rfl, .inl ⟨j6, fun h => absurd ((b5 h).1 2 (by omega)) (by rw [show ci 2 = 2 by rw [hci]; rfl, hl]; simp), hc⟩⟩
    · obtain rfl := Option.some.inj ho
      rw [if_pos (by rfl)]
      refine wp_value (v := .slice (some ⟨w'.heap.size, 0, none⟩) 3 3) (w' := w'.alloc (.cells #[.int .i64 0, .int .i64 0, .int .i64 0] 3)) (by kernel_rfl) ?_
      have hm := mk_new w' (.int .i64 0) 3 (ff 3) (fun k hk => by
        rw [hff]
        obtain rfl | rfl | rfl : k = 0 ∨ k = 1 ∨ k = 2 := by omega
        all_goals rfl)
      have hn : nn 3 = 3 := by rw [hnn]
      have hc := hC.call (j := 3) (by omega) (.slice (some ⟨w'.heap.size, 0, none⟩) 3 3) hcd rfl (by rw [hn]; exact hm) ((Below.refl _ _).alloc (Nat.le_refl _) _)
      rw [show ci 3 = 3 by rw [hci]; rfl] at hc
      exact ⟨upd x 3 _, rfl, .inl ⟨j6, fun h => absurd ((b5 h).1 3 (by omega)) (by rw [show ci 3 = 3 by rw [hci]; rfl, hl]; simp), hc⟩⟩
    · obtain rfl := Option.some.inj ho
      rw [if_pos (by rfl)]
      refine wp_value (v := .slice (some ⟨w'.heap.size, 0, none⟩) 3 3) (w' := w'.alloc (.cells #[.int .i64 0, .int .i64 0, .int .i64 0] 3)) (by kernel_rfl) ?_
      have hm := mk_new w' (.int .i64 0) 3 (ff 4) (fun k hk => by
        rw [hff]
        obtain rfl | rfl | rfl : k = 0 ∨ k = 1 ∨ k = 2 := by omega
        all_goals rfl)
      have hn : nn 4 = 3 := by rw [hnn]
      have hc := hC.call (j := 4) (by omega) (.slice (some ⟨w'.heap.size, 0, none⟩) 3 3) hcd rfl (by rw [hn]; exact hm) ((Below.refl _ _).alloc (Nat.le_refl _) _)
      rw [show ci 4 = 4 by rw [hci]; rfl] at hc
      exact ⟨upd x 4 _, rfl, .inl ⟨j6, fun h => absurd ((b5 h).1 4 (by omega)) (by rw [show ci 4 = 4 by rw [hci]; rfl, hl]; simp), hc⟩⟩
    · obtain rfl := Option.some.inj ho
      rw [if_pos (by rfl)]
      have d0 := hall ⟨0, .data⟩ (by simp) rfl
      have d1 := hall ⟨1, .data⟩ (by simp) rfl
      have d2 := hall ⟨2, .data⟩ (by simp) rfl
      have d3 := hall ⟨3, .data⟩ (by simp) rfl
      have d4 := hall ⟨4, .data⟩ (by simp) rfl
      have hall5 : ∀ j, j < 5 → L (ci j) = true := fun j hj => by
        rw [hci]
        obtain rfl | rfl | rfl | rfl | rfl : j = 0 ∨ j = 1 ∨ j = 2 ∨ j = 3 ∨ j = 4 := by omega
        · exact d0
        · exact d1
        · exact d2
        · exact d3
        · exact d4
      have P0 := hC.p 0 (by omega) (by rw [show ci 0 = 0 by rw [hci]; rfl]; exact d0)
      rw [show ci 0 = 0 by rw [hci]; rfl] at P0
      obtain ⟨a0, c0, e0⟩ := P0.vls.form
      have P1 := hC.p 1 (by omega) (by rw [show ci 1 = 1 by rw [hci]; rfl]; exact d1)
      rw [show ci 1 = 1 by rw [hci]; rfl] at P1
      obtain ⟨a1, c1, e1⟩ := P1.vls.form
      have P2 := hC.p 2 (by omega) (by rw [show ci 2 = 2 by rw [hci]; rfl]; exact d2)
      rw [show ci 2 = 2 by rw [hci]; rfl] at P2
      obtain ⟨a2, c2, e2⟩ := P2.vls.form
      have P3 := hC.p 3 (by omega) (by rw [show ci 3 = 3 by rw [hci]; rfl]; exact d3)
      rw [show ci 3 = 3 by rw [hci]; rfl] at P3
      obtain ⟨a3, c3, e3⟩ := P3.vls.form
      have P4 := hC.p 4 (by omega) (by rw [show ci 4 = 4 by rw [hci]; rfl]; exact d4)
      rw [show ci 4 = 4 by rw [hci]; rfl] at P4
      obtain ⟨a4, c4, e4⟩ := P4.vls.form
      have hb : Tryd.prog.built 30 [(0, x 0), (1, x 1), (2, x 2), (3, x 3), (4, x 4)] = some #[x 0, x 1, x 2, x 3, x 4] := by
        rw [e0, e1, e2, e3, e4]; kernel_rfl
      refine wp_build2 30 _ rfl #[x 0, x 1, x 2, x 3, x 4] (by rw [← hb]; congr 1; simp [Fn, Act.eval]) ?_
      exact ⟨upd x 5 (.agg #[x 0, x 1, x 2, x 3, x 4]), rfl, .inl ⟨j6, fun _ => ⟨fun j hj => lset_mono (hall5 j hj), rfl⟩, hC.read (i := 5) _ (hcr 5 (by omega)) (fun u hu => (by cases hu))⟩⟩
    · obtain rfl := Option.some.inj ho
      rw [if_pos (by rfl)]
      have g5 : L 5 = true := hall ⟨5, .data⟩ (by simp) rfl
      have l5 := (b5 g5).1
      rw [hci] at l5
      have hL : ∀ k, k < 6 → L k = true := fun k hk => by
        obtain rfl | rfl | rfl | rfl | rfl | rfl : k = 0 ∨ k = 1 ∨ k = 2 ∨ k = 3 ∨ k = 4 ∨ k = 5 := by omega
        · exact l5 0 (by omega)
        · exact l5 1 (by omega)
        · exact l5 2 (by omega)
        · exact l5 3 (by omega)
        · exact l5 4 (by omega)
        · exact g5
      have hlt5 : ∀ j, j < 5 → L (ci j) = true := by rw [hci]; exact l5
      have hC2 : Mst W ci (fun _ => none) nn ff (fun _ => true) x w' := ⟨hC.bel, fun _ _ h => (by cases h), fun j hj _ => hC.p j hj (hlt5 j hj), fun j k hj hk hjk _ _ => hC.pp j k hj hk hjk (hlt5 j hj) (hlt5 k hk)⟩
      have P0 := hC2.p 0 (by omega) rfl
      rw [show ci 0 = 0 by rw [hci]; rfl] at P0
      obtain ⟨a0, c0, e0⟩ := P0.vls.form
      have P1 := hC2.p 1 (by omega) rfl
      rw [show ci 1 = 1 by rw [hci]; rfl] at P1
      obtain ⟨a1, c1, e1⟩ := P1.vls.form
      have P2 := hC2.p 2 (by omega) rfl
      rw [show ci 2 = 2 by rw [hci]; rfl] at P2
      obtain ⟨a2, c2, e2⟩ := P2.vls.form
      have P3 := hC2.p 3 (by omega) rfl
      rw [show ci 3 = 3 by rw [hci]; rfl] at P3
      obtain ⟨a3, c3, e3⟩ := P3.vls.form
      have P4 := hC2.p 4 (by omega) rfl
      rw [show ci 4 = 4 by rw [hci]; rfl] at P4
      obtain ⟨a4, c4, e4⟩ := P4.vls.form
      refine wp_store_row 30 (.tmp 0) (.tmp 6) rfl w.heap.size #[x 0, x 1, x 2, x 3, x 4] rfl (b5 g5).2 30 _ (row_keep HR.out hC.bel) (by kernel_rfl) rfl (by rw [e0, e1, e2, e3, e4]; simp [Value.oneCell']) ?_
      exact ⟨x, rfl, .inr ⟨fun k hk => by
        by_cases e : k = 6
        · subst e; rfl
        · show (if k = 6 then true else L k) = true
          rw [if_neg e]; exact hL k (by omega), w', hC2, setRow_heap _ _ _ _ _ _ (row_keep HR.out hC.bel), setRow_btnV _ _ _⟩⟩
  · rintro L a w' ⟨x, rfl, hI⟩ hL
    rcases hI with ⟨h6, -⟩ | ⟨-, w0, hC, hrow, hbt⟩
    · rw [hL 6 (by show 6 < 7; omega)] at h6; cases h6
    have hs := HS.out
    have hb0 := hC.bel.size
    have hZ := Lib.hid (HE.out.trans ((hC.bel.mono HE.out.size).trans (hbt.below (Nat.le_refl _) (by omega))))
    have hz := hbt.size
    have HM : Hid (M5 w' w.heap.size w'.heap.size (x 0) (x 1) (x 2) (x 3) (x 4) (StT.n5 ⟨[[], [], []], [[], [], []], [0, 0, 0], [0, 0, 0], [0, 0, 0]⟩) (StT.f5 ⟨[[], [], []], [[], [], []], [0, 0, 0], [0, 0, 0], [0, 0, 0]⟩)) := by
      have p0 := hC.p 0 (by omega) rfl
      have p1 := hC.p 1 (by omega) rfl
      have p2 := hC.p 2 (by omega) rfl
      have p3 := hC.p 3 (by omega) rfl
      have p4 := hC.p 4 (by omega) rfl
      have q01 := hC.pp 0 1 (by omega) (by omega) (by omega) rfl rfl
      have q02 := hC.pp 0 2 (by omega) (by omega) (by omega) rfl rfl
      have q03 := hC.pp 0 3 (by omega) (by omega) (by omega) rfl rfl
      have q04 := hC.pp 0 4 (by omega) (by omega) (by omega) rfl rfl
      have q12 := hC.pp 1 2 (by omega) (by omega) (by omega) rfl rfl
      have q13 := hC.pp 1 3 (by omega) (by omega) (by omega) rfl rfl
      have q14 := hC.pp 1 4 (by omega) (by omega) (by omega) rfl rfl
      have q23 := hC.pp 2 3 (by omega) (by omega) (by omega) rfl rfl
      have q24 := hC.pp 2 4 (by omega) (by omega) (by omega) rfl rfl
      have q34 := hC.pp 3 4 (by omega) (by omega) (by omega) rfl rfl
      rw [hnn, hff, hci] at p0 p1 p2 p3 p4
      rw [hci] at q01 q02 q03 q04 q12 q13 q14 q23 q24 q34
      exact ⟨(p0.btn hbt (.inr (by omega))).wide (by omega) (by omega), (p1.btn hbt (.inr (by omega))).wide (by omega) (by omega), (p2.btn hbt (.inr (by omega))).wide (by omega) (by omega), (p3.btn hbt (.inr (by omega))).wide (by omega) (by omega), (p4.btn hbt (.inr (by omega))).wide (by omega) (by omega), q01, q02, q03, q04, q12, q13, q14, q23, q24, q34⟩
    have r0 := row_cell hrow 0 _ rfl
    have r1 := row_cell hrow 1 _ rfl
    have r2 := row_cell hrow 2 _ rfl
    have r3 := row_cell hrow 3 _ rfl
    have r4 := row_cell hrow 4 _ rfl
    clear hL hC hrow hbt HR HE HS hci hcd hcr hnn hff
    unfold Fn
    generalize x 0 = y0 at *
    generalize x 1 = y1 at *
    generalize x 2 = y2 at *
    generalize x 3 = y3 at *
    generalize x 4 = y4 at *
    go_wp2
    exact bodyPost_ret (v := .agg #[y0, y1, y2, y3, y4]) (by simp [results, Tryd.results64, go_sem, r0, r1, r2, r3, r4]) rfl ⟨_, _, _, _, _, rfl, HM, hZ.out⟩

end Go.Proofs.YtadoihddmbbjoaaDoor
