/-
  Contracts of state.texts and slices.Clone at three ints.
-/
import Derived.Test.YtadoihddmbbjoaaDoorKStoCopy
import Derived.Test.YtadoihddmbbjoaaDoorKStoDisk
import Derived.Laws.AppendOwn
import Derived.Deep.LoopGhost
namespace Go.Proofs.YtadoihddmbbjoaaDoor
open Go.RowKit

/-- What a function that makes a slice leaves. -/
def ToM (w : World) (n : Nat) (f : Nat → Value) (e : Ending) (w' : World) : Prop :=
  ∃ v, e = .returned v ∧ Hid (Mk1 w' w.heap.size w'.heap.size v n f) ∧ Below w.heap.size w w'

theorem wpList_app0 {ops : Array Oper} {rest : List Oper} {o : Oper} {a : Act} {w : World} {Q : Exit → Act → World → Prop} (hgd : o.guard = none) (s y : Operand) (ST T : TypeId) (ho : o.op = .call { callee := .builtin .append, args := #[s, y], argTypes := #[ST, ST] })
    (ht : Tryd.prog.underlying ST = some (.slice T)) (z : Value) (bytes : Nat) (hinfo : (Tryd.prog.info? T).map (fun i => (i.zero, i.size, i.bytes)) = some (some z, 1, bytes)) (hb16 : bytes ≤ 16)
    (lo g : Nat) (hlo : lo ≤ g) (hg : g < w.heap.size) (hs : a.eval s = .slice (some ⟨g, 0, none⟩) 0 0) (v : Value) (hx : a.eval y = v) (n : Nat) (f : Nat → Value) (hv : Vls w v n f) (h1 : ∀ i, (f i).oneCell' = true) (hn : n ≤ 1048576)
    (h : ∀ v' w', Mk1 w' lo w'.heap.size v' n f → Below w.heap.size w w' → (v'.ownBlock = some g ∨ (v'.ownBlock = some w.heap.size ∧ w.heap.size < w'.heap.size)) → wpList Tryd.prog ops Q rest (a.put o.dst v') w') : wpList Tryd.prog ops Q (o :: rest) a w :=
  wpList_plain hgd fun _ hK => wp_app0 s y ST T ho ht z bytes hinfo hb16 lo g hlo hg hs v hx n f hv h1 hn fun v' w' q1 q2 q3 => hK _ _ (h v' w' q1 q2 q3)

set_option maxHeartbeats 1000000 in
theorem cloneInt_any (v : Value) (n : Nat) (L : Nat → Int) (w : World) (h : Vls w v n (fun i => .int .i64 (L i))) (hp : 0 < n) (hn : n ≤ 1048576) :
    Calls Tryd.prog 60 #[v] w (ToM w n (fun i => .int .i64 (L i))) := by
  obtain ⟨a, cap, rfl, hl, hm, hc⟩ := id h
  obtain ⟨b, off, rfl, -⟩ := hc hp
  have HV := Lib.hid (h.keep ((Below.refl _ _).alloc (Nat.le_refl _) (.cells #[] 3)))
  unfold maxLen at hm
  have hq : ∀ W, (binOp .eql 23 (.slice (some ⟨b, off, none⟩) n cap) (.slice none 0 0)).run Tryd.prog W = .ok (.bool false) W := fun W => by
    simp only [binOp]
    simp [Op.equal, Op.maxDepth, Lib.run_equalIn_slice_nil W 9999 23 _ (some ⟨b, off, none⟩) n cap 0 0 Tryd.underlying23]
  clear hc h
  go_enter Tryd.func60, Tryd.ntmps60
  go_wp2_with (at_builtin; refine wpList_app0 rfl (.tmp 5) (.tmp 6) 23 3 rfl Tryd.underlying23 _ 8 infoIntV (by omega) w.heap.size w.heap.size (Nat.le_refl _) (by simp) rfl _ rfl n _ HV.out (fun _ => rfl) hn ?_; intro v' w2 h2 h3 _)
  have HM := Lib.hid (h2)
  have HB := Lib.hid (((Below.refl w.heap.size w).alloc (Nat.le_refl _) (.cells #[] 3)).trans (h3.mono (by simp)))
  obtain ⟨a', c', rfl⟩ := h2.vls.form
  clear h2 h3 HV
  go_wp2
  go_ret
  exact ⟨_, rfl, HM, HB.out⟩

/-- A sheet that reads as a text, nil included. -/
def Shv (w : World) (v : Value) (l : List UInt8) : Prop :=
  ∃ a n c, v = .slice a n c ∧ ∀ W, Below w.heap.size w W → (convert 82 9 v).run Tryd.prog W = .ok (.string (mkB l)) W
theorem Shv.keep {w w1 : World} {v : Value} {l : List UInt8} (h : Shv w v l) (hb : Below w.heap.size w w1) : Shv w1 v l := by
  obtain ⟨a, n, c, e, h⟩ := h
  exact ⟨a, n, c, e, fun W hW => h W (hb.trans (hW.mono hb.size))⟩
theorem Shv.back {w W : World} {v : Value} {l : List UInt8} (h : Shv w v l) (hb : Below w.heap.size w W) : (convert 82 9 v).run Tryd.prog W = .ok (.string (mkB l)) W := by
  obtain ⟨a, n, c, e, h⟩ := h
  exact h W hb
theorem Sht.shv {w : World} {v : Value} {l : List UInt8} (h : Sht w v l) : Shv w v l := by
  obtain ⟨g, c, e, -⟩ := id h
  exact ⟨_, _, c, e, fun W hW => sheet_back (h.keep hW)⟩
theorem shv_nil (w : World) : Shv w (.slice none 0 0) [] := ⟨none, 0, 0, rfl, fun W _ => by kernel_rfl⟩

set_option maxRecDepth 100000 in
set_option maxHeartbeats 4000000 in
theorem texts_any (s0 s1 s2 : Value) (a0 a1 a2 : List UInt8) (b0 b1 b2 : Int) (w : World) (h0 : Shv w s0 a0) (h1 : Shv w s1 a1) (h2 : Shv w s2 a2) :
    Calls Tryd.prog 59 #[.agg #[s0, s1, s2, .int .i64 b0, .int .i64 b1, .int .i64 b2]] w (ToM w 3 (strF [a0, a1, a2])) := by
  obtain ⟨g0, n0, p0, rfl, -⟩ := id h0
  obtain ⟨g1, n1, p1, rfl, -⟩ := id h1
  obtain ⟨g2, n2, p2, rfl, -⟩ := id h2
  obtain ⟨W, hW⟩ : ∃ W, w.alloc (.cells #[.slice g0 n0 p0, .slice g1 n1 p1, .slice g2 n2 p2, .int .i64 b0, .int .i64 b1, .int .i64 b2] 86) = W := ⟨_, rfl⟩
  have hal : Below w.heap.size w W := by rw [← hW]; exact (Below.refl _ _).alloc (Nat.le_refl _) _
  have hrow : W.heap[w.heap.size]? = some (.cells #[.slice g0 n0 p0, .slice g1 n1 p1, .slice g2 n2 p2, .int .i64 b0, .int .i64 b1, .int .i64 b2] 86 (0, 0)) := by rw [← hW]; exact row_new _ _ _
  have y0 := row_cell hrow 0 _ rfl
  have y1 := row_cell hrow 1 _ rfl
  have y2 := row_cell hrow 2 _ rfl
  have H0 := Lib.hid (h0.keep hal)
  have H1 := Lib.hid (h1.keep hal)
  have H2 := Lib.hid (h2.keep hal)
  have HE := Lib.hid hal
  have hsz : w.heap.size < W.heap.size := by rw [← hW]; simp
  have i0 : ∀ w, (Instr.index 83 (.agg #[.slice g0 n0 p0, .slice g1 n1 p1, .slice g2 n2 p2]) (.int .i64 0)).run Tryd.prog w = .ok (.slice g0 n0 p0) w := fun _ => by kernel_rfl
  have i1 : ∀ w, (Instr.index 83 (.agg #[.slice g0 n0 p0, .slice g1 n1 p1, .slice g2 n2 p2]) (.int .i64 1)).run Tryd.prog w = .ok (.slice g1 n1 p1) w := fun _ => by kernel_rfl
  have i2 : ∀ w, (Instr.index 83 (.agg #[.slice g0 n0 p0, .slice g1 n1 p1, .slice g2 n2 p2]) (.int .i64 2)).run Tryd.prog w = .ok (.slice g2 n2 p2) w := fun _ => by kernel_rfl
  obtain ⟨t0, hi0, hz0, hz1, hz2⟩ := info_parts infoStrV
  have HI : Hid (Tryd.prog.info? 9 = some t0 ∧ t0.zero = some (.string ⟨#[]⟩) ∧ t0.size = 1 ∧ t0.bytes = 16) := ⟨hi0, hz0, hz1, hz2⟩
  clear h0 h1 h2 hal hrow hi0 hz0 hz1 hz2
  go_enter Tryd.func59, Tryd.ntmps59
  go_wp2
  clear hW y0 y1 y2
  go_loopg [3, 8] 3 (fun q s3 s8 wr => ∃ k : Nat, q = 3 - k ∧ k ≤ 3 ∧ s8 = .int .i64 k ∧ Hid (wr.ownsRow W.heap.size 9 1 s3 k ([.string (mkB a0), .string (mkB a1), .string (mkB a2)].take k)) ∧ Hid (Below W.heap.size W wr))
  case atStart => exact ⟨0, rfl, Nat.zero_le _, rfl, Lib.hid (World.ownsRow_nil ..), Lib.hid (Below.refl _ _)⟩
  case round =>
    obtain ⟨k, rfl, hk, rfl, HO, HB⟩ := hrel
    by_cases hlt : k < 3
    · have hbs := HB.out.size
      obtain rfl | rfl | rfl : k = 0 ∨ k = 1 ∨ k = 2 := by omega
      · have hcv := H0.out.back HB.out
        have HO1 := Lib.hid (HO.out.alloc (.cells #[.string (mkB a0)] 9))
        obtain ⟨ax, cx, hax⟩ := (own_vls HO.out).form
        subst hax
        clear i1 i2
        go_wp2_with (at_builtin; refine wpList_append_own _ rfl (.tmp 11) (.tmp 14) 22 rfl W.heap.size 9 t0 (.string ⟨#[]⟩) 1 16 Tryd.underlying22 HI.out.1 HI.out.2.1 HI.out.2.2.1 HI.out.2.2.2 rfl (by decide) _ 0 _ rfl HO1.out ⟨wr.heap.size, 0, none⟩ 1 1 [.string (mkB a0)] rfl rfl ?c1 ?c2 ?c3 ?c4 ?c5 ?_)
        case c1 => exact one_new _ _ _
        case c2 => simp [Value.oneCell']
        case c3 => unfold maxLen; omega
        case c4 => omega
        case c5 => simp; omega
        intro v' w1 hown hgrow _
        have HO2 : Hid (w1.ownsRow W.heap.size 9 1 v' (0 + 1) ([.string (mkB a0), .string (mkB a1), .string (mkB a2)].take (0 + 1))) := hown
        have HB2 : Hid (Below W.heap.size W w1) := below_app HB.out HO.out hgrow (by omega) rfl
        clear HO HB HO1 hown hgrow hcv i0
        go_wp2
        go_roundg (3 - (0 + 1))
        case measure => omega
        case rel => exact ⟨0 + 1, rfl, by omega, by go_num, HO2, HB2⟩
      · have hcv := H1.out.back HB.out
        have HO1 := Lib.hid (HO.out.alloc (.cells #[.string (mkB a1)] 9))
        obtain ⟨ax, cx, hax⟩ := (own_vls HO.out).form
        subst hax
        clear i0 i2
        go_wp2_with (at_builtin; refine wpList_append_own _ rfl (.tmp 11) (.tmp 14) 22 rfl W.heap.size 9 t0 (.string ⟨#[]⟩) 1 16 Tryd.underlying22 HI.out.1 HI.out.2.1 HI.out.2.2.1 HI.out.2.2.2 rfl (by decide) _ 1 _ rfl HO1.out ⟨wr.heap.size, 0, none⟩ 1 1 [.string (mkB a1)] rfl rfl ?c1 ?c2 ?c3 ?c4 ?c5 ?_)
        case c1 => exact one_new _ _ _
        case c2 => simp [Value.oneCell']
        case c3 => unfold maxLen; omega
        case c4 => omega
        case c5 => simp; omega
        intro v' w1 hown hgrow _
        have HO2 : Hid (w1.ownsRow W.heap.size 9 1 v' (1 + 1) ([.string (mkB a0), .string (mkB a1), .string (mkB a2)].take (1 + 1))) := hown
        have HB2 : Hid (Below W.heap.size W w1) := below_app HB.out HO.out hgrow (by omega) rfl
        clear HO HB HO1 hown hgrow hcv i1
        go_wp2
        go_roundg (3 - (1 + 1))
        case measure => omega
        case rel => exact ⟨1 + 1, rfl, by omega, by go_num, HO2, HB2⟩
      · have hcv := H2.out.back HB.out
        have HO1 := Lib.hid (HO.out.alloc (.cells #[.string (mkB a2)] 9))
        obtain ⟨ax, cx, hax⟩ := (own_vls HO.out).form
        subst hax
        clear i0 i1
        go_wp2_with (at_builtin; refine wpList_append_own _ rfl (.tmp 11) (.tmp 14) 22 rfl W.heap.size 9 t0 (.string ⟨#[]⟩) 1 16 Tryd.underlying22 HI.out.1 HI.out.2.1 HI.out.2.2.1 HI.out.2.2.2 rfl (by decide) _ 2 _ rfl HO1.out ⟨wr.heap.size, 0, none⟩ 1 1 [.string (mkB a2)] rfl rfl ?c1 ?c2 ?c3 ?c4 ?c5 ?_)
        case c1 => exact one_new _ _ _
        case c2 => simp [Value.oneCell']
        case c3 => unfold maxLen; omega
        case c4 => omega
        case c5 => simp; omega
        intro v' w1 hown hgrow _
        have HO2 : Hid (w1.ownsRow W.heap.size 9 1 v' (2 + 1) ([.string (mkB a0), .string (mkB a1), .string (mkB a2)].take (2 + 1))) := hown
        have HB2 : Hid (Below W.heap.size W w1) := below_app HB.out HO.out hgrow (by omega) rfl
        clear HO HB HO1 hown hgrow hcv i2
        go_wp2
        go_roundg (3 - (2 + 1))
        case measure => omega
        case rel => exact ⟨2 + 1, rfl, by omega, by go_num, HO2, HB2⟩
    · obtain rfl : k = 3 := by omega
      have HM := Lib.hid ((Mk1.of_own HO.out).congr (g := strF [a0, a1, a2]) fun i hi => by
        obtain rfl | rfl | rfl : i = 0 ∨ i = 1 ∨ i = 2 := by omega
        all_goals rfl)
      replace HM := Lib.hid (HM.out.wide HE.out.size (Nat.le_refl _))
      have HZ := Lib.hid (HE.out.trans (HB.out.mono HE.out.size))
      obtain ⟨ax, cx, rfl⟩ := HM.out.vls.form
      clear HO HB i0 i1 i2
      go_wp2
      go_ret
      exact ⟨_, rfl, HM, HZ.out⟩

end Go.Proofs.YtadoihddmbbjoaaDoor
