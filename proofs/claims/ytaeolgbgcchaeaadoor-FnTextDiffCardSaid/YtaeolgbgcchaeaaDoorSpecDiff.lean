/-
  Contract of the model's TextDiff.
-/
import Derived.Test.YtaeolgbgcchaeaaDoorOfN
import Derived.Test.YtaeolgbgcchaeaaDoorDiffMath
import Derived.Test.YtaeolgbgcchaeaaDoorText
import Derived.Test.YtaeolgbgcchaeaaDoorMeetW
import Derived.Test.YtaeolgbgcchaeaaDoorRegPure
import Derived.Laws.AppendOwn
namespace Go.Proofs.YtaeolgbgcchaeaaDoor
open Go.RowKit

theorem own_belowD {W W' : World} {b : Nat} {e : TypeId} {size : Nat} {v : Value} {k : Nat} {xs : List Value} (h : W.ownsRow b e size v k xs) (hb : Below W.heap.size W W') : W'.ownsRow b e size v k xs :=
  ⟨h.1, h.2.imp id fun ⟨g, cap, cur, h1, h2, h3, h4⟩ => ⟨g, cap, cur, h1, h2, (hb.block g (Array.getElem?_eq_some_iff.1 h3).1).trans h3, h4⟩⟩
/-- One step of a region that draws: an append to a row of one's own. -/
theorem step_append {ops : Array Oper} {o : Oper} {a : Act} {w : World} {K : Act → World → Prop} {Q : Exit → Act → World → Prop} {E : Prop} (hgd : o.guard = none) (s x : Operand) (t : TypeId)
    (ho : o.op = .call { callee := .builtin .append, args := #[s, x], argTypes := #[t, t] })
    (base : Nat) (e : TypeId) (i : TypeInfo) (z : Value) (size bytes : Nat) (ht : Tryd.prog.underlying t = some (.slice e)) (hi : Tryd.prog.info? e = some i) (hz : i.zero = some z)
    (hsize : i.size = size) (hby : i.bytes = bytes) (hzs : z.cells.size = size) (hsz : 0 < size)
    (v : Value) (n : Nat) (xs : List Value) (hs : a.eval s = v) (hown : w.ownsRow base e size v n xs)
    (ad : Addr) (m c : Nat) (news : List Value) (hx : a.eval x = .slice (some ad) m c) (hl : news.length = m * size) (hnews : ∀ j u, news[j]? = some u → w.cell? (ad.add j) = some u) (h1 : ∀ u ∈ news, u.oneCell' = true)
    (h63 : n + m ≤ maxLen) (hbytes : (n + m) * bytes ≤ 140737488355328) (hbase : base ≤ w.heap.size)
    (h : ∀ v' w', w'.ownsRow base e size v' (n + m) (xs ++ news) → w.grownBy w' v.ownBlock → K (a.put o.dst v') w') :
    if Region.wanted o (yielded ops a.tmps) = true then Oper.wp Tryd.prog o a w K Q else E := by
  have hw : Region.wanted o (yielded ops a.tmps) = true := by simp [Region.wanted, hgd]
  rw [if_pos hw]
  exact wp_append_own w s x t ho base e i z size bytes ht hi hz hsize hby hzs hsz v n xs hs hown ad m c news hx hl hnews h1 h63 hbytes hbase fun v' w' a1 a2 _ => h v' w' a1 a2

theorem dif_a {s t : ByteArray} {k : Nat} (h : s.size ≤ k) : dif s.data.toList t.data.toList k = true := by
  unfold dif; rw [size_length]; simp [h]
theorem dif_b {s t : ByteArray} {k : Nat} (h : t.size ≤ k) : dif s.data.toList t.data.toList k = true := by
  unfold dif; rw [size_length t]; simp [h]
theorem get_at (s : ByteArray) (k : Nat) (h : k < s.size) : s.data.toList.getD k 46 = s[k] := by
  have h' : k < s.data.toList.length := by rw [size_length]; exact h
  rw [List.getD_eq_getElem?_getD, List.getElem?_eq_getElem h']
  rfl
theorem dif_in {s t : ByteArray} {k : Nat} (h : k < s.size) (h' : k < t.size) : dif s.data.toList t.data.toList k = (s[k] != t[k]) := by
  unfold dif
  rw [size_length, size_length, get_at s k h, get_at t k h']
  have e1 : decide (s.size ≤ k) = false := by simp; omega
  have e2 : decide (t.size ≤ k) = false := by simp; omega
  rw [e1, e2]; rfl
theorem rgsO_base {w W : World} {L : List Rng} {e : Ending} {w' : World} (h : RgsO W L e w') (hb : Below w.heap.size w W) : RgsO w L e w' := by
  obtain ⟨g, cap, he, hg, ho, hb2⟩ := h
  exact ⟨g, cap, he, Nat.le_trans hb.size hg, ⟨ho.out.1, ho.out.2.imp id fun ⟨g, cap, cur, h1, h2, h3⟩ => ⟨g, cap, cur, h1, Nat.le_trans hb.size h2, h3⟩⟩, hb.trans (hb2.mono hb.size)⟩
theorem rgsO_nil {w W : World} (hb : Below w.heap.size w W) : RgsO w [] (.returned (.slice (some ⟨W.heap.size, 0, none⟩) 0 0)) (W.alloc (.cells #[] 33)) :=
  ⟨W.heap.size, 0, rfl, hb.size, World.ownsRow_made W #[] 0 hb.size (by unfold maxLen; omega) rfl, hb.alloc hb.size _⟩

set_option maxRecDepth 100000 in
set_option maxHeartbeats 4000000 in
theorem specTextDiff_any (s t : ByteArray) (hs : s.size ≤ 9223372036854775807) (ht : t.size ≤ 9223372036854775807) (w : World) :
    Calls Tryd.prog 8 #[.string s, .string t] w (RgsO w (dfL s.data.toList t.data.toList)) := by
  have H1 := Lib.hid (fun W => specTextOk_any s hs W)
  have H2 := Lib.hid (fun W => specTextOk_any t ht W)
  by_cases h1 : tokB s.data.toList = true
  · by_cases h2 : tokB t.data.toList = true
    · obtain ⟨i0, hi, hz0, hz1, hz2⟩ := info_parts infoBool
      have HL : Hid (dfL s.data.toList t.data.toList = rg (dif s.data.toList t.data.toList) (dfM s.data.toList t.data.toList)) := if_pos ⟨h1, h2⟩
      rw [HL.out]
      have l1 := tokB_len h1
      have l2 := tokB_len h2
      rw [size_length] at l1 l2
      rw [h1] at H1
      rw [h2] at H2
      have hM : dfM s.data.toList t.data.toList = max s.size t.size := by unfold dfM; rw [size_length, size_length]
      have hmx : mx (s.size : Int) (t.size : Int) = ((max s.size t.size : Nat) : Int) := by unfold mx; split <;> omega
      have hm := fun W => max_any (s.size : Int) (t.size : Int) W
      rw [hmx] at hm
      rw [hM]
      obtain ⟨M, hMM⟩ : ∃ M, max s.size t.size = M := ⟨_, rfl⟩
      rw [hMM] at hm ⊢
      have m1 : s.size ≤ M := by omega
      have m2 : t.size ≤ M := by omega
      have m3 : M ≤ 48 := by omega
      have HM := Lib.hid hm
      clear hm hmx hM hMM HL h1 h2
      go_enter Tryd.func8, Tryd.ntmps8
      go_wp2_with fail
      refine (H1.out _).mono ?_; rintro e w1 ⟨rfl, rfl⟩
      go_wp2_with fail
      refine (H2.out _).mono ?_; rintro e w1 ⟨rfl, rfl⟩
      go_wp2_with fail
      have h0 : Hid (World.ownsRow (w.alloc (.cells #[] 4)) w.heap.size 4 1 (.slice (some ⟨w.heap.size, 0, none⟩) 0 0) 0 []) := World.ownsRow_made w #[] 0 (Nat.le_refl _) (by unfold maxLen; omega) rfl
      go_loopg [5, 6] M (fun q s4 s5 wr => ∃ k g cap : Nat, q = M - k ∧ k ≤ M ∧ s4 = .slice (some ⟨g, 0, none⟩) k cap ∧ s5 = .int .i64 k ∧ Hid (wr.ownsRow w.heap.size 4 1 (.slice (some ⟨g, 0, none⟩) k cap) k (tru (dif s.data.toList t.data.toList) k)) ∧ Below w.heap.size w wr)
      case atStart => exact ⟨0, w.heap.size, 0, rfl, Nat.zero_le _, rfl, rfl, h0, (Below.refl _ _).alloc (Nat.le_refl _) _⟩
      case round =>
        obtain ⟨k, g, cap, rfl, hk, rfl, rfl, HO, hb⟩ := hrel
        by_cases hlt : k < M
        · go_wp2_with fail
          refine (HM.out _).mono ?_; rintro e w3 ⟨rfl, rfl⟩
          by_cases c1 : s.size ≤ k
          · have hv := dif_a (t := t) c1
            have es1 : decide ((s.size : Int) ≤ (k : Int)) = true := by simp; omega
            have es2 : decide (s.size ≤ k) = true := by simp; omega
            go_wp2_with fail
            refine wp_region_pure 20 _ _ (List.take_append_drop 20 _).symm rfl (by kernel_rfl) (by kernel_rfl) (by kernel_rfl) ?_
            iterate 20 (first
              | (refine wpPure_yes ?_ (by rfl) ?_ ?_; rotate_left 1; (intro w'; go_simp; with_reducible rfl); conv => arg 5; simp only [Act.put, List.setIfInBounds_toArray, List.set_cons_succ, List.set_cons_zero])
              | (refine wpPure_no (by rfl) ?_; conv => arg 5; simp only [Act.put, List.setIfInBounds_toArray, List.set_cons_succ, List.set_cons_zero]))
            refine wpPure_nil ?_
            go_wp2_with (at_builtin; refine wpList_append_own _ rfl _ _ 46 rfl w.heap.size 4 i0 (.bool false) 1 1 Tryd.underlying46 hi hz0 hz1 hz2 rfl (by decide) _ _ _ rfl (own_belowD HO.out (((Below.refl _ wr).drew).alloc (Nat.le_refl _) _)) ⟨wr.heap.size, 0, none⟩ 1 1 [.bool true] rfl rfl (cell_one_new wr.drew _ _) (by simp [Value.oneCell']) (by unfold maxLen; omega) (by omega) (by have := hb.size; simp; omega) ?_; intro v' w1 hown' hgrow _; obtain ⟨g', cap', rfl⟩ := ownsRow_succ hown')
            rw [show Value.bool true = .bool (dif s.data.toList t.data.toList k) by rw [hv], ← tru_succ (dif s.data.toList t.data.toList)] at hown'
            have HO1 := Lib.hid hown'
            have hb1 := (hb.drew.alloc hb.size (.cells #[.bool true] 4)).grown hgrow (by have := hb.size; simp; omega) (fun q e => (HO.out.lt q e).1)
            clear hown' hgrow HO hi hz0 hz1 hz2 hv
            refine noPan_of ?_
            go_wp2
            go_roundg (M - (k + 1))
            case measure => omega
            case rel => exact ⟨k + 1, g', cap', rfl, by omega, rfl, by go_num, HO1, hb1⟩
          · by_cases c2 : t.size ≤ k
            · have hv := dif_b (s := s) c2
              have es1 : decide ((s.size : Int) ≤ (k : Int)) = false := by simp; omega
              have es2 : decide (s.size ≤ k) = false := by simp; omega
              have et1 : decide ((t.size : Int) ≤ (k : Int)) = true := by simp; omega
              have et2 : decide (t.size ≤ k) = true := by simp; omega
              go_wp2_with fail
              refine wp_region_pure 20 _ _ (List.take_append_drop 20 _).symm rfl (by kernel_rfl) (by kernel_rfl) (by kernel_rfl) ?_
              iterate 20 (first
                | (refine wpPure_yes ?_ (by rfl) ?_ ?_; rotate_left 1; (intro w'; go_simp; with_reducible rfl); conv => arg 5; simp only [Act.put, List.setIfInBounds_toArray, List.set_cons_succ, List.set_cons_zero])
                | (refine wpPure_no (by rfl) ?_; conv => arg 5; simp only [Act.put, List.setIfInBounds_toArray, List.set_cons_succ, List.set_cons_zero]))
              refine wpPure_nil ?_
              go_wp2_with (at_builtin; refine wpList_append_own _ rfl _ _ 46 rfl w.heap.size 4 i0 (.bool false) 1 1 Tryd.underlying46 hi hz0 hz1 hz2 rfl (by decide) _ _ _ rfl (own_belowD HO.out (((Below.refl _ wr).drew).alloc (Nat.le_refl _) _)) ⟨wr.heap.size, 0, none⟩ 1 1 [.bool true] rfl rfl (cell_one_new wr.drew _ _) (by simp [Value.oneCell']) (by unfold maxLen; omega) (by omega) (by have := hb.size; simp; omega) ?_; intro v' w1 hown' hgrow _; obtain ⟨g', cap', rfl⟩ := ownsRow_succ hown')
              rw [show Value.bool true = .bool (dif s.data.toList t.data.toList k) by rw [hv], ← tru_succ (dif s.data.toList t.data.toList)] at hown'
              have HO1 := Lib.hid hown'
              have hb1 := (hb.drew.alloc hb.size (.cells #[.bool true] 4)).grown hgrow (by have := hb.size; simp; omega) (fun q e => (HO.out.lt q e).1)
              clear hown' hgrow HO hi hz0 hz1 hz2 hv
              refine noPan_of ?_
              go_wp2
              go_roundg (M - (k + 1))
              case measure => omega
              case rel => exact ⟨k + 1, g', cap', rfl, by omega, rfl, by go_num, HO1, hb1⟩
            · have hv := dif_in (s := s) (t := t) (k := k) (by omega) (by omega)
              have k1 : k < s.size := by omega
              have k2 : k < t.size := by omega
              have es1 : decide ((s.size : Int) ≤ (k : Int)) = false := by simp; omega
              have es2 : decide (s.size ≤ k) = false := by simp; omega
              have et1 : decide ((t.size : Int) ≤ (k : Int)) = false := by simp; omega
              have et2 : decide (t.size ≤ k) = false := by simp; omega
              by_cases ce : s[k] = t[k]
              · rw [ce] at hv
                simp only [bne_self_eq_false] at hv
                go_wp2_with fail
                refine wp_region_pure 20 _ _ (List.take_append_drop 20 _).symm rfl (by kernel_rfl) (by kernel_rfl) (by kernel_rfl) ?_
                iterate 20 (first
                  | (refine wpPure_yes ?_ (by rfl) ?_ ?_; rotate_left 1; (intro w'; go_simp; with_reducible rfl); conv => arg 5; simp only [Act.put, List.setIfInBounds_toArray, List.set_cons_succ, List.set_cons_zero])
                  | (refine wpPure_no (by rfl) ?_; conv => arg 5; simp only [Act.put, List.setIfInBounds_toArray, List.set_cons_succ, List.set_cons_zero]))
                refine wpPure_nil ?_
                go_wp2_with (at_builtin; refine wpList_append_own _ rfl _ _ 46 rfl w.heap.size 4 i0 (.bool false) 1 1 Tryd.underlying46 hi hz0 hz1 hz2 rfl (by decide) _ _ _ rfl (own_belowD HO.out (((Below.refl _ wr).drew).alloc (Nat.le_refl _) _)) ⟨wr.heap.size, 0, none⟩ 1 1 [.bool false] rfl rfl (cell_one_new wr.drew _ _) (by simp [Value.oneCell']) (by unfold maxLen; omega) (by omega) (by have := hb.size; simp; omega) ?_; intro v' w1 hown' hgrow _; obtain ⟨g', cap', rfl⟩ := ownsRow_succ hown')
                rw [show Value.bool false = .bool (dif s.data.toList t.data.toList k) by rw [hv], ← tru_succ (dif s.data.toList t.data.toList)] at hown'
                have HO1 := Lib.hid hown'
                have hb1 := (hb.drew.alloc hb.size (.cells #[.bool false] 4)).grown hgrow (by have := hb.size; simp; omega) (fun q e => (HO.out.lt q e).1)
                clear hown' hgrow HO hi hz0 hz1 hz2 hv
                refine noPan_of ?_
                go_wp2
                go_roundg (M - (k + 1))
                case measure => omega
                case rel => exact ⟨k + 1, g', cap', rfl, by omega, rfl, by go_num, HO1, hb1⟩
              · have hn : ¬ (s[k].toNat = t[k].toNat) := fun e => ce (UInt8.toNat_inj.1 e)
                have hn1 : ((s[k].toNat : Int) != (t[k].toNat : Int)) = true := by simp; omega
                have hn2 : ((s[k].toNat : Int) == (t[k].toNat : Int)) = false := by simp; omega
                rw [show (s[k] != t[k]) = true by simp [ce]] at hv
                go_wp2_with fail
                refine wp_region_pure 20 _ _ (List.take_append_drop 20 _).symm rfl (by kernel_rfl) (by kernel_rfl) (by kernel_rfl) ?_
                iterate 20 (first
                  | (refine wpPure_yes ?_ (by rfl) ?_ ?_; rotate_left 1; (intro w'; go_simp; with_reducible rfl); conv => arg 5; simp only [Act.put, List.setIfInBounds_toArray, List.set_cons_succ, List.set_cons_zero])
                  | (refine wpPure_no (by rfl) ?_; conv => arg 5; simp only [Act.put, List.setIfInBounds_toArray, List.set_cons_succ, List.set_cons_zero]))
                refine wpPure_nil ?_
                go_wp2_with (at_builtin; refine wpList_append_own _ rfl _ _ 46 rfl w.heap.size 4 i0 (.bool false) 1 1 Tryd.underlying46 hi hz0 hz1 hz2 rfl (by decide) _ _ _ rfl (own_belowD HO.out (((Below.refl _ wr).drew).alloc (Nat.le_refl _) _)) ⟨wr.heap.size, 0, none⟩ 1 1 [.bool true] rfl rfl (cell_one_new wr.drew _ _) (by simp [Value.oneCell']) (by unfold maxLen; omega) (by omega) (by have := hb.size; simp; omega) ?_; intro v' w1 hown' hgrow _; obtain ⟨g', cap', rfl⟩ := ownsRow_succ hown')
                rw [show Value.bool true = .bool (dif s.data.toList t.data.toList k) by rw [hv], ← tru_succ (dif s.data.toList t.data.toList)] at hown'
                have HO1 := Lib.hid hown'
                have hb1 := (hb.drew.alloc hb.size (.cells #[.bool true] 4)).grown hgrow (by have := hb.size; simp; omega) (fun q e => (HO.out.lt q e).1)
                clear hown' hgrow HO hi hz0 hz1 hz2 hv
                refine noPan_of ?_
                go_wp2
                go_roundg (M - (k + 1))
                case measure => omega
                case rel => exact ⟨k + 1, g', cap', rfl, by omega, rfl, by go_num, HO1, hb1⟩
        · obtain rfl : k = M := by omega
          go_wp2_with fail
          refine (HM.out _).mono ?_; rintro e w3 ⟨rfl, rfl⟩
          have hr : RowB wr g k (dif s.data.toList t.data.toList) := fun i hi' => ⟨by rw [HO.out.cellAt _ (by omega)]; unfold tru; rw [List.getElem?_map, List.getElem?_range hi']; rfl, HO.out.frozenAt _⟩
          have HC := Lib.hid (l1OfN_own g cap k m3 (dif s.data.toList t.data.toList) wr hr)
          clear hr HO hi hz0 hz1 hz2
          go_wp2_with fail
          refine HC.out.mono ?_; rintro e w4 hr4
          obtain ⟨g4, cap4, rfl, hg4, ho4, hb4⟩ := rgsO_base hr4 hb
          go_wp2
          go_ret
          exact ⟨g4, cap4, rfl, hg4, ho4, hb4⟩
    · replace h2 : tokB t.data.toList = false := by simpa using h2
      have hL : dfL s.data.toList t.data.toList = [] := if_neg (fun c => by rw [h2] at c; exact absurd c.2 (by simp))
      rw [hL]
      rw [h1] at H1
      rw [h2] at H2
      clear hL h1 h2
      go_enter Tryd.func8, Tryd.ntmps8
      go_wp2_with fail
      refine (H1.out _).mono ?_; rintro e w1 ⟨rfl, rfl⟩
      go_wp2_with fail
      refine (H2.out _).mono ?_; rintro e w1 ⟨rfl, rfl⟩
      go_wp2
      go_ret
      exact rgsO_nil (Below.refl _ _)
  · replace h1 : tokB s.data.toList = false := by simpa using h1
    have hL : dfL s.data.toList t.data.toList = [] := if_neg (fun c => by rw [h1] at c; exact absurd c.1 (by simp))
    rw [hL]
    rw [h1] at H1
    clear hL h1
    go_enter Tryd.func8, Tryd.ntmps8
    go_wp2_with fail
    refine (H1.out _).mono ?_; rintro e w1 ⟨rfl, rfl⟩
    go_wp2
    go_ret
    exact rgsO_nil (Below.refl _ _)

end Go.Proofs.YtaeolgbgcchaeaaDoor
