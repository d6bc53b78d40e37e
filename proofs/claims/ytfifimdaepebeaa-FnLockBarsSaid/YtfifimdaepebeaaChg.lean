/-
  One function of chapter 4's ordered list: everywhere, split, change; the modes' atLeast and atMost.
  change: the value of an ordered list changed in a range, by a function value.
-/
import Derived.Test.YtfifimdaepebeaaInsert
import Derived.Test.YtfifimdaepebeaaMeetI
import Derived.Deep.DeepCutAuto
import Derived.Deep.LoopGhost
import Derived.Deep.RegionHeld3
namespace Go.Proofs.Ytfifimdaepebeaa
open Go.RowKit

set_option maxHeartbeats 400000 in
theorem atLeast_any (m x : Int) (w : World) :
    Calls Try.prog 45 #[.int .i64 m, .int .i64 x] w fun e w' => e = .returned (.int .i64 (mx x m)) ∧ w = w' := by
  go_enter Try.func45, Try.ntmps45
  go_wp2
  go_ret
  exact ⟨ret_int (by unfold mx; split <;> omega), rfl⟩

set_option maxHeartbeats 400000 in
theorem atMost_any (m x : Int) (w : World) :
    Calls Try.prog 67 #[.int .i64 m, .int .i64 x] w fun e w' => e = .returned (.int .i64 (mn x m)) ∧ w = w' := by
  go_enter Try.func67, Try.ntmps67
  go_wp2
  go_ret
  exact ⟨ret_int (by unfold mn; split <;> omega), rfl⟩

theorem everywhere_any (v : Int) (w : World) :
    Calls Try.prog 96 #[.int .i64 v] w fun e w' => e = .returned (.slice (some ⟨w.heap.size, 0, none⟩) 1 1) ∧ w' = w.alloc (.cells #[.int .i64 0, .int .i64 48, .int .i64 v] 101) := by
  go_enter Try.func96, Try.ntmps96
  go_wp2
  go_ret
  exact ⟨rfl, rfl⟩

theorem own_every (v : Int) (w : World) : OwnAt (w.alloc (.cells #[.int .i64 0, .int .i64 48, .int .i64 v] 101)) w.heap.size 1 [(0, 48, v)] :=
  ⟨_, heap_new _ _, Nat.le_refl _, by unfold maxLen; decide, rfl, rfl⟩

theorem splR_no {p : Int} : ∀ {R : List RunT}, (∀ r ∈ R, strB p r = false) → splR p R = R
  | [], _ => rfl
  | r :: rs, h => by
    unfold splR
    rw [if_neg (by rw [h r (by simp)]; simp), splR_no (fun q hq => h q (by simp [hq]))]
theorem splR_yes {p : Int} : ∀ {R : List RunT} {k : Nat}, k < R.length → (∀ i, i < k → strB p (R.getD i r0) = false) → strB p (R.getD k r0) = true →
    splR p R = insL (R.set k ((R.getD k r0).1, p, (R.getD k r0).2.2)) (k + 1) (p, (R.getD k r0).2.1, (R.getD k r0).2.2)
  | r :: rs, 0, _, _, hy => by
    have hy' : strB p r = true := hy
    unfold splR
    rw [if_pos hy']
    simp [insL]
  | r :: rs, k + 1, hk, hn, hy => by
    have h0 : strB p r = false := hn 0 (by omega)
    unfold splR
    rw [if_neg (by rw [h0]; simp), splR_yes (R := rs) (k := k) (by simpa using hk) (fun i hi => hn (i + 1) (by omega)) hy]
    simp [insL]
theorem getD_all {p : Int} {R : List RunT} (h : ∀ i, i < R.length → strB p (R.getD i r0) = false) : ∀ r ∈ R, strB p r = false := fun r hr => by
  obtain ⟨i, hi, e⟩ := List.getElem_of_mem hr
  have := h i hi
  rw [List.getD_eq_getElem?_getD, List.getElem?_eq_getElem hi, Option.getD_some, e] at this
  exact this

theorem flat3_set1 : ∀ (R : List RunT) (i : Nat) (y : Int), i < R.length → (flat3 R).set (i * 3 + 1) (.int .i64 y) = flat3 (R.set i ((R.getD i r0).1, y, (R.getD i r0).2.2))
  | r :: rs, 0, y, _ => rfl
  | r :: rs, i + 1, y, h => by
    have := flat3_set1 rs i y (by simpa using h)
    rw [show (i + 1) * 3 + 1 = i * 3 + 1 + 1 + 1 + 1 by omega]
    simp only [flat3, List.set_cons_succ, List.getD_cons_succ]
    rw [this]
theorem flat3_set2 : ∀ (R : List RunT) (i : Nat) (y : Int), i < R.length → (flat3 R).set (i * 3 + 2) (.int .i64 y) = flat3 (R.set i ((R.getD i r0).1, (R.getD i r0).2.1, y))
  | r :: rs, 0, y, _ => rfl
  | r :: rs, i + 1, y, h => by
    have := flat3_set2 rs i y (by simpa using h)
    rw [show (i + 1) * 3 + 2 = i * 3 + 2 + 1 + 1 + 1 by omega]
    simp only [flat3, List.set_cons_succ, List.getD_cons_succ]
    rw [this]

theorem OwnAt.put {w : World} {g cap o : Nat} {R R' : List RunT} {v : Value} (h : OwnAt w g cap R) (_ : o < R.length * 3) (hlen : R'.length = R.length) (hf : (flat3 R).set o v = flat3 R') : OwnAt (w.setCell ⟨g, o, none⟩ v) g cap R' := by
  obtain ⟨cur, h1, h2, h3, h4, h5⟩ := h
  refine ⟨cur.setIfInBounds o v, ?_, by rw [hlen]; exact h2, h3, by simpa using h4, ?_⟩
  · rw [setCell_eq_setRow w g o cur _ (0, 0) v h1]
    exact setRow_at w g cur _ _ _ h1
  · rw [hlen, Array.toList_setIfInBounds, ← hf, ← h5, List.take_set]
theorem OwnAt.put1 {w : World} {g cap i : Nat} {R : List RunT} {y : Int} (h : OwnAt w g cap R) (hi : i < R.length) : OwnAt (w.setCell ⟨g, i * 3 + 1, none⟩ (.int .i64 y)) g cap (R.set i ((R.getD i r0).1, y, (R.getD i r0).2.2)) :=
  h.put (by omega) (by simp) (flat3_set1 R i y hi)
theorem OwnAt.put2 {w : World} {g cap i : Nat} {R : List RunT} {y : Int} (h : OwnAt w g cap R) (hi : i < R.length) : OwnAt (w.setCell ⟨g, i * 3 + 2, none⟩ (.int .i64 y)) g cap (R.set i ((R.getD i r0).1, (R.getD i r0).2.1, y)) :=
  h.put (by omega) (by simp) (flat3_set2 R i y hi)
theorem grownC_set {a w : World} {g o : Nat} {v : Value} (h : a.grownBy w (some g)) : a.grownBy (w.setCell ⟨g, o, none⟩ v) (some g) :=
  ⟨h.os, h.tape, h.output, by simpa [World.setCell] using h.size, fun i hi hne => by
    have hn : i ≠ g := fun e => hne (by rw [e])
    exact (Below.heap_setCell w _ v i hn).trans (h.block i hi hne)⟩
theorem grownC_alloc {a w : World} {row : Option Nat} {o : Obj} (h : a.grownBy w row) : a.grownBy (w.alloc o) row :=
  ⟨h.os, h.tape, h.output, Nat.le_trans h.size (by simp), fun i hi hne => (Below.heap_alloc w o i (Nat.lt_of_lt_of_le hi h.size)).trans (h.block i hi hne)⟩
theorem grown_of_below {a w : World} {row : Option Nat} (h : Below a.heap.size a w) : a.grownBy w row := ⟨h.os, h.tape, h.output, h.size, fun k hk _ => h.block k hk⟩
theorem grownC_trans {a b c : World} {row : Option Nat} (h : a.grownBy b row) (k : b.grownBy c row) : a.grownBy c row :=
  ⟨k.os.trans h.os, k.tape.trans h.tape, k.output.trans h.output, Nat.le_trans h.size k.size, fun i hi hne => (k.block i (Nat.lt_of_lt_of_le hi h.size) hne).trans (h.block i hi hne)⟩
theorem OwnAt.alloc {w : World} {g cap : Nat} {R : List RunT} {o : Obj} (h : OwnAt w g cap R) : OwnAt (w.alloc o) g cap R := h.block (Below.heap_alloc w o g h.lt)

theorem InsAt.from {a w : World} {g : Nat} {R : List RunT} {e : Ending} {w' : World} (h : InsAt w g R e w') (hg : a.grownBy w (some g)) : InsAt a g R e w' := by
  obtain ⟨g', cap', he, ho, hgr, hn⟩ := h
  exact ⟨g', cap', he, ho, grownC_trans hg hgr, hn.imp id fun h => Nat.le_trans hg.size h⟩

set_option maxHeartbeats 1000000 in
theorem split_any (g cap : Nat) (R : List RunT) (p : Int) (w : World) (h : OwnAt w g cap R) (hl : R.length ≤ 900) :
    Calls Try.prog 93 #[.slice (some ⟨g, 0, none⟩) R.length cap, .int .i64 p] w (InsAt w g (splR p R)) := by
  obtain ⟨hc1, hc2⟩ := h.cap
  have hgw := h.lt
  have HO := Lib.hid h
  clear h
  go_enter Try.func93, Try.ntmps93
  go_wp2
  go_loopg [9] R.length (fun q s9 wr => ∃ k : Nat, q = R.length - k ∧ k ≤ R.length ∧ s9 = .int .i64 k ∧ Hid (∀ i, i < k → strB p (R.getD i r0) = false) ∧ Below w.heap.size w wr)
  case atStart => exact ⟨0, rfl, Nat.zero_le _, rfl, Lib.hid (fun i hi => absurd hi (by omega)), Below.refl _ _⟩
  case round =>
    obtain ⟨k, rfl, hk, rfl, HN, hb⟩ := hrel
    by_cases hlt : k < R.length
    · have hO := HO.out.keep hb
      obtain ⟨c1, c2, c3⟩ := hO.cells hlt
      have f2 := hO.free (k * 3 + 1)
      have hlw := hO.lt
      have HO1 := Lib.hid hO
      have HY := Lib.hid (fun hy => splR_yes (p := p) hlt HN.out hy)
      have HP := Lib.hid (fun y : Int => HO1.out.put1 (y := y) hlt)
      have hsb := hb.size
      clear hO
      generalize hr : R.getD k r0 = r at *
      obtain ⟨lo, hi, v⟩ := r
      have HE := Lib.hid hr
      simp only at c1 c2 c3
      clear hr
      by_cases h1 : lo < p
      · by_cases h2 : p < hi
        · have e := HY.out (strB_iff.2 ⟨h1, h2⟩)
          have hnb : (((wr.setCell ⟨g, k * 3 + 1, none⟩ (.int .i64 p)).alloc (.cells #[.int .i64 p, .int .i64 hi, .int .i64 v] 101)).alloc (.cells #[.int .i64 p, .int .i64 hi, .int .i64 v] 101)).heap[wr.heap.size + 1]? = some (.cells #[.int .i64 p, .int .i64 hi, .int .i64 v] 101 (0, 0)) := by
            have := heap_new ((wr.setCell ⟨g, k * 3 + 1, none⟩ (.int .i64 p)).alloc (.cells #[.int .i64 p, .int .i64 hi, .int .i64 v] 101)) (.cells #[.int .i64 p, .int .i64 hi, .int .i64 v] 101)
            simpa using this
          have hpp := ((HP.out p).alloc (o := .cells #[.int .i64 p, .int .i64 hi, .int .i64 v] 101)).alloc (o := .cells #[.int .i64 p, .int .i64 hi, .int .i64 v] 101)
          have KK := insert_any g cap (wr.heap.size + 1) 1 (k + 1) _ (p, hi, v) _ hpp (by omega) (by rw [List.length_set]; omega) (by rw [List.length_set]; omega) hnb (by omega)
          rw [List.length_set, ← e, show ((k + 1 : Nat) : Int) = (k : Int) + 1 by omega] at KK
          have KK := Lib.hid KK
          have HG : Hid (w.grownBy (((wr.setCell ⟨g, k * 3 + 1, none⟩ (.int .i64 p)).alloc (.cells #[.int .i64 p, .int .i64 hi, .int .i64 v] 101)).alloc (.cells #[.int .i64 p, .int .i64 hi, .int .i64 v] 101)) (some g)) := grownC_alloc (grownC_alloc (grownC_set (grown_of_below hb)))
          clear e hnb hpp
          go_wp2_with fail
          refine KK.out.mono ?_; rintro e w1 hi1
          obtain ⟨g', cap', rfl, ho', hg', hn'⟩ := hi1.from HG.out
          go_wp2
          go_ret
          exact ⟨g', cap', rfl, ho', hg', hn'⟩
        · have HN2 : Hid (∀ i, i < k + 1 → strB p (R.getD i r0) = false) := fun i hi' => by
            by_cases e : i = k
            · subst e; rw [HE.out]; exact strB_no.2 (by show ¬ (lo < p ∧ p < hi); omega)
            · exact HN.out i (by omega)
          go_wp2
          go_roundg (R.length - (k + 1))
          case measure => omega
          case rel => exact ⟨k + 1, rfl, by omega, by go_num, HN2, hb.alloc hsb _⟩
      · have HN2 : Hid (∀ i, i < k + 1 → strB p (R.getD i r0) = false) := fun i hi' => by
          by_cases e : i = k
          · subst e; rw [HE.out]; exact strB_no.2 (by show ¬ (lo < p ∧ p < hi); omega)
          · exact HN.out i (by omega)
        go_wp2
        go_roundg (R.length - (k + 1))
        case measure => omega
        case rel => exact ⟨k + 1, rfl, by omega, by go_num, HN2, hb.alloc hsb _⟩
    · have hE : Hid (splR p R = R) := splR_no (getD_all fun i hi => HN.out i (by omega))
      have hO := Lib.hid (HO.out.keep hb)
      go_wp2
      go_ret
      rw [hE.out]
      exact ⟨g, cap, rfl, hO.out, grown_of_below hb, .inl rfl⟩

end Go.Proofs.Ytfifimdaepebeaa

namespace Go.Proofs.Ytfifimdaepebeaa
open Go.RowKit

theorem cell_grown {a b : World} {g B o : Nat} {v : Value} (h : a.grownBy b (some g)) (hne : g ≠ B) (hc : a.cell? ⟨B, o, none⟩ = some v) : b.cell? ⟨B, o, none⟩ = some v := by
  have hlt := World.block_lt_of_cell? a _ hc
  have hb : b.heap[B]? = a.heap[B]? := h.block B hlt (fun e => hne (by injection e with e; exact e.symm))
  exact (World.cell?_of_block (a := ⟨B, o, none⟩) hb).trans hc

/-- The first k runs changed. -/
def mapK (c : RunT → RunT) (k : Nat) (R : List RunT) : List RunT := (R.take k).map c ++ R.drop k
theorem mapK_len {c : RunT → RunT} {k : Nat} {R : List RunT} : (mapK c k R).length = R.length := by unfold mapK; simp; omega
theorem mapK_at {c : RunT → RunT} {k : Nat} {R : List RunT} (h : k < R.length) : (mapK c k R).getD k r0 = R.getD k r0 := by
  unfold mapK
  rw [List.getD_eq_getElem?_getD, List.getElem?_append_right (by simp; omega), List.getD_eq_getElem?_getD]
  simp [Nat.min_eq_left (Nat.le_of_lt h)]
theorem mapK_succ {c : RunT → RunT} {k : Nat} {R : List RunT} (h : k < R.length) : mapK c (k + 1) R = (mapK c k R).set k (c (R.getD k r0)) := by
  have hg : R.getD k r0 = R[k] := by rw [List.getD_eq_getElem?_getD, List.getElem?_eq_getElem h]; rfl
  unfold mapK
  rw [List.set_append_right _ _ (by simp; omega), List.take_add_one, List.getElem?_eq_getElem h, hg]
  simp only [Option.toList_some, List.map_append, List.map_cons, List.map_nil, List.length_map, List.length_take, Nat.min_eq_left (Nat.le_of_lt h), Nat.sub_self]
  rw [List.drop_eq_getElem_cons h, List.set_cons_zero, List.append_assoc]
  rfl
theorem mapK_same {c : RunT → RunT} {k : Nat} {R : List RunT} (h : k < R.length) (e : c (R.getD k r0) = R.getD k r0) : mapK c (k + 1) R = mapK c k R := by
  rw [mapK_succ h, e]
  apply List.ext_getElem?
  intro j
  rw [List.getElem?_set]
  split
  · rename_i hj
    subst hj
    rw [mapK_len, if_pos h]
    have hk : k < (mapK c k R).length := by rw [mapK_len]; exact h
    have := mapK_at (c := c) h
    rw [List.getD_eq_getElem?_getD, List.getElem?_eq_getElem hk, Option.getD_some] at this
    rw [List.getElem?_eq_getElem hk, this]
  · rfl
theorem mapK_all {c : RunT → RunT} {R : List RunT} : mapK c R.length R = R.map c := by unfold mapK; simp
theorem mapK_zero {c : RunT → RunT} {R : List RunT} : mapK c 0 R = R := by unfold mapK; simp

theorem InsAt.then {w w1 : World} {g g1 : Nat} {R : List RunT} {e : Ending} {w' : World} (hg : w.grownBy w1 (some g)) (hn : g1 = g ∨ w.heap.size ≤ g1) (h : InsAt w1 g1 R e w') : InsAt w g R e w' := by
  obtain ⟨g', cap', he, ho, hgr, hn'⟩ := h
  refine ⟨g', cap', he, ho, ⟨hgr.os.trans hg.os, hgr.tape.trans hg.tape, hgr.output.trans hg.output, Nat.le_trans hg.size hgr.size, fun i hi hne => ?_⟩, ?_⟩
  · refine (hgr.block i (Nat.lt_of_lt_of_le hi hg.size) (fun e => ?_)).trans (hg.block i hi hne)
    injection e with e
    rcases hn with hn | hn
    · exact hne (by rw [e, hn])
    · omega
  · rcases hn' with hn' | hn'
    · rw [hn']; exact hn
    · exact .inr (Nat.le_trans hg.size hn')

theorem grown_and {w w1 w2 : World} {g g1 : Nat} (hg : w.grownBy w1 (some g)) (hn : g1 = g ∨ w.heap.size ≤ g1) (h : w1.grownBy w2 (some g1)) : w.grownBy w2 (some g) :=
  ⟨h.os.trans hg.os, h.tape.trans hg.tape, h.output.trans hg.output, Nat.le_trans hg.size h.size, fun i hi hne => by
    refine (h.block i (Nat.lt_of_lt_of_le hi hg.size) (fun e => ?_)).trans (hg.block i hi hne)
    injection e with e
    rcases hn with hn | hn
    · exact hne (by rw [e, hn])
    · omega⟩

theorem splR_len (p : Int) : ∀ R : List RunT, (splR p R).length ≤ R.length + 1
  | [] => by simp [splR]
  | r :: rs => by
    unfold splR
    split
    · simp
    · simp only [List.length_cons]; have := splR_len p rs; omega

set_option maxRecDepth 100000 in
set_option maxHeartbeats 2000000 in
theorem change_any (K : FuncId) (gf : Int → Int) (m : Int) (hcf : ∀ (a b : Value) (W : World), (callFunc K #[a, b]).run Try.prog W = .ok (.enter K #[a, b]) W)
    (hf : ∀ (x : Int) (W : World), Calls Try.prog K #[.int .i64 m, .int .i64 x] W fun e w' => e = .returned (.int .i64 (gf x)) ∧ W = w')
    (g cap : Nat) (R : List RunT) (lo hi : Int) (w : World) (h : OwnAt w g cap R) (hl : R.length ≤ 800) :
    Calls Try.prog 79 #[.slice (some ⟨g, 0, none⟩) R.length cap, .agg #[.int .i64 lo, .int .i64 hi], .func (.func K) #[.int .i64 m] #[]] w (InsAt w g (chR lo hi gf R)) := by
  have hgw := h.lt
  have HW : Hid (OwnAt (w.alloc (.cells #[.int .i64 lo, .int .i64 hi] 25)).drew g cap R) := (h.alloc (o := .cells #[.int .i64 lo, .int .i64 hi] 25)).block rfl
  have HW0 : Hid (w.grownBy (w.alloc (.cells #[.int .i64 lo, .int .i64 hi] 25)).drew (some g)) := by
    have := grownC_alloc (o := .cells #[.int .i64 lo, .int .i64 hi] 25) (grown_of_below (row := some g) (Below.refl w.heap.size w))
    exact ⟨this.os, this.tape, this.output, this.size, this.block⟩
  have L1 := splR_len lo R
  have L2 := splR_len hi (splR lo R)
  have HF := Lib.hid hf
  have hbox := new_box w lo hi 25
  obtain ⟨x1, x2, -, -⟩ := id hbox
  have y1 : (w.alloc (.cells #[.int .i64 lo, .int .i64 hi] 25)).drew.cell? ⟨w.heap.size, 0, none⟩ = some (.int .i64 lo) := x1
  have y2 : (w.alloc (.cells #[.int .i64 lo, .int .i64 hi] 25)).drew.cell? ⟨w.heap.size, 1, none⟩ = some (.int .i64 hi) := x2
  have HSZ : Hid ((w.alloc (.cells #[.int .i64 lo, .int .i64 hi] 25)).drew.heap.size = w.heap.size + 1) := by show (w.alloc _).heap.size = _; simp
  have HR : Hid (chR lo hi gf R = (splR hi (splR lo R)).map (chgR lo hi gf)) := rfl
  clear h hf hbox
  go_enter Try.func79, Try.ntmps79
  go_wp2_with fail
  go_region_held3 (fun w' => w'.cell? ⟨w.heap.size, 0, none⟩ = some (.int .i64 lo) ∧ w'.cell? ⟨w.heap.size, 1, none⟩ = some (.int .i64 hi))
    (first | with_reducible exact ⟨y1, y2⟩ | with_reducible exact ⟨z1, z2⟩ | with_reducible exact ⟨v1, v2⟩)
    (first
      | (go_at_call 93; have _t := tok2; (with_reducible refine (split_any g1 cap1 (splR lo R) hi w1 HO1.out (by omega)).mono ?_); rintro e w2 ⟨g2, cap2, rfl, ho2, hg2, hn2⟩; have HO2 := Lib.hid ho2; have HG2 := Lib.hid (grown_and HG1.out hn1 hg2); have v1 := cell_grown hg2 hd1 z1; have v2 := cell_grown hg2 hd1 z2)
      | (go_at_call 93; refine (split_any g cap R lo _ HW.out (by omega)).mono ?_; rintro e w1 ⟨g1, cap1, rfl, ho1, hg1, hn1'⟩; have HO1 := Lib.hid ho1; have HG1 := Lib.hid (grownC_trans HW0.out hg1); have hn1 : g1 = g ∨ w.heap.size ≤ g1 := (by have := HSZ.out; omega); have hd1 : g1 ≠ w.heap.size := (by have := HSZ.out; omega); have hs1 := hg1.size; have z1 := cell_grown hg1 (by omega) y1; have z2 := cell_grown hg1 (by omega) y2; have tok2 : True := trivial))
  have hd2 : g2 ≠ w.heap.size := by
    have := HG1.out.size
    have h3 := HSZ.out
    rcases hn2 with e | e
    · rw [e]; exact hd1
    · have := hs1; omega
  have hn : g2 = g ∨ w.heap.size ≤ g2 := by
    rcases hn2 with e | e
    · rw [e]; exact hn1
    · have := HG1.out.size; exact .inr (by omega)
  clear y1 y2 z1 z2 hs1 hn1 hn2 hd1 ho1 hg1 ho2 hg2 HO1 HG1 HW HW0 x1 x2 HSZ hn1'
  generalize splR hi (splR lo R) = R2 at *
  have hl2 : R2.length ≤ 802 := by omega
  have V1 := Lib.hid v1
  have V2 := Lib.hid v2
  have HM0 : Hid (OwnAt w2 g2 cap2 (mapK (chgR lo hi gf) 0 R2)) := by show OwnAt _ _ _ _; rw [mapK_zero]; exact HO2.out
  clear v1 v2 L1 L2
  go_wp2_with fail
  go_loopg [18] R2.length (fun q s18 wr => ∃ k : Nat, q = R2.length - k ∧ k ≤ R2.length ∧ s18 = .int .i64 k ∧ Hid (OwnAt wr g2 cap2 (mapK (chgR lo hi gf) k R2)) ∧ Hid (w2.grownBy wr (some g2)))
  case atStart => exact ⟨0, rfl, Nat.zero_le _, rfl, HM0, Lib.hid (grown_of_below (Below.refl _ _))⟩
  case round =>
    obtain ⟨k, rfl, hk, rfl, HM, HGk⟩ := hrel
    by_cases hlt : k < R2.length
    · have hgk := HM.out.lt
      have hml : k < (mapK (chgR lo hi gf) k R2).length := by rw [mapK_len]; exact hlt
      obtain ⟨c1, c2, c3⟩ := HM.out.cells hml
      have f2 := HM.out.free (k * 3 + 2)
      rw [mapK_at hlt] at c1 c2 c3
      have hc1 := HM.out.cap.1
      have hc2 := HM.out.cap.2
      rw [mapK_len] at hc1
      have u1 := cell_grown HGk.out hd2 V1.out
      have u2 := cell_grown HGk.out hd2 V2.out
      have HP := Lib.hid (fun (W : World) (hO : OwnAt W g2 cap2 (mapK (chgR lo hi gf) k R2)) (y : Int) => hO.put2 (y := y) hml)
      have HA := Lib.hid (mapK_at (c := chgR lo hi gf) hlt)
      have HSu := Lib.hid (mapK_succ (c := chgR lo hi gf) hlt)
      have HSa := Lib.hid (mapK_same (c := chgR lo hi gf) hlt)
      clear hml
      generalize R2.getD k r0 = r at *
      obtain ⟨rl, rh, rv⟩ := r
      simp only at c1 c2 c3
      have hal : Below wr.heap.size wr (wr.alloc (.cells #[.int .i64 rl, .int .i64 rh, .int .i64 rv] 101)) := (Below.refl _ _).alloc (Nat.le_refl _) _
      have hbw := World.block_lt_of_cell? wr _ u1
      have K1 := Lib.hid (fun W => meetI_any rl rh lo hi W)
      have K2 := Lib.hid (fun W => implSpanOk_any (mx rl lo) (mn rh hi) W)
      by_cases hm : spanOkB (mx rl lo) (mn rh hi) = true
      · have HC : Hid (chgR lo hi gf (rl, rh, rv) = (rl, rh, gf rv)) := if_pos hm
        rw [hm] at K2
        go_wp2_with fail
        refine (K1.out _).mono ?_; rintro e w3 ⟨rfl, hb3⟩
        have e3 := hal.trans (hb3.mono hal.size)
        have b1 := cell_keep hb3 (show (wr.alloc (.cells #[.int .i64 rl, .int .i64 rh, .int .i64 rv] 101)).cell? ⟨wr.heap.size, 2, none⟩ = some (.int .i64 rv) by go_simp)
        go_wp2_with fail
        refine (K2.out _).mono ?_; rintro e w4 ⟨rfl, hb4⟩
        have e4 := e3.trans (hb4.mono e3.size)
        have b2 := cell_keep hb4 b1
        have hO4 := HM.out.keep e4
        have f4 := hO4.free (k * 3 + 2)
        obtain ⟨d1, d2, d3⟩ := hO4.cells (show k < (mapK (chgR lo hi gf) k R2).length by rw [mapK_len]; exact hlt)
        rw [HA.out] at d1 d2 d3
        simp only at d1 d2 d3
        have HM4 := Lib.hid (HP.out w4 hO4 (gf rv))
        have HG4 := Lib.hid (grownC_trans HGk.out (grown_of_below (row := some g2) e4))
        have KF := Lib.hid (HF.out rv w4)
        clear b1 hO4 c1 c2 c3 u1 u2 f2
        go_wp2_with fail
        refine KF.out.mono ?_; rintro e w' ⟨rfl, rfl⟩
        go_wp2
        go_roundg (R2.length - (k + 1))
        case measure => omega
        case rel =>
          refine ⟨k + 1, rfl, by omega, by go_num, ?_, Lib.hid (grownC_set HG4.out)⟩
          show OwnAt _ _ _ _
          rw [HSu.out, HC.out]
          have := HM4.out
          rw [HA.out] at this
          exact this
      · have HC : Hid (chgR lo hi gf (rl, rh, rv) = (rl, rh, rv)) := if_neg hm
        replace hm : spanOkB (mx rl lo) (mn rh hi) = false := by simpa using hm
        rw [hm] at K2
        go_wp2_with fail
        refine (K1.out _).mono ?_; rintro e w3 ⟨rfl, hb3⟩
        have e3 := hal.trans (hb3.mono hal.size)
        go_wp2_with fail
        refine (K2.out _).mono ?_; rintro e w4 ⟨rfl, hb4⟩
        have e4 := e3.trans (hb4.mono e3.size)
        have HM4 := Lib.hid (HM.out.keep e4)
        have HG4 := Lib.hid (grownC_trans HGk.out (grown_of_below (row := some g2) e4))
        clear c1 c2 c3 u1 u2 f2
        go_wp2
        go_roundg (R2.length - (k + 1))
        case measure => omega
        case rel =>
          refine ⟨k + 1, rfl, by omega, by go_num, ?_, HG4⟩
          show OwnAt _ _ _ _
          rw [HSa.out HC.out]
          exact HM4.out
    · obtain rfl : k = R2.length := by omega
      have HE : Hid (OwnAt wr g2 cap2 (chR lo hi gf R)) := by
        show OwnAt _ _ _ _
        rw [HR.out, ← mapK_all]; exact HM.out
      have HL : Hid ((chR lo hi gf R).length = R2.length) := by show _ = _; rw [HR.out]; simp
      go_wp2
      go_ret
      exact ⟨g2, cap2, by rw [HL.out]; rfl, HE.out, grown_and HG2.out hn HGk.out, hn⟩

end Go.Proofs.Ytfifimdaepebeaa
