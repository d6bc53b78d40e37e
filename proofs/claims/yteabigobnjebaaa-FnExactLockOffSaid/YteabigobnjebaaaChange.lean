/-
  One function of chapter 4's ordered list: everywhere, split, change; the modes' atLeast and atMost.
-/
import Derived.Test.YteabigobnjebaaaInsert
import Derived.Test.YteabigobnjebaaaMeetI
import Derived.Deep.DeepCutAuto
import Derived.Deep.LoopGhost
namespace Go.Proofs.Yteabigobnjebaaa
open Go.RowKit

set_option maxHeartbeats 400000 in
theorem atLeast_any (m x : Int) (w : World) :
    Calls Try.prog 74 #[.int .i64 m, .int .i64 x] w fun e w' => e = .returned (.int .i64 (mx x m)) ∧ w = w' := by
  go_enter Try.func74, Try.ntmps74
  go_wp2
  go_ret
  exact ⟨ret_int (by unfold mx; split <;> omega), rfl⟩

set_option maxHeartbeats 400000 in
theorem atMost_any (m x : Int) (w : World) :
    Calls Try.prog 76 #[.int .i64 m, .int .i64 x] w fun e w' => e = .returned (.int .i64 (mn x m)) ∧ w = w' := by
  go_enter Try.func76, Try.ntmps76
  go_wp2
  go_ret
  exact ⟨ret_int (by unfold mn; split <;> omega), rfl⟩

theorem everywhere_any (v : Int) (w : World) :
    Calls Try.prog 116 #[.int .i64 v] w fun e w' => e = .returned (.slice (some ⟨w.heap.size, 0, none⟩) 1 1) ∧ w' = w.alloc (.cells #[.int .i64 0, .int .i64 48, .int .i64 v] 126) := by
  go_enter Try.func116, Try.ntmps116
  go_wp2
  go_ret
  exact ⟨rfl, rfl⟩

theorem own_every (v : Int) (w : World) : OwnAt (w.alloc (.cells #[.int .i64 0, .int .i64 48, .int .i64 v] 126)) w.heap.size 1 [(0, 48, v)] :=
  ⟨_, heap_new _ _, Nat.le_refl _, by unfold maxLen; decide, rfl, rfl⟩

theorem splR_no {p : Int} : ∀ {R : List RunT}, (∀ r ∈ R, strB p r = false) → splR p R = R
  | [], _ => rfl
  | r :: rs, h => by
    unfold splR
    rw [if_neg (by rw [h r (by simp)]; simp), splR_no (fun q hq => h q (by simp [hq]))]
theorem splR_yes {p : Int} : ∀ {R : List RunT} {k : Nat}, k < R.length → (∀ i, i < k → strB p (R.getD i r0) = false) → strB p (R.getD k r0) = true →
    splR p R = insL (R.set k ((R.getD k r0).1, p, (R.getD k r0).2.2)) (k + 1) (p, (R.getD k r0).2.1, (R.getD k r0).2.2)
  | r :: rs, 0, _, _, hy => by
    have hy' : strB p r = true := hy
    unfold splR
    rw [if_pos hy']
    simp [insL]
  | r :: rs, k + 1, hk, hn, hy => by
    have h0 : strB p r = false := hn 0 (by omega)
    unfold splR
    rw [if_neg (by rw [h0]; simp), splR_yes (R := rs) (k := k) (by simpa using hk) (fun i hi => hn (i + 1) (by omega)) hy]
    simp [insL]
theorem getD_all {p : Int} {R : List RunT} (h : ∀ i, i < R.length → strB p (R.getD i r0) = false) : ∀ r ∈ R, strB p r = false := fun r hr => by
  obtain ⟨i, hi, e⟩ := List.getElem_of_mem hr
  have := h i hi
  rw [List.getD_eq_getElem?_getD, List.getElem?_eq_getElem hi, Option.getD_some, e] at this
  exact this

theorem flat3_set1 : ∀ (R : List RunT) (i : Nat) (y : Int), i < R.length → (flat3 R).set (i * 3 + 1) (.int .i64 y) = flat3 (R.set i ((R.getD i r0).1, y, (R.getD i r0).2.2))
  | r :: rs, 0, y, _ => rfl
  | r :: rs, i + 1, y, h => by
    have := flat3_set1 rs i y (by simpa using h)
    rw [show (i + 1) * 3 + 1 = i * 3 + 1 + 1 + 1 + 1 by omega]
    simp only [flat3, List.set_cons_succ, List.getD_cons_succ]
    rw [this]
theorem flat3_set2 : ∀ (R : List RunT) (i : Nat) (y : Int), i < R.length → (flat3 R).set (i * 3 + 2) (.int .i64 y) = flat3 (R.set i ((R.getD i r0).1, (R.getD i r0).2.1, y))
  | r :: rs, 0, y, _ => rfl
  | r :: rs, i + 1, y, h => by
    have := flat3_set2 rs i y (by simpa using h)
    rw [show (i + 1) * 3 + 2 = i * 3 + 2 + 1 + 1 + 1 by omega]
    simp only [flat3, List.set_cons_succ, List.getD_cons_succ]
    rw [this]

theorem OwnAt.put {w : World} {g cap o : Nat} {R R' : List RunT} {v : Value} (h : OwnAt w g cap R) (_ : o < R.length * 3) (hlen : R'.length = R.length) (hf : (flat3 R).set o v = flat3 R') : OwnAt (w.setCell ⟨g, o, none⟩ v) g cap R' := by
  obtain ⟨cur, h1, h2, h3, h4, h5⟩ := h
  refine ⟨cur.setIfInBounds o v, ?_, by rw [hlen]; exact h2, h3, by simpa using h4, ?_⟩
  · rw [setCell_eq_setRow w g o cur _ (0, 0) v h1]
    exact setRow_at w g cur _ _ _ h1
  · rw [hlen, Array.toList_setIfInBounds, ← hf, ← h5, List.take_set]
theorem OwnAt.put1 {w : World} {g cap i : Nat} {R : List RunT} {y : Int} (h : OwnAt w g cap R) (hi : i < R.length) : OwnAt (w.setCell ⟨g, i * 3 + 1, none⟩ (.int .i64 y)) g cap (R.set i ((R.getD i r0).1, y, (R.getD i r0).2.2)) :=
  h.put (by omega) (by simp) (flat3_set1 R i y hi)
theorem OwnAt.put2 {w : World} {g cap i : Nat} {R : List RunT} {y : Int} (h : OwnAt w g cap R) (hi : i < R.length) : OwnAt (w.setCell ⟨g, i * 3 + 2, none⟩ (.int .i64 y)) g cap (R.set i ((R.getD i r0).1, (R.getD i r0).2.1, y)) :=
  h.put (by omega) (by simp) (flat3_set2 R i y hi)
theorem grown_set {a w : World} {g o : Nat} {v : Value} (h : a.grownBy w (some g)) : a.grownBy (w.setCell ⟨g, o, none⟩ v) (some g) :=
  ⟨h.os, h.tape, h.output, by simpa [World.setCell] using h.size, fun i hi hne => by
    have hn : i ≠ g := fun e => hne (by rw [e])
    exact (Below.heap_setCell w _ v i hn).trans (h.block i hi hne)⟩
theorem grown_alloc {a w : World} {row : Option Nat} {o : Obj} (h : a.grownBy w row) : a.grownBy (w.alloc o) row :=
  ⟨h.os, h.tape, h.output, Nat.le_trans h.size (by simp), fun i hi hne => (Below.heap_alloc w o i (Nat.lt_of_lt_of_le hi h.size)).trans (h.block i hi hne)⟩
theorem grown_of_below {a w : World} {row : Option Nat} (h : Below a.heap.size a w) : a.grownBy w row := ⟨h.os, h.tape, h.output, h.size, fun k hk _ => h.block k hk⟩
theorem grown_trans {a b c : World} {row : Option Nat} (h : a.grownBy b row) (k : b.grownBy c row) : a.grownBy c row :=
  ⟨k.os.trans h.os, k.tape.trans h.tape, k.output.trans h.output, Nat.le_trans h.size k.size, fun i hi hne => (k.block i (Nat.lt_of_lt_of_le hi h.size) hne).trans (h.block i hi hne)⟩
theorem OwnAt.alloc {w : World} {g cap : Nat} {R : List RunT} {o : Obj} (h : OwnAt w g cap R) : OwnAt (w.alloc o) g cap R := h.block (Below.heap_alloc w o g h.lt)

theorem InsAt.from {a w : World} {g : Nat} {R : List RunT} {e : Ending} {w' : World} (h : InsAt w g R e w') (hg : a.grownBy w (some g)) : InsAt a g R e w' := by
  obtain ⟨g', cap', he, ho, hgr, hn⟩ := h
  exact ⟨g', cap', he, ho, grown_trans hg hgr, hn.imp id fun h => Nat.le_trans hg.size h⟩

set_option maxHeartbeats 1000000 in
theorem split_any (g cap : Nat) (R : List RunT) (p : Int) (w : World) (h : OwnAt w g cap R) (hl : R.length ≤ 900) :
    Calls Try.prog 120 #[.slice (some ⟨g, 0, none⟩) R.length cap, .int .i64 p] w (InsAt w g (splR p R)) := by
  obtain ⟨hc1, hc2⟩ := h.cap
  have hgw := h.lt
  have HO := Lib.hid h
  clear h
  go_enter Try.func120, Try.ntmps120
  go_wp2
  go_loopg [9] R.length (fun q s9 wr => ∃ k : Nat, q = R.length - k ∧ k ≤ R.length ∧ s9 = .int .i64 k ∧ Hid (∀ i, i < k → strB p (R.getD i r0) = false) ∧ Below w.heap.size w wr)
  case atStart => exact ⟨0, rfl, Nat.zero_le _, rfl, Lib.hid (fun i hi => absurd hi (by omega)), Below.refl _ _⟩
  case round =>
    obtain ⟨k, rfl, hk, rfl, HN, hb⟩ := hrel
    by_cases hlt : k < R.length
    · have hO := HO.out.keep hb
      obtain ⟨c1, c2, c3⟩ := hO.cells hlt
      have f2 := hO.free (k * 3 + 1)
      have hlw := hO.lt
      have HO1 := Lib.hid hO
      have HY := Lib.hid (fun hy => splR_yes (p := p) hlt HN.out hy)
      have HP := Lib.hid (fun y : Int => HO1.out.put1 (y := y) hlt)
      have hsb := hb.size
      clear hO
      generalize hr : R.getD k r0 = r at *
      obtain ⟨lo, hi, v⟩ := r
      have HE := Lib.hid hr
      simp only at c1 c2 c3
      clear hr
      by_cases h1 : lo < p
      · by_cases h2 : p < hi
        · have e := HY.out (strB_iff.2 ⟨h1, h2⟩)
          have hnb : (((wr.setCell ⟨g, k * 3 + 1, none⟩ (.int .i64 p)).alloc (.cells #[.int .i64 p, .int .i64 hi, .int .i64 v] 126)).alloc (.cells #[.int .i64 p, .int .i64 hi, .int .i64 v] 126)).heap[wr.heap.size + 1]? = some (.cells #[.int .i64 p, .int .i64 hi, .int .i64 v] 126 (0, 0)) := by
            have := heap_new ((wr.setCell ⟨g, k * 3 + 1, none⟩ (.int .i64 p)).alloc (.cells #[.int .i64 p, .int .i64 hi, .int .i64 v] 126)) (.cells #[.int .i64 p, .int .i64 hi, .int .i64 v] 126)
            simpa using this
          have hpp := ((HP.out p).alloc (o := .cells #[.int .i64 p, .int .i64 hi, .int .i64 v] 126)).alloc (o := .cells #[.int .i64 p, .int .i64 hi, .int .i64 v] 126)
          have KK := insert_any g cap (wr.heap.size + 1) 1 (k + 1) _ (p, hi, v) _ hpp (by omega) (by rw [List.length_set]; omega) (by rw [List.length_set]; omega) hnb (by omega)
          rw [List.length_set, ← e, show ((k + 1 : Nat) : Int) = (k : Int) + 1 by omega] at KK
          have KK := Lib.hid KK
          have HG : Hid (w.grownBy (((wr.setCell ⟨g, k * 3 + 1, none⟩ (.int .i64 p)).alloc (.cells #[.int .i64 p, .int .i64 hi, .int .i64 v] 126)).alloc (.cells #[.int .i64 p, .int .i64 hi, .int .i64 v] 126)) (some g)) := grown_alloc (grown_alloc (grown_set (grown_of_below hb)))
          clear e hnb hpp
          go_wp2_with fail
          refine KK.out.mono ?_; rintro e w1 hi1
          obtain ⟨g', cap', rfl, ho', hg', hn'⟩ := hi1.from HG.out
          go_wp2
          go_ret
          exact ⟨g', cap', rfl, ho', hg', hn'⟩
        · have HN2 : Hid (∀ i, i < k + 1 → strB p (R.getD i r0) = false) := fun i hi' => by
            by_cases e : i = k
            · subst e; rw [HE.out]; exact strB_no.2 (by show ¬ (lo < p ∧ p < hi); omega)
            · exact HN.out i (by omega)
          go_wp2
          go_roundg (R.length - (k + 1))
          case measure => omega
          case rel => exact ⟨k + 1, rfl, by omega, by go_num, HN2, hb.alloc hsb _⟩
      · have HN2 : Hid (∀ i, i < k + 1 → strB p (R.getD i r0) = false) := fun i hi' => by
          by_cases e : i = k
          · subst e; rw [HE.out]; exact strB_no.2 (by show ¬ (lo < p ∧ p < hi); omega)
          · exact HN.out i (by omega)
        go_wp2
        go_roundg (R.length - (k + 1))
        case measure => omega
        case rel => exact ⟨k + 1, rfl, by omega, by go_num, HN2, hb.alloc hsb _⟩
    · have hE : Hid (splR p R = R) := splR_no (getD_all fun i hi => HN.out i (by omega))
      have hO := Lib.hid (HO.out.keep hb)
      go_wp2
      go_ret
      rw [hE.out]
      exact ⟨g, cap, rfl, hO.out, grown_of_below hb, .inl rfl⟩

end Go.Proofs.Yteabigobnjebaaa
