/-
  Contracts of the functions that compare two slices element by element.
-/
import Derived.Test.YtadoihddmbbjoaaDoorKStoV
import Derived.Deep.LoopGhost
namespace Go.Proofs.YtadoihddmbbjoaaDoor
open Go.RowKit

def eqLB {α : Type} [DecidableEq α] (A B : List α) : Bool := decide (A = B)
theorem eqLB_self {α : Type} [DecidableEq α] (A : List α) : eqLB A A = true := by unfold eqLB; simp
theorem drop_consV {α : Type} (d : α) (A : List α) (k : Nat) (h : k < A.length) : A.drop k = A.getD k d :: A.drop (k + 1) := by
  rw [List.drop_eq_getElem_cons h, List.getD_eq_getElem?_getD, List.getElem?_eq_getElem h]; rfl
theorem eqLB_step {α : Type} [DecidableEq α] (d : α) {A B : List α} {k : Nat} (ha : k < A.length) (hb : k < B.length) : eqLB (A.drop k) (B.drop k) = (decide (A.getD k d = B.getD k d) && eqLB (A.drop (k + 1)) (B.drop (k + 1))) := by
  rw [drop_consV d A k ha, drop_consV d B k hb]
  unfold eqLB
  rw [Bool.eq_iff_iff]
  simp [List.cons.injEq]
theorem mkB_toListV (l : List UInt8) : (mkB l).toList = l := by rw [ByteArray.toList_eq]; rfl

set_option maxHeartbeats 2000000 in
theorem eqStringS_gen (v u : Value) (A B : List (List UInt8)) (w : World) (h : Vls w v A.length (strF A)) (h' : Vls w u B.length (strF B)) :
    Calls Tryd.prog 32 #[v, u] w fun e w' => e = .returned (.bool (eqLB A B)) ∧ Below w.heap.size w w' := by
  obtain ⟨a, cap, rfl, hl, hm, hc⟩ := h
  obtain ⟨a', cap', rfl, hl', hm', hc'⟩ := h'
  unfold maxLen at hm hm'
  have HC := Lib.hid hc
  have HC' := Lib.hid hc'
  clear hc hc'
  by_cases hn : A.length = B.length
  · have hd : ((A.length : Int) != (B.length : Int)) = false := by simp [hn]
    have HN := Lib.hid hn
    have HE : Hid (eqLB A B = eqLB (A.drop 0) (B.drop 0)) := rfl
    clear hn
    go_enter Tryd.func32, Tryd.ntmps32
    go_wp2
    go_loopg [5] A.length (fun g s5 wr => ∃ k : Nat, g = A.length - k ∧ k ≤ A.length ∧ s5 = .int .i64 k ∧ Hid (eqLB A B = eqLB (A.drop k) (B.drop k)) ∧ Below w.heap.size w wr)
    case atStart => exact ⟨0, rfl, Nat.zero_le _, rfl, HE, Below.refl _ _⟩
    case round =>
      obtain ⟨k, rfl, hk, rfl, HK, hb⟩ := hrel
      have hn' := HN.out
      by_cases hlt : k < A.length
      · obtain ⟨b, off, rfl, hcc⟩ := HC.out (by omega)
        obtain ⟨b', off', rfl, hcc'⟩ := HC'.out (by omega)
        have c1 : wr.cell? ⟨b, off + k, none⟩ = some (.string (mkB (A.getD k []))) := cell_keep hb (hcc k hlt)
        have c2 : wr.cell? ⟨b', off' + k, none⟩ = some (.string (mkB (B.getD k []))) := cell_keep hb (hcc' k (by omega))
        have HT : Hid (eqLB A B = (decide (A.getD k [] = B.getD k []) && eqLB (A.drop (k + 1)) (B.drop (k + 1)))) := by
          show _ = _
          rw [HK.out, eqLB_step [] hlt (by omega)]
        have i0 : (0 : Int) ≤ (k : Int) := by omega
        have i1 : (k : Int) < (A.length : Int) := by omega
        have i2 : (k : Int) < (B.length : Int) := by omega
        clear hcc hcc' hn'
        generalize A.getD k [] = x at *
        generalize B.getD k [] = y at *
        by_cases hx : x = y
        · have HF : Hid (eqLB A B = eqLB (A.drop (k + 1)) (B.drop (k + 1))) := by show _ = _; rw [HT.out, decide_eq_true hx, Bool.true_and]
          subst hx
          clear HT HK HE
          generalize x = y at *
          have q1 : ((mkB y).toList == (mkB y).toList) = true := by simp
          have q2 : ((mkB y).toList != (mkB y).toList) = false := by simp
          go_wp2_with fail
          go_quiet (fail)
          go_wp2
          go_roundg (A.length - (k + 1))
          case measure => omega
          case rel => exact ⟨k + 1, rfl, by omega, by go_num, HF, hb.trans ((below_drewN1 _ _).mono hb.size)⟩
        · have HF : Hid (eqLB A B = false) := by show _ = _; rw [HT.out, decide_eq_false hx, Bool.false_and]
          have q1 : ((mkB x).toList == (mkB y).toList) = false := by rw [mkB_toListV, mkB_toListV]; simpa using hx
          have q2 : ((mkB x).toList != (mkB y).toList) = true := by rw [mkB_toListV, mkB_toListV]; simpa using hx
          clear hx HT HK HE
          go_wp2_with fail
          go_quiet (fail)
          go_wp2
          go_ret
          exact ⟨ret_bool HF.out.symm, hb.trans ((below_drewN1 _ _).mono hb.size)⟩
      · have HF : Hid (eqLB A B = true) := by show _ = _; rw [HK.out, List.drop_of_length_le (by omega), List.drop_of_length_le (by omega)]; rfl
        clear HK HE hn'
        go_wp2
        go_ret
        exact ⟨ret_bool HF.out.symm, hb⟩
  · have HF : Hid (eqLB A B = false) := decide_eq_false fun e => hn (by rw [e])
    have hd : ((A.length : Int) != (B.length : Int)) = true := by simp; omega
    clear hn
    go_enter Tryd.func32, Tryd.ntmps32
    go_wp2
    go_ret
    exact ⟨ret_bool HF.out.symm, Below.refl _ _⟩

set_option maxHeartbeats 2000000 in
theorem eqIntS_gen (v u : Value) (A B : List (Int)) (w : World) (h : Vls w v A.length (intF A)) (h' : Vls w u B.length (intF B)) :
    Calls Tryd.prog 33 #[v, u] w fun e w' => e = .returned (.bool (eqLB A B)) ∧ Below w.heap.size w w' := by
  obtain ⟨a, cap, rfl, hl, hm, hc⟩ := h
  obtain ⟨a', cap', rfl, hl', hm', hc'⟩ := h'
  unfold maxLen at hm hm'
  have HC := Lib.hid hc
  have HC' := Lib.hid hc'
  clear hc hc'
  by_cases hn : A.length = B.length
  · have hd : ((A.length : Int) != (B.length : Int)) = false := by simp [hn]
    have HN := Lib.hid hn
    have HE : Hid (eqLB A B = eqLB (A.drop 0) (B.drop 0)) := rfl
    clear hn
    go_enter Tryd.func33, Tryd.ntmps33
    go_wp2
    go_loopg [5] A.length (fun g s5 wr => ∃ k : Nat, g = A.length - k ∧ k ≤ A.length ∧ s5 = .int .i64 k ∧ Hid (eqLB A B = eqLB (A.drop k) (B.drop k)) ∧ Below w.heap.size w wr)
    case atStart => exact ⟨0, rfl, Nat.zero_le _, rfl, HE, Below.refl _ _⟩
    case round =>
      obtain ⟨k, rfl, hk, rfl, HK, hb⟩ := hrel
      have hn' := HN.out
      by_cases hlt : k < A.length
      · obtain ⟨b, off, rfl, hcc⟩ := HC.out (by omega)
        obtain ⟨b', off', rfl, hcc'⟩ := HC'.out (by omega)
        have c1 : wr.cell? ⟨b, off + k, none⟩ = some (.int .i64 (A.getD k 0)) := cell_keep hb (hcc k hlt)
        have c2 : wr.cell? ⟨b', off' + k, none⟩ = some (.int .i64 (B.getD k 0)) := cell_keep hb (hcc' k (by omega))
        have HT : Hid (eqLB A B = (decide (A.getD k 0 = B.getD k 0) && eqLB (A.drop (k + 1)) (B.drop (k + 1)))) := by
          show _ = _
          rw [HK.out, eqLB_step 0 hlt (by omega)]
        have i0 : (0 : Int) ≤ (k : Int) := by omega
        have i1 : (k : Int) < (A.length : Int) := by omega
        have i2 : (k : Int) < (B.length : Int) := by omega
        clear hcc hcc' hn'
        generalize A.getD k 0 = x at *
        generalize B.getD k 0 = y at *
        by_cases hx : x = y
        · have HF : Hid (eqLB A B = eqLB (A.drop (k + 1)) (B.drop (k + 1))) := by show _ = _; rw [HT.out, decide_eq_true hx, Bool.true_and]
          subst hx
          clear HT HK HE
          generalize x = y at *
          have q1 : (y == y) = true := by simp
          have q2 : (y != y) = false := by simp
          go_wp2_with fail
          go_quiet (fail)
          go_wp2
          go_roundg (A.length - (k + 1))
          case measure => omega
          case rel => exact ⟨k + 1, rfl, by omega, by go_num, HF, hb.trans ((below_drewN1 _ _).mono hb.size)⟩
        · have HF : Hid (eqLB A B = false) := by show _ = _; rw [HT.out, decide_eq_false hx, Bool.false_and]
          have q1 : (x == y) = false := by simpa using hx
          have q2 : (x != y) = true := by simpa using hx
          clear hx HT HK HE
          go_wp2_with fail
          go_quiet (fail)
          go_wp2
          go_ret
          exact ⟨ret_bool HF.out.symm, hb.trans ((below_drewN1 _ _).mono hb.size)⟩
      · have HF : Hid (eqLB A B = true) := by show _ = _; rw [HK.out, List.drop_of_length_le (by omega), List.drop_of_length_le (by omega)]; rfl
        clear HK HE hn'
        go_wp2
        go_ret
        exact ⟨ret_bool HF.out.symm, hb⟩
  · have HF : Hid (eqLB A B = false) := decide_eq_false fun e => hn (by rw [e])
    have hd : ((A.length : Int) != (B.length : Int)) = true := by simp; omega
    clear hn
    go_enter Tryd.func33, Tryd.ntmps33
    go_wp2
    go_ret
    exact ⟨ret_bool HF.out.symm, Below.refl _ _⟩





set_option maxHeartbeats 2000000 in
theorem slEqStr_gen (v u : Value) (A B : List (List UInt8)) (w : World) (h : Vls w v A.length (strF A)) (h' : Vls w u B.length (strF B)) :
    Calls Tryd.prog 42 #[v, u] w fun e w' => e = .returned (.bool (eqLB A B)) ∧ Below w.heap.size w w' := by
  obtain ⟨a, cap, rfl, hl, hm, hc⟩ := h
  obtain ⟨a', cap', rfl, hl', hm', hc'⟩ := h'
  unfold maxLen at hm hm'
  have HC := Lib.hid hc
  have HC' := Lib.hid hc'
  clear hc hc'
  by_cases hn : A.length = B.length
  · have hd : ((A.length : Int) != (B.length : Int)) = false := by simp [hn]
    have HN := Lib.hid hn
    have HE : Hid (eqLB A B = eqLB (A.drop 0) (B.drop 0)) := rfl
    clear hn
    go_enter Tryd.func42, Tryd.ntmps42
    go_wp2
    go_loopg [13] A.length (fun g s5 wr => ∃ k : Nat, g = A.length - k ∧ k ≤ A.length ∧ s5 = .int .i64 k ∧ Hid (eqLB A B = eqLB (A.drop k) (B.drop k)) ∧ Below w.heap.size w wr)
    case atStart => exact ⟨0, rfl, Nat.zero_le _, rfl, HE, Below.refl _ _⟩
    case round =>
      obtain ⟨k, rfl, hk, rfl, HK, hb⟩ := hrel
      have hn' := HN.out
      by_cases hlt : k < A.length
      · obtain ⟨b, off, rfl, hcc⟩ := HC.out (by omega)
        obtain ⟨b', off', rfl, hcc'⟩ := HC'.out (by omega)
        have c1 : wr.cell? ⟨b, off + k, none⟩ = some (.string (mkB (A.getD k []))) := cell_keep hb (hcc k hlt)
        have c2 : wr.cell? ⟨b', off' + k, none⟩ = some (.string (mkB (B.getD k []))) := cell_keep hb (hcc' k (by omega))
        have HT : Hid (eqLB A B = (decide (A.getD k [] = B.getD k []) && eqLB (A.drop (k + 1)) (B.drop (k + 1)))) := by
          show _ = _
          rw [HK.out, eqLB_step [] hlt (by omega)]
        have i0 : (0 : Int) ≤ (k : Int) := by omega
        have i1 : (k : Int) < (A.length : Int) := by omega
        have i2 : (k : Int) < (B.length : Int) := by omega
        clear hcc hcc' hn'
        generalize A.getD k [] = x at *
        generalize B.getD k [] = y at *
        by_cases hx : x = y
        · have HF : Hid (eqLB A B = eqLB (A.drop (k + 1)) (B.drop (k + 1))) := by show _ = _; rw [HT.out, decide_eq_true hx, Bool.true_and]
          subst hx
          clear HT HK HE
          generalize x = y at *
          have q1 : ((mkB y).toList == (mkB y).toList) = true := by simp
          have q2 : ((mkB y).toList != (mkB y).toList) = false := by simp
          go_wp2_with fail
          go_quiet (fail)
          go_wp2
          go_roundg (A.length - (k + 1))
          case measure => omega
          case rel => exact ⟨k + 1, rfl, by omega, by go_num, HF, hb.trans ((below_drewN1 _ _).mono hb.size)⟩
        · have HF : Hid (eqLB A B = false) := by show _ = _; rw [HT.out, decide_eq_false hx, Bool.false_and]
          have q1 : ((mkB x).toList == (mkB y).toList) = false := by rw [mkB_toListV, mkB_toListV]; simpa using hx
          have q2 : ((mkB x).toList != (mkB y).toList) = true := by rw [mkB_toListV, mkB_toListV]; simpa using hx
          clear hx HT HK HE
          go_wp2_with fail
          go_quiet (fail)
          go_wp2
          go_ret
          exact ⟨ret_bool HF.out.symm, hb.trans ((below_drewN1 _ _).mono hb.size)⟩
      · have HF : Hid (eqLB A B = true) := by show _ = _; rw [HK.out, List.drop_of_length_le (by omega), List.drop_of_length_le (by omega)]; rfl
        clear HK HE hn'
        go_wp2
        go_ret
        exact ⟨ret_bool HF.out.symm, hb⟩
  · have HF : Hid (eqLB A B = false) := decide_eq_false fun e => hn (by rw [e])
    have hd : ((A.length : Int) != (B.length : Int)) = true := by simp; omega
    clear hn
    go_enter Tryd.func42, Tryd.ntmps42
    go_wp2
    go_ret
    exact ⟨ret_bool HF.out.symm, Below.refl _ _⟩

set_option maxHeartbeats 2000000 in
theorem slEqInt_gen (v u : Value) (A B : List (Int)) (w : World) (h : Vls w v A.length (intF A)) (h' : Vls w u B.length (intF B)) :
    Calls Tryd.prog 43 #[v, u] w fun e w' => e = .returned (.bool (eqLB A B)) ∧ Below w.heap.size w w' := by
  obtain ⟨a, cap, rfl, hl, hm, hc⟩ := h
  obtain ⟨a', cap', rfl, hl', hm', hc'⟩ := h'
  unfold maxLen at hm hm'
  have HC := Lib.hid hc
  have HC' := Lib.hid hc'
  clear hc hc'
  by_cases hn : A.length = B.length
  · have hd : ((A.length : Int) != (B.length : Int)) = false := by simp [hn]
    have HN := Lib.hid hn
    have HE : Hid (eqLB A B = eqLB (A.drop 0) (B.drop 0)) := rfl
    clear hn
    go_enter Tryd.func43, Tryd.ntmps43
    go_wp2
    go_loopg [13] A.length (fun g s5 wr => ∃ k : Nat, g = A.length - k ∧ k ≤ A.length ∧ s5 = .int .i64 k ∧ Hid (eqLB A B = eqLB (A.drop k) (B.drop k)) ∧ Below w.heap.size w wr)
    case atStart => exact ⟨0, rfl, Nat.zero_le _, rfl, HE, Below.refl _ _⟩
    case round =>
      obtain ⟨k, rfl, hk, rfl, HK, hb⟩ := hrel
      have hn' := HN.out
      by_cases hlt : k < A.length
      · obtain ⟨b, off, rfl, hcc⟩ := HC.out (by omega)
        obtain ⟨b', off', rfl, hcc'⟩ := HC'.out (by omega)
        have c1 : wr.cell? ⟨b, off + k, none⟩ = some (.int .i64 (A.getD k 0)) := cell_keep hb (hcc k hlt)
        have c2 : wr.cell? ⟨b', off' + k, none⟩ = some (.int .i64 (B.getD k 0)) := cell_keep hb (hcc' k (by omega))
        have HT : Hid (eqLB A B = (decide (A.getD k 0 = B.getD k 0) && eqLB (A.drop (k + 1)) (B.drop (k + 1)))) := by
          show _ = _
          rw [HK.out, eqLB_step 0 hlt (by omega)]
        have i0 : (0 : Int) ≤ (k : Int) := by omega
        have i1 : (k : Int) < (A.length : Int) := by omega
        have i2 : (k : Int) < (B.length : Int) := by omega
        clear hcc hcc' hn'
        generalize A.getD k 0 = x at *
        generalize B.getD k 0 = y at *
        by_cases hx : x = y
        · have HF : Hid (eqLB A B = eqLB (A.drop (k + 1)) (B.drop (k + 1))) := by show _ = _; rw [HT.out, decide_eq_true hx, Bool.true_and]
          subst hx
          clear HT HK HE
          generalize x = y at *
          have q1 : (y == y) = true := by simp
          have q2 : (y != y) = false := by simp
          go_wp2_with fail
          go_quiet (fail)
          go_wp2
          go_roundg (A.length - (k + 1))
          case measure => omega
          case rel => exact ⟨k + 1, rfl, by omega, by go_num, HF, hb.trans ((below_drewN1 _ _).mono hb.size)⟩
        · have HF : Hid (eqLB A B = false) := by show _ = _; rw [HT.out, decide_eq_false hx, Bool.false_and]
          have q1 : (x == y) = false := by simpa using hx
          have q2 : (x != y) = true := by simpa using hx
          clear hx HT HK HE
          go_wp2_with fail
          go_quiet (fail)
          go_wp2
          go_ret
          exact ⟨ret_bool HF.out.symm, hb.trans ((below_drewN1 _ _).mono hb.size)⟩
      · have HF : Hid (eqLB A B = true) := by show _ = _; rw [HK.out, List.drop_of_length_le (by omega), List.drop_of_length_le (by omega)]; rfl
        clear HK HE hn'
        go_wp2
        go_ret
        exact ⟨ret_bool HF.out.symm, hb⟩
  · have HF : Hid (eqLB A B = false) := decide_eq_false fun e => hn (by rw [e])
    have hd : ((A.length : Int) != (B.length : Int)) = true := by simp; omega
    clear hn
    go_enter Tryd.func43, Tryd.ntmps43
    go_wp2
    go_ret
    exact ⟨ret_bool HF.out.symm, Below.refl _ _⟩

end Go.Proofs.YtadoihddmbbjoaaDoor
