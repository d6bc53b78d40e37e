/-
  Contracts of the program's differences and TextDiff.
-/
import Derived.Test.YtaeolgbgcchaeaaDoorRegPure
import Derived.Test.YtaeolgbgcchaeaaDoorSpanCollect
import Derived.Test.YtaeolgbgcchaeaaDoorSpecDiff
namespace Go.Proofs.YtaeolgbgcchaeaaDoor
open Go.RowKit

theorem rgc_base {w w1 w2 : World} {v : Value} {L : List Rng} (h : Hid (w2.ownsRow w1.heap.size 33 2 v L.length (flat L))) (hb : Below w.heap.size w w1) : Hid (w2.ownsRow w.heap.size 33 2 v L.length (flat L)) :=
  ⟨h.out.1, h.out.2.imp id fun ⟨g, cap, cur, h1, h2, h3⟩ => ⟨g, cap, cur, h1, Nat.le_trans hb.size h2, h3⟩⟩
theorem rgc_nil (w : World) : RgC w [] (.returned (.slice none 0 0)) w := ⟨_, rfl, World.ownsRow_nil .., Below.refl _ _⟩
theorem dfN_yes {a b : List UInt8} {k : Nat} (h : dif a b k = true) : dfN a b (k + 1) = dfN a b k ||| msk ((k : Int), (k : Int) + 1) := if_pos h
theorem dfN_not {a b : List UInt8} {k : Nat} (h : dif a b k = false) : dfN a b (k + 1) = dfN a b k := if_neg (by rw [h]; simp)

set_option maxRecDepth 100000 in
set_option maxHeartbeats 4000000 in
theorem implDiffs_lt (s t : ByteArray) (w : World) (hs : s.size ≤ 48) (ht : t.size ≤ 48) (hc : s.size < t.size) :
    Calls Tryd.prog 23 #[.string s, .string t] w fun e w' => ∃ Bn, e = .returned (.func (.func 47) #[] #[.pointer (some ⟨Bn, 0, none⟩)]) ∧ w'.cell? ⟨Bn, 0, none⟩ = some (.int .u64 ((dfN s.data.toList t.data.toList t.size : Nat) : Int)) ∧ Below w.heap.size w w' := by
  have _ := ht
  have _ := hs
  go_enter Tryd.func23, Tryd.ntmps23
  go_wp2_with fail
  go_loopg [5, 18] (t.size) (fun q s5 s18 wr => ∃ k x : Nat, q = t.size - k ∧ k ≤ t.size ∧ s18 = .int .i64 k ∧ s5 = .int .u64 (x : Int) ∧ Hid (x = dfN s.data.toList t.data.toList k) ∧ Below w.heap.size w wr)
  case atStart => exact ⟨0, 0, rfl, Nat.zero_le _, rfl, rfl, Lib.hid rfl, Below.refl _ _⟩
  case round =>
    obtain ⟨k, x, rfl, hk, rfl, rfl, HX, hb⟩ := hrel
    by_cases hlt : k < t.size
    · by_cases c1 : s.size ≤ k
      · have hv : dif s.data.toList t.data.toList k = true := by first | exact dif_a (by omega) | exact dif_b (by omega)
        have es1 : decide ((s.size : Int) ≤ (k : Int)) = true := by simp; omega
        have es2 : decide (s.size ≤ k) = true := by simp; omega
        have hx48 : x < 2 ^ 48 := by rw [HX.out]; exact dfN_lt k (by omega)
        have hm48 := msk_lt ((k : Int), (k : Int) + 1) (one_ok (by omega))
        have ho : bits .or .u64 (x : Int) ((msk ((k : Int), (k : Int) + 1) : Nat) : Int) = ((x ||| msk ((k : Int), (k : Int) + 1) : Nat) : Int) := u64_or_nat _ _ (by omega) (by omega)
        have HY : Hid (x ||| msk ((k : Int), (k : Int) + 1) = dfN s.data.toList t.data.toList (k + 1)) := by show _ = _; rw [dfN_yes hv, HX.out]
        have HS := Lib.hid (fun W => spots_any (k : Int) ((k : Int) + 1) W (one_ok (by omega)))
        clear hv hx48 hm48
        go_wp2_with fail
        refine wp_region_pure 12 _ _ (List.take_append_drop 12 _).symm rfl (by kernel_rfl) (by kernel_rfl) (by kernel_rfl) ?_
        iterate 12 (first
          | (refine wpPure_yes ?_ (by rfl) ?_ ?_; rotate_left 1; (intro w'; go_simp; with_reducible rfl); conv => arg 5; simp only [Act.put, List.setIfInBounds_toArray, List.set_cons_succ, List.set_cons_zero])
          | (refine wpPure_no (by rfl) ?_; conv => arg 5; simp only [Act.put, List.setIfInBounds_toArray, List.set_cons_succ, List.set_cons_zero]))
        refine wpPure_end ?_
        have hb1 := hb.drew
        obtain ⟨wd, hwd⟩ : ∃ X, wr.drew = X := ⟨_, rfl⟩
        rw [hwd] at hb1 ⊢
        clear hwd
        go_wp2_with fail
        refine (HS.out _).mono ?_; rintro e w2 ⟨rfl, hb2⟩
        have hb3 := hb1.trans (hb2.mono hb1.size)
        clear hb2
        go_wp2
        go_roundg (t.size - (k + 1))
        case measure => omega
        case rel => exact ⟨k + 1, _, rfl, by omega, by go_num, rfl, HY, hb3⟩
      · have k1 : k < s.size := by omega
        have k2 : k < t.size := by omega
        have hv := dif_in (s := s) (t := t) k1 k2
        have es1 : decide ((s.size : Int) ≤ (k : Int)) = false := by simp; omega
        have es2 : decide (s.size ≤ k) = false := by simp; omega
        by_cases ce : s[k] = t[k]
        · rw [ce] at hv
          simp only [bne_self_eq_false] at hv
          have HY : Hid (x = dfN s.data.toList t.data.toList (k + 1)) := by show _ = _; rw [dfN_not hv, HX.out]
          clear hv
          go_wp2_with fail
          refine wp_region_pure 12 _ _ (List.take_append_drop 12 _).symm rfl (by kernel_rfl) (by kernel_rfl) (by kernel_rfl) ?_
          iterate 12 (first
            | (refine wpPure_yes ?_ (by rfl) ?_ ?_; rotate_left 1; (intro w'; go_simp; with_reducible rfl); conv => arg 5; simp only [Act.put, List.setIfInBounds_toArray, List.set_cons_succ, List.set_cons_zero])
            | (refine wpPure_no (by rfl) ?_; conv => arg 5; simp only [Act.put, List.setIfInBounds_toArray, List.set_cons_succ, List.set_cons_zero]))
          refine wpPure_end ?_
          have hb1 := hb.drew
          go_wp2
          go_roundg (t.size - (k + 1))
          case measure => omega
          case rel => exact ⟨k + 1, _, rfl, by omega, by go_num, rfl, HY, hb1⟩
        · have hn : ¬ (s[k].toNat = t[k].toNat) := fun e => ce (UInt8.toNat_inj.1 e)
          have hn1 : ((s[k].toNat : Int) != (t[k].toNat : Int)) = true := by simp; omega
          have hn2 : ((s[k].toNat : Int) == (t[k].toNat : Int)) = false := by simp; omega
          rw [show (s[k] != t[k]) = true by simp [ce]] at hv
          have hx48 : x < 2 ^ 48 := by rw [HX.out]; exact dfN_lt k (by omega)
          have hm48 := msk_lt ((k : Int), (k : Int) + 1) (one_ok (by omega))
          have ho : bits .or .u64 (x : Int) ((msk ((k : Int), (k : Int) + 1) : Nat) : Int) = ((x ||| msk ((k : Int), (k : Int) + 1) : Nat) : Int) := u64_or_nat _ _ (by omega) (by omega)
          have HY : Hid (x ||| msk ((k : Int), (k : Int) + 1) = dfN s.data.toList t.data.toList (k + 1)) := by show _ = _; rw [dfN_yes hv, HX.out]
          have HS := Lib.hid (fun W => spots_any (k : Int) ((k : Int) + 1) W (one_ok (by omega)))
          clear hv hx48 hm48
          go_wp2_with fail
          refine wp_region_pure 12 _ _ (List.take_append_drop 12 _).symm rfl (by kernel_rfl) (by kernel_rfl) (by kernel_rfl) ?_
          iterate 12 (first
            | (refine wpPure_yes ?_ (by rfl) ?_ ?_; rotate_left 1; (intro w'; go_simp; with_reducible rfl); conv => arg 5; simp only [Act.put, List.setIfInBounds_toArray, List.set_cons_succ, List.set_cons_zero])
            | (refine wpPure_no (by rfl) ?_; conv => arg 5; simp only [Act.put, List.setIfInBounds_toArray, List.set_cons_succ, List.set_cons_zero]))
          refine wpPure_end ?_
          have hb1 := hb.drew
          obtain ⟨wd, hwd⟩ : ∃ X, wr.drew = X := ⟨_, rfl⟩
          rw [hwd] at hb1 ⊢
          clear hwd
          go_wp2_with fail
          refine (HS.out _).mono ?_; rintro e w2 ⟨rfl, hb2⟩
          have hb3 := hb1.trans (hb2.mono hb1.size)
          clear hb2
          go_wp2
          go_roundg (t.size - (k + 1))
          case measure => omega
          case rel => exact ⟨k + 1, _, rfl, by omega, by go_num, rfl, HY, hb3⟩
    · have hkM : k = t.size := by omega
      have HX2 : Hid (x = dfN s.data.toList t.data.toList (t.size)) := by show _ = _; rw [← hkM]; exact HX.out
      clear HX hkM
      go_wp2_with fail
      refine (spans_any _ _).mono ?_; rintro e w2 ⟨rfl, rfl⟩
      go_wp2
      go_ret
      refine ⟨wr.heap.size, rfl, ?_, hb.alloc hb.size _⟩
      rw [← HX2.out]
      go_simp

set_option maxRecDepth 100000 in
set_option maxHeartbeats 4000000 in
theorem implDiffs_gt (s t : ByteArray) (w : World) (hs : s.size ≤ 48) (ht : t.size ≤ 48) (hc : t.size < s.size) :
    Calls Tryd.prog 23 #[.string s, .string t] w fun e w' => ∃ Bn, e = .returned (.func (.func 47) #[] #[.pointer (some ⟨Bn, 0, none⟩)]) ∧ w'.cell? ⟨Bn, 0, none⟩ = some (.int .u64 ((dfN s.data.toList t.data.toList s.size : Nat) : Int)) ∧ Below w.heap.size w w' := by
  have _ := ht
  have _ := hs
  go_enter Tryd.func23, Tryd.ntmps23
  go_wp2_with fail
  go_loopg [5, 18] (s.size) (fun q s5 s18 wr => ∃ k x : Nat, q = s.size - k ∧ k ≤ s.size ∧ s18 = .int .i64 k ∧ s5 = .int .u64 (x : Int) ∧ Hid (x = dfN s.data.toList t.data.toList k) ∧ Below w.heap.size w wr)
  case atStart => exact ⟨0, 0, rfl, Nat.zero_le _, rfl, rfl, Lib.hid rfl, Below.refl _ _⟩
  case round =>
    obtain ⟨k, x, rfl, hk, rfl, rfl, HX, hb⟩ := hrel
    by_cases hlt : k < s.size
    · by_cases c1 : t.size ≤ k
      · have hv : dif s.data.toList t.data.toList k = true := by first | exact dif_a (by omega) | exact dif_b (by omega)
        have es1 : decide ((t.size : Int) ≤ (k : Int)) = true := by simp; omega
        have es2 : decide (t.size ≤ k) = true := by simp; omega
        have hx48 : x < 2 ^ 48 := by rw [HX.out]; exact dfN_lt k (by omega)
        have hm48 := msk_lt ((k : Int), (k : Int) + 1) (one_ok (by omega))
        have ho : bits .or .u64 (x : Int) ((msk ((k : Int), (k : Int) + 1) : Nat) : Int) = ((x ||| msk ((k : Int), (k : Int) + 1) : Nat) : Int) := u64_or_nat _ _ (by omega) (by omega)
        have HY : Hid (x ||| msk ((k : Int), (k : Int) + 1) = dfN s.data.toList t.data.toList (k + 1)) := by show _ = _; rw [dfN_yes hv, HX.out]
        have HS := Lib.hid (fun W => spots_any (k : Int) ((k : Int) + 1) W (one_ok (by omega)))
        clear hv hx48 hm48
        go_wp2_with fail
        refine wp_region_pure 12 _ _ (List.take_append_drop 12 _).symm rfl (by kernel_rfl) (by kernel_rfl) (by kernel_rfl) ?_
        iterate 12 (first
          | (refine wpPure_yes ?_ (by rfl) ?_ ?_; rotate_left 1; (intro w'; go_simp; with_reducible rfl); conv => arg 5; simp only [Act.put, List.setIfInBounds_toArray, List.set_cons_succ, List.set_cons_zero])
          | (refine wpPure_no (by rfl) ?_; conv => arg 5; simp only [Act.put, List.setIfInBounds_toArray, List.set_cons_succ, List.set_cons_zero]))
        refine wpPure_end ?_
        have hb1 := hb.drew
        obtain ⟨wd, hwd⟩ : ∃ X, wr.drew = X := ⟨_, rfl⟩
        rw [hwd] at hb1 ⊢
        clear hwd
        go_wp2_with fail
        refine (HS.out _).mono ?_; rintro e w2 ⟨rfl, hb2⟩
        have hb3 := hb1.trans (hb2.mono hb1.size)
        clear hb2
        go_wp2
        go_roundg (s.size - (k + 1))
        case measure => omega
        case rel => exact ⟨k + 1, _, rfl, by omega, by go_num, rfl, HY, hb3⟩
      · have k1 : k < s.size := by omega
        have k2 : k < t.size := by omega
        have hv := dif_in (s := s) (t := t) k1 k2
        have es1 : decide ((t.size : Int) ≤ (k : Int)) = false := by simp; omega
        have es2 : decide (t.size ≤ k) = false := by simp; omega
        by_cases ce : s[k] = t[k]
        · rw [ce] at hv
          simp only [bne_self_eq_false] at hv
          have HY : Hid (x = dfN s.data.toList t.data.toList (k + 1)) := by show _ = _; rw [dfN_not hv, HX.out]
          clear hv
          go_wp2_with fail
          refine wp_region_pure 12 _ _ (List.take_append_drop 12 _).symm rfl (by kernel_rfl) (by kernel_rfl) (by kernel_rfl) ?_
          iterate 12 (first
            | (refine wpPure_yes ?_ (by rfl) ?_ ?_; rotate_left 1; (intro w'; go_simp; with_reducible rfl); conv => arg 5; simp only [Act.put, List.setIfInBounds_toArray, List.set_cons_succ, List.set_cons_zero])
            | (refine wpPure_no (by rfl) ?_; conv => arg 5; simp only [Act.put, List.setIfInBounds_toArray, List.set_cons_succ, List.set_cons_zero]))
          refine wpPure_end ?_
          have hb1 := hb.drew
          go_wp2
          go_roundg (s.size - (k + 1))
          case measure => omega
          case rel => exact ⟨k + 1, _, rfl, by omega, by go_num, rfl, HY, hb1⟩
        · have hn : ¬ (s[k].toNat = t[k].toNat) := fun e => ce (UInt8.toNat_inj.1 e)
          have hn1 : ((s[k].toNat : Int) != (t[k].toNat : Int)) = true := by simp; omega
          have hn2 : ((s[k].toNat : Int) == (t[k].toNat : Int)) = false := by simp; omega
          rw [show (s[k] != t[k]) = true by simp [ce]] at hv
          have hx48 : x < 2 ^ 48 := by rw [HX.out]; exact dfN_lt k (by omega)
          have hm48 := msk_lt ((k : Int), (k : Int) + 1) (one_ok (by omega))
          have ho : bits .or .u64 (x : Int) ((msk ((k : Int), (k : Int) + 1) : Nat) : Int) = ((x ||| msk ((k : Int), (k : Int) + 1) : Nat) : Int) := u64_or_nat _ _ (by omega) (by omega)
          have HY : Hid (x ||| msk ((k : Int), (k : Int) + 1) = dfN s.data.toList t.data.toList (k + 1)) := by show _ = _; rw [dfN_yes hv, HX.out]
          have HS := Lib.hid (fun W => spots_any (k : Int) ((k : Int) + 1) W (one_ok (by omega)))
          clear hv hx48 hm48
          go_wp2_with fail
          refine wp_region_pure 12 _ _ (List.take_append_drop 12 _).symm rfl (by kernel_rfl) (by kernel_rfl) (by kernel_rfl) ?_
          iterate 12 (first
            | (refine wpPure_yes ?_ (by rfl) ?_ ?_; rotate_left 1; (intro w'; go_simp; with_reducible rfl); conv => arg 5; simp only [Act.put, List.setIfInBounds_toArray, List.set_cons_succ, List.set_cons_zero])
            | (refine wpPure_no (by rfl) ?_; conv => arg 5; simp only [Act.put, List.setIfInBounds_toArray, List.set_cons_succ, List.set_cons_zero]))
          refine wpPure_end ?_
          have hb1 := hb.drew
          obtain ⟨wd, hwd⟩ : ∃ X, wr.drew = X := ⟨_, rfl⟩
          rw [hwd] at hb1 ⊢
          clear hwd
          go_wp2_with fail
          refine (HS.out _).mono ?_; rintro e w2 ⟨rfl, hb2⟩
          have hb3 := hb1.trans (hb2.mono hb1.size)
          clear hb2
          go_wp2
          go_roundg (s.size - (k + 1))
          case measure => omega
          case rel => exact ⟨k + 1, _, rfl, by omega, by go_num, rfl, HY, hb3⟩
    · have hkM : k = s.size := by omega
      have HX2 : Hid (x = dfN s.data.toList t.data.toList (s.size)) := by show _ = _; rw [← hkM]; exact HX.out
      clear HX hkM
      go_wp2_with fail
      refine (spans_any _ _).mono ?_; rintro e w2 ⟨rfl, rfl⟩
      go_wp2
      go_ret
      refine ⟨wr.heap.size, rfl, ?_, hb.alloc hb.size _⟩
      rw [← HX2.out]
      go_simp

set_option maxRecDepth 100000 in
set_option maxHeartbeats 4000000 in
theorem implDiffs_eq (s t : ByteArray) (w : World) (hs : s.size ≤ 48) (ht : t.size ≤ 48) (hc : t.size = s.size) :
    Calls Tryd.prog 23 #[.string s, .string t] w fun e w' => ∃ Bn, e = .returned (.func (.func 47) #[] #[.pointer (some ⟨Bn, 0, none⟩)]) ∧ w'.cell? ⟨Bn, 0, none⟩ = some (.int .u64 ((dfN s.data.toList t.data.toList s.size : Nat) : Int)) ∧ Below w.heap.size w w' := by
  have _ := ht
  have _ := hs
  go_enter Tryd.func23, Tryd.ntmps23
  go_wp2_with fail
  go_loopg [5, 18] (s.size) (fun q s5 s18 wr => ∃ k x : Nat, q = s.size - k ∧ k ≤ s.size ∧ s18 = .int .i64 k ∧ s5 = .int .u64 (x : Int) ∧ Hid (x = dfN s.data.toList t.data.toList k) ∧ Below w.heap.size w wr)
  case atStart => exact ⟨0, 0, rfl, Nat.zero_le _, rfl, rfl, Lib.hid rfl, Below.refl _ _⟩
  case round =>
    have HC := Lib.hid hc
    clear hc
    obtain ⟨k, x, rfl, hk, rfl, rfl, HX, hb⟩ := hrel
    by_cases hlt : k < s.size
    · by_cases c1 : s.size ≤ k
      · omega
      · have k1 : k < s.size := by omega
        have k2 : k < t.size := by have := HC.out; omega
        have hv := dif_in (s := s) (t := t) k1 k2
        have es1 : decide ((s.size : Int) ≤ (k : Int)) = false := by simp; omega
        have es2 : decide (s.size ≤ k) = false := by simp; omega
        by_cases ce : s[k] = t[k]
        · rw [ce] at hv
          simp only [bne_self_eq_false] at hv
          have HY : Hid (x = dfN s.data.toList t.data.toList (k + 1)) := by show _ = _; rw [dfN_not hv, HX.out]
          clear hv
          go_wp2_with fail
          refine wp_region_pure 12 _ _ (List.take_append_drop 12 _).symm rfl (by kernel_rfl) (by kernel_rfl) (by kernel_rfl) ?_
          iterate 12 (first
            | (refine wpPure_yes ?_ (by rfl) ?_ ?_; rotate_left 1; (intro w'; go_simp; with_reducible rfl); conv => arg 5; simp only [Act.put, List.setIfInBounds_toArray, List.set_cons_succ, List.set_cons_zero])
            | (refine wpPure_no (by rfl) ?_; conv => arg 5; simp only [Act.put, List.setIfInBounds_toArray, List.set_cons_succ, List.set_cons_zero]))
          refine wpPure_end ?_
          have hb1 := hb.drew
          go_wp2
          go_roundg (s.size - (k + 1))
          case measure => omega
          case rel => exact ⟨k + 1, _, rfl, by omega, by go_num, rfl, HY, hb1⟩
        · have hn : ¬ (s[k].toNat = t[k].toNat) := fun e => ce (UInt8.toNat_inj.1 e)
          have hn1 : ((s[k].toNat : Int) != (t[k].toNat : Int)) = true := by simp; omega
          have hn2 : ((s[k].toNat : Int) == (t[k].toNat : Int)) = false := by simp; omega
          rw [show (s[k] != t[k]) = true by simp [ce]] at hv
          have hx48 : x < 2 ^ 48 := by rw [HX.out]; exact dfN_lt k (by omega)
          have hm48 := msk_lt ((k : Int), (k : Int) + 1) (one_ok (by omega))
          have ho : bits .or .u64 (x : Int) ((msk ((k : Int), (k : Int) + 1) : Nat) : Int) = ((x ||| msk ((k : Int), (k : Int) + 1) : Nat) : Int) := u64_or_nat _ _ (by omega) (by omega)
          have HY : Hid (x ||| msk ((k : Int), (k : Int) + 1) = dfN s.data.toList t.data.toList (k + 1)) := by show _ = _; rw [dfN_yes hv, HX.out]
          have HS := Lib.hid (fun W => spots_any (k : Int) ((k : Int) + 1) W (one_ok (by omega)))
          clear hv hx48 hm48
          go_wp2_with fail
          refine wp_region_pure 12 _ _ (List.take_append_drop 12 _).symm rfl (by kernel_rfl) (by kernel_rfl) (by kernel_rfl) ?_
          iterate 12 (first
            | (refine wpPure_yes ?_ (by rfl) ?_ ?_; rotate_left 1; (intro w'; go_simp; with_reducible rfl); conv => arg 5; simp only [Act.put, List.setIfInBounds_toArray, List.set_cons_succ, List.set_cons_zero])
            | (refine wpPure_no (by rfl) ?_; conv => arg 5; simp only [Act.put, List.setIfInBounds_toArray, List.set_cons_succ, List.set_cons_zero]))
          refine wpPure_end ?_
          have hb1 := hb.drew
          obtain ⟨wd, hwd⟩ : ∃ X, wr.drew = X := ⟨_, rfl⟩
          rw [hwd] at hb1 ⊢
          clear hwd
          go_wp2_with fail
          refine (HS.out _).mono ?_; rintro e w2 ⟨rfl, hb2⟩
          have hb3 := hb1.trans (hb2.mono hb1.size)
          clear hb2
          go_wp2
          go_roundg (s.size - (k + 1))
          case measure => omega
          case rel => exact ⟨k + 1, _, rfl, by omega, by go_num, rfl, HY, hb3⟩
    · have hkM : k = s.size := by omega
      have HX2 : Hid (x = dfN s.data.toList t.data.toList (s.size)) := by show _ = _; rw [← hkM]; exact HX.out
      clear HX hkM
      go_wp2_with fail
      refine (spans_any _ _).mono ?_; rintro e w2 ⟨rfl, rfl⟩
      go_wp2
      go_ret
      refine ⟨wr.heap.size, rfl, ?_, hb.alloc hb.size _⟩
      rw [← HX2.out]
      go_simp


theorem implDiffs_any (s t : ByteArray) (w : World) (hs : s.size ≤ 48) (ht : t.size ≤ 48) :
    Calls Tryd.prog 23 #[.string s, .string t] w fun e w' => ∃ Bn, e = .returned (.func (.func 47) #[] #[.pointer (some ⟨Bn, 0, none⟩)]) ∧ w'.cell? ⟨Bn, 0, none⟩ = some (.int .u64 ((dfN s.data.toList t.data.toList (dfM s.data.toList t.data.toList) : Nat) : Int)) ∧ Below w.heap.size w w' := by
  have hM : dfM s.data.toList t.data.toList = max s.size t.size := by unfold dfM; rw [size_length, size_length]
  rw [hM]
  rcases Nat.lt_trichotomy s.size t.size with h | h | h
  · rw [show max s.size t.size = t.size by omega]; exact implDiffs_lt s t w hs ht h
  · rw [show max s.size t.size = s.size by omega]; exact implDiffs_eq s t w hs ht h.symm
  · rw [show max s.size t.size = s.size by omega]; exact implDiffs_gt s t w hs ht h

set_option maxRecDepth 100000 in
set_option maxHeartbeats 4000000 in
theorem implTextDiff_any (s t : ByteArray) (hs : s.size ≤ 9223372036854775807) (ht : t.size ≤ 9223372036854775807) (w : World) (hT : TabAt w) (hg0 : 0 < w.heap.size) :
    Calls Tryd.prog 6 #[.string s, .string t] w (RgC w (dfL s.data.toList t.data.toList)) := by
  have H1 := Lib.hid (fun W => implTextOk_any s hs W)
  have H2 := Lib.hid (fun W => implTextOk_any t ht W)
  have HT := Lib.hid hT
  clear hT
  by_cases h1 : tokB s.data.toList = true
  · by_cases h2 : tokB t.data.toList = true
    · have HL : Hid (dfL s.data.toList t.data.toList = rg (dif s.data.toList t.data.toList) (dfM s.data.toList t.data.toList)) := if_pos ⟨h1, h2⟩
      have l1 := tokB_len h1
      have l2 := tokB_len h2
      have hm : dfM s.data.toList t.data.toList ≤ 48 := by unfold dfM; omega
      have HR := Lib.hid (dfN_rg hm)
      have HN := Lib.hid (dfN_lt (a := s.data.toList) (b := t.data.toList) _ hm)
      rw [size_length] at l1 l2
      rw [h1] at H1
      rw [h2] at H2
      have HD := Lib.hid (fun W => implDiffs_any s t W l1 l2)
      clear h1 h2 hm
      go_enter Tryd.func6, Tryd.ntmps6
      go_wp2_with fail
      refine (H1.out _).mono ?_; rintro e w1 ⟨rfl, rfl⟩
      go_wp2_with fail
      refine (H2.out _).mono ?_; rintro e w1 ⟨rfl, rfl⟩
      go_wp2_with fail
      refine (HD.out _).mono ?_; rintro e w1 ⟨Bn, rfl, hc, hb⟩
      have HC := Lib.hid (collectSpan_any Bn _ HN.out w1 hc (HT.out.keep hb) (Nat.lt_of_lt_of_le hg0 hb.size))
      clear hc
      go_wp2_with fail
      refine HC.out.mono ?_; rintro e w2 ⟨v, rfl, ho, hb2⟩
      go_wp2
      go_ret
      rw [HR.out, ← HL.out] at ho
      exact ⟨v, rfl, rgc_base ho hb, hb.trans (hb2.mono hb.size)⟩
    · replace h2 : tokB t.data.toList = false := by simpa using h2
      have HL : Hid (dfL s.data.toList t.data.toList = []) := if_neg (fun c => by rw [h2] at c; exact absurd c.2 (by simp))
      rw [h1] at H1
      rw [h2] at H2
      clear h1 h2
      go_enter Tryd.func6, Tryd.ntmps6
      go_wp2_with fail
      refine (H1.out _).mono ?_; rintro e w1 ⟨rfl, rfl⟩
      go_wp2_with fail
      refine (H2.out _).mono ?_; rintro e w1 ⟨rfl, rfl⟩
      go_wp2
      go_ret
      rw [HL.out]
      exact rgc_nil w
  · replace h1 : tokB s.data.toList = false := by simpa using h1
    have HL : Hid (dfL s.data.toList t.data.toList = []) := if_neg (fun c => by rw [h1] at c; exact absurd c.1 (by simp))
    rw [h1] at H1
    clear h1
    go_enter Tryd.func6, Tryd.ntmps6
    go_wp2_with fail
    refine (H1.out _).mono ?_; rintro e w1 ⟨rfl, rfl⟩
    go_wp2
    go_ret
    rw [HL.out]
    exact rgc_nil w

end Go.Proofs.YtaeolgbgcchaeaaDoor
