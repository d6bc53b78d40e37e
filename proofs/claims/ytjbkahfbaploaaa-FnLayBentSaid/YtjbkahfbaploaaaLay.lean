/-
  Contracts: LayOk, the pairs of coordinates, Lay.at, Lay.back and their reference models.
-/
import Derived.Test.YtjbkahfbaploaaaSpan
import Derived.Test.YtjbkahfbaploaaaLayMath
import Derived.Deep.QuietTactic
import Derived.BigQuiet
import Derived.IntWalk
namespace Go.Proofs.Ytjbkahfbaploaaa
open Go.RowKit

theorem ret_num {a b : Int} (h : a = b) : Ending.returned (.int .i64 a) = .returned (.int .i64 b) := by rw [h]

set_option maxHeartbeats 400000 in
theorem specLayOk_any (size many : Int) (w : World) :
    Calls Try.prog 7 #[.agg #[.int .i64 size, .int .i64 many]] w fun e w' => e = .returned (.bool (layOkB size many)) ∧ Below w.heap.size w w' := by
  by_cases h1 : 1 ≤ size <;> by_cases h2 : size ≤ 8 <;> by_cases h3 : 1 ≤ many <;> by_cases h4 : many ≤ 3 <;> first | (exfalso; omega) | skip
  all_goals
    go_enter Try.func7, Try.ntmps7
    go_wp2
    go_ret
    refine ⟨ret_bool ?_, (Below.refl _ _).alloc (Nat.le_refl _) _⟩
    first | exact (layOkB_true (by omega)).symm | exact (layOkB_false (by omega)).symm

set_option maxHeartbeats 400000 in
theorem implLayOk_any (size many : Int) (w : World) :
    Calls Try.prog 6 #[.agg #[.int .i64 size, .int .i64 many]] w fun e w' => e = .returned (.bool (layOkB size many)) ∧ Below w.heap.size w w' := by
  by_cases h1 : 1 ≤ size <;> by_cases h2 : size ≤ 8 <;> by_cases h3 : 1 ≤ many <;> by_cases h4 : many ≤ 3 <;> first | (exfalso; omega) | skip
  all_goals
    go_enter Try.func6, Try.ntmps6
    go_wp2
    go_ret
    refine ⟨ret_bool ?_, (Below.refl _ _).alloc (Nat.le_refl _) _⟩
    first | exact (layOkB_true (by omega)).symm | exact (layOkB_false (by omega)).symm

set_option maxHeartbeats 400000 in
theorem splitUO_any (n k : Int) (w : World) (h0 : 0 ≤ n) (h1 : n ≤ 4096) (hk : 1 ≤ k) (hk8 : k ≤ 8) :
    Calls Try.prog 45 #[.int .i64 n, .int .i64 k] w fun e w' => e = .returned (.agg #[.int .i64 (n / k), .int .i64 (n % k)]) ∧ Below w.heap.size w w' := by
  have hq := quo_bd h0 hk
  have hr := rem_bd (n := n) hk
  have hz : (k == 0) = false := by simp; omega
  have hz2 : k ≠ 0 := by omega
  have t1 : n.tdiv k = n / k := Int.tdiv_eq_ediv_of_nonneg h0
  have t2 : n.tmod k = n % k := Int.tmod_eq_emod_of_nonneg h0
  have b1 : IntKind.i64.wrap (n / k) = n / k := IntWalk.i64_in _ (by omega)
  have b2 : IntKind.i64.wrap (n % k) = n % k := IntWalk.i64_in _ (by omega)
  go_enter Try.func45, Try.ntmps45
  go_wp2
  go_region
  go_wp2
  exact bodyPost_ret (v := .agg #[.int .i64 (n / k), .int .i64 (n % k)]) (by simp [results, Try.results45, go_sem]) rfl ⟨rfl, ((Below.refl _ _).alloc (Nat.le_refl _) _).drew⟩

set_option maxHeartbeats 400000 in
theorem splitRO_any (n k : Int) (w : World) (h0 : 0 ≤ n) (h1 : n ≤ 4096) (hk : 1 ≤ k) (hk8 : k ≤ 8) :
    Calls Try.prog 50 #[.int .i64 n, .int .i64 k] w fun e w' => e = .returned (.agg #[.int .i64 (n / k), .int .i64 (n % k)]) ∧ Below w.heap.size w w' := by
  have hq := quo_bd h0 hk
  have hr := rem_bd (n := n) hk
  have hz : (k == 0) = false := by simp; omega
  have hz2 : k ≠ 0 := by omega
  have t1 : n.tdiv k = n / k := Int.tdiv_eq_ediv_of_nonneg h0
  have t2 : n.tmod k = n % k := Int.tmod_eq_emod_of_nonneg h0
  have b1 : IntKind.i64.wrap (n / k) = n / k := IntWalk.i64_in _ (by omega)
  have b2 : IntKind.i64.wrap (n % k) = n % k := IntWalk.i64_in _ (by omega)
  go_enter Try.func50, Try.ntmps50
  go_wp2
  go_region
  go_wp2
  exact bodyPost_ret (v := .agg #[.int .i64 (n / k), .int .i64 (n % k)]) (by simp [results, Try.results50, go_sem]) rfl ⟨rfl, ((Below.refl _ _).alloc (Nat.le_refl _) _).drew⟩

set_option maxHeartbeats 400000 in
theorem splitRB_any (n k : Int) (w : World) (h0 : 0 ≤ n) (h1 : n ≤ 4096) (hk : 1 ≤ k) (hk8 : k ≤ 8) :
    Calls Try.prog 30 #[.int .i64 n, .int .i64 k] w fun e w' => e = .returned (.agg #[.int .i64 (n / k), .int .i64 (n % k)]) ∧ Below w.heap.size w w' := by
  have hq := quo_bd h0 hk
  have hr := rem_bd (n := n) hk
  have hz : (k == 0) = false := by simp; omega
  have hz2 : k ≠ 0 := by omega
  have t1 : n.tdiv k = n / k := Int.tdiv_eq_ediv_of_nonneg h0
  have t2 : n.tmod k = n % k := Int.tmod_eq_emod_of_nonneg h0
  have b1 : IntKind.i64.wrap (n / k) = n / k := IntWalk.i64_in _ (by omega)
  have b2 : IntKind.i64.wrap (n % k) = n % k := IntWalk.i64_in _ (by omega)
  go_enter Try.func30, Try.ntmps30
  go_wp2
  go_region
  go_wp2
  exact bodyPost_ret (v := .agg #[.int .i64 (n / k), .int .i64 (n % k)]) (by simp [results, Try.results30, go_sem]) rfl ⟨rfl, ((Below.refl _ _).alloc (Nat.le_refl _) _).drew⟩

set_option maxHeartbeats 400000 in
theorem joinRO_any (a b k : Int) (w : World) (h0 : 0 ≤ a) (h1 : a ≤ 4096) (hb : 0 ≤ b) (hb1 : b ≤ 4096) (hk : 1 ≤ k) (hk8 : k ≤ 8) :
    Calls Try.prog 46 #[.agg #[.int .i64 a, .int .i64 b], .int .i64 k] w fun e w' => e = .returned (.int .i64 (a * k + b)) ∧ Below w.heap.size w w' := by
  have hm := mul_bd h0 (show 0 ≤ k by omega) hk8
  have b1 : IntKind.i64.wrap (a * k) = a * k := IntWalk.i64_in _ (by omega)
  have b2 : IntKind.i64.wrap (a * k + b) = a * k + b := IntWalk.i64_in _ (by omega)
  go_enter Try.func46, Try.ntmps46
  go_wp2
  go_ret
  exact ⟨ret_num (by first | rfl | omega | (simp [b1, b2])), (Below.refl _ _).alloc (Nat.le_refl _) _⟩

set_option maxHeartbeats 400000 in
theorem joinRB_any (a b k : Int) (w : World) (h0 : 0 ≤ a) (h1 : a ≤ 4096) (hb : 0 ≤ b) (hb1 : b ≤ 4096) (hk : 1 ≤ k) (hk8 : k ≤ 8) :
    Calls Try.prog 51 #[.agg #[.int .i64 a, .int .i64 b], .int .i64 k] w fun e w' => e = .returned (.int .i64 (a * k + b)) ∧ Below w.heap.size w w' := by
  have hm := mul_bd h0 (show 0 ≤ k by omega) hk8
  have b1 : IntKind.i64.wrap (a * k) = a * k := IntWalk.i64_in _ (by omega)
  have b2 : IntKind.i64.wrap (a * k + b) = a * k + b := IntWalk.i64_in _ (by omega)
  go_enter Try.func51, Try.ntmps51
  go_wp2
  go_ret
  exact ⟨ret_num (by first | rfl | omega | (simp [b1, b2])), (Below.refl _ _).alloc (Nat.le_refl _) _⟩

set_option maxHeartbeats 400000 in
theorem joinUO_any (a b k : Int) (w : World) (h0 : 0 ≤ a) (h1 : a ≤ 4096) (hb : 0 ≤ b) (hb1 : b ≤ 4096) (hk : 1 ≤ k) (hk8 : k ≤ 8) :
    Calls Try.prog 52 #[.agg #[.int .i64 a, .int .i64 b], .int .i64 k] w fun e w' => e = .returned (.int .i64 (a * k + b)) ∧ Below w.heap.size w w' := by
  have hm := mul_bd h0 (show 0 ≤ k by omega) hk8
  have b1 : IntKind.i64.wrap (a * k) = a * k := IntWalk.i64_in _ (by omega)
  have b2 : IntKind.i64.wrap (a * k + b) = a * k + b := IntWalk.i64_in _ (by omega)
  go_enter Try.func52, Try.ntmps52
  go_wp2
  go_ret
  exact ⟨ret_num (by first | rfl | omega | (simp [b1, b2])), (Below.refl _ _).alloc (Nat.le_refl _) _⟩

end Go.Proofs.Ytjbkahfbaploaaa
