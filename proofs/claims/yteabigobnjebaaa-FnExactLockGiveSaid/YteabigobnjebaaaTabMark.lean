/-
  Marks on a table that a call has made; bounds of a changed table.
-/
import Derived.Test.YteabigobnjebaaaTable
import Derived.Test.YteabigobnjebaaaChgMath
import Derived.Test.YteabigobnjebaaaSpecPut
namespace Go.Proofs.Yteabigobnjebaaa
open Go.RowKit

/-- A marked table. -/
def MkT (w : World) (lo hi : Nat) (v : Value) (N : List HoldT) : Prop :=
  ∃ a cap vR vS, v = .slice a N.length cap ∧ (0 < N.length → ∃ nb, a = some ⟨nb, 0, none⟩ ∧ lo ≤ nb ∧ nb < hi ∧ MTab w nb lo hi N.length vR vS (lR N) (lS N) (mkCR 1 (lR N) (lS N)) (mkCS 1 (lR N) (lS N)))
theorem MkT.btw {w w1 : World} {lo hi l h : Nat} {v : Value} {N : List HoldT} (ht : MkT w lo hi v N) (hb : Btw l h w w1) (hd : hi ≤ l ∨ h ≤ lo) : MkT w1 lo hi v N := by
  obtain ⟨a, cap, vR, vS, rfl, hc⟩ := ht
  refine ⟨a, cap, vR, vS, rfl, fun hn => ?_⟩
  obtain ⟨nb, rfl, h1, h2, h3⟩ := hc hn
  exact ⟨nb, rfl, h1, h2, ⟨h3.1.same (hb.block nb (World.block_lt_of_cell? w _ (h3.1 0 hn).1) (by omega)), fun i hi' => ⟨(h3.2 i hi').1.btw hb hd, (h3.2 i hi').2.btw hb hd⟩⟩⟩
theorem MkT.keep {w w1 : World} {lo hi : Nat} {v : Value} {N : List HoldT} (ht : MkT w lo hi v N) (hb : Below w.heap.size w w1) : MkT w1 lo hi v N :=
  ht.btw (l := hi) (h := hi) (Btw.of_below hb) (.inl (Nat.le_refl _))

set_option maxHeartbeats 400000 in
theorem markT_nil (a : Option Addr) (cap : Nat) (k : Int) (w : World) :
    Calls Try.prog 29 #[.slice a 0 cap, .int .i64 k] w fun e w' => e = .returned (.int .i64 k) ∧ w = w' := by
  go_enter Try.func29, Try.ntmps29
  go_wp2
  go_loopg [1, 5] 0 (fun g s1 s5 wr => s1 = .int .i64 k ∧ s5 = .int .i64 0 ∧ w = wr)
  case atStart => exact ⟨rfl, rfl, rfl⟩
  case round =>
    obtain ⟨rfl, rfl, rfl⟩ := hrel
    go_wp2
    go_ret
    exact ⟨rfl, rfl⟩
set_option maxHeartbeats 400000 in
theorem heldT_nil (a : Option Addr) (cap : Nat) (k : Int) (w : World) :
    Calls Try.prog 34 #[.slice a 0 cap, .int .i64 k] w fun e w' => e = .returned (.int .i64 k) ∧ w = w' := by
  go_enter Try.func34, Try.ntmps34
  go_wp2
  go_loopg [1, 5] 0 (fun g s1 s5 wr => s1 = .int .i64 k ∧ s5 = .int .i64 0 ∧ w = wr)
  case atStart => exact ⟨rfl, rfl, rfl⟩
  case round =>
    obtain ⟨rfl, rfl, rfl⟩ := hrel
    go_wp2
    go_ret
    exact ⟨rfl, rfl⟩

/-- What is asked of a table's lengths. -/
def TBd (N : List HoldT) : Prop := N.length ≤ 1048576 ∧ (∀ i, i < N.length → (N.getD i hd0).1.length ≤ 1048576 ∧ (N.getD i hd0).2.length ≤ 1048576) ∧ 1 + 2 * (totT N : Int) ≤ 1000000000

theorem markTab_any (lo hi : Nat) (v : Value) (N : List HoldT) (w : World) (h : OTab w lo hi v N) (hb : TBd N) :
    Calls Try.prog 29 #[v, .int .i64 1] w fun e w' => e = .returned (.int .i64 (1 + 2 * (totT N : Int))) ∧ MkT w' lo hi v N ∧ Btw lo hi w w' := by
  obtain ⟨a, cap, vR, vS, rfl, c1, c2, hc⟩ := h
  by_cases hz : N.length = 0
  · have hN : N = [] := List.length_eq_zero_iff.1 hz
    subst hN
    refine (markT_nil a cap 1 w).mono ?_
    rintro e w' ⟨rfl, rfl⟩
    exact ⟨by simp [totT], ⟨a, cap, vR, vS, rfl, fun h => absurd h (by simp)⟩, Btw.refl _ _ _⟩
  · obtain ⟨nb, rfl, h1, h2, h3, h4, h5⟩ := hc (by omega)
    have ht := stI_tot 1 N
    refine (markT_any nb lo hi N.length cap 1 vR vS (lR N) (lS N) (cR N) (cS N) w h3 h4 hb.2.1 hb.1 (by omega) (by rw [ht]; exact hb.2.2)).mono ?_
    rintro e w' ⟨rfl, hm, hbt⟩
    exact ⟨by rw [ht], ⟨_, cap, vR, vS, rfl, fun _ => ⟨nb, rfl, h1, h2, hm⟩⟩, hbt⟩
theorem heldTab_any (lo hi : Nat) (v : Value) (N : List HoldT) (w : World) (h : MkT w lo hi v N) (hb : TBd N) :
    Calls Try.prog 34 #[v, .int .i64 1] w fun e w' => e = .returned (.int .i64 (1 + 2 * (totT N : Int))) ∧ w = w' := by
  obtain ⟨a, cap, vR, vS, rfl, hc⟩ := h
  by_cases hz : N.length = 0
  · have hN : N = [] := List.length_eq_zero_iff.1 hz
    subst hN
    refine (heldT_nil a cap 1 w).mono ?_
    rintro e w' ⟨rfl, rfl⟩
    exact ⟨by simp [totT], rfl⟩
  · obtain ⟨nb, rfl, h1, h2, h3⟩ := hc (by omega)
    have ht := stI_tot 1 N
    refine (heldT_any nb lo hi N.length cap 1 vR vS (lR N) (lS N) w h3 hb.2.1 hb.1 (by omega) (by rw [ht]; exact hb.2.2)).mono ?_
    rintro e w' ⟨rfl, rfl⟩
    exact ⟨by rw [ht], rfl⟩

theorem tbd_nil : TBd [] := ⟨by simp, fun i hi => absurd hi (by simp), by simp [totT]⟩
theorem tbd_ok {N : List HoldT} (h : lockOkB N = true) : TBd N := by
  obtain ⟨h3, hok, -⟩ := (lockOk_iff N).1 h
  have hl : ∀ i, i < 3 → (N.getD i hd0).1.length ≤ 12 ∧ (N.getD i hd0).2.length ≤ 12 := fun i hi => by
    have ho := okH_iff.1 (hok i hi)
    have h1 := ho.1
    have h2 := ho.2.1
    simp only [spansOkB, Bool.and_eq_true, decide_eq_true_eq] at h1 h2
    omega
  refine ⟨by omega, fun i hi => by have := hl i (by omega); omega, ?_⟩
  match N, h3 with
  | [x, y, z], _ =>
    have a0 := hl 0 (by omega)
    have a1 := hl 1 (by omega)
    have a2 := hl 2 (by omega)
    simp only [List.getD_cons_zero, List.getD_cons_succ] at a0 a1 a2
    simp only [totT]
    omega
theorem chT_bd (T : List HoldT) (who lo hi : Int) (f : Int → Int) : TBd (chT T who lo hi f).1 := by
  unfold chT
  split
  · rename_i h0
    split
    · split
      · rename_i h1; exact tbd_ok h1
      · exact tbd_ok h0
    · exact tbd_ok h0
  · exact tbd_nil

theorem eqT_refl' (T : List HoldT) : eqT T T = true := by unfold eqT; simp

end Go.Proofs.Yteabigobnjebaaa
