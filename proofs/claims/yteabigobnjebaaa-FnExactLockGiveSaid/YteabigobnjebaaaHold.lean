/-
  Tables of holds in memory: what a slice of holds reads as; contracts of szHoldS, toHoldS, eqHoldS.
-/
import Derived.Test.YteabigobnjebaaaToSpan
import Derived.Test.YteabigobnjebaaaLockMath
namespace Go.Proofs.Yteabigobnjebaaa
open Go.RowKit

/-- A slice value that reads as the table T. -/
def Hds (w : World) (v : Value) (T : List HoldT) : Prop :=
  ∃ (a : Option Addr) (cap : Nat), v = .slice a T.length cap ∧ T.length ≤ cap ∧ cap ≤ maxLen ∧
    (T ≠ [] → ∃ b off, a = some ⟨b, off, none⟩ ∧ ∀ i, i < T.length → ∃ r s, w.cell? ⟨b, off + i * 2, none⟩ = some r ∧ w.cell? ⟨b, off + i * 2 + 1, none⟩ = some s ∧ Spn w r (T.getD i hd0).1 ∧ Spn w s (T.getD i hd0).2)

theorem Hds.keep {w w1 : World} {v : Value} {T : List HoldT} (h : Hds w v T) (hb : Below w.heap.size w w1) : Hds w1 v T := by
  obtain ⟨a, cap, hv, hl, hm, hc⟩ := h
  refine ⟨a, cap, hv, hl, hm, fun hn => ?_⟩
  obtain ⟨b, off, ha, hcc⟩ := hc hn
  refine ⟨b, off, ha, fun i hi => ?_⟩
  obtain ⟨r, s, h1, h2, h3, h4⟩ := hcc i hi
  exact ⟨r, s, cell_keep hb h1, cell_keep hb h2, h3.keep hb, h4.keep hb⟩

theorem Spn.form {w : World} {v : Value} {L : List Rng} (h : Spn w v L) : ∃ a cap, v = .slice a L.length cap := by
  obtain ⟨a, cap, hv, _⟩ := h
  exact ⟨a, cap, hv⟩
theorem Spn.len {w : World} {v : Value} {L : List Rng} (h : Spn w v L) : L.length ≤ 9223372036854775807 := by
  obtain ⟨a, cap, hv, hl, hm, _⟩ := h
  unfold maxLen at hm; omega

/-- A box of two values that may be written. -/
def BoxV (w : World) (b : Nat) (x y : Value) : Prop :=
  w.cell? ⟨b, 0, none⟩ = some x ∧ w.cell? ⟨b, 1, none⟩ = some y ∧ w.frozen? ⟨b, 0, none⟩ = false ∧ w.frozen? ⟨b, 1, none⟩ = false
theorem BoxV.keep {W w1 : World} {b : Nat} {x y : Value} (h : BoxV W b x y) (hb : Below W.heap.size W w1) : BoxV w1 b x y := by
  obtain ⟨h0, h1, h2, h3⟩ := h
  have hlt := World.block_lt_of_cell? W _ h0
  exact ⟨cell_keep hb h0, cell_keep hb h1, (hb.frozen (p := ⟨b, 0, none⟩) hlt).trans h2, (hb.frozen (p := ⟨b, 1, none⟩) hlt).trans h3⟩
theorem new_boxV (w' : World) (x y : Value) (T : TypeId) : BoxV (w'.alloc (.cells #[x, y] T)) w'.heap.size x y := ⟨by go_simp, by go_simp, by go_simp, by go_simp⟩
theorem BoxV.far {w : World} {b g o : Nat} {x y u : Value} (h : BoxV w b x y) (hne : g ≠ b) : BoxV (w.setCell ⟨g, o, none⟩ u) b x y := by
  obtain ⟨h0, h1, h2, h3⟩ := h
  exact ⟨by rw [World.cell?_setCell_far _ _ _ _ hne]; exact h0, by rw [World.cell?_setCell_far _ _ _ _ hne]; exact h1, by go_simp, by go_simp⟩
theorem BoxV.set0 {w : World} {b : Nat} {x y u : Value} (h : BoxV w b x y) : BoxV (w.setCell ⟨b, 0, none⟩ u) b u y := by
  obtain ⟨h0, h1, h2, h3⟩ := h
  exact ⟨by go_simp, by go_simp, by go_simp, by go_simp⟩
theorem BoxV.set1 {w : World} {b : Nat} {x y u : Value} (h : BoxV w b x y) : BoxV (w.setCell ⟨b, 1, none⟩ u) b x u := by
  obtain ⟨h0, h1, h2, h3⟩ := h
  exact ⟨by go_simp, by go_simp, by go_simp, by go_simp⟩
theorem Row2.far {w : World} {b g o n : Nat} {f : Nat → Rng} {u : Value} (h : Row2 w b n f) (hne : g ≠ b) : Row2 (w.setCell ⟨g, o, none⟩ u) b n f := fun i hi => by
  obtain ⟨h0, h1, h2, h3⟩ := h i hi
  exact ⟨by rw [World.cell?_setCell_far _ _ _ _ hne]; exact h0, by rw [World.cell?_setCell_far _ _ _ _ hne]; exact h1, by go_simp, by go_simp⟩

/-- What is left of an allowance behind n things, or -1. -/
def szO (n : Nat) (left : Int) : Int := if (n : Int) ≤ left then left - n else -1
def szH (h : HoldT) (left : Int) : Int := if szO h.1.length left < 0 then -1 else szO h.2.length (szO h.1.length left)
def szT : List HoldT → Int → Int
  | [], l => l
  | h :: r, l => if szH h l < 0 then -1 else szT r (szH h l)
def szTab (T : List HoldT) (left : Int) : Int := if (T.length : Int) ≤ left then szT T (left - T.length) else -1

theorem szO_bd (n : Nat) (l : Int) (_ : 0 ≤ l) : szO n l = -1 ∨ (0 ≤ szO n l ∧ szO n l = l - n) := by unfold szO; split <;> omega
theorem szH_bd (h : HoldT) (l : Int) (hl : 0 ≤ l) : szH h l = -1 ∨ (0 ≤ szH h l ∧ szH h l = l - h.1.length - h.2.length) := by
  unfold szH
  have h1 := szO_bd h.1.length l hl
  split
  · simp
  · have h2 := szO_bd h.2.length (szO h.1.length l) (by omega)
    omega
def totT : List HoldT → Nat
  | [] => 0
  | h :: r => h.1.length + h.2.length + totT r
theorem szT_bd : ∀ (T : List HoldT) (l : Int), 0 ≤ l → szT T l = -1 ∨ (0 ≤ szT T l ∧ szT T l = l - totT T)
  | [], l, h => by simp [szT, totT, h]
  | x :: r, l, h => by
    unfold szT totT
    have h1 := szH_bd x l h
    split
    · simp
    · have h2 := szT_bd r (szH x l) (by omega)
      omega
theorem szTab_bd (T : List HoldT) (l : Int) (_ : 0 ≤ l) : szTab T l = -1 ∨ (0 ≤ szTab T l ∧ szTab T l = l - T.length - totT T) := by
  unfold szTab
  split
  · have := szT_bd T (l - T.length) (by omega); omega
  · simp
theorem totT_le : ∀ (T : List HoldT) (i : Nat), i < T.length → (T.getD i hd0).1.length + (T.getD i hd0).2.length ≤ totT T
  | [], _, h => by simp at h
  | x :: r, 0, _ => by unfold totT; simp
  | x :: r, i + 1, h => by
    have := totT_le r i (by simpa using h)
    unfold totT
    simp only [List.getD_cons_succ]; omega

theorem drop_consH (T : List HoldT) (k : Nat) (h : k < T.length) : T.drop k = T.getD k hd0 :: T.drop (k + 1) := by
  rw [List.drop_eq_getElem_cons h, List.getD_eq_getElem?_getD, List.getElem?_eq_getElem h, Option.getD_some]

set_option maxHeartbeats 400000 in
theorem szSpan2_any (v : Value) (L : List Rng) (left : Int) (w : World) (h : Spn w v L) (h0 : 0 ≤ left) (h1 : left ≤ 1048576) :
    Calls Try.prog 92 #[v, .int .i64 left] w fun e w' => e = .returned (.int .i64 (szO L.length left)) ∧ w = w' := by
  obtain ⟨a, cap, rfl, hl, hm, -⟩ := h
  unfold maxLen at hm
  by_cases hL : (L.length : Int) ≤ left
  · have e : szO L.length left = left - L.length := if_pos hL
    rw [e]
    clear e
    go_enter Try.func92, Try.ntmps92
    go_wp2
    go_ret
    exact ⟨rfl, rfl⟩
  · have e : szO L.length left = -1 := if_neg hL
    rw [e]
    clear e
    go_enter Try.func92, Try.ntmps92
    go_wp2
    go_ret
    exact ⟨rfl, rfl⟩

set_option maxHeartbeats 1000000 in
theorem szHold_any (r s : Value) (L M : List Rng) (left : Int) (w : World) (hr : Spn w r L) (hs : Spn w s M) (h0 : 0 ≤ left) (h1 : left ≤ 1048576) :
    Calls Try.prog 51 #[.agg #[r, s], .int .i64 left] w fun e w' => e = .returned (.int .i64 (szH (L, M) left)) ∧ Below w.heap.size w w' := by
  obtain ⟨a, cap, rfl⟩ := hr.form
  obtain ⟨b, cap2, rfl⟩ := hs.form
  have hal : Below w.heap.size w (w.alloc (.cells #[.slice a L.length cap, .slice b M.length cap2] 74)) := (Below.refl _ _).alloc (Nat.le_refl _) _
  have HR := Lib.hid (hr.keep hal)
  have HS := Lib.hid (hs.keep hal)
  have E : Hid (szH (L, M) left = if szO L.length left < 0 then -1 else szO M.length (szO L.length left)) := rfl
  have B1 := szO_bd L.length left h0
  obtain ⟨z, hz⟩ : ∃ z, szO L.length left = z := ⟨_, rfl⟩
  have K1 := Lib.hid (szSpan2_any _ L left _ HR.out h0 h1)
  rw [hz] at E K1 B1
  clear hr hs hz
  by_cases hn : z < 0
  · have e : Hid (szH (L, M) left = -1) := by show _ = _; rw [E.out, if_pos hn]
    go_enter Try.func51, Try.ntmps51
    go_wp2_with fail
    refine K1.out.mono ?_; rintro e w' ⟨rfl, rfl⟩
    go_wp2
    go_ret
    exact ⟨ret_int e.out.symm, hal⟩
  · have K2 := Lib.hid (szSpan2_any _ M z _ HS.out (by omega) (by omega))
    have B2 := szO_bd M.length z (by omega)
    have e : Hid (szH (L, M) left = szO M.length z) := by show _ = _; rw [E.out, if_neg hn]
    obtain ⟨y, hy⟩ : ∃ y, szO M.length z = y := ⟨_, rfl⟩
    rw [hy] at e K2 B2
    clear hy
    by_cases hm : y < 0
    · obtain rfl : y = -1 := by omega
      go_enter Try.func51, Try.ntmps51
      go_wp2_with fail
      refine K1.out.mono ?_; rintro e w' ⟨rfl, rfl⟩
      go_wp2_with fail
      refine K2.out.mono ?_; rintro e w' ⟨rfl, rfl⟩
      go_wp2
      go_ret
      exact ⟨ret_int e.out.symm, hal⟩
    · go_enter Try.func51, Try.ntmps51
      go_wp2_with fail
      refine K1.out.mono ?_; rintro e w' ⟨rfl, rfl⟩
      go_wp2_with fail
      refine K2.out.mono ?_; rintro e w' ⟨rfl, rfl⟩
      go_wp2
      go_ret
      exact ⟨ret_int e.out.symm, hal⟩

set_option maxHeartbeats 1000000 in
theorem szHoldS_any (v : Value) (T : List HoldT) (left : Int) (w : World) (h : Hds w v T) (h0 : 0 ≤ left) (h1 : left ≤ 1048576) :
    Calls Try.prog 18 #[v, .int .i64 left] w fun e w' => e = .returned (.int .i64 (szTab T left)) ∧ Below w.heap.size w w' := by
  obtain ⟨a, cap, rfl, hl, hm, hc⟩ := h
  unfold maxLen at hm
  by_cases hL : (T.length : Int) ≤ left
  · have HS : Hid (szTab T left = szT (T.drop 0) (left - T.length)) := if_pos hL
    have HC := Lib.hid hc
    clear hc
    go_enter Try.func18, Try.ntmps18
    go_wp2
    go_loopg [1, 5] T.length (fun g s1 s5 wr => ∃ (k : Nat) (l : Int), g = T.length - k ∧ k ≤ T.length ∧ s1 = .int .i64 l ∧ s5 = .int .i64 k ∧ 0 ≤ l ∧ l ≤ 1048576 ∧ Hid (szTab T left = szT (T.drop k) l) ∧ Below w.heap.size w wr)
    case atStart => exact ⟨0, _, rfl, Nat.zero_le _, rfl, rfl, by omega, by omega, HS, Below.refl _ _⟩
    case round =>
      obtain ⟨k, l, rfl, hk, rfl, rfl, hl0, hl1, HK, hb⟩ := hrel
      by_cases hlt : k < T.length
      · obtain ⟨b, off, rfl, hcc⟩ := HC.out (fun e => by subst e; simp at hlt)
        obtain ⟨r, s, c1, c2, p1, p2⟩ := hcc k hlt
        replace c1 := cell_keep hb c1
        replace c2 := cell_keep hb c2
        have KK := Lib.hid (szHold_any r s _ _ l wr (p1.keep hb) (p2.keep hb) hl0 hl1)
        have B := szH_bd (T.getD k hd0) l hl0
        have E : Hid (szTab T left = if szH (T.getD k hd0) l < 0 then -1 else szT (T.drop (k + 1)) (szH (T.getD k hd0) l)) := by
          show _ = _
          rw [HK.out, drop_consH T k hlt]; rfl
        obtain ⟨z, hz⟩ : ∃ z, szH (T.getD k hd0) l = z := ⟨_, rfl⟩
        have hz' : szH ((T.getD k hd0).1, (T.getD k hd0).2) l = z := hz
        rw [hz] at B E
        rw [hz'] at KK
        clear hz hz' HK hcc p1 p2
        by_cases hn : z < 0
        · have e : Hid (szTab T left = -1) := by show _ = _; rw [E.out, if_pos hn]
          clear E
          go_wp2_with fail
          refine KK.out.mono ?_; rintro e w1 ⟨rfl, hb1⟩
          go_wp2
          go_ret
          exact ⟨ret_int e.out.symm, hb.trans (hb1.mono hb.size)⟩
        · have e : Hid (szTab T left = szT (T.drop (k + 1)) z) := by show _ = _; rw [E.out, if_neg hn]
          clear E
          go_wp2_with fail
          refine KK.out.mono ?_; rintro e w1 ⟨rfl, hb1⟩
          go_wp2
          go_roundg (T.length - (k + 1))
          case measure => omega
          case rel => exact ⟨k + 1, z, rfl, by omega, rfl, by go_num, by omega, by omega, e, hb.trans (hb1.mono hb.size)⟩
      · have e : Hid (szTab T left = l) := by show _ = _; rw [HK.out, List.drop_of_length_le (by omega)]; rfl
        go_wp2
        go_ret
        exact ⟨ret_int e.out.symm, hb⟩
  · have e : Hid (szTab T left = -1) := if_neg hL
    go_enter Try.func18, Try.ntmps18
    go_wp2
    go_ret
    exact ⟨ret_int e.out.symm, Below.refl _ _⟩

/-- What toHold leaves: two new rows. -/
def ToHd1 (w : World) (L M : List Rng) (e : Ending) (w' : World) : Prop :=
  ∃ n1 n2, e = .returned (.agg #[.slice (some ⟨n1, 0, none⟩) L.length L.length, .slice (some ⟨n2, 0, none⟩) M.length M.length]) ∧ w.heap.size ≤ n1 ∧ n1 < n2 ∧ n2 < w'.heap.size ∧
    Row2 w' n1 L.length (fun i => L.getD i (0, 0)) ∧ Row2 w' n2 M.length (fun i => M.getD i (0, 0)) ∧ Below w.heap.size w w'

end Go.Proofs.Yteabigobnjebaaa
