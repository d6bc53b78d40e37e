/-
  wpNums over two slices of numbers that read the same; who stands in one's way.
-/
import Derived.Test.YtfifimdaepebeaaLkLaws
import Derived.Test.YtfifimdaepebeaaSpecBars
import Derived.Test.YtfifimdaepebeaaVls
import Derived.Test.YtfifimdaepebeaaRow1
import Derived.Test.YtfifimdaepebeaaCalm
namespace Go.Proofs.Ytfifimdaepebeaa
open Go.RowKit

theorem own_ints {w : World} {B : Nat} {v : Value} {L : List Int} (h : w.ownsRow B 3 1 v L.length (intL L)) : Vls w v L.length (fun i => .int .i64 (L.getD i 0)) := by
  refine (own_vls h).congr fun i hi => ?_
  unfold intL
  simp [List.getD_eq_getElem?_getD, List.getElem?_map, List.getElem?_eq_getElem hi]

set_option maxHeartbeats 1000000 in
theorem wpNums_same (v u : Value) (n : Nat) (S : Nat → Int) (w : World) (h : Vls w v n (fun i => .int .i64 (S i))) (h' : Vls w u n (fun i => .int .i64 (S i))) :
    Calls Try.prog 25 #[v, u] w fun e w' => e = .returned (.bool true) ∧ Below w.heap.size w w' := by
  obtain ⟨a, cap, rfl, hl, hm, hc⟩ := h
  obtain ⟨a', cap', rfl, hl', hm', hc'⟩ := h'
  unfold maxLen at hm hm'
  have HC := Lib.hid hc
  have HC' := Lib.hid hc'
  clear hc hc'
  go_enter Try.func25, Try.ntmps25
  go_wp2
  go_loopg [5] n (fun g s5 wr => ∃ k : Nat, g = n - k ∧ k ≤ n ∧ s5 = .int .i64 k ∧ Below w.heap.size w wr)
  case atStart => exact ⟨0, rfl, Nat.zero_le _, rfl, Below.refl _ _⟩
  case round =>
    obtain ⟨k, rfl, hk, rfl, hb⟩ := hrel
    by_cases hlt : k < n
    · obtain ⟨b, off, rfl, hcc⟩ := HC.out (by omega)
      obtain ⟨b', off', rfl, hcc'⟩ := HC'.out (by omega)
      have c1 : wr.cell? ⟨b, off + k, none⟩ = some (.int .i64 (S k)) := cell_keep hb (hcc k hlt)
      have c2 : wr.cell? ⟨b', off' + k, none⟩ = some (.int .i64 (S k)) := cell_keep hb (hcc' k hlt)
      have i0 : (0 : Int) ≤ (k : Int) := by omega
      have i1 : (k : Int) < (n : Int) := by omega
      generalize S k = y at *
      clear hcc hcc'
      go_wp2_with fail
      go_quiet (fail)
      go_wp2
      go_roundg (n - (k + 1))
      case measure => omega
      case rel => exact ⟨k + 1, rfl, by omega, by go_num, hb.trans ((below_drewN1 _ _).mono hb.size)⟩
    · go_wp2
      go_ret
      exact ⟨rfl, hb⟩

theorem brK_mem {who : Int} {b : Nat → Bool} : ∀ {n : Nat} {x : Int}, x ∈ brK who b n → ∃ i, i < n ∧ x = (i : Int) ∧ x ≠ who ∧ b i = true
  | 0, x, h => by unfold brK at h; simp at h
  | n + 1, x, h => by
    unfold brK at h
    by_cases c : (n : Int) ≠ who ∧ b n = true
    · rw [if_pos c] at h
      rcases List.mem_append.1 h with h | h
      · obtain ⟨i, hi, h1⟩ := brK_mem h
        exact ⟨i, by omega, h1⟩
      · obtain rfl : x = (n : Int) := by simpa using h
        exact ⟨n, by omega, rfl, c.1, c.2⟩
    · rw [if_neg c] at h
      obtain ⟨i, hi, h1⟩ := brK_mem h
      exact ⟨i, by omega, h1⟩

/-- One stands in the way just if it may do something there that can not be done by two. -/
theorem stB_iff {h : HoldT} (hok : okH h = true) {wr : Bool} {lo hi : Int} (hs : spanOkB lo hi = true) : stB h wr lo hi = true ↔ ∃ p : Int, lo ≤ p ∧ p < hi ∧ (2 ≤ mfn h p ∨ (wr = true ∧ 1 ≤ mfn h p)) := by
  have ho := okH_iff.1 hok
  have h1 := clr_one (spansOkB_all ho.1) hs
  have h2 := clr_one (spansOkB_all ho.2.1) hs
  have m2 : ∀ p : Int, 2 ≤ mfn h p ↔ inB h.2 p = true := fun p => by
    unfold mfn
    cases inB h.2 p <;> cases inB h.1 p <;> simp
  have m1 : ∀ p : Int, 1 ≤ mfn h p ↔ inB h.2 p = true ∨ inB h.1 p = true := fun p => by
    unfold mfn
    cases inB h.2 p <;> cases inB h.1 p <;> simp
  unfold stB
  simp only [Bool.or_eq_true, Bool.and_eq_true, Bool.not_eq_true', h1, h2]
  constructor
  · rintro (⟨p, a, b, c⟩ | ⟨hw, p, a, b, c⟩)
    · exact ⟨p, a, b, .inl ((m2 p).2 c)⟩
    · exact ⟨p, a, b, .inr ⟨hw, (m1 p).2 (.inr c)⟩⟩
  · rintro ⟨p, a, b, c | ⟨hw, c⟩⟩
    · exact .inl ⟨p, a, b, (m2 p).1 c⟩
    · rcases (m1 p).1 c with d | d
      · exact .inl ⟨p, a, b, d⟩
      · exact .inr ⟨hw, p, a, b, d⟩

theorem lock_off {T : List HoldT} {k : Nat} (hq : lockOkB T = true) (hk : k < 3) : lockOkB (T.set k ([], [])) = true := by
  obtain ⟨h3, ho, hx⟩ := lockOk_mf.1 hq
  have e0 : ∀ p : Int, mfn (([], []) : HoldT) p = 0 := fun p => rfl
  refine lockOk_mf.2 ⟨by rw [List.length_set]; exact h3, fun i hi => ?_, fun i hi j hj hne p p0 p1 hp => ?_⟩
  · by_cases e : i = k
    · subst e; rw [set_at (by omega)]; rfl
    · rw [set_off e]; exact ho i hi
  · by_cases ei : i = k
    · subst ei
      rw [set_at (by omega), e0] at hp
      cases hp
    · rw [set_off ei] at hp
      by_cases ej : j = k
      · subst ej; rw [set_at (by omega)]; exact e0 p
      · rw [set_off ej]; exact hx i hi j hj hne p p0 p1 hp
theorem off_set {T : List HoldT} {k : Nat} (hq : lockOkB T = true) (hk : k < 3) : chT T (k : Int) 0 48 (fun x => mn x 0) = (T.set k ([], []), true) := by
  have e : mH (putM (T.getD k hd0) 0 48 (fun x => mn x 0)) = ([], []) := off_mH (ok_at hq hk)
  rw [chT_of hk hq (by decide) (by rw [e]; exact lock_off hq hk), e]

/-- The first n let go. -/
def offN (T : List HoldT) : Nat → List HoldT
  | 0 => T
  | n + 1 => (offN T n).set n ([], [])
theorem offN_ok {T : List HoldT} (hq : lockOkB T = true) : ∀ n, n ≤ 3 → lockOkB (offN T n) = true
  | 0, _ => hq
  | n + 1, h => lock_off (offN_ok hq n (by omega)) (by omega)
theorem offN_at {T : List HoldT} (h3 : T.length = 3) : ∀ n, n ≤ 3 → (offN T n).length = 3 ∧ ∀ j, j < n → (offN T n).getD j hd0 = ([], [])
  | 0, _ => ⟨h3, fun j hj => by omega⟩
  | n + 1, h => by
    obtain ⟨h1, h2⟩ := offN_at h3 n (by omega)
    refine ⟨by unfold offN; rw [List.length_set]; exact h1, fun j hj => ?_⟩
    unfold offN
    by_cases e : j = n
    · subst e; exact set_at (by omega)
    · rw [set_off e]; exact h2 j (by omega)

theorem one_ok {lo hi : Int} (hs : spanOkB lo hi = true) : spansOkB [(lo, hi)] = true := by
  have := spanOkB_iff.1 hs
  unfold spansOkB okFrom okFrom
  simp [hs]
  omega

/-- Where nobody may do anything each may get all. -/
theorem none_give {X : List HoldT} (hq : lockOkB X = true) (h0 : ∀ j, j < 3 → X.getD j hd0 = ([], [])) {k : Nat} (hk : k < 3) {lo hi : Int} (hs : spanOkB lo hi = true) (wr : Bool) :
    (chT X (k : Int) lo hi (fun x => mx x (wantOf wr))).2 = true ∧ mayB (chT X (k : Int) lo hi (fun x => mx x (wantOf wr))).1 (k : Int) wr lo hi = true ∧ barsL X (k : Int) wr lo hi = [] := by
  have h3 := ok_len hq
  have e0 : ∀ p : Int, mfn (([], []) : HoldT) p = 0 := fun p => rfl
  have hb := spanOkB_iff.1 hs
  have hv : ∀ i : Int, putM (([], []) : HoldT) lo hi (fun x => mx x (wantOf wr)) i = if lo ≤ i ∧ i < hi then wantOf wr else 0 := fun i => by
    unfold putM
    rw [e0]
    cases wr <;> rfl
  have hone : rg (fun i => decide (lo ≤ (i : Int) ∧ (i : Int) < hi)) 48 = [(lo, hi)] := by
    rw [rg_congr (g := fun i => inB [(lo, hi)] (i : Int)) (fun i _ => by unfold inB; simp)]
    exact rg_self (one_ok hs)
  have hmH : mH (putM (X.getD k hd0) lo hi (fun x => mx x (wantOf wr))) = if wr = true then ([], [(lo, hi)]) else ([(lo, hi)], []) := by
    rw [h0 k hk]
    cases wr
    · rw [mH_of (p := fun i => decide (lo ≤ (i : Int) ∧ (i : Int) < hi)) (q := fun _ => false) (fun i _ => ?_), hone, rg_falseB]
      · rfl
      · rw [hv]
        by_cases c : lo ≤ (i : Int) ∧ (i : Int) < hi <;> simp [c, wantOf]
    · rw [mH_of (p := fun _ => false) (q := fun i => decide (lo ≤ (i : Int) ∧ (i : Int) < hi)) (fun i _ => ?_), hone, rg_falseB]
      · rfl
      · rw [hv]
        by_cases c : lo ≤ (i : Int) ∧ (i : Int) < hi <;> simp [c, wantOf]
  have hXk : okH (mH (putM (X.getD k hd0) lo hi (fun x => mx x (wantOf wr)))) = true := by
    rw [hmH]
    cases wr
    · simp only [Bool.false_eq_true, if_false]
      rw [okH_iff]; exact ⟨one_ok hs, rfl, rfl⟩
    · simp only [if_true]
      rw [okH_iff]; exact ⟨rfl, one_ok hs, rfl⟩
  have hok : lockOkB (X.set k (mH (putM (X.getD k hd0) lo hi (fun x => mx x (wantOf wr))))) = true := by
    refine lockOk_mf.2 ⟨by rw [List.length_set]; exact h3, fun i hi3 => ?_, fun i hi3 j hj hne p p0 p1 hp => ?_⟩
    · by_cases e : i = k
      · subst e; rw [set_at (by omega)]; exact hXk
      · rw [set_off e]; exact ok_at hq hi3
    · by_cases ei : i = k
      · subst ei
        rw [set_off hne, h0 j hj]; exact e0 p
      · rw [set_off ei, h0 i hi3, e0] at hp
        cases hp
  rw [chT_of hk hq hs hok]
  refine ⟨rfl, may_all hk hok hs wr fun i a b => ?_, ?_⟩
  · rw [set_at (by omega), mfn_put (F3_give wr) (by omega) (by omega), if_pos ⟨a, b⟩, h0 k hk, e0]
    cases wr <;> decide
  · unfold barsL
    split
    · rw [brK_nil]
      intro i hi3 _
      rw [h0 i hi3]
      cases wr <;> rfl
    · rfl

end Go.Proofs.Ytfifimdaepebeaa
