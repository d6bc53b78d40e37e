/-
  What the objects have of a file makes that file again: plain facts.
-/
import Derived.Test.YtdlofeemeeabjaaLtMath
import Derived.Test.YtdlofeemeeabjaaLofMath
import Derived.Test.YtdlofeemeeabjaaLongLaws
namespace Go.Proofs.Ytdlofeemeeabjaa

theorem back_lt {size many : Int} {o : Nat} (hy : layOkB size many = true) (ho : (o : Int) < many) {a b : Int} : backF size many o a < backF size many o b ↔ a < b := by
  have ha := at_back (size := size) (many := many) (obj := (o : Int)) (a := a) hy (by omega) ho
  have hb := at_back (size := size) (many := many) (obj := (o : Int)) (a := b) hy (by omega) ho
  constructor
  · intro h
    rcases Int.lt_or_le a b with c | c
    · exact c
    · have := back_mono (obj := (o : Int)) hy c
      omega
  · intro h
    have h1 := back_mono (obj := (o : Int)) hy (Int.le_of_lt h)
    rcases Int.lt_or_le (backF size many o a) (backF size many o b) with c | c
    · exact c
    · have e : backF size many o a = backF size many o b := by omega
      rw [e] at ha
      have := ha.2.symm.trans hb.2
      omega

theorem lof_key {size many : Int} {l : List UInt8} {o : Nat} (hy : layOkB size many = true) (ho : (o : Int) < many) : ∀ (k a : Nat), a < (loF size many l o k).length ↔ backF size many o a < (k : Int)
  | 0, a => by
    have b := back_bd (a := (a : Int)) hy (show (0 : Int) ≤ o by omega) ho (by omega)
    simp only [loF, List.length_nil]; omega
  | k + 1, a => by
    have ih := lof_key hy ho k (l := l)
    by_cases c : objF size many k = o
    · rw [loF_hit c, List.length_append, List.length_singleton]
      have hk := back_at (size := size) (many := many) (p := (k : Int)) hy
      rw [c] at hk
      have bd := at_bd (p := (k : Int)) hy (by omega)
      obtain ⟨a0, h0⟩ : ∃ a0 : Nat, atF size many k = a0 := ⟨(atF size many k).toNat, by omega⟩
      rw [h0] at hk
      have e : a0 = (loF size many l o k).length := by
        rcases Nat.lt_trichotomy a0 (loF size many l o k).length with g | g | g
        · have := (ih a0).1 g; omega
        · exact g
        · have h1 : ¬ backF size many o ((loF size many l o k).length : Nat) < (k : Int) := fun q => by have := (ih _).2 q; omega
          have h2 := (back_lt (a := (((loF size many l o k).length : Nat) : Int)) (b := (a0 : Int)) hy ho).2 (by omega)
          omega
      rw [← e]
      have h3 := back_lt (a := (a : Int)) (b := ((a0 + 1 : Nat) : Int)) hy ho
      have h4 := back_lt (a := (a0 : Int)) (b := (a : Int)) hy ho
      constructor
      · intro g
        by_cases q : a = a0
        · subst q; omega
        · have := (back_lt (a := (a : Int)) (b := (a0 : Int)) hy ho).2 (by omega)
          omega
      · intro g
        rcases Nat.lt_or_ge a (a0 + 1) with q | q
        · exact q
        · have := h4.2 (by omega)
          omega
    · rw [loF_miss c, ih a]
      have hb := at_back (size := size) (many := many) (obj := (o : Int)) (a := (a : Int)) hy (by omega) ho
      constructor
      · intro g; omega
      · intro g
        rcases Int.lt_or_le (backF size many o a) (k : Int) with q | q
        · exact q
        · exfalso
          have : backF size many o a = (k : Int) := by omega
          rw [this] at hb
          exact c hb.1

theorem lof_get {size many : Int} {l : List UInt8} {o : Nat} (hy : layOkB size many = true) (ho : (o : Int) < many) : ∀ (k i : Nat), i < k → objF size many i = o → (loF size many l o k).getD (atF size many i).toNat 46 = l.getD i 46
  | 0, i, h, _ => absurd h (by omega)
  | k + 1, i, h, hi => by
    have hba := back_at (size := size) (many := many) (p := (i : Int)) hy
    rw [hi] at hba
    have bd := at_bd (p := (i : Int)) hy (by omega)
    obtain ⟨a0, h0⟩ : ∃ a0 : Nat, atF size many i = a0 := ⟨(atF size many i).toNat, by omega⟩
    rw [h0] at hba
    have key := lof_key (l := l) hy ho k a0
    rw [hba] at key
    by_cases c : objF size many k = o
    · rw [loF_hit c, h0, Int.toNat_natCast]
      by_cases e : i = k
      · subst e
        have key2 := lof_key (l := l) hy ho (i + 1) a0
        rw [hba, loF_hit c, List.length_append, List.length_singleton] at key2
        have h1 : a0 = (loF size many l o i).length := by
          have : ¬ a0 < (loF size many l o i).length := fun q => by have := key.1 q; omega
          have := key2.2 (by omega)
          omega
        rw [List.getD_eq_getElem?_getD, h1, List.getElem?_append_right (Nat.le_refl _)]
        simp
      · have hlt := key.2 (by omega)
        have ih := lof_get hy ho k i (by omega) hi (l := l)
        rw [h0, Int.toNat_natCast] at ih
        rw [List.getD_eq_getElem?_getD, List.getElem?_append_left hlt, ← List.getD_eq_getElem?_getD]
        exact ih
    · rw [loF_miss c]
      refine lof_get hy ho k i ?_ hi
      have : i ≠ k := fun e => by subst e; exact c hi
      omega

/-- The objects of a file. -/
def obS (size many : Int) (l : List UInt8) : Nat → List UInt8 := fun o => loF size many l o l.length

theorem lt_back {size many : Int} {l : List UInt8} (hy : layOkB size many = true) : ltL size many (obS size many l) l.length = l := by
  refine ext_getD (ltL_len _ _ _ _) fun i hi => ?_
  rw [ltL_getD _ _ _ hi]
  have bd := at_bd (p := (i : Int)) hy (by omega)
  obtain ⟨o, h0⟩ : ∃ o : Nat, objF size many i = o := ⟨(objF size many i).toNat, by omega⟩
  unfold ltT obS
  rw [h0, Int.toNat_natCast]
  exact lof_get hy (by omega) _ _ hi h0

theorem lmax_obs {size many : Int} {l : List UInt8} {m : Nat} (hm : (m : Int) = many) (hy : layOkB size many = true) : lmax size many (lens (obS size many l)) m = (l.length : Int) := by
  have hle : lmax size many (lens (obS size many l)) m ≤ l.length := by
    rcases lmax_far (size := size) (many := many) (L := lens (obS size many l)) m with h | ⟨j, hj, hp, he⟩
    · omega
    · have hp' : 0 < (loF size many l j l.length).length := by
        have : lens (obS size many l) j = ((loF size many l j l.length).length : Int) := rfl
        omega
      have := (lof_key (l := l) hy (show (j : Int) < many by omega) l.length ((loF size many l j l.length).length - 1)).1 (by omega)
      have e : lens (obS size many l) j - 1 = (((loF size many l j l.length).length - 1 : Nat) : Int) := by
        show ((loF size many l j l.length).length : Int) - 1 = _
        omega
      rw [e] at he
      omega
  by_cases h0 : l.length = 0
  · rcases lmax_far (size := size) (many := many) (L := lens (obS size many l)) m with h | ⟨j, hj, hp, he⟩
    · omega
    · have := loF_len (size := size) (many := many) (l := l) (o := j) l.length
      have e : lens (obS size many l) j = ((loF size many l j l.length).length : Int) := rfl
      omega
  · obtain ⟨k, hk⟩ : ∃ k, k + 1 = l.length := ⟨l.length - 1, by omega⟩
    have bd := at_bd (p := (k : Int)) hy (by omega)
    obtain ⟨o, ho⟩ : ∃ o : Nat, objF size many k = o := ⟨(objF size many k).toNat, by omega⟩
    obtain ⟨a, ha⟩ : ∃ a : Nat, atF size many k = a := ⟨(atF size many k).toNat, by omega⟩
    have hb := back_at (size := size) (many := many) (p := (k : Int)) hy
    rw [ho, ha] at hb
    have hlt := (lof_key (l := l) hy (show (o : Int) < many by omega) l.length a).2 (by omega)
    have e : lens (obS size many l) o = ((loF size many l o l.length).length : Int) := rfl
    have h1 := lmax_ge (size := size) (many := many) (L := lens (obS size many l)) (j := o) (by omega) (k := m) (by omega)
    have h2 := back_mono (obj := (o : Int)) hy (show (a : Int) ≤ lens (obS size many l) o - 1 by omega)
    omega

theorem okL_obs {size many : Int} {l : List UInt8} (hl : l.length ≤ 48) : ∀ m, okL (lens (obS size many l)) m = true
  | 0 => rfl
  | m + 1 => okL_step (okL_obs hl m) (by
    have := loF_len (size := size) (many := many) (l := l) (o := m) l.length
    have e : lens (obS size many l) m = ((loF size many l m l.length).length : Int) := rfl
    omega)
theorem ltN_obs {size many : Int} {l : List UInt8} {m : Nat} (hm : (m : Int) = many) (hy : layOkB size many = true) (hl : l.length ≤ 48) : ltN size many (obS size many l) m = (l.length : Int) := by
  unfold ltN
  rw [llF_ok hy hm (okL_obs hl m) (by rw [lmax_obs hm hy]; omega), lmax_obs hm hy]

theorem fb_loF {size many : Int} {l : List UInt8} (ht : tokB l = true) {o : Nat} : ∀ k, ∀ c ∈ loF size many l o k, fb c = true
  | 0, c, h => by cases h
  | k + 1, c, h => by
    by_cases e : objF size many k = o
    · rw [loF_hit e] at h
      rcases List.mem_append.1 h with h | h
      · exact fb_loF ht k c h
      · rw [List.mem_singleton] at h
        subst h
        rw [List.getD_eq_getElem?_getD]
        cases q : l[k]? with
        | none => exact fb_dot
        | some d => exact (tokB_iff.1 ht).2 d (List.mem_of_getElem? q)
    · rw [loF_miss e] at h; exact fb_loF ht k c h
theorem ltK_obs {size many : Int} {l : List UInt8} (ht : tokB l = true) (m : Nat) : ltK (obS size many l) m = true := ltK_all fun i _ => tokB_iff.2 ⟨by
    have := loF_len (size := size) (many := many) (l := l) (o := i) l.length
    have := tokB_len ht
    unfold obS; omega, fb_loF ht _⟩

/-- How many bytes the first k objects have. -/
def sumN (S : Nat → List UInt8) : Nat → Nat
  | 0 => 0
  | k + 1 => sumN S k + (S k).length
theorem sumN_hit {S T : Nat → List UInt8} {o : Nat} {x : UInt8} (h1 : T o = S o ++ [x]) (h2 : ∀ i, i ≠ o → T i = S i) : ∀ m, sumN T m = sumN S m + if o < m then 1 else 0
  | 0 => by simp [sumN]
  | m + 1 => by
    have ih := sumN_hit h1 h2 m
    show sumN T m + (T m).length = sumN S m + (S m).length + _
    by_cases e : m = o
    · subst e
      rw [if_neg (by omega)] at ih
      rw [h1, if_pos (by omega), List.length_append, ih, List.length_singleton]; omega
    · rw [h2 m e]
      by_cases g : o < m
      · rw [if_pos g] at ih; rw [if_pos (by omega), ih]; omega
      · rw [if_neg g] at ih; rw [if_neg (by omega), ih]; omega
theorem sumN_lof {size many : Int} {l : List UInt8} {m : Nat} (hm : (m : Int) = many) (hy : layOkB size many = true) : ∀ k, sumN (fun o => loF size many l o k) m = k
  | 0 => by
    have : ∀ m, sumN (fun o => loF size many l o 0) m = 0 := fun m => by
      induction m with
      | zero => rfl
      | succ m ih => show sumN _ m + _ = 0; rw [ih]; rfl
    exact this m
  | k + 1 => by
    have bd := at_bd (p := (k : Int)) hy (by omega)
    obtain ⟨o, ho⟩ : ∃ o : Nat, objF size many k = o := ⟨(objF size many k).toNat, by omega⟩
    rw [sumN_hit (S := fun o => loF size many l o k) (o := o) (x := l.getD k 46) (loF_hit ho) (fun i hi => loF_miss (fun e => hi (by omega))) m, sumN_lof hm hy k, if_pos (by omega)]
theorem sumN_obs {size many : Int} {l : List UInt8} {m : Nat} (hm : (m : Int) = many) (hy : layOkB size many = true) : sumN (obS size many l) m = l.length := sumN_lof hm hy _
theorem sumN_le {S : Nat → List UInt8} (h : ∀ i, (S i).length ≤ 1000000) : ∀ k, sumN S k ≤ k * 1000000
  | 0 => by simp [sumN]
  | k + 1 => by have := sumN_le h k; have := h k; show sumN S k + _ ≤ _; rw [Nat.succ_mul]; omega

end Go.Proofs.Ytdlofeemeeabjaa
