/-
  The parts of a range lie one behind the other, and each place of each lies where the layout says.
-/
import Derived.Test.YtjbkahfbaploaaaPartMath
namespace Go.Proofs.Ytjbkahfbaploaaa

abbrev pD : PartT := (0, 0, 0, 0)
/-- Where the part k begins. -/
def nextF (lo : Int) (L : List PartT) : Nat → Int
  | 0 => lo
  | k + 1 => nextF lo L k + ((L.getD k pD).2.2.1 - (L.getD k pD).2.1)

def GoodAt (size many hi : Int) (fr : Int) (x : PartT) : Prop :=
  x.2.2.2 = fr ∧ 0 ≤ x.2.1 ∧ x.2.1 < x.2.2.1 ∧ x.2.2.1 ≤ 48 ∧ x.2.2.1 - x.2.1 ≤ size ∧ fr + (x.2.2.1 - x.2.1) ≤ hi ∧ ∀ j, 0 ≤ j → j < x.2.2.1 - x.2.1 → objF size many (fr + j) = x.1 ∧ atF size many (fr + j) = x.2.1 + j

structure Chain (size many lo hi : Int) (L : List PartT) : Prop where
  good : ∀ k, k < L.length → GoodAt size many hi (nextF lo L k) (L.getD k pD) ∧ lo ≤ nextF lo L k
  last : nextF lo L L.length = hi

theorem nextF_app (lo : Int) (L M : List PartT) : ∀ k, k ≤ L.length → nextF lo (L ++ M) k = nextF lo L k
  | 0, _ => rfl
  | k + 1, h => by
    show nextF lo (L ++ M) k + _ = nextF lo L k + _
    rw [nextF_app lo L M k (by omega)]
    have : (L ++ M).getD k pD = L.getD k pD := by
      rw [List.getD_eq_getElem?_getD, List.getD_eq_getElem?_getD, List.getElem?_append_left (by omega)]
    rw [this]

theorem unit_at {size many f : Int} (hy : layOkB size many = true) : ∀ j : Nat, f % size + j < size → objF size many (f + j) = objF size many f ∧ atF size many (f + j) = atF size many f + j
  | 0, _ => by simp
  | j + 1, h => by
    obtain ⟨h1, h2, h3, h4⟩ := layOkB_iff.1 hy
    have hc : ((j + 1 : Nat) : Int) = (j : Int) + 1 := by omega
    rw [hc] at h
    have r := rem_bd (n := f) (k := size) (by omega)
    have ih := unit_at (many := many) (f := f) hy j (by omega)
    have hm : (f + (j : Int) + 1) % size = f % size + j + 1 := by
      have e2 : f + (j : Int) + 1 = (f % size + j + 1) + size * (f / size) := by have := Int.mul_ediv_add_emod f size; omega
      rw [e2, Int.add_mul_emod_self_left]
      exact Int.emod_eq_of_lt (by omega) (by omega)
    have := next_in (size := size) (many := many) (p := f + j) hy (by rw [hm]; omega)
    rw [hc, ← Int.add_assoc, this.1, this.2, ih.1, ih.2]
    exact ⟨rfl, by omega⟩

theorem prts_chain {size many lo : Int} (hy : layOkB size many = true) (h0 : 0 ≤ lo) : ∀ (n : Nat) (hi : Int), (hi - lo).toNat = n → lo ≤ hi → hi ≤ 48 → Chain size many lo hi (prts size many lo hi) := by
  intro n
  induction n using Nat.strongRecOn with
  | ind n ih =>
    intro hi hn h1 h2
    obtain ⟨c1, c2, c3, c4⟩ := layOkB_iff.1 hy
    by_cases e : hi = lo
    · subst e
      have : prts size many hi hi = [] := by unfold prts; rw [Int.sub_self]; rfl
      rw [this]
      exact ⟨fun k hk => by simp at hk, rfl⟩
    · have r := rem_bd (n := hi - 1) (k := size) (by omega)
      obtain ⟨f, hf⟩ : ∃ f, f = max lo (hi - 1 - (hi - 1) % size) := ⟨_, rfl⟩
      have hf1 : lo ≤ f := by omega
      have hf2 : f < hi := by omega
      have hfb : f = lo ∨ f % size = 0 := by
        by_cases g : lo ≤ hi - 1 - (hi - 1) % size
        · right
          have : f = size * ((hi - 1) / size) := by have := Int.mul_ediv_add_emod (hi - 1) size; omega
          rw [this, Int.mul_emod_right]
        · left; omega
      have rf := rem_bd (n := f) (k := size) (by omega)
      have hfe : hi ≤ f - f % size + size := by
        have d1 := Int.mul_ediv_add_emod (hi - 1) size
        have d2 := Int.mul_ediv_add_emod f size
        have hq : (hi - 1) / size ≤ f / size := by
          have : size * ((hi - 1) / size) ≤ f := by omega
          exact (Int.le_ediv_iff_mul_le (by omega)).2 (by rw [Int.mul_comm]; exact this)
        have := Int.mul_le_mul_of_nonneg_left hq (show 0 ≤ size by omega)
        omega
      have hst := prts_step (many := many) hy hf1 hf2 hfb hfe
      have hch := ih (f - lo).toNat (by omega) f rfl hf1 (by omega)
      rw [hst]
      have hx : GoodAt size many hi f (objF size many f, atF size many f, atF size many f + hi - f, f) := by
        have b := at_bd (p := f) hy (by omega)
        have hl := unit_at (many := many) hy (hi - 1 - f).toNat (f := f) (by omega)
        have hb := at_bd (p := f + ((hi - 1 - f).toNat : Int)) hy (by omega)
        rw [hl.2] at hb
        refine ⟨rfl, b.2.2.1, ?_, ?_, ?_, ?_, fun j j0 j1 => ?_⟩
        · show atF size many f < atF size many f + hi - f; omega
        · show atF size many f + hi - f ≤ 48; omega
        · show atF size many f + hi - f - atF size many f ≤ size; omega
        · show f + (atF size many f + hi - f - atF size many f) ≤ hi; omega
        · have j1' : j < atF size many f + hi - f - atF size many f := j1
          have := unit_at (many := many) hy j.toNat (f := f) (by omega)
          rw [show ((j.toNat : Nat) : Int) = j by omega] at this
          exact this
      have hlen : nextF lo (prts size many lo f ++ [(objF size many f, atF size many f, atF size many f + hi - f, f)]) (prts size many lo f).length = f := by
        rw [nextF_app _ _ _ _ (Nat.le_refl _)]; exact hch.last
      have hget : (prts size many lo f ++ [(objF size many f, atF size many f, atF size many f + hi - f, f)]).getD (prts size many lo f).length pD = (objF size many f, atF size many f, atF size many f + hi - f, f) := by
        rw [List.getD_eq_getElem?_getD, List.getElem?_append_right (Nat.le_refl _), Nat.sub_self]; rfl
      refine ⟨fun k hk => ?_, ?_⟩
      · rw [List.length_append] at hk
        have hk' : k < (prts size many lo f).length + 1 := hk
        by_cases e2 : k = (prts size many lo f).length
        · subst e2
          rw [hlen, hget]
          exact ⟨hx, hf1⟩
        · have hk2 : k < (prts size many lo f).length := by omega
          have hg := hch.good k hk2
          rw [nextF_app _ _ _ _ (by omega)]
          have : (prts size many lo f ++ [(objF size many f, atF size many f, atF size many f + hi - f, f)]).getD k pD = (prts size many lo f).getD k pD := by
            rw [List.getD_eq_getElem?_getD, List.getD_eq_getElem?_getD, List.getElem?_append_left hk2]
          rw [this]
          obtain ⟨⟨g1, g2, g3, g4, g5, g6, g7⟩, g8⟩ := hg
          exact ⟨⟨g1, g2, g3, g4, g5, by omega, g7⟩, g8⟩
      · rw [List.length_append]
        show nextF lo _ ((prts size many lo f).length + 1) = hi
        show nextF lo _ (prts size many lo f).length + _ = hi
        rw [hlen, hget]
        show f + (atF size many f + hi - f - atF size many f) = hi
        omega

theorem Chain.mono {size many lo hi : Int} {L : List PartT} (h : Chain size many lo hi L) {j : Nat} : ∀ {k : Nat}, j ≤ k → k ≤ L.length → nextF lo L j ≤ nextF lo L k
  | 0, hj, _ => by obtain rfl : j = 0 := by omega
                   exact Int.le_refl _
  | k + 1, hj, hk => by
    by_cases e : j = k + 1
    · subst e; exact Int.le_refl _
    · have ih := Chain.mono h (j := j) (k := k) (by omega) (by omega)
      obtain ⟨⟨g1, g2, g3, g4, g5, g6, g7⟩, g8⟩ := h.good k (by omega)
      show _ ≤ nextF lo L k + _
      omega

/-- Two parts of one object have no place in common. -/
theorem Chain.apart {size many lo hi : Int} {L : List PartT} (hy : layOkB size many = true) (h : Chain size many lo hi L) {i j : Nat} (hj : j < i) (hi : i < L.length) {a : Int}
    (h1 : (L.getD i pD).2.1 ≤ a) (h2 : a < (L.getD i pD).2.2.1) (h3 : (L.getD j pD).2.1 ≤ a) (h4 : a < (L.getD j pD).2.2.1) : (L.getD i pD).1 ≠ (L.getD j pD).1 := fun e => by
  obtain ⟨⟨g1, g2, g3, g4, g5, g6, g7⟩, g8⟩ := h.good i hi
  obtain ⟨⟨k1, k2, k3, k4, k5, k6, k7⟩, k8⟩ := h.good j (by omega)
  have m := h.mono (j := j + 1) (k := i) (by omega) (by omega)
  have m1 : nextF lo L (j + 1) = nextF lo L j + ((L.getD j pD).2.2.1 - (L.getD j pD).2.1) := rfl
  have p := g7 (a - (L.getD i pD).2.1) (by omega) (by omega)
  have q := k7 (a - (L.getD j pD).2.1) (by omega) (by omega)
  have b1 := back_at (p := nextF lo L i + (a - (L.getD i pD).2.1)) hy
  have b2 := back_at (p := nextF lo L j + (a - (L.getD j pD).2.1)) hy
  rw [p.1, p.2] at b1
  rw [q.1, q.2] at b2
  rw [e, show (L.getD i pD).2.1 + (a - (L.getD i pD).2.1) = a by omega] at b1
  rw [show (L.getD j pD).2.1 + (a - (L.getD j pD).2.1) = a by omega] at b2
  omega

end Go.Proofs.Ytjbkahfbaploaaa
