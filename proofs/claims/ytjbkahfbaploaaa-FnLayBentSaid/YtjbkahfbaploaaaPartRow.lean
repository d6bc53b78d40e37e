/-
  A row of parts: four cells each; a slice that reads as a list of parts.
-/
import Derived.Test.YtjbkahfbaploaaaPartMath
import Derived.Test.YtjbkahfbaploaaaRow1
namespace Go.Proofs.Ytjbkahfbaploaaa
open Go.RowKit

def flat4 : List PartT → List Value
  | [] => []
  | x :: l => .int .i64 x.1 :: .int .i64 x.2.1 :: .int .i64 x.2.2.1 :: .int .i64 x.2.2.2 :: flat4 l
theorem flat4_length : ∀ l : List PartT, (flat4 l).length = l.length * 4
  | [] => rfl
  | x :: l => by simp [flat4, flat4_length l]; omega
theorem flat4_append : ∀ a b : List PartT, flat4 (a ++ b) = flat4 a ++ flat4 b
  | [], b => rfl
  | x :: l, b => by simp [flat4, flat4_append l b]
theorem flat4_get : ∀ (l : List PartT) (i : Nat), i < l.length → (flat4 l)[i * 4]? = some (.int .i64 (l.getD i (0, 0, 0, 0)).1) ∧ (flat4 l)[i * 4 + 1]? = some (.int .i64 (l.getD i (0, 0, 0, 0)).2.1) ∧
    (flat4 l)[i * 4 + 2]? = some (.int .i64 (l.getD i (0, 0, 0, 0)).2.2.1) ∧ (flat4 l)[i * 4 + 3]? = some (.int .i64 (l.getD i (0, 0, 0, 0)).2.2.2)
  | x :: l, 0, _ => ⟨rfl, rfl, rfl, rfl⟩
  | x :: l, i + 1, h => by
    have := flat4_get l i (by simpa using h)
    rw [show (i + 1) * 4 = i * 4 + 1 + 1 + 1 + 1 by omega, show i * 4 + 1 + 1 + 1 + 1 + 1 = i * 4 + 1 + 1 + 1 + 1 + 1 by rfl]
    simpa [flat4] using this

theorem four_new (w : World) (x y z u : Value) (T : TypeId) : ∀ (j : Nat) (v : Value), [x, y, z, u][j]? = some v → (w.alloc (.cells #[x, y, z, u] T)).cell? ((⟨w.heap.size, 0, none⟩ : Addr).add j) = some v := by
  intro j v h
  match j, h with
  | 0, h => simp at h; subst h; simp [Addr.add]
  | 1, h => simp at h; subst h; simp [Addr.add]
  | 2, h => simp at h; subst h; simp [Addr.add]
  | 3, h => simp at h; subst h; simp [Addr.add]

theorem infoPart : (Try.prog.info? 59).map (fun i => (i.zero, i.size, i.bytes)) = some (some (.agg #[.int .i64 0, .int .i64 0, .int .i64 0, .int .i64 0]), 4, 32) := by kernel_rfl

/-- v is a slice that reads as the list of parts L. -/
def Pts (w : World) (v : Value) (L : List PartT) : Prop :=
  ∃ (a : Option Addr) (cap : Nat), v = .slice a L.length cap ∧ L.length ≤ cap ∧ cap ≤ maxLen ∧ (L ≠ [] → ∃ b off, a = some ⟨b, off, none⟩ ∧ ∀ i, i < L.length →
    w.cell? ⟨b, off + i * 4, none⟩ = some (.int .i64 (L.getD i (0, 0, 0, 0)).1) ∧ w.cell? ⟨b, off + i * 4 + 1, none⟩ = some (.int .i64 (L.getD i (0, 0, 0, 0)).2.1) ∧
    w.cell? ⟨b, off + i * 4 + 2, none⟩ = some (.int .i64 (L.getD i (0, 0, 0, 0)).2.2.1) ∧ w.cell? ⟨b, off + i * 4 + 3, none⟩ = some (.int .i64 (L.getD i (0, 0, 0, 0)).2.2.2))
theorem Pts.keep {w w1 : World} {v : Value} {L : List PartT} (h : Pts w v L) (hb : Below w.heap.size w w1) : Pts w1 v L := by
  obtain ⟨a, cap, hv, hl, hm, hc⟩ := h
  refine ⟨a, cap, hv, hl, hm, fun hp => ?_⟩
  obtain ⟨b, off, ha, hcc⟩ := hc hp
  exact ⟨b, off, ha, fun i hi => ⟨cell_keep hb (hcc i hi).1, cell_keep hb (hcc i hi).2.1, cell_keep hb (hcc i hi).2.2.1, cell_keep hb (hcc i hi).2.2.2⟩⟩

theorem own_pts {w : World} {B : Nat} {v : Value} {L : List PartT} (h : w.ownsRow B 59 4 v L.length (flat4 L)) : Pts w v L := by
  rcases h.2 with ⟨rfl, h0⟩ | ⟨g, cap, cur, rfl, hb, hh, hc, hm, _⟩
  · have : L = [] := List.length_eq_zero_iff.1 h0
    subst this
    exact ⟨none, 0, rfl, Nat.le_refl _, by unfold maxLen; omega, fun h => absurd rfl h⟩
  · refine ⟨some ⟨g, 0, none⟩, cap, rfl, hc, hm, fun _ => ⟨g, 0, rfl, fun i hi => ?_⟩⟩
    have f := flat4_get L i hi
    rw [Nat.zero_add]
    exact ⟨by rw [h.cellAt _ (by omega)]; exact f.1, by rw [h.cellAt _ (by omega)]; exact f.2.1, by rw [h.cellAt _ (by omega)]; exact f.2.2.1, by rw [h.cellAt _ (by omega)]; exact f.2.2.2⟩

/-- The list that LayParts returns. -/
def lpL (size many lo hi : Int) : List PartT := if layOkB size many = true ∧ spanOkB lo hi = true then prts size many lo hi else []

/-- What a function that makes a list of parts leaves. -/
def RgP (w : World) (L : List PartT) (e : Ending) (w' : World) : Prop :=
  ∃ v, e = .returned v ∧ Hid (w'.ownsRow w.heap.size 59 4 v L.length (flat4 L)) ∧ Below w.heap.size w w'

end Go.Proofs.Ytjbkahfbaploaaa
