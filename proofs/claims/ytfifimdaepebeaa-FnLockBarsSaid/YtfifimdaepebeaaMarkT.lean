/-
  Contracts of markHoldS and heldHoldS: numbers written into the lists of a table of holds one by one, and found there again.
-/
import Derived.Test.YtfifimdaepebeaaMark
import Derived.Test.YtfifimdaepebeaaToHold
namespace Go.Proofs.Ytfifimdaepebeaa
open Go.RowKit

/-- A slice of n ranges at the head of a block between lo and hi, which may be written; any slice if n is 0. -/
def MRow (w : World) (lo hi : Nat) (v : Value) (n : Nat) (f : Nat → Rng) : Prop :=
  ∃ a cap, v = .slice a n cap ∧ (0 < n → ∃ b, a = some ⟨b, 0, none⟩ ∧ lo ≤ b ∧ b < hi ∧ Row2 w b n f)
theorem Row2.same {w w1 : World} {b n : Nat} {f : Nat → Rng} (h : Row2 w b n f) (hb : w1.heap[b]? = w.heap[b]?) : Row2 w1 b n f := fun i hi => by
  obtain ⟨h0, h1, h2, h3⟩ := h i hi
  exact ⟨(World.cell?_of_block (a := ⟨b, i * 2, none⟩) hb).trans h0, (World.cell?_of_block (a := ⟨b, i * 2 + 1, none⟩) hb).trans h1, (World.frozen?_of_block (a := ⟨b, i * 2, none⟩) hb).trans h2, (World.frozen?_of_block (a := ⟨b, i * 2 + 1, none⟩) hb).trans h3⟩
theorem RowV2.same {w w1 : World} {b n : Nat} {f g : Nat → Value} (h : RowV2 w b n f g) (hb : w1.heap[b]? = w.heap[b]?) : RowV2 w1 b n f g := fun i hi => by
  obtain ⟨h0, h1, h2, h3⟩ := h i hi
  exact ⟨(World.cell?_of_block (a := ⟨b, i * 2, none⟩) hb).trans h0, (World.cell?_of_block (a := ⟨b, i * 2 + 1, none⟩) hb).trans h1, (World.frozen?_of_block (a := ⟨b, i * 2, none⟩) hb).trans h2, (World.frozen?_of_block (a := ⟨b, i * 2 + 1, none⟩) hb).trans h3⟩
theorem MRow.same {w w1 : World} {lo hi : Nat} {v : Value} {n : Nat} {f : Nat → Rng} (h : MRow w lo hi v n f) (hb : ∀ b, v.ownBlock = some b → b < w.heap.size → w1.heap[b]? = w.heap[b]?) : MRow w1 lo hi v n f := by
  obtain ⟨a, cap, rfl, hc⟩ := h
  refine ⟨a, cap, rfl, fun hn => ?_⟩
  obtain ⟨b, rfl, h1, h2, h3⟩ := hc hn
  exact ⟨b, rfl, h1, h2, h3.same (hb b rfl (World.block_lt_of_cell? w _ (h3 0 hn).1))⟩
theorem MRow.congr {w : World} {lo hi : Nat} {v : Value} {n : Nat} {f g : Nat → Rng} (h : MRow w lo hi v n f) (e : ∀ i, i < n → f i = g i) : MRow w lo hi v n g := by
  obtain ⟨a, cap, rfl, hc⟩ := h
  refine ⟨a, cap, rfl, fun hn => ?_⟩
  obtain ⟨b, rfl, h1, h2, h3⟩ := hc hn
  exact ⟨b, rfl, h1, h2, h3.congr e⟩

abbrev mkR (k : Int) : Nat → Rng := fun i => (k + 2 * i, k + 2 * i + 1)



/-- A table of n holds in memory, each list as MRow says. -/
def MTab (w : World) (nb lo hi n : Nat) (vR vS : Nat → Value) (lR lS : Nat → Nat) (cR cS : Nat → Nat → Rng) : Prop :=
  RowV2 w nb n vR vS ∧ ∀ i, i < n → MRow w lo hi (vR i) (lR i) (cR i) ∧ MRow w lo hi (vS i) (lS i) (cS i)
/-- No two lists of it lie in one block. -/
def Dist (nb n : Nat) (vR vS : Nat → Value) : Prop :=
  (∀ i, i < n → (vR i).ownBlock ≠ some nb ∧ (vS i).ownBlock ≠ some nb) ∧
  (∀ i j, i < n → j < n → ∀ b, (vR i).ownBlock = some b → (vS j).ownBlock ≠ some b ∧ (i ≠ j → (vR j).ownBlock ≠ some b)) ∧
  (∀ i j, i < n → j < n → ∀ b, (vS i).ownBlock = some b → i ≠ j → (vS j).ownBlock ≠ some b)

/-- Only blocks between lo and hi have changed. -/
structure Btw (lo hi : Nat) (w w' : World) : Prop where
  os : w'.os = w.os
  tape : w'.tape = w.tape
  output : w'.output = w.output
  size : w.heap.size ≤ w'.heap.size
  block : ∀ i, i < w.heap.size → ¬ (lo ≤ i ∧ i < hi) → w'.heap[i]? = w.heap[i]?
theorem Btw.refl (lo hi : Nat) (w : World) : Btw lo hi w w := ⟨rfl, rfl, rfl, Nat.le_refl _, fun _ _ _ => rfl⟩
theorem Btw.trans {lo hi : Nat} {a b c : World} (h : Btw lo hi a b) (k : Btw lo hi b c) : Btw lo hi a c :=
  ⟨k.os.trans h.os, k.tape.trans h.tape, k.output.trans h.output, Nat.le_trans h.size k.size, fun i hi' hn => (k.block i (Nat.lt_of_lt_of_le hi' h.size) hn).trans (h.block i hi' hn)⟩
theorem Btw.below {lo hi n : Nat} {w w' : World} (h : Btw lo hi w w') (hn : n ≤ lo) (hw : n ≤ w.heap.size) : Below n w w' :=
  ⟨h.os, h.tape, h.output, h.size, fun i hi' => h.block i (by omega) (by omega)⟩
theorem Btw.of_below {lo hi : Nat} {w w' : World} (h : Below w.heap.size w w') : Btw lo hi w w' :=
  ⟨h.os, h.tape, h.output, h.size, fun i hi' _ => h.block i hi'⟩
theorem Btw.of_grown {lo hi : Nat} {w w' : World} {v : Value} (h : w.grownBy w' v.ownBlock) (hb : ∀ b, v.ownBlock = some b → lo ≤ b ∧ b < hi) : Btw lo hi w w' :=
  ⟨h.os, h.tape, h.output, h.size, fun i hi' hn => h.block i hi' (fun e => hn (hb i e.symm))⟩

theorem MRow.btw {w w1 : World} {lo hi l h : Nat} {v : Value} {n : Nat} {f : Nat → Rng} (hr : MRow w lo hi v n f) (hb : Btw l h w w1) (hd : hi ≤ l ∨ h ≤ lo) : MRow w1 lo hi v n f := by
  obtain ⟨a, cap, rfl, hc⟩ := hr
  refine ⟨a, cap, rfl, fun hn => ?_⟩
  obtain ⟨b, rfl, h1, h2, h3⟩ := hc hn
  exact ⟨b, rfl, h1, h2, h3.same (hb.block b (World.block_lt_of_cell? w _ (h3 0 hn).1) (by omega))⟩

/-- The numbers that are written: where each hold's begin. -/
def stI (k : Int) (lR lS : Nat → Nat) : Nat → Int
  | 0 => k
  | i + 1 => stI k lR lS i + 2 * lR i + 2 * lS i
theorem stI_ge (k : Int) (lR lS : Nat → Nat) : ∀ i, k ≤ stI k lR lS i
  | 0 => Int.le_refl _
  | i + 1 => by have := stI_ge k lR lS i; unfold stI; omega
theorem stI_mono (k : Int) (lR lS : Nat → Nat) (i : Nat) : ∀ d, stI k lR lS i ≤ stI k lR lS (i + d)
  | 0 => Int.le_refl _
  | d + 1 => by have := stI_mono k lR lS i d; rw [show stI k lR lS (i + (d + 1)) = stI k lR lS (i + d) + 2 * lR (i + d) + 2 * lS (i + d) from rfl]; omega
theorem stI_le {k : Int} {lR lS : Nat → Nat} {i n : Nat} (h : i ≤ n) : stI k lR lS i ≤ stI k lR lS n := by
  have := stI_mono k lR lS i (n - i)
  rwa [show i + (n - i) = n by omega] at this

abbrev mkCR (k : Int) (lR lS : Nat → Nat) : Nat → Nat → Rng := fun i => mkR (stI k lR lS i)
abbrev mkCS (k : Int) (lR lS : Nat → Nat) : Nat → Nat → Rng := fun i => mkR (stI k lR lS i + 2 * lR i)
def mix (m c : Nat → Nat → Rng) (a : Nat) : Nat → Nat → Rng := fun i => if i < a then m i else c i
theorem mix_lt {m c : Nat → Nat → Rng} {a i : Nat} (h : i < a) : mix m c a i = m i := if_pos h
theorem mix_ge {m c : Nat → Nat → Rng} {a i : Nat} (h : ¬ i < a) : mix m c a i = c i := if_neg h
theorem mix_ne {m c : Nat → Nat → Rng} {a i : Nat} (h : i ≠ a) : mix m c (a + 1) i = mix m c a i := by
  unfold mix
  by_cases h1 : i < a
  · rw [if_pos h1, if_pos (by omega)]
  · rw [if_neg h1, if_neg (by omega)]

theorem MTab.stepR {w w1 : World} {nb lo hi n a b : Nat} {vR vS : Nat → Value} {lR lS : Nat → Nat} {cR cS mR mS : Nat → Nat → Rng} (h : MTab w nb lo hi n vR vS lR lS (mix mR cR a) (mix mS cS b)) (hd : Dist nb n vR vS) (ha : a < n)
    (hr : MRow w1 lo hi (vR a) (lR a) (mR a)) (hg : w.grownBy w1 (vR a).ownBlock) : MTab w1 nb lo hi n vR vS lR lS (mix mR cR (a + 1)) (mix mS cS b) := by
  refine ⟨fun i hi' => (h.1.same (hg.block nb (World.block_lt_of_cell? w _ (h.1 i hi').1) (fun e => (hd.1 a ha).1 e.symm))) i hi', fun i hi' => ⟨?_, ?_⟩⟩
  · by_cases e : i = a
    · subst e; rw [mix_lt (by omega)]; exact hr
    · rw [mix_ne e]
      exact (h.2 i hi').1.same fun b' hb hlt => hg.block b' hlt (fun e' => (hd.2.1 i a hi' ha b' hb).2 e e'.symm)
  · exact (h.2 i hi').2.same fun b' hb hlt => hg.block b' hlt (fun e' => (hd.2.1 a i ha hi' b' e'.symm).1 hb)
theorem MTab.stepS {w w1 : World} {nb lo hi n a b : Nat} {vR vS : Nat → Value} {lR lS : Nat → Nat} {cR cS mR mS : Nat → Nat → Rng} (h : MTab w nb lo hi n vR vS lR lS (mix mR cR b) (mix mS cS a)) (hd : Dist nb n vR vS) (ha : a < n)
    (hr : MRow w1 lo hi (vS a) (lS a) (mS a)) (hg : w.grownBy w1 (vS a).ownBlock) : MTab w1 nb lo hi n vR vS lR lS (mix mR cR b) (mix mS cS (a + 1)) := by
  refine ⟨fun i hi' => (h.1.same (hg.block nb (World.block_lt_of_cell? w _ (h.1 i hi').1) (fun e => (hd.1 a ha).2 e.symm))) i hi', fun i hi' => ⟨?_, ?_⟩⟩
  · exact (h.2 i hi').1.same fun b' hb hlt => hg.block b' hlt (fun e' => (hd.2.1 i a hi' ha b' hb).1 e'.symm)
  · by_cases e : i = a
    · subst e; rw [mix_lt (by omega)]; exact hr
    · rw [mix_ne e]
      exact (h.2 i hi').2.same fun b' hb hlt => hg.block b' hlt (fun e' => hd.2.2 i a hi' ha b' hb e e'.symm)

theorem grown_same {w w' : World} {v : Value} {lo hi n : Nat} {f : Nat → Rng} (h : MRow w lo hi v n f) (hg : w.grownBy w' v.ownBlock) (he : v.ownBlock = none ∨ n = 0 → w = w') : Btw lo hi w w' := by
  obtain ⟨a, cap, rfl, hc⟩ := h
  by_cases hz : n = 0
  · rw [he (.inr hz)]; exact Btw.refl _ _ _
  · obtain ⟨b, rfl, h2, h3, h4⟩ := hc (by omega)
    exact Btw.of_grown hg fun b' e => by
      obtain rfl : b = b' := by simpa [Value.ownBlock] using e
      exact ⟨h2, h3⟩



/-- What toHoldS leaves is such a table. -/
theorem NewT.tab {w0 w : World} {nb : Nat} {T : List HoldT} {R S : Nat → Nat} (h : NewT w0 w nb T R S) :
    MTab w nb w0.heap.size w.heap.size T.length (slR T R) (slS T S) (fun i => (T.getD i hd0).1.length) (fun i => (T.getD i hd0).2.length) (fun i j => (T.getD i hd0).1.getD j (0, 0)) (fun i j => (T.getD i hd0).2.getD j (0, 0)) ∧ Dist nb T.length (slR T R) (slS T S) := by
  obtain ⟨g1, g2, g3, g4⟩ := h
  have hlt : ∀ i j, i < T.length → j < T.length → i < j → S i < R j := fun i j _ hj hij => (g3 j hj).2.2.2.2.2 i hij
  refine ⟨⟨g2, fun i hi => ?_⟩, ?_, ?_, ?_⟩
  · obtain ⟨h1, h2, h3, h4, h5, h6⟩ := g3 i hi
    exact ⟨⟨_, _, rfl, fun _ => ⟨R i, rfl, by omega, by omega, h4⟩⟩, ⟨_, _, rfl, fun _ => ⟨S i, rfl, by omega, by omega, h5⟩⟩⟩
  · intro i hi
    obtain ⟨h1, h2, h3, h4, h5, h6⟩ := g3 i hi
    exact ⟨fun e => by simp [Value.ownBlock] at e; omega, fun e => by simp [Value.ownBlock] at e; omega⟩
  · intro i j hi hj b hb
    have hb' : R i = b := by simpa [Value.ownBlock] using hb
    obtain ⟨h1, h2, h3, h4, h5, h6⟩ := g3 i hi
    obtain ⟨k1, k2, k3, k4, k5, k6⟩ := g3 j hj
    refine ⟨fun e => ?_, fun hne e => ?_⟩
    · have e' : S j = b := by simpa [Value.ownBlock] using e
      rcases Nat.lt_trichotomy i j with c | c | c
      · have := k6 i c; omega
      · subst c; omega
      · have := h6 j c; omega
    · have e' : R j = b := by simpa [Value.ownBlock] using e
      rcases Nat.lt_trichotomy i j with c | c | c
      · have := k6 i c; omega
      · exact hne c
      · have := h6 j c; omega
  · intro i j hi hj b hb hne e
    have hb' : S i = b := by simpa [Value.ownBlock] using hb
    have e' : S j = b := by simpa [Value.ownBlock] using e
    obtain ⟨h1, h2, h3, h4, h5, h6⟩ := g3 i hi
    obtain ⟨k1, k2, k3, k4, k5, k6⟩ := g3 j hj
    rcases Nat.lt_trichotomy i j with c | c | c
    · have := k6 i c; omega
    · exact hne c
    · have := h6 j c; omega

/-- Where the numbers of a table end. -/
theorem stI_tot (k : Int) (T : List HoldT) : stI k (fun i => (T.getD i hd0).1.length) (fun i => (T.getD i hd0).2.length) T.length = k + 2 * totT T := by
  have key : ∀ n, n ≤ T.length → stI k (fun i => (T.getD i hd0).1.length) (fun i => (T.getD i hd0).2.length) n + 2 * totT (T.drop n) = k + 2 * totT T := by
    intro n
    induction n with
    | zero => intro _; rfl
    | succ n ih =>
      intro hn
      have hlt : n < T.length := by omega
      have h1 := ih (by omega)
      rw [drop_consH T n hlt, show totT (T.getD n hd0 :: T.drop (n + 1)) = (T.getD n hd0).1.length + (T.getD n hd0).2.length + totT (T.drop (n + 1)) from rfl] at h1
      rw [show stI k (fun i => (T.getD i hd0).1.length) (fun i => (T.getD i hd0).2.length) (n + 1) = stI k (fun i => (T.getD i hd0).1.length) (fun i => (T.getD i hd0).2.length) n + 2 * ((T.getD n hd0).1.length : Nat) + 2 * ((T.getD n hd0).2.length : Nat) from rfl]
      omega
  have := key T.length (Nat.le_refl _)
  rw [List.drop_length] at this
  simpa [totT] using this

end Go.Proofs.Ytfifimdaepebeaa
