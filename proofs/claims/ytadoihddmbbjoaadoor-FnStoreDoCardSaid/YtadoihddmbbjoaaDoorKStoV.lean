/-
  Stores in memory: slices of strings and of ints that read as lists; the same in rows of the call's own, which may be written.
-/
import Derived.Test.YtadoihddmbbjoaaDoorKDoMath
import Derived.Test.YtadoihddmbbjoaaDoorKRegCore
import Derived.Test.YtadoihddmbbjoaaDoorKText
import Derived.Test.YtadoihddmbbjoaaDoorKCalm
namespace Go.Proofs.YtadoihddmbbjoaaDoor
open Go.RowKit

abbrev strF (L : List (List UInt8)) : Nat → Value := fun i => .string (mkB (L.getD i []))
abbrev intF (L : List Int) : Nat → Value := fun i => .int .i64 (L.getD i 0)

/-- The five slices of a store. -/
structure Sto (w : World) (v0 v1 v2 v3 v4 : Value) (S : StT) : Prop where
  now : Vls w v0 S.now.length (strF S.now)
  sure : Vls w v1 S.sure.length (strF S.sure)
  last : Vls w v2 S.last.length (intF S.last)
  slast : Vls w v3 S.slast.length (intF S.slast)
  floors : Vls w v4 S.floors.length (intF S.floors)
theorem Sto.keep {w w1 : World} {v0 v1 v2 v3 v4 : Value} {S : StT} (h : Sto w v0 v1 v2 v3 v4 S) (hb : Below w.heap.size w w1) : Sto w1 v0 v1 v2 v3 v4 S :=
  ⟨h.now.keep hb, h.sure.keep hb, h.last.keep hb, h.slast.keep hb, h.floors.keep hb⟩
theorem Vls.form {w : World} {v : Value} {n : Nat} {f : Nat → Value} (h : Vls w v n f) : ∃ a cap, v = .slice a n cap := by
  obtain ⟨a, cap, hv, -⟩ := h; exact ⟨a, cap, hv⟩
theorem Vls.nil (w : World) (f : Nat → Value) : Vls w (.slice none 0 0) 0 f := ⟨none, 0, rfl, Nat.le_refl _, by unfold maxLen; omega, fun h => absurd h (by omega)⟩
theorem Vls.len {w : World} {v : Value} {n : Nat} {f : Nat → Value} (h : Vls w v n f) : n ≤ 9223372036854775807 := by
  obtain ⟨a, cap, -, h1, h2, -⟩ := h; unfold maxLen at h2; omega

theorem Row1.same {w w1 : World} {b n : Nat} {f : Nat → Value} (h : Row1 w b n f) (hb : w1.heap[b]? = w.heap[b]?) : Row1 w1 b n f := fun i hi =>
  ⟨(World.cell?_of_block (a := ⟨b, i, none⟩) hb).trans (h i hi).1, (World.frozen?_of_block (a := ⟨b, i, none⟩) hb).trans (h i hi).2⟩

/-- A slice of n one-cell values whose block lies between lo and hi, at its head, and which may be written. -/
def Mk1 (w : World) (lo hi : Nat) (v : Value) (n : Nat) (f : Nat → Value) : Prop :=
  ∃ a cap, v = .slice a n cap ∧ n ≤ cap ∧ cap ≤ maxLen ∧ (∀ b, v.ownBlock = some b → lo ≤ b ∧ b < hi) ∧ (0 < n → ∃ g, a = some ⟨g, 0, none⟩ ∧ Row1 w g n f)
theorem Mk1.vls {w : World} {lo hi n : Nat} {v : Value} {f : Nat → Value} (h : Mk1 w lo hi v n f) : Vls w v n f := by
  obtain ⟨a, cap, hv, hl, hm, -, hc⟩ := h
  refine ⟨a, cap, hv, hl, hm, fun hp => ?_⟩
  obtain ⟨g, ha, hr⟩ := hc hp
  exact ⟨g, 0, ha, fun i hi => by rw [Nat.zero_add]; exact (hr i hi).1⟩
theorem Mk1.same {w w1 : World} {lo hi n : Nat} {v : Value} {f : Nat → Value} (h : Mk1 w lo hi v n f) (hb : ∀ b, v.ownBlock = some b → b < w.heap.size → w1.heap[b]? = w.heap[b]?) : Mk1 w1 lo hi v n f := by
  obtain ⟨a, cap, hv, hl, hm, ho, hc⟩ := h
  refine ⟨a, cap, hv, hl, hm, ho, fun hp => ?_⟩
  obtain ⟨g, ha, hr⟩ := hc hp
  subst ha
  exact ⟨g, rfl, hr.same (hb g (by rw [hv]; rfl) (World.block_lt_of_cell? w _ (hr 0 hp).1))⟩
theorem Mk1.keep {w w1 : World} {lo hi n : Nat} {v : Value} {f : Nat → Value} (h : Mk1 w lo hi v n f) (hb : Below w.heap.size w w1) : Mk1 w1 lo hi v n f := h.same fun b _ hlt => hb.block b hlt
theorem Mk1.congr {w : World} {lo hi n : Nat} {v : Value} {f g : Nat → Value} (h : Mk1 w lo hi v n f) (e : ∀ i, i < n → f i = g i) : Mk1 w lo hi v n g := by
  obtain ⟨a, cap, hv, hl, hm, ho, hc⟩ := h
  refine ⟨a, cap, hv, hl, hm, ho, fun hp => ?_⟩
  obtain ⟨b, ha, hr⟩ := hc hp
  exact ⟨b, ha, hr.congr e⟩
theorem Mk1.wide {w : World} {lo hi lo' hi' n : Nat} {v : Value} {f : Nat → Value} (h : Mk1 w lo hi v n f) (h1 : lo' ≤ lo) (h2 : hi ≤ hi') : Mk1 w lo' hi' v n f := by
  obtain ⟨a, cap, hv, hl, hm, ho, hc⟩ := h
  exact ⟨a, cap, hv, hl, hm, fun b hb => by have := ho b hb; omega, hc⟩
theorem Mk1.nil (w : World) (lo hi : Nat) (f : Nat → Value) : Mk1 w lo hi (.slice none 0 0) 0 f :=
  ⟨none, 0, rfl, Nat.le_refl _, by unfold maxLen; omega, fun b h => by simp [Value.ownBlock] at h, fun h => absurd h (by omega)⟩
theorem Mk1.of_row {w : World} {lo hi n g cap : Nat} {f : Nat → Value} (h : Row1 w g n f) (h1 : lo ≤ g) (h2 : g < hi) (h3 : n ≤ cap) (h4 : cap ≤ maxLen) : Mk1 w lo hi (.slice (some ⟨g, 0, none⟩) n cap) n f :=
  ⟨_, cap, rfl, h3, h4, fun b hb => by simp [Value.ownBlock] at hb; omega, fun _ => ⟨g, rfl, h⟩⟩
theorem Mk1.of_own {w : World} {lo n : Nat} {v : Value} {T : TypeId} {xs : List Value} (h : w.ownsRow lo T 1 v n xs) : Mk1 w lo w.heap.size v n (fun i => xs.getD i (.bool false)) := by
  have hlt := h.lt
  rcases h.2 with ⟨rfl, rfl⟩ | ⟨g, cap, cur, rfl, hb, hh, hc, hm, _⟩
  · exact Mk1.nil _ _ _ _
  · refine ⟨_, cap, rfl, hc, hm, hlt, fun _ => ⟨g, rfl, own_row1 h⟩⟩
theorem Mk1.btn {w w1 : World} {lo hi l h' n : Nat} {v : Value} {f : Nat → Value} (h : Mk1 w lo hi v n f) (hb : Btn l h' w w1) (hd : hi ≤ l ∨ h' ≤ lo) : Mk1 w1 lo hi v n f := by
  have ho : ∀ b, v.ownBlock = some b → lo ≤ b ∧ b < hi := by obtain ⟨a, cap, hv, hl, hm, ho, hc⟩ := h; exact ho
  exact h.same fun b hb' hlt => hb.block b hlt (by have := ho b hb'; omega)

/-- Two slices lie in two blocks. -/
def Dis (v u : Value) : Prop := ∀ b, v.ownBlock = some b → u.ownBlock ≠ some b
theorem Dis.symm {v u : Value} (h : Dis v u) : Dis u v := fun b hb e => h b e hb
theorem Mk1.dis {w w' : World} {lo hi lo' hi' n m : Nat} {v u : Value} {f g : Nat → Value} (h : Mk1 w lo hi v n f) (k : Mk1 w' lo' hi' u m g) (hd : hi ≤ lo' ∨ hi' ≤ lo) : Dis v u := by
  obtain ⟨-, -, -, -, -, ho, -⟩ := h
  obtain ⟨-, -, -, -, -, ko, -⟩ := k
  intro b hb e
  have := ho b hb
  have := ko b e
  omega

/-- Five lengths, and what stands in five slices. -/
structure N5 where
  a : Nat
  b : Nat
  c : Nat
  d : Nat
  e : Nat
structure F5 where
  a : Nat → Value
  b : Nat → Value
  c : Nat → Value
  d : Nat → Value
  e : Nat → Value
def StT.n5 (S : StT) : N5 := ⟨S.now.length, S.sure.length, S.last.length, S.slast.length, S.floors.length⟩
def StT.f5 (S : StT) : F5 := ⟨strF S.now, strF S.sure, intF S.last, intF S.slast, intF S.floors⟩
def N5.tot (N : N5) : Nat := N.a + N.b + N.c + N.d + N.e

/-- Five slices of the call's own. -/
structure M5 (w : World) (lo hi : Nat) (v0 v1 v2 v3 v4 : Value) (N : N5) (F : F5) : Prop where
  a : Mk1 w lo hi v0 N.a F.a
  b : Mk1 w lo hi v1 N.b F.b
  c : Mk1 w lo hi v2 N.c F.c
  d : Mk1 w lo hi v3 N.d F.d
  e : Mk1 w lo hi v4 N.e F.e
  ab : Dis v0 v1
  ac : Dis v0 v2
  ad : Dis v0 v3
  ae : Dis v0 v4
  bc : Dis v1 v2
  bd : Dis v1 v3
  be : Dis v1 v4
  cd : Dis v2 v3
  ce : Dis v2 v4
  de : Dis v3 v4
theorem M5.keep {w w1 : World} {lo hi : Nat} {v0 v1 v2 v3 v4 : Value} {N : N5} {F : F5} (h : M5 w lo hi v0 v1 v2 v3 v4 N F) (hb : Below w.heap.size w w1) : M5 w1 lo hi v0 v1 v2 v3 v4 N F :=
  { h with a := h.a.keep hb, b := h.b.keep hb, c := h.c.keep hb, d := h.d.keep hb, e := h.e.keep hb }
theorem M5.btn {w w1 : World} {lo hi l h' : Nat} {v0 v1 v2 v3 v4 : Value} {N : N5} {F : F5} (h : M5 w lo hi v0 v1 v2 v3 v4 N F) (hb : Btn l h' w w1) (hd : hi ≤ l ∨ h' ≤ lo) : M5 w1 lo hi v0 v1 v2 v3 v4 N F :=
  { h with a := h.a.btn hb hd, b := h.b.btn hb hd, c := h.c.btn hb hd, d := h.d.btn hb hd, e := h.e.btn hb hd }
theorem M5.wide {w : World} {lo hi lo' hi' : Nat} {v0 v1 v2 v3 v4 : Value} {N : N5} {F : F5} (h : M5 w lo hi v0 v1 v2 v3 v4 N F) (h1 : lo' ≤ lo) (h2 : hi ≤ hi') : M5 w lo' hi' v0 v1 v2 v3 v4 N F :=
  { h with a := h.a.wide h1 h2, b := h.b.wide h1 h2, c := h.c.wide h1 h2, d := h.d.wide h1 h2, e := h.e.wide h1 h2 }
theorem M5.sto {w : World} {lo hi : Nat} {v0 v1 v2 v3 v4 : Value} {S : StT} (h : M5 w lo hi v0 v1 v2 v3 v4 S.n5 S.f5) : Sto w v0 v1 v2 v3 v4 S :=
  ⟨h.a.vls, h.b.vls, h.c.vls, h.d.vls, h.e.vls⟩
theorem dis_nil (v : Value) (cap : Nat) : Dis v (.slice none 0 cap) := fun b _ e => by simp [Value.ownBlock] at e
theorem M5.none (w : World) (lo hi : Nat) : M5 w lo hi (.slice none 0 0) (.slice none 0 0) (.slice none 0 0) (.slice none 0 0) (.slice none 0 0) st0.n5 st0.f5 :=
  ⟨Mk1.nil _ _ _ _, Mk1.nil _ _ _ _, Mk1.nil _ _ _ _, Mk1.nil _ _ _ _, Mk1.nil _ _ _ _, dis_nil _ _, dis_nil _ _, dis_nil _ _, dis_nil _ _, dis_nil _ _, dis_nil _ _, dis_nil _ _, dis_nil _ _, dis_nil _ _, dis_nil _ _⟩

/-- What a function that makes a store leaves. -/
def ToSt (w : World) (S : StT) (e : Ending) (w' : World) : Prop :=
  ∃ v0 v1 v2 v3 v4, e = .returned (.agg #[v0, v1, v2, v3, v4]) ∧ Hid (M5 w' w.heap.size w'.heap.size v0 v1 v2 v3 v4 S.n5 S.f5) ∧ Below w.heap.size w w'
/-- .. that makes a store and a bool. -/
def ToSB (w : World) (S : StT) (q : Bool) (e : Ending) (w' : World) : Prop :=
  ∃ v0 v1 v2 v3 v4, e = .returned (.tuple #[.agg #[v0, v1, v2, v3, v4], .bool q]) ∧ Hid (M5 w' w.heap.size w'.heap.size v0 v1 v2 v3 v4 S.n5 S.f5) ∧ Below w.heap.size w w'

/-- A box of five values. -/
def Box5 (w : World) (b : Nat) (v0 v1 v2 v3 v4 : Value) : Prop :=
  w.cell? ⟨b, 0, none⟩ = some v0 ∧ w.cell? ⟨b, 1, none⟩ = some v1 ∧ w.cell? ⟨b, 2, none⟩ = some v2 ∧ w.cell? ⟨b, 3, none⟩ = some v3 ∧ w.cell? ⟨b, 4, none⟩ = some v4
theorem Box5.keep {w w1 : World} {b : Nat} {v0 v1 v2 v3 v4 : Value} (h : Box5 w b v0 v1 v2 v3 v4) (hb : Below w.heap.size w w1) : Box5 w1 b v0 v1 v2 v3 v4 :=
  ⟨cell_keep hb h.1, cell_keep hb h.2.1, cell_keep hb h.2.2.1, cell_keep hb h.2.2.2.1, cell_keep hb h.2.2.2.2⟩
theorem Box5.btn {w w1 : World} {b lo hi : Nat} {v0 v1 v2 v3 v4 : Value} (h : Box5 w b v0 v1 v2 v3 v4) (hb : Btn lo hi w w1) (hd : b < lo ∨ hi ≤ b) : Box5 w1 b v0 v1 v2 v3 v4 := by
  have hlt := World.block_lt_of_cell? w _ h.1
  have hh := hb.block b hlt (by omega)
  exact ⟨(World.cell?_of_block (a := ⟨b, 0, none⟩) hh).trans h.1, (World.cell?_of_block (a := ⟨b, 1, none⟩) hh).trans h.2.1, (World.cell?_of_block (a := ⟨b, 2, none⟩) hh).trans h.2.2.1, (World.cell?_of_block (a := ⟨b, 3, none⟩) hh).trans h.2.2.2.1, (World.cell?_of_block (a := ⟨b, 4, none⟩) hh).trans h.2.2.2.2⟩
theorem new_box5 (w : World) (v0 v1 v2 v3 v4 : Value) (T : TypeId) : Box5 (w.alloc (.cells #[v0, v1, v2, v3, v4] T)) w.heap.size v0 v1 v2 v3 v4 := ⟨by go_simp, by go_simp, by go_simp, by go_simp, by go_simp⟩

end Go.Proofs.YtadoihddmbbjoaaDoor
