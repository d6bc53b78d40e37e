/-
  How a file is put together part by part: plain facts, and what a round may change.
-/
import Derived.Test.YtjbkahfbaploaaaLtMath
import Derived.Test.YtjbkahfbaploaaaPartIterG
import Derived.Test.YtjbkahfbaploaaaPartCollect
import Derived.Test.YtjbkahfbaploaaaRegCore
import Derived.Test.YtjbkahfbaploaaaSheet
import Derived.Test.YtjbkahfbaploaaaReadMath
namespace Go.Proofs.Ytjbkahfbaploaaa
open Go.RowKit

/-- A place lies in one of the parts. -/
def covP (l : List PartT) (i : Nat) : Bool := l.any fun x => decide (x.2.2.2 ≤ (i : Int)) && decide ((i : Int) < x.2.2.2 + (x.2.2.1 - x.2.1))
theorem covP_app (l : List PartT) (x : PartT) (i : Nat) : covP (l ++ [x]) i = (covP l i || (decide (x.2.2.2 ≤ (i : Int)) && decide ((i : Int) < x.2.2.2 + (x.2.2.1 - x.2.1)))) := by unfold covP; rw [List.any_append]; simp
theorem chain_cov {size many lo hi : Int} {l : List PartT} (h : Chain size many lo hi l) : ∀ k, k ≤ l.length → ∀ i : Nat, lo ≤ (i : Int) → (i : Int) < nextF lo l k → covP l i = true
  | 0, _, i, h1, h2 => by
    have : nextF lo l 0 = lo := rfl
    omega
  | k + 1, hk, i, h1, h2 => by
    by_cases c : (i : Int) < nextF lo l k
    · exact chain_cov h k (by omega) i h1 c
    · have e : nextF lo l (k + 1) = nextF lo l k + ((l.getD k pD).2.2.1 - (l.getD k pD).2.1) := rfl
      have g := (h.good k (by omega)).1.1
      refine List.any_eq_true.2 ⟨l.getD k pD, ?_, ?_⟩
      · rw [List.getD_eq_getElem?_getD, List.getElem?_eq_getElem (by omega)]; exact List.getElem_mem _
      · simp only [Bool.and_eq_true, decide_eq_true_eq]; omega
theorem prts_cov {size many : Int} (hy : layOkB size many = true) {n : Nat} (hn : n ≤ 48) {i : Nat} (hi : i < n) : covP (prts size many 0 n) i = true := by
  have h := prts_chain (many := many) hy (Int.le_refl 0) _ (n : Int) rfl (by omega) (by omega)
  exact chain_cov h _ (Nat.le_refl _) i (by omega) (by rw [h.last]; omega)

theorem splice_getD {L d : List UInt8} {off : Nat} (h : off + d.length ≤ L.length) (i : Nat) : (splice L off d).getD i 46 = if off ≤ i ∧ i < off + d.length then d.getD (i - off) 46 else L.getD i 46 := by
  rw [List.getD_eq_getElem?_getD, splice_getElem? L off d h i]
  split
  · rw [List.getD_eq_getElem?_getD]
  · rw [List.getD_eq_getElem?_getD]
theorem splice_len {L d : List UInt8} {off : Nat} (h : off + d.length ≤ L.length) : (splice L off d).length = L.length := by
  unfold splice; simp; omega

/-- What has been put together so far. -/
structure LInv (size many : Int) (S : Nat → List UInt8) (n : Nat) (pre : List PartT) (L : List UInt8) : Prop where
  len : L.length = n
  at_ : ∀ i, i < n → L.getD i 46 = if covP pre i = true then ltT size many S i else 46

theorem LInv.step {size many : Int} {S : Nat → List UInt8} {n : Nat} {pre : List PartT} {L : List UInt8} (h : LInv size many S n pre L) {o p q f : Nat} (hpq : p < q) (hf : f + (q - p) ≤ n)
    (hg : ∀ j : Int, 0 ≤ j → j < (q : Int) - p → objF size many ((f : Int) + j) = (o : Int) ∧ atF size many ((f : Int) + j) = (p : Int) + j) :
    f + (rdL (S o) p q).length ≤ L.length ∧ LInv size many S n (pre ++ [((o : Int), (p : Int), (q : Int), (f : Int))]) (splice L f (rdL (S o) p q)) := by
  have hl := rdL_len (S o) p q
  have hfit : f + (rdL (S o) p q).length ≤ L.length := by rw [h.len]; omega
  refine ⟨hfit, ⟨by rw [splice_len hfit]; exact h.len, fun i hi => ?_⟩⟩
  rw [splice_getD hfit, covP_app]
  by_cases c : f ≤ i ∧ i < f + (q - p)
  · have hT : ltT size many S i = (S o).getD (p + (i - f)) 46 := by
      have := hg ((i : Int) - f) (by omega) (by omega)
      rw [show (f : Int) + ((i : Int) - f) = i by omega] at this
      unfold ltT
      rw [this.1, this.2, Int.toNat_natCast, show ((p : Int) + ((i : Int) - f)).toNat = p + (i - f) by omega]
    have hc : (covP pre i || (decide ((f : Int) ≤ (i : Int)) && decide ((i : Int) < f + ((q : Int) - p)))) = true := by
      have e1 : decide ((f : Int) ≤ (i : Int)) = true := by simp; omega
      have e2 : decide ((i : Int) < f + ((q : Int) - p)) = true := by simp; omega
      rw [e1, e2]; simp
    rw [if_pos hc]
    by_cases c2 : i < f + (rdL (S o) p q).length
    · rw [if_pos ⟨c.1, c2⟩, rdL_getD _ _ _ _ (by omega), hT]
    · have h46 : ltT size many S i = 46 := by rw [hT, List.getD_eq_getElem?_getD, List.getElem?_eq_none (by omega)]; rfl
      rw [if_neg (fun k => c2 k.2), h.at_ i hi, h46]
      split <;> rfl
  · have hc : (covP pre i || (decide ((f : Int) ≤ (i : Int)) && decide ((i : Int) < f + ((q : Int) - p)))) = covP pre i := by
      have : (decide ((f : Int) ≤ (i : Int)) && decide ((i : Int) < f + ((q : Int) - p))) = false := by
        rw [Bool.and_eq_false_iff]; simp only [decide_eq_false_iff_not]; omega
      rw [this, Bool.or_false]
    rw [hc, if_neg (by omega)]
    exact h.at_ i hi
theorem LInv.end {size many : Int} {S : Nat → List UInt8} {n : Nat} {pre : List PartT} {L : List UInt8} (h : LInv size many S n pre L) (hp : pre = prts size many 0 n) (hy : layOkB size many = true) (hn : n ≤ 48) : L = ltL size many S n := by
  subst hp
  refine ext_getD (by rw [h.len, ltL_len]) fun i hi => ?_
  rw [ltL_len] at hi
  rw [h.at_ i hi, if_pos (prts_cov hy hn hi), ltL_getD _ _ _ hi]
theorem LInv.start (size many : Int) (S : Nat → List UInt8) (n : Nat) : LInv size many S n [] (cutL [] n) :=
  ⟨cutL_len _ _, fun i hi => by rw [cutL_getD _ _ _ hi, if_neg (by simp)]; rfl⟩

/-- Nothing ahead of n₀ has changed but block g. -/
structure Kpg (g n0 : Nat) (A B : World) : Prop where
  os : B.os = A.os
  tape : B.tape = A.tape
  output : B.output = A.output
  size : A.heap.size ≤ B.heap.size
  block : ∀ i, i < A.heap.size → i < n0 → i ≠ g → B.heap[i]? = A.heap[i]?
theorem Kpg.refl (g n0 : Nat) (A : World) : Kpg g n0 A A := ⟨rfl, rfl, rfl, Nat.le_refl _, fun _ _ _ _ => rfl⟩
theorem Kpg.trans {g n0 : Nat} {A B C : World} (h : Kpg g n0 A B) (k : Kpg g n0 B C) : Kpg g n0 A C :=
  ⟨k.os.trans h.os, k.tape.trans h.tape, k.output.trans h.output, Nat.le_trans h.size k.size, fun i hi h0 hn => (k.block i (Nat.lt_of_lt_of_le hi h.size) h0 hn).trans (h.block i hi h0 hn)⟩
theorem Kpg.cell {g n0 b o : Nat} {A B : World} {v : Value} (h : Kpg g n0 A B) (hb : b < n0) (hg : b ≠ g) (hc : A.cell? ⟨b, o, none⟩ = some v) : B.cell? ⟨b, o, none⟩ = some v :=
  (World.cell?_of_block (a := ⟨b, o, none⟩) (h.block b (World.block_lt_of_cell? A _ hc) hb hg)).trans hc
theorem Kpg.box {g n0 b : Nat} {A B : World} {x y : Int} (h : Kpg g n0 A B) (hb : b < n0) (hg : b ≠ g) (k : Box2 A b x y) : Box2 B b x y := by
  have hh := h.block b (World.block_lt_of_cell? A _ k.1) hb hg
  obtain ⟨h0, h1, h2, h3⟩ := k
  exact ⟨(World.cell?_of_block (a := ⟨b, 0, none⟩) hh).trans h0, (World.cell?_of_block (a := ⟨b, 1, none⟩) hh).trans h1, (World.frozen?_of_block (a := ⟨b, 0, none⟩) hh).trans h2, (World.frozen?_of_block (a := ⟨b, 1, none⟩) hh).trans h3⟩
theorem Kpg.put {g n0 : Nat} {w : World} (hn : n0 ≤ w.heap.size) (W : World) (l : Nat) (o o' : Obj) (hl : w.heap.size ≤ l) (_ : W.heap[l]? = some o) (_ : o.isCells = false) (_ : o.isWalk = false) : Kpg g n0 W (W.putObj l o') :=
  ⟨rfl, rfl, rfl, by simp, fun i _ h0 _ => World.putObj_heap_other (by omega)⟩
theorem Kpg.below {g n0 n : Nat} {A B : World} (h : Kpg g n0 A B) (hg : n ≤ g) (hn : n ≤ n0) (hs : n ≤ A.heap.size) : Below n A B :=
  ⟨h.os, h.tape, h.output, h.size, fun i hi => h.block i (by omega) (by omega) (by omega)⟩
theorem kpg_from {β : Type} {g n0 B : Nat} {w0 : World} (hn : n0 ≤ B) : OwnFrom B (fun (_ : β) W => Kpg g n0 w0 W) := fun _ W W' row hs hg hr =>
  ⟨hg.os.trans hs.os, hg.tape.trans hs.tape, hg.output.trans hs.output, Nat.le_trans hs.size hg.size, fun i hi h0 hne =>
    (hg.block i (Nat.lt_of_lt_of_le hi hs.size) (fun e => by have := (hr i e.symm).1; omega)).trans (hs.block i hi h0 hne)⟩
theorem shtW_own {β : Type} {g : Nat} {B : Nat} (P : β → List UInt8 → Prop) : OwnFrom B (fun (s : β) W => ∃ L, ShtW W g L ∧ P s L) := fun s W W' row ⟨L, hs, hp⟩ hg hr =>
  ⟨L, (hg.block g hs.lt (fun e => by
    obtain ⟨_, o, ho, hc⟩ := hr g e.symm
    have : W.heap[g]? = some o := ho
    rw [hs] at this; cases this; cases hc)).trans hs, hp⟩

theorem Kpg.of_below {g n0 : Nat} {A B : World} (h : Below A.heap.size A B) : Kpg g n0 A B := ⟨h.os, h.tape, h.output, h.size, fun i hi _ _ => h.block i hi⟩
/-- The frame of a round's region. -/
def FrL (c x : Nat → Value) : Act := { tmps := #[c 0, c 1, c 2, c 3, c 4, c 5, c 6, c 7, c 8, c 9, c 10, c 11, c 12, c 13, c 14, c 15, x 0, x 1, x 2, x 3, x 4, x 5, x 6, x 7, x 8, x 9, x 10, x 11, x 12, x 13, undef], defers := [] }
/-- What holds between the operations of a round's region. -/
def depL : Nat → List Nat
  | 2 => [1]
  | 3 => [0, 2]
  | 6 => [5]
  | 7 => [4, 6]
  | 8 => [7]
  | 9 => [8]
  | 11 => [10]
  | 12 => [9, 11]
  | _ => []
theorem dep_step {L : Nat → Bool} {i : Nat} (h : ∀ j m, m ∈ depL j → L j = true → L m = true) (hd : ∀ m ∈ depL i, L m = true) : ∀ j m, m ∈ depL j → lset L i j = true → lset L i m = true := fun j m hm hl => by
  by_cases e : j = i
  · subst e; exact lset_mono (hd m hm)
  · rw [lset_ne e] at hl; exact lset_mono (h j m hm hl)
structure Rg (V : Nat → Value) (W : World) (s : List UInt8) (L : Nat → Bool) (x : Nat → Value) (w' : World) : Prop where
  l13 : L 13 = false
  bel : Below W.heap.size W w'
  val : ∀ j, j < 13 → j ≠ 9 → L j = true → x j = V j
  sht : L 9 = true → Sht w' (x 9) s
  clo : ∀ j m, m ∈ depL j → L j = true → L m = true
theorem Rg.pure {V : Nat → Value} {W : World} {s : List UInt8} {L : Nat → Bool} {x : Nat → Value} {w' : World} (h : Rg V W s L x w') {i : Nat} {v : Value} (hi : i < 13) (h9 : i ≠ 9) (hv : v = V i) (hd : ∀ m ∈ depL i, L m = true) : Rg V W s (lset L i) (upd x i v) w' :=
  ⟨by rw [lset_ne (by omega)]; exact h.l13, h.bel, fun j hj hj9 hl => by
    by_cases e : j = i
    · subst e; rw [upd_eq, hv]
    · rw [upd_ne e]; exact h.val j hj hj9 (by rwa [lset_ne e] at hl), fun hl => by
    rw [upd_ne (Ne.symm h9)]; exact h.sht (by rwa [lset_ne (Ne.symm h9)] at hl), dep_step h.clo hd⟩
theorem Rg.call {V : Nat → Value} {W : World} {s : List UInt8} {L : Nat → Bool} {x : Nat → Value} {w' w2 : World} (h : Rg V W s L x w') {i : Nat} {v : Value} (hi : i < 13) (h9 : i ≠ 9) (hv : v = V i) (hd : ∀ m ∈ depL i, L m = true) (hb : Below w'.heap.size w' w2) : Rg V W s (lset L i) (upd x i v) w2 :=
  let k := h.pure hi h9 hv hd
  ⟨k.l13, k.bel.trans (hb.mono h.bel.size), k.val, fun hl => (k.sht hl).keep hb, k.clo⟩
theorem Rg.conv {V : Nat → Value} {W : World} {s : List UInt8} {L : Nat → Bool} {x : Nat → Value} {w' w2 : World} (h : Rg V W s L x w') {v : Value} (hs : Sht w2 v s) (hd : ∀ m ∈ depL 9, L m = true) (hb : Below w'.heap.size w' w2) : Rg V W s (lset L 9) (upd x 9 v) w2 :=
  ⟨by rw [lset_ne (by omega)]; exact h.l13, h.bel.trans (hb.mono h.bel.size), fun j hj hj9 hl => by
    rw [upd_ne hj9]; exact h.val j hj hj9 (by rwa [lset_ne hj9] at hl), fun _ => by rw [upd_eq]; exact hs, dep_step h.clo hd⟩

/-- What has become of the world in a round. -/
def RgPost (V : Nat → Value) (W : World) (s : List UInt8) (g : Nat) (L' : List UInt8) (c : Nat → Value) (L : Nat → Bool) (a : Act) (w' : World) : Prop :=
  ∃ x, a = FrL c x ∧ (Rg V W s L x w' ∨ ((∀ j, j < 14 → L j = true) ∧ ∃ w0, Below W.heap.size W w0 ∧ Btn g (g + 1) w0 w' ∧ ShtW w' g L'))

/-- The iterator as the law asks it, each part with what it is good for. -/
theorem parts_stopsG (n : Nat) (hn : 1 ≤ n) (Bs Bl g n₀ : Nat) (size many lo hi : Int) (hy : layOkB size many = true) (h0 : 0 ≤ lo) (h1 : lo ≤ hi) (h2 : hi ≤ 48) (w : World) (bS : Box2 w Bs lo hi) (bL : Box2 w Bl size many) (hs : Bs < n₀) (hl : Bl < n₀) (gs : Bs ≠ g) (gl : Bl ≠ g) :
    SeqStopsK Fence.wide n Try.prog 54 #[.pointer (some ⟨Bs, 0, none⟩), .pointer (some ⟨Bl, 0, none⟩)] (fun x : GPart size many hi => encPart x.1) (Kpg g n₀) (fun ys => ys.map (fun x => x.1) = prts size many lo hi) (fun _ => True) 48 w := fun l J Jx W hW hJ _ hY hJ0 =>
  (parts_inG n hn l Bs Bl size many lo hi hy h0 h1 h2 (Kpg g n₀) (fun _ _ h k => h.box hs gs k) (fun _ _ h k => h.box hl gl k) (fun _ _ h => h.size) J Jx hY W hJ (bS.keep hW) (bL.keep hW) hJ0).mono fun _ _ h => ⟨h.1, h.2.imp id fun ⟨pre, hp⟩ => ⟨pre, trivial, hp⟩⟩

end Go.Proofs.Ytjbkahfbaploaaa
