/-
  Contracts of the reader that draws (l10Open, pick, num): what is drawn lies in its range; nothing changes but the reader's own place.
  Contract of the draw of a number out of a list, with what kind of number it is.
  Contracts of the draws of texts (of, l2Text, l2Some, l2Data, l2At).
-/
import Derived.Test.YtadoihddmbbjoaaDoorKRegCore
import Derived.Test.YtadoihddmbbjoaaDoorKCalm
import Derived.Lib.Hide
import Derived.IntWalk
import Derived.Laws.BitsAllLaws
import Derived.Laws.BitsLemmas
import Derived.Laws.IdiomStrings
import Derived.Test.YtadoihddmbbjoaaDoorKSpecLong
namespace Go.Proofs.YtadoihddmbbjoaaDoor
open Go.RowKit

theorem grown_trans {a b c : World} {row : Option Nat} (h : a.grownBy b row) (k : b.grownBy c row) : a.grownBy c row :=
  ⟨k.os.trans h.os, k.tape.trans h.tape, k.output.trans h.output, Nat.le_trans h.size k.size, fun i hi hne => (k.block i (Nat.lt_of_lt_of_le hi h.size) hne).trans (h.block i hi hne)⟩
theorem grown_below {a b : World} (h : Below a.heap.size a b) (row : Option Nat) : a.grownBy b row := ⟨h.os, h.tape, h.output, h.size, fun i hi _ => h.block i hi⟩
theorem grown_set (w : World) (g o : Nat) (v : Value) : w.grownBy (w.setCell ⟨g, o, none⟩ v) (some g) :=
  ⟨rfl, rfl, rfl, by simp [World.setCell], fun i hi hne => Below.heap_setCell w _ v i (by rintro rfl; exact hne rfl)⟩
theorem below_grown {a b : World} {g B : Nat} (h : a.grownBy b (some g)) (hB : B ≤ g) (hs : B ≤ a.heap.size) : Below B a b :=
  ⟨h.os, h.tape, h.output, h.size, fun i hi => h.block i (Nat.lt_of_lt_of_le hi hs) (by intro e; injection e with e; omega)⟩
theorem grown_cell {a b : World} {g x o : Nat} {v : Value} (h : a.grownBy b (some g)) (hne : x ≠ g) (hc : a.cell? ⟨x, o, none⟩ = some v) : b.cell? ⟨x, o, none⟩ = some v :=
  h.cell hc (by simpa using hne)
theorem grown_frozen {a b : World} {g x o : Nat} {v : Value} (h : a.grownBy b (some g)) (hne : x ≠ g) (hc : a.cell? ⟨x, o, none⟩ = some v) : b.frozen? ⟨x, o, none⟩ = a.frozen? ⟨x, o, none⟩ :=
  World.frozen?_of_block (w := a) (h.block x (World.block_lt_of_cell? a _ hc) (by simpa using hne))
theorem Box2.grown {W w1 : World} {b g : Nat} {x y : Int} (h : Box2 W b x y) (hb : W.grownBy w1 (some g)) (hne : b ≠ g) : Box2 w1 b x y := by
  obtain ⟨h0, h1, h2, h3⟩ := h
  exact ⟨grown_cell hb hne h0, grown_cell hb hne h1, (grown_frozen hb hne h0).trans h2, (grown_frozen hb hne h1).trans h3⟩

/-- A reader at block rb whose place is p: at most 2000 bytes, in a block of another. -/
def Rd (w : World) (rb p : Nat) : Prop :=
  ∃ (z : Nat → Int) (a : Option Addr) (len cap : Nat), w.cell? ⟨rb, 0, none⟩ = some (.slice a len cap) ∧ w.cell? ⟨rb, 1, none⟩ = some (.int .i64 (p : Int)) ∧ w.frozen? ⟨rb, 1, none⟩ = false ∧ len ≤ 2000 ∧
    (0 < len → ∃ b off, a = some ⟨b, off, none⟩ ∧ b < rb ∧ ∀ i, i < len → w.cell? ⟨b, off + i, none⟩ = some (.int .u8 (z i)) ∧ 0 ≤ z i ∧ z i < 256)

theorem Rd.keep {W w1 : World} {rb p : Nat} (h : Rd W rb p) (hb : Below W.heap.size W w1) : Rd w1 rb p := by
  obtain ⟨z, a, len, cap, h0, h1, h2, h3, h4⟩ := h
  have hlt := World.block_lt_of_cell? W _ h1
  refine ⟨z, a, len, cap, cell_keep hb h0, cell_keep hb h1, (hb.frozen (p := ⟨rb, 1, none⟩) hlt).trans h2, h3, fun hp => ?_⟩
  obtain ⟨b, off, ha, hne, hc⟩ := h4 hp
  exact ⟨b, off, ha, hne, fun i hi => ⟨cell_keep hb (hc i hi).1, (hc i hi).2⟩⟩

/-- The place moved on. -/
theorem Rd.next {w : World} {rb p : Nat} (h : Rd w rb p) (q : Nat) : Rd (w.setCell ⟨rb, 1, none⟩ (.int .i64 (q : Int))) rb q := by
  obtain ⟨z, a, len, cap, h0, h1, h2, h3, h4⟩ := h
  refine ⟨z, a, len, cap, by go_simp, by go_simp, by go_simp, h3, fun hp => ?_⟩
  obtain ⟨b, off, ha, hne, hc⟩ := h4 hp
  exact ⟨b, off, ha, hne, fun i hi => ⟨by rw [World.cell?_setCell_far _ _ _ _ (Nat.ne_of_gt hne)]; exact (hc i hi).1, (hc i hi).2⟩⟩

theorem xor_pos (X : Int) (h0 : 0 ≤ X) (h1 : X < 4611686018427387904) : ∃ V : Int, bits .xor .i64 X (X / 64) = V ∧ 0 ≤ V := by
  refine ⟨((X.toNat ^^^ (X / 64).toNat : Nat) : Int), ?_, Int.natCast_nonneg _⟩
  have e1 : X = ((X.toNat : Nat) : Int) := by omega
  have e2 : X / 64 = (((X / 64).toNat : Nat) : Int) := by omega
  have hx : X.toNat ^^^ (X / 64).toNat < 2 ^ 63 := Nat.xor_lt_two_pow (by omega) (by omega)
  have ho : ∀ a : Nat, a < 9223372036854775808 → (BitVec.ofInt 64 (a : Int)).toNat = a := fun a ha => by
    rw [BitVec.ofInt_natCast, BitVec.toNat_ofNat]; exact Nat.mod_eq_of_lt (by omega)
  have key : ∀ a b : Nat, a < 9223372036854775808 → b < 9223372036854775808 → a ^^^ b < 2 ^ 63 → bits .xor .i64 (a : Int) (b : Int) = ((a ^^^ b : Nat) : Int) := fun a b ha hb hab => by
    show IntKind.i64.wrap ((BitVec.ofInt 64 (a : Int) ^^^ BitVec.ofInt 64 (b : Int)).toNat : Int) = _
    rw [BitVec.toNat_xor, ho a ha, ho b hb, IntKind.wrap_i64]
    omega
  have := key X.toNat (X / 64).toNat (by omega) (by omega) hx
  rw [← e1, ← e2] at this
  exact this

theorem mix_in (A B : Int) (p len : Nat) (a1 : 0 ≤ A) (a2 : A < 256) (b1 : 0 ≤ B) (b2 : B < 256) (hp : p ≤ 1000000000) :
    ∃ X : Int, wrap64 (A * 131 + B * 1117 + (p : Int) * 29 + wrap64 (wrap64 ((p : Int) / (len : Int)) * 53)) = X ∧ 0 ≤ X ∧ X < 4611686018427387904 := by
  have hd : p / len ≤ p := Nat.div_le_self _ _
  have e : (p : Int) / (len : Int) = ((p / len : Nat) : Int) := (Int.natCast_ediv _ _).symm
  rw [e]
  generalize p / len = D at *
  have w1 : wrap64 ((D : Nat) : Int) = ((D : Nat) : Int) := IntWalk.wrap64_in _ ⟨by omega, by omega⟩
  rw [w1]
  have w2 : wrap64 (((D : Nat) : Int) * 53) = ((D : Nat) : Int) * 53 := IntWalk.wrap64_in _ ⟨by omega, by omega⟩
  rw [w2]
  have w3 : wrap64 (A * 131 + B * 1117 + (p : Int) * 29 + ((D : Nat) : Int) * 53) = A * 131 + B * 1117 + (p : Int) * 29 + ((D : Nat) : Int) * 53 := IntWalk.wrap64_in _ ⟨by omega, by omega⟩
  rw [w3]
  exact ⟨_, rfl, by omega, by omega⟩

/-- What pick leaves. -/
def Pk (w : World) (rb p : Nat) (n : Int) (e : Ending) (w' : World) : Prop :=
  ∃ v : Int, e = .returned (.int .i64 v) ∧ 0 ≤ v ∧ (1 ≤ n → v < n) ∧ Rd w' rb (p + 1) ∧ w.grownBy w' (some rb)

set_option maxHeartbeats 4000000 in
theorem pick_any (rb p : Nat) (n : Int) (w : World) (h : Rd w rb p) (hp : p ≤ 1000000000) (hn : n ≤ 1000000000) (hn0 : -1000000000 ≤ n) :
    Calls Tryd.prog 62 #[.pointer (some ⟨rb, 0, none⟩), .int .i64 n] w (Pk w rb p n) := by
  have HN := Lib.hid (h.next (p + 1))
  have HG := Lib.hid (grown_set w rb 1 (.int .i64 ((p + 1 : Nat) : Int)))
  obtain ⟨z, a, len, cap, h0, h1, h2, h3, h4⟩ := h
  have hpc : ((p + 1 : Nat) : Int) = (p : Int) + 1 := by omega
  rw [hpc] at HN HG
  clear hpc
  by_cases g1 : n < 1
  · go_enter Tryd.func62, Tryd.ntmps62
    go_wp2
    go_ret
    exact ⟨0, rfl, by omega, by omega, HN.out, HG.out⟩
  · by_cases g2 : len = 0
    · subst g2
      go_enter Tryd.func62, Tryd.ntmps62
      go_wp2
      go_ret
      exact ⟨0, rfl, by omega, by omega, HN.out, HG.out⟩
    · obtain ⟨b, off, rfl, hne, hc⟩ := h4 (by omega)
      have HC := Lib.hid hc
      clear h4 hc
      by_cases g3 : p < len
      · have c1 := (HC.out p g3).1
        have c2 := (HC.out p g3).2.1
        have c3 := (HC.out p g3).2.2
        generalize z p = y at *
        go_enter Tryd.func62, Tryd.ntmps62
        go_wp2
        go_ret
        exact ⟨y % n, rfl, Int.emod_nonneg _ (by omega), fun _ => Int.emod_lt_of_pos _ (by omega), HN.out, HG.out⟩
      · have hlen : 0 < len := by omega
        have q1 : p % len < len := Nat.mod_lt _ hlen
        have q2 : (p * 7 + 3) % len < len := Nat.mod_lt _ hlen
        have c1 := HC.out _ q1
        have c2 := HC.out _ q2
        generalize z (p % len) = A at *
        generalize z ((p * 7 + 3) % len) = B at *
        obtain ⟨c1, a1, a2⟩ := c1
        obtain ⟨c2, b1, b2⟩ := c2
        have HX := Lib.hid (mix_in A B p len a1 a2 b1 b2 hp)
        clear HC
        have HW : Hid ((w.setCell ⟨rb, 1, none⟩ (.int .i64 ((p : Int) + 1))).cell? ⟨b, off + p % len, none⟩ = some (.int .u8 A) ∧ (w.setCell ⟨rb, 1, none⟩ (.int .i64 ((p : Int) + 1))).cell? ⟨b, off + (p * 7 + 3) % len, none⟩ = some (.int .u8 B)) :=
          ⟨by rw [World.cell?_setCell_far _ _ _ _ (Nat.ne_of_gt hne)]; exact c1, by rw [World.cell?_setCell_far _ _ _ _ (Nat.ne_of_gt hne)]; exact c2⟩
        clear c1 c2
        go_enter Tryd.func62, Tryd.ntmps62
        go_wp2
        have HR : Hid ((w.setCell ⟨rb, 1, none⟩ (.int .i64 ((p : Int) + 1))).cell? ⟨rb, 0, none⟩ = some (.slice (some ⟨b, off, none⟩) len cap)) := by show World.cell? _ _ = _; go_simp
        generalize w.setCell ⟨rb, 1, none⟩ (.int .i64 ((p : Int) + 1)) = W at *
        have d0 : ∀ x : BelowOf W, x.w.cell? ⟨rb, 0, none⟩ = some (.slice (some ⟨b, off, none⟩) len cap) := fun x => x.cell HR.out
        have d1 : ∀ x : BelowOf W, x.w.cell? ⟨b, off + p % len, none⟩ = some (.int .u8 A) := fun x => x.cell HW.out.1
        have d2 : ∀ x : BelowOf W, x.w.cell? ⟨b, off + (p * 7 + 3) % len, none⟩ = some (.int .u8 B) := fun x => x.cell HW.out.2
        have m1 : (0 : Int) ≤ (p : Int) % (len : Int) := Int.emod_nonneg _ (by omega)
        have m2 : (p : Int) % (len : Int) < (len : Int) := Int.emod_lt_of_pos _ (by omega)
        have m3 : (0 : Int) ≤ ((p : Int) * 7 + 3) % (len : Int) := Int.emod_nonneg _ (by omega)
        have m4 : ((p : Int) * 7 + 3) % (len : Int) < (len : Int) := Int.emod_lt_of_pos _ (by omega)
        have m5 : ((p : Int) % (len : Int)).toNat = p % len := by rw [← Int.natCast_emod, Int.toNat_natCast]
        have m6 : (((p : Int) * 7 + 3) % (len : Int)).toNat = (p * 7 + 3) % len := by
          rw [show ((p : Int) * 7 + 3) = ((p * 7 + 3 : Nat) : Int) by omega, ← Int.natCast_emod, Int.toNat_natCast]
        have n1 : IntKind.i64.wrap ((p : Int) * 7) = (p : Int) * 7 := IntWalk.i64_in _ (by omega)
        have n2 : IntKind.i64.wrap ((p : Int) * 7 + 3) = (p : Int) * 7 + 3 := IntWalk.i64_in _ (by omega)
        have n3 : IntKind.i64.wrap (A * 131) = A * 131 := IntWalk.i64_in _ (by omega)
        have n4 : IntKind.i64.wrap (B * 1117) = B * 1117 := IntWalk.i64_in _ (by omega)
        refine wp_region_calm (by kernel_rfl) (by kernel_rfl) ?_
        repeat (go_big_quiet_step (fail))
        refine wpQuiet_nil ?_
        rintro _ ⟨x, rfl⟩
        have hb := x.below
        have HG2 := Lib.hid (grown_trans HG.out (grown_below hb _))
        have HN2 := Lib.hid (HN.out.keep hb)
        clear d0 d1 d2 m1 m2 m3 m4 m5 m6 n1 n2 n3 n4 HG HN HW HR hb
        obtain ⟨X, hX, x0, x1⟩ := HX.out
        rw [hX]
        obtain ⟨V, hV, v0⟩ := xor_pos X x0 x1
        clear hX HX
        go_wp2
        go_ret
        exact ⟨V % n, rfl, Int.emod_nonneg _ (by omega), fun _ => Int.emod_lt_of_pos _ (by omega), HN2.out, HG2.out⟩

set_option maxHeartbeats 1000000 in
theorem num_any (rb p lb ln : Nat) (f : Nat → Int) (M : Int) (w : World) (h : Rd w rb p) (hp : p ≤ 1000000000) (hne : lb ≠ rb) (h1 : 1 ≤ ln) (h2 : ln ≤ 1000)
    (hf : ∀ i, i < ln → w.cell? ⟨lb, i, none⟩ = some (.int .i64 (f i)) ∧ 0 ≤ f i ∧ f i ≤ M) :
    Calls Tryd.prog 63 #[.pointer (some ⟨rb, 0, none⟩), .slice (some ⟨lb, 0, none⟩) ln ln] w (Pk w rb p (M + 1)) := by
  have HR := Lib.hid h
  have HF := Lib.hid hf
  clear h hf
  go_enter Tryd.func63, Tryd.ntmps63
  go_wp2_with fail
  refine (pick_any rb p ln _ HR.out hp (by omega) (by omega)).mono ?_; rintro e w1 ⟨v, rfl, v0, v1, hr1, hg1⟩
  have v2 := v1 (by omega)
  obtain ⟨c1, c2, c3⟩ := HF.out v.toNat (by omega)
  have c4 := grown_cell hg1 hne c1
  have HR1 := Lib.hid hr1
  have HG1 := Lib.hid hg1
  clear v1 hr1 hg1 c1
  generalize f v.toNat = y at *
  go_wp2
  go_ret
  exact ⟨y, rfl, c2, fun _ => by omega, HR1.out, HG1.out⟩

/-- A slice of bytes that can be read. -/
def Byt (w : World) (v : Value) (len : Nat) : Prop :=
  ∃ (z : Nat → Int) (a : Option Addr) (cap : Nat), v = .slice a len cap ∧ len ≤ cap ∧ cap ≤ maxLen ∧
    (0 < len → ∃ b off, a = some ⟨b, off, none⟩ ∧ ∀ i, i < len → w.cell? ⟨b, off + i, none⟩ = some (.int .u8 (z i)) ∧ 0 ≤ z i ∧ z i < 256)

def Opn (w : World) (e : Ending) (w' : World) : Prop := ∃ rb, e = .returned (.pointer (some ⟨rb, 0, none⟩)) ∧ w.heap.size ≤ rb ∧ Rd w' rb 0 ∧ Below w.heap.size w w'

set_option maxHeartbeats 1000000 in
theorem open_any (v : Value) (len : Nat) (w : World) (h : Byt w v len) :
    Calls Tryd.prog 38 #[v] w (Opn w) := by
  obtain ⟨z, a, cap, rfl, hl, hm, hc⟩ := h
  have mk : ∀ n : Nat, n ≤ 2000 → n ≤ len → Rd (w.alloc (.cells #[.slice a n cap, .int .i64 0] 100)) w.heap.size 0 := fun n h1 h2 =>
    ⟨z, a, n, cap, by go_simp, by go_simp, by go_simp, h1, fun hp => by
      obtain ⟨b, off, ha, hcc⟩ := hc (by omega)
      have hlt := World.block_lt_of_cell? w _ (hcc 0 (by omega)).1
      exact ⟨b, off, ha, hlt, fun i hi => ⟨cell_keep ((Below.refl _ _).alloc (Nat.le_refl _) _) (hcc i (by omega)).1, (hcc i (by omega)).2⟩⟩⟩
  unfold maxLen at hm
  by_cases h2 : len ≤ 2000
  · have HM := Lib.hid (mk len h2 (Nat.le_refl _))
    clear mk hc
    go_enter Tryd.func38, Tryd.ntmps38
    go_wp2
    go_ret
    exact ⟨w.heap.size, rfl, Nat.le_refl _, HM.out, (Below.refl _ _).alloc (Nat.le_refl _) _⟩
  · have HM := Lib.hid (mk 2000 (Nat.le_refl _) (by omega))
    obtain ⟨b, off, rfl, -⟩ := hc (by omega)
    clear mk hc
    go_enter Tryd.func38, Tryd.ntmps38
    go_wp2
    go_ret
    exact ⟨w.heap.size, rfl, Nat.le_refl _, HM.out, (Below.refl _ _).alloc (Nat.le_refl _) _⟩

end Go.Proofs.YtadoihddmbbjoaaDoor

namespace Go.Proofs.YtadoihddmbbjoaaDoor
open Go.RowKit

theorem Rd.lt' {w : World} {rb p : Nat} (h : Rd w rb p) : rb < w.heap.size := by
  obtain ⟨z, a, len, cap, h0, -⟩ := h
  exact World.block_lt_of_cell? w _ h0

/-- What a draw of a number leaves. -/
def Nd (Q : Int → Prop) (w : World) (rb p k : Nat) (e : Ending) (w' : World) : Prop :=
  ∃ (v : Int) (q : Nat), e = .returned (.int .i64 v) ∧ Q v ∧ Rd w' rb q ∧ q ≤ p + k ∧ w.grownBy w' (some rb)

set_option maxHeartbeats 1000000 in
theorem numQ_any (rb p lb ln : Nat) (f : Nat → Int) (Q : Int → Prop) (w : World) (h : Rd w rb p) (hp : p ≤ 1000000000) (hne : lb ≠ rb) (h1 : 1 ≤ ln) (h2 : ln ≤ 1000)
    (hf : ∀ i, i < ln → w.cell? ⟨lb, i, none⟩ = some (.int .i64 (f i)) ∧ Q (f i)) :
    Calls Tryd.prog 63 #[.pointer (some ⟨rb, 0, none⟩), .slice (some ⟨lb, 0, none⟩) ln ln] w (Nd Q w rb p 1) := by
  have HR := Lib.hid h
  have HF := Lib.hid hf
  clear h hf
  go_enter Tryd.func63, Tryd.ntmps63
  go_wp2_with fail
  refine (pick_any rb p ln _ HR.out hp (by omega) (by omega)).mono ?_; rintro e w1 ⟨v, rfl, v0, v1, hr1, hg1⟩
  have v2 := v1 (by omega)
  obtain ⟨c1, c2⟩ := HF.out v.toNat (by omega)
  have c4 := grown_cell hg1 hne c1
  have HR1 := Lib.hid hr1
  have HG1 := Lib.hid hg1
  have HQ := Lib.hid c2
  clear v1 hr1 hg1 c1 c2
  generalize f v.toNat = y at *
  go_wp2
  go_ret
  exact ⟨y, _, rfl, HQ.out, HR1.out, Nat.le_refl _, HG1.out⟩

theorem numL_any (rb p : Nat) (L : List Int) (ln : Nat) (Q : Int → Prop) (W : World) (C : Array Value) (T : TypeId) (hC : C = (L.map (Value.int .i64)).toArray) (hln : L.length = ln) (h : Rd W rb p) (hp : p ≤ 1000000000) (h1 : 1 ≤ ln) (h2 : ln ≤ 1000) (hQ : ∀ x ∈ L, Q x) :
    Calls Tryd.prog 63 #[.pointer (some ⟨rb, 0, none⟩), .slice (some ⟨W.heap.size, 0, none⟩) ln ln] (W.alloc (.cells C T)) (Nd Q W rb p 1) := by
  subst hC
  have hal : Below W.heap.size W (W.alloc (.cells (L.map (Value.int .i64)).toArray T)) := (Below.refl _ _).alloc (Nat.le_refl _) _
  have hlt := h.lt'
  refine (numQ_any rb p W.heap.size ln (fun i => L.getD i 0) Q _ (h.keep hal) hp (by omega) h1 h2 (fun i hi => ?_)).mono ?_
  · refine ⟨?_, ?_⟩
    · rw [World.cell?_alloc_mark]
      simp [List.getD_eq_getElem?_getD, show i < L.length by omega]
    · rw [List.getD_eq_getElem?_getD, List.getElem?_eq_getElem (by omega)]
      exact hQ _ (List.getElem_mem _)
  · rintro e w' ⟨v, q, rfl, hv, hr, hq, hg⟩
    exact ⟨v, q, rfl, hv, hr, hq, grown_trans (grown_below hal _) hg⟩
theorem numLA_any (rb p : Nat) (L : List Int) (ln : Nat) (Q : Int → Prop) (W : World) (ad : Nat) (C : Array Value) (T : TypeId) (hC : C = (L.map (Value.int .i64)).toArray) (hln : L.length = ln) (had : W.heap.size = ad) (h : Rd W rb p) (hp : p ≤ 1000000000) (h1 : 1 ≤ ln) (h2 : ln ≤ 1000) (hQ : ∀ x ∈ L, Q x) :
    Calls Tryd.prog 63 #[.pointer (some ⟨rb, 0, none⟩), .slice (some ⟨ad, 0, none⟩) ln ln] (W.alloc (.cells C T)) (Nd Q W rb p 1) := by
  subst had
  exact numL_any rb p L ln Q W C T hC hln h hp h1 h2 hQ

end Go.Proofs.YtadoihddmbbjoaaDoor

namespace Go.Proofs.YtadoihddmbbjoaaDoor
open Go.RowKit

/-- What a draw of a string leaves: a string of the kind Q; the reader's place moved on by at most k; nothing else changed. -/
def Sd (Q : List UInt8 → Prop) (w : World) (rb p k : Nat) (e : Ending) (w' : World) : Prop :=
  ∃ (l : List UInt8) (q : Nat), e = .returned (.string (mkB l)) ∧ Q l ∧ Rd w' rb q ∧ q ≤ p + k ∧ w.grownBy w' (some rb)
set_option maxHeartbeats 1000000 in
theorem of_any (rb p lb ln : Nat) (f : Nat → List UInt8) (Q : List UInt8 → Prop) (w : World) (h : Rd w rb p) (hp : p ≤ 1000000000) (hne : lb ≠ rb) (h1 : 1 ≤ ln) (h2 : ln ≤ 1000)
    (hf : ∀ i, i < ln → w.cell? ⟨lb, i, none⟩ = some (.string (mkB (f i))) ∧ Q (f i)) :
    Calls Tryd.prog 68 #[.pointer (some ⟨rb, 0, none⟩), .slice (some ⟨lb, 0, none⟩) ln ln] w (Sd Q w rb p 1) := by
  have HR := Lib.hid h
  have HF := Lib.hid hf
  clear h hf
  go_enter Tryd.func68, Tryd.ntmps68
  go_wp2_with fail
  refine (pick_any rb p ln _ HR.out hp (by omega) (by omega)).mono ?_; rintro e w1 ⟨v, rfl, v0, v1, hr1, hg1⟩
  have v2 := v1 (by omega)
  obtain ⟨c1, c2⟩ := HF.out v.toNat (by omega)
  have c4 := grown_cell hg1 hne c1
  have HR1 := Lib.hid hr1
  have HG1 := Lib.hid hg1
  have HQ := Lib.hid c2
  clear v1 hr1 hg1 c1 c2
  generalize f v.toNat = y at *
  go_wp2
  go_ret
  exact ⟨y, _, rfl, HQ.out, HR1.out, Nat.le_refl _, HG1.out⟩


theorem ofL_any (rb p : Nat) (L : List (List UInt8)) (ln : Nat) (Q : List UInt8 → Prop) (W : World) (C : Array Value) (T : TypeId) (hC : C = (L.map (fun l => Value.string (mkB l))).toArray) (hln : L.length = ln) (h : Rd W rb p) (hp : p ≤ 1000000000) (h1 : 1 ≤ ln) (h2 : ln ≤ 1000) (hQ : ∀ x ∈ L, Q x) :
    Calls Tryd.prog 68 #[.pointer (some ⟨rb, 0, none⟩), .slice (some ⟨W.heap.size, 0, none⟩) ln ln] (W.alloc (.cells C T)) (Sd Q W rb p 1) := by
  subst hC
  have hal : Below W.heap.size W (W.alloc (.cells (L.map (fun l => Value.string (mkB l))).toArray T)) := (Below.refl _ _).alloc (Nat.le_refl _) _
  have hlt := h.lt'
  refine (of_any rb p W.heap.size ln (fun i => L.getD i []) Q _ (h.keep hal) hp (by omega) h1 h2 (fun i hi => ?_)).mono ?_
  · refine ⟨?_, ?_⟩
    · rw [World.cell?_alloc_mark]
      simp [List.getD_eq_getElem?_getD, show i < L.length by omega]
    · rw [List.getD_eq_getElem?_getD, List.getElem?_eq_getElem (by omega)]
      exact hQ _ (List.getElem_mem _)
  · rintro e w' ⟨v, q, rfl, hv, hr, hq, hg⟩
    exact ⟨v, q, rfl, hv, hr, hq, grown_trans (grown_below hal _) hg⟩




end Go.Proofs.YtadoihddmbbjoaaDoor
