/-
  The program's (*disk).do: a request executed, or not.
-/
import Derived.Test.YtadoihddmbbjoaaDoorKStoRefuse
import Derived.Test.YtadoihddmbbjoaaDoorKStoStore
import Derived.Test.YtadoihddmbbjoaaDoorKRegChain
namespace Go.Proofs.YtadoihddmbbjoaaDoor
open Go.RowKit

/-- Block d is a disk with these contents. -/
def Dso (w : World) (d : Nat) (n0 n1 n2 u0 u1 u2 : List UInt8) (l0 l1 l2 m0 m1 m2 f0 f1 f2 : Int) : Prop :=
  ∃ s0 s1 s2 t0 t1 t2 : Value, w.heap[d]? = some (.cells #[s0, s1, s2, .int .i64 l0, .int .i64 l1, .int .i64 l2, t0, t1, t2, .int .i64 m0, .int .i64 m1, .int .i64 m2, .int .i64 f0, .int .i64 f1, .int .i64 f2] 88 (0, 0)) ∧ Sht w s0 n0 ∧ Sht w s1 n1 ∧ Sht w s2 n2 ∧ Sht w t0 u0 ∧ Sht w t1 u1 ∧ Sht w t2 u2
theorem gr_trans {a b c : World} {row : Option Nat} (h : a.grownBy b row) (k : b.grownBy c row) : a.grownBy c row :=
  ⟨k.os.trans h.os, k.tape.trans h.tape, k.output.trans h.output, Nat.le_trans h.size k.size, fun i hi hne => (k.block i (Nat.lt_of_lt_of_le hi h.size) hne).trans (h.block i hi hne)⟩
theorem gr_below {a b : World} (h : Below a.heap.size a b) (row : Option Nat) : a.grownBy b row := ⟨h.os, h.tape, h.output, h.size, fun i hi _ => h.block i hi⟩
theorem gr_set (w : World) (g o : Nat) (v : Value) : w.grownBy (w.setCell ⟨g, o, none⟩ v) (some g) :=
  ⟨rfl, rfl, rfl, by simp [World.setCell], fun i hi hne => Below.heap_setCell w _ v i (by rintro rfl; exact hne rfl)⟩
/-- A sheet lies apart from a block whose first cell is a slice. -/
theorem sht_far {w : World} {b : Nat} {C : Array Value} {T : TypeId} (h : w.heap[b]? = some (.cells C T (0, 0))) (s : Value) (hk : C[0]? = some s) (hs : ∃ a n c, s = .slice a n c) {v : Value} {l : List UInt8} (hv : Sht w v l) (i : Nat) (x : Value) (X : World) (hX : w.setCell ⟨b, i, none⟩ x = X) : Sht X v l := by
  subst hX
  obtain ⟨g, cap, rfl, h1, h2, hc⟩ := hv
  refine ⟨g, cap, rfl, h1, Nat.lt_of_lt_of_le h2 (btn_set w b i x).size, fun j hj => ?_⟩
  have hne : g ≠ b := by
    rintro rfl
    have e0 := hc 0 (by omega)
    rw [row_cell h 0 _ hk] at e0
    obtain ⟨a, n, c, rfl⟩ := hs
    cases e0
  exact (World.cell?_of_block (a := ⟨g, j, none⟩) ((btn_set w b i x).block g (World.block_lt_of_cell? w _ (hc j hj)) (by omega))).trans (hc j hj)
/-- What an executed request leaves: the disk's row with one sheet and one number anew. -/
def DoY (w : World) (d : Nat) (n : List UInt8) (pos : Int) (data : List UInt8) (C : Value → Array Value) (e : Ending) (w' : World) : Prop :=
  e = .returned .nilIface ∧ ∃ v, Hid (w'.heap[d]? = some (.cells (C v) 88 (0, 0))) ∧ Hid (Sht w' v (wrL n pos.toNat data)) ∧ w.grownBy w' (some d)

set_option maxRecDepth 100000 in
set_option maxHeartbeats 8000000 in
theorem do_00 (a0 a1 a2 a3 : Addr) (d : Nat) (s0 s1 s2 t0 t1 t2 : Value) (n0 n1 n2 u0 u1 u2 : List UInt8) (l0 l1 l2 m0 m1 m2 f0 f1 f2 : Int) (ep num pos : Int) (data : List UInt8) (w : World)
    (hS : Snt w a0 a1 a2 a3) (hD : w.heap[d]? = some (.cells #[s0, s1, s2, .int .i64 l0, .int .i64 l1, .int .i64 l2, t0, t1, t2, .int .i64 m0, .int .i64 m1, .int .i64 m2, .int .i64 f0, .int .i64 f1, .int .i64 f2] 88 (0, 0))) (hl : 0 ≤ l0 ∧ l0 ≤ 1000) (hd : data.length ≤ 2000000) (hs : Sht w s0 n0) (h0s : ∃ a n c, s0 = .slice a n c) (ht : tokB n0 = true)
    (hc : doC ⟨[n0, n1, n2], [u0, u1, u2], [l0, l1, l2], [m0, m1, m2], [f0, f1, f2]⟩ ⟨0, ep, num, 0, pos, data⟩ = 0) :
    Calls Tryd.prog 30 #[.pointer (some ⟨d, 0, none⟩), .agg (rqA ⟨0, ep, num, 0, pos, data⟩)] w (DoY w d (n0) pos data fun v => #[v, s1, s2, .int .i64 num, .int .i64 l1, .int .i64 l2, t0, t1, t2, .int .i64 m0, .int .i64 m1, .int .i64 m2, .int .i64 f0, .int .i64 f1, .int .i64 f2]) := by
  have hrq := (doC_fine hc).1
  have hwk : wokB pos data = true := (rqB_iff.1 hrq).2.2.2.2
  have KR := refuse_0 a0 a1 a2 a3 d s0 s1 s2 t0 t1 t2 n0 n1 n2 u0 u1 u2 l0 l1 l2 m0 m1 m2 f0 f1 f2 ep num 0 pos data
  rw [hc, show errV a0 a1 a2 a3 0 = .nilIface from rfl] at KR
  have KR := Lib.hid KR
  obtain ⟨W, hW⟩ : ∃ W, w.alloc (.cells (rqA ⟨0, ep, num, 0, pos, data⟩) 34) = W := ⟨_, rfl⟩
  have hal : Below w.heap.size w W := by rw [← hW]; exact (Below.refl _ _).alloc (Nat.le_refl _) _
  have B0 : Box6 W w.heap.size ⟨0, ep, num, 0, pos, data⟩ := by rw [← hW]; exact new_box6 w _ _
  have HK := Lib.hid (KR.out W (hS.keep hal) (row_keep hD hal) hl hd)
  have E_0 := Lib.hid hal
  have b_0 := Lib.hid B0
  have d_0 := Lib.hid (row_keep hD hal)
  have h_0 := Lib.hid (hs.keep hal)
  have HT := Lib.hid ht
  have HWK := Lib.hid hwk
  have HDL := Lib.hid hd
  have hbd : d < w.heap.size := (Array.getElem?_eq_some_iff.1 hD).1
  obtain ⟨x0, x1, x2, x3, x4, x5⟩ := b_0.out
  clear hal B0 hS hD hl hd hs ht hc hrq hwk KR
  go_enter Tryd.func30, Tryd.ntmps30
  go_wp2_with fail
  clear hW
  refine HK.out.mono ?_; rintro e w1 ⟨rfl, hb⟩
  have E_1 := Lib.hid (E_0.out.trans (hb.mono E_0.out.size))
  have b_1 := Lib.hid (b_0.out.keep hb)
  have d_1 := Lib.hid (row_keep d_0.out hb)
  have h_1 := Lib.hid (h_0.out.keep hb)
  have hw1 : w.heap.size < w1.heap.size := Nat.lt_of_lt_of_le (World.block_lt_of_cell? _ _ x0) hb.size
  clear x0 x1 x2 x3 x4 x5 E_0 b_0 d_0 h_0 hb HK
  obtain ⟨x0, x1, x2, x3, x4, x5⟩ := b_1.out
  go_wp2_with fail
  refine wp_region_chain 22 3 (fun j => j == 17) (fun j => (#[none, none, none, none, some 0, some 1, none, none, none, none, none, none, none, none, some 2, none, none, none, none, none, none, none, some 3] : Array (Option Nat)).getD j none) (fun j => (#[0, 0, 0, 0, 0, 0, 0, 0, 0, 0, 0, 0, 0, 0, 0, 3, 3, 3, 0, 0, 0, 0] : Array Nat).getD j 0) (fun x => ({ tmps := #[Value.pointer (some { block := d, off := 0 }), .agg (rqA ⟨0, ep, num, 0, pos, data⟩), undef, Value.pointer (some { block := w.heap.size, off := 0 }), Value.nilIface, Value.nilIface, Value.pointer (some { block := d, off := 0 }), .agg #[.int .i64 0, .int .i64 ep, .int .i64 num, .int .i64 0, .int .i64 pos, .string (mkB data)], Value.nilIface, Value.nilIface, Value.bool false, undef, x 15, x 0, x 1, x 2, x 3, x 4, x 5, x 6, x 7, x 8, x 9, x 10, x 11, x 12, x 13, x 14, x 16, x 17, x 18, x 19, x 20, x 21, undef, undef, undef, undef, undef, undef, undef, undef, undef], defers := [] } : Act)) (fun j e => (#[.pointer (some ⟨d, 0, none⟩), .pointer (some ⟨w.heap.size, 3, none⟩), .int .i64 0, .agg #[.int .i64 0, .int .i64 ep, .int .i64 num, .int .i64 0, .int .i64 pos, .string (mkB data)], e 0, e 1, .pointer (some ⟨d, 0, none⟩), .pointer (some ⟨w.heap.size, 3, none⟩), .int .i64 0, .pointer (some ⟨d, 0, none⟩), .pointer (some ⟨d, 0, none⟩), .pointer (some ⟨d, 0, none⟩), .pointer (some ⟨d, 0, none⟩), s0, e 2, e 2, tupAt (e 2) 0, tupAt (e 2) 1, .pointer (some ⟨d, 0, none⟩), .pointer (some ⟨d, 0, none⟩), .pointer (some ⟨d, 0, none⟩), .pointer (some ⟨d, 0, none⟩)] : Array Value).getD j undef) (fun t e w' => match t with | 0 => Below w1.heap.size w1 w' ∧ True | 1 => Below w1.heap.size w1 w' ∧ e 0 = .agg #[.int .i64 pos, .string (mkB data)] | 2 => Below w1.heap.size w1 w' ∧ ∃ b : Nat, e 1 = .func (.func 73) #[] #[.pointer (some ⟨b, 0, none⟩)] ∧ w'.cell? ⟨b, 0, none⟩ = some (.int .i64 pos) ∧ w'.cell? ⟨b, 1, none⟩ = some (.string (mkB data)) | _ => Below w1.heap.size w1 w' ∧ ∃ v : Value, e 2 = .tuple #[v, .bool true] ∧ Hid (Sht w' v (wrL n0 pos.toNat data))) (fun e w' => ∃ (w0 : World) (v : Value), Below w1.heap.size w1 w0 ∧ e 2 = .tuple #[v, .bool true] ∧ Hid (Sht w0 v (wrL n0 pos.toNat data)) ∧ w' = w0.setCell ⟨d, 0, none⟩ v) (x0 := fun i => (#[undef, undef, undef, undef, undef, undef, undef, undef, undef, undef, undef, undef, undef, undef, undef, undef, undef, undef, undef, undef, undef, undef] : Array Value).getD i undef) rfl (by kernel_rfl) (by kernel_rfl) (by kernel_rfl) (by kernel_rfl) (by kernel_rfl) (by kernel_rfl) (by kernel_rfl) (by kernel_rfl) ?_ ?_ ?_ ?_ ?_ ?_ ?_ ?_
  · intro x y h
    simp only [h 0 (by decide), h 1 (by decide), h 2 (by decide), h 3 (by decide), h 4 (by decide), h 5 (by decide), h 6 (by decide), h 7 (by decide), h 8 (by decide), h 9 (by decide), h 10 (by decide), h 11 (by decide), h 12 (by decide), h 13 (by decide), h 14 (by decide), h 15 (by decide), h 16 (by decide), h 17 (by decide), h 18 (by decide), h 19 (by decide), h 20 (by decide), h 21 (by decide)]
  · intro i hi hr e e' h
    obtain rfl | rfl | rfl | rfl | rfl | rfl | rfl | rfl | rfl | rfl | rfl | rfl | rfl | rfl | rfl | rfl | rfl | rfl | rfl | rfl | rfl | rfl : i = 0 ∨ i = 1 ∨ i = 2 ∨ i = 3 ∨ i = 4 ∨ i = 5 ∨ i = 6 ∨ i = 7 ∨ i = 8 ∨ i = 9 ∨ i = 10 ∨ i = 11 ∨ i = 12 ∨ i = 13 ∨ i = 14 ∨ i = 15 ∨ i = 16 ∨ i = 17 ∨ i = 18 ∨ i = 19 ∨ i = 20 ∨ i = 21 := by omega
    · rfl
    · rfl
    · rfl
    · rfl
    · exact absurd hr (by decide)
    · exact absurd hr (by decide)
    · rfl
    · rfl
    · rfl
    · rfl
    · rfl
    · rfl
    · rfl
    · rfl
    · exact absurd hr (by decide)
    · show e 2 = e' 2; rw [h 2 (by decide)]
    · show tupAt (e 2) 0 = tupAt (e' 2) 0; rw [h 2 (by decide)]
    · show tupAt (e 2) 1 = tupAt (e' 2) 1; rw [h 2 (by decide)]
    · rfl
    · rfl
    · rfl
    · rfl
  · exact ⟨(Below.refl _ _).drew, trivial⟩
  · rintro i oi x e t w' hi hr ho hlv htm hC hon
    obtain rfl | rfl | rfl | rfl | rfl | rfl | rfl | rfl | rfl | rfl | rfl | rfl | rfl | rfl | rfl | rfl | rfl | rfl | rfl | rfl | rfl | rfl : i = 0 ∨ i = 1 ∨ i = 2 ∨ i = 3 ∨ i = 4 ∨ i = 5 ∨ i = 6 ∨ i = 7 ∨ i = 8 ∨ i = 9 ∨ i = 10 ∨ i = 11 ∨ i = 12 ∨ i = 13 ∨ i = 14 ∨ i = 15 ∨ i = 16 ∨ i = 17 ∨ i = 18 ∨ i = 19 ∨ i = 20 ∨ i = 21 := by omega
    · obtain rfl := Option.some.inj ho
      refine wp_value (v := .pointer (some ⟨d, 0, none⟩)) (w' := w') ?_ ⟨rfl, rfl⟩
      go_simp
    · obtain rfl := Option.some.inj ho
      refine wp_value (v := .pointer (some ⟨w.heap.size, 3, none⟩)) (w' := w') ?_ ⟨rfl, rfl⟩
      go_simp
    · obtain rfl := Option.some.inj ho
      have e1 : x 1 = .pointer (some ⟨w.heap.size, 3, none⟩) := hon _ (Array.mem_of_getElem? (i := 0) rfl) rfl
      have hG : Below w1.heap.size w1 w' := by
        match t, htm, hC with
        | 0, _, hC => exact hC.1
        | 1, _, hC => exact hC.1
        | 2, _, hC => exact hC.1
        | 3, _, hC => exact hC.1
        | n + 4, h, _ => exact absurd h (by omega)
      have x3' := (b_1.out.keep hG).2.2.2.1
      refine wp_value (v := .int .i64 0) (w' := w') ?_ ⟨rfl, rfl⟩
      go_simp
    · obtain rfl := Option.some.inj ho
      have hG : Below w1.heap.size w1 w' := by
        match t, htm, hC with
        | 0, _, hC => exact hC.1
        | 1, _, hC => exact hC.1
        | 2, _, hC => exact hC.1
        | 3, _, hC => exact hC.1
        | n + 4, h, _ => exact absurd h (by omega)
      obtain ⟨l0, l1, l2, l3, l4, l5⟩ := b_1.out.keep hG
      refine wp_value (v := .agg #[.int .i64 0, .int .i64 ep, .int .i64 num, .int .i64 0, .int .i64 pos, .string (mkB data)]) (w' := w') ?_ ⟨rfl, rfl⟩
      go_simp
    · exact absurd hr (by decide)
    · exact absurd hr (by decide)
    · obtain rfl := Option.some.inj ho
      refine wp_value (v := .pointer (some ⟨d, 0, none⟩)) (w' := w') ?_ ⟨rfl, rfl⟩
      go_simp
    · obtain rfl := Option.some.inj ho
      refine wp_value (v := .pointer (some ⟨w.heap.size, 3, none⟩)) (w' := w') ?_ ⟨rfl, rfl⟩
      go_simp
    · obtain rfl := Option.some.inj ho
      have e7 : x 7 = .pointer (some ⟨w.heap.size, 3, none⟩) := hon _ (Array.mem_of_getElem? (i := 0) rfl) rfl
      have hG : Below w1.heap.size w1 w' := by
        match t, htm, hC with
        | 0, _, hC => exact hC.1
        | 1, _, hC => exact hC.1
        | 2, _, hC => exact hC.1
        | 3, _, hC => exact hC.1
        | n + 4, h, _ => exact absurd h (by omega)
      have x3' := (b_1.out.keep hG).2.2.2.1
      refine wp_value (v := .int .i64 0) (w' := w') ?_ ⟨rfl, rfl⟩
      go_simp
    · obtain rfl := Option.some.inj ho
      have e6 : x 6 = .pointer (some ⟨d, 0, none⟩) := hon _ (Array.mem_of_getElem? (i := 0) rfl) rfl
      refine wp_value (v := .pointer (some ⟨d, 0, none⟩)) (w' := w') ?_ ⟨rfl, rfl⟩
      go_simp
    · obtain rfl := Option.some.inj ho
      have e9 : x 9 = .pointer (some ⟨d, 0, none⟩) := hon _ (Array.mem_of_getElem? (i := 0) rfl) rfl
      refine wp_value (v := .pointer (some ⟨d, 0, none⟩)) (w' := w') ?_ ⟨rfl, rfl⟩
      go_simp
    · obtain rfl := Option.some.inj ho
      have e10 : x 10 = .pointer (some ⟨d, 0, none⟩) := hon _ (Array.mem_of_getElem? (i := 0) rfl) rfl
      refine wp_value (v := .pointer (some ⟨d, 0, none⟩)) (w' := w') ?_ ⟨rfl, rfl⟩
      go_simp
    · obtain rfl := Option.some.inj ho
      have e11 : x 11 = .pointer (some ⟨d, 0, none⟩) := hon _ (Array.mem_of_getElem? (i := 0) rfl) rfl
      have e8 : x 8 = .int .i64 0 := hon _ (Array.mem_of_getElem? (i := 1) rfl) rfl
      refine wp_value (v := .pointer (some ⟨d, 0, none⟩)) (w' := w') ?_ ⟨rfl, rfl⟩
      go_simp
    · obtain rfl := Option.some.inj ho
      have e12 : x 12 = .pointer (some ⟨d, 0, none⟩) := hon _ (Array.mem_of_getElem? (i := 0) rfl) rfl
      have hG : Below w1.heap.size w1 w' := by
        match t, htm, hC with
        | 0, _, hC => exact hC.1
        | 1, _, hC => exact hC.1
        | 2, _, hC => exact hC.1
        | 3, _, hC => exact hC.1
        | n + 4, h, _ => exact absurd h (by omega)
      have y := row_cell (row_keep d_1.out hG) 0 _ rfl
      obtain ⟨sg, sc, hsv, -⟩ := id (h_1.out)
      rw [hsv] at y
      refine wp_value (v := s0) (w' := w') ?_ ⟨rfl, rfl⟩
      rw [hsv]
      go_simp
    · exact absurd hr (by decide)
    · obtain rfl := Option.some.inj ho
      have e14 : x 14 = e 2 := hon _ (Array.mem_of_getElem? (i := 0) rfl) rfl
      refine wp_value (v := e 2) (w' := w') ?_ ⟨rfl, rfl⟩
      go_simp
    · obtain rfl := Option.some.inj ho
      have e15 : x 15 = e 2 := hon _ (Array.mem_of_getElem? (i := 0) rfl) rfl
      obtain rfl : t = 3 := by have h1 : 3 ≤ t := hlv; have h2 : t ≤ 3 := htm; omega
      have hC' : Below w1.heap.size w1 w' ∧ ∃ v : Value, e 2 = .tuple #[v, .bool true] ∧ Hid (Sht w' v (wrL n0 pos.toNat data)) := hC
      obtain ⟨-, v, he, -⟩ := hC'
      rw [he] at e15
      have hv : tupAt (e 2) 0 = v := by rw [he]; rfl
      refine wp_value (v := tupAt (e 2) 0) (w' := w') ?_ ⟨rfl, rfl⟩
      rw [hv]
      go_simp
    · obtain rfl := Option.some.inj ho
      have e15 : x 15 = e 2 := hon _ (Array.mem_of_getElem? (i := 0) rfl) rfl
      obtain rfl : t = 3 := by have h1 : 3 ≤ t := hlv; have h2 : t ≤ 3 := htm; omega
      have hC' : Below w1.heap.size w1 w' ∧ ∃ v : Value, e 2 = .tuple #[v, .bool true] ∧ Hid (Sht w' v (wrL n0 pos.toNat data)) := hC
      obtain ⟨-, v, he, -⟩ := hC'
      rw [he] at e15
      have hv : tupAt (e 2) 1 = .bool true := by rw [he]; rfl
      refine wp_value (v := tupAt (e 2) 1) (w' := w') ?_ ⟨rfl, rfl⟩
      rw [hv]
      go_simp
    · obtain rfl := Option.some.inj ho
      have e0 : x 0 = .pointer (some ⟨d, 0, none⟩) := hon _ (Array.mem_of_getElem? (i := 0) rfl) rfl
      refine wp_value (v := .pointer (some ⟨d, 0, none⟩)) (w' := w') ?_ ⟨rfl, rfl⟩
      go_simp
    · obtain rfl := Option.some.inj ho
      have e18 : x 18 = .pointer (some ⟨d, 0, none⟩) := hon _ (Array.mem_of_getElem? (i := 0) rfl) rfl
      refine wp_value (v := .pointer (some ⟨d, 0, none⟩)) (w' := w') ?_ ⟨rfl, rfl⟩
      go_simp
    · obtain rfl := Option.some.inj ho
      have e19 : x 19 = .pointer (some ⟨d, 0, none⟩) := hon _ (Array.mem_of_getElem? (i := 0) rfl) rfl
      refine wp_value (v := .pointer (some ⟨d, 0, none⟩)) (w' := w') ?_ ⟨rfl, rfl⟩
      go_simp
    · obtain rfl := Option.some.inj ho
      have e20 : x 20 = .pointer (some ⟨d, 0, none⟩) := hon _ (Array.mem_of_getElem? (i := 0) rfl) rfl
      have e2 : x 2 = .int .i64 0 := hon _ (Array.mem_of_getElem? (i := 1) rfl) rfl
      refine wp_value (v := .pointer (some ⟨d, 0, none⟩)) (w' := w') ?_ ⟨rfl, rfl⟩
      go_simp
  · rintro i oi x e t w' hi hr ho hC hon
    obtain rfl | rfl | rfl | rfl | rfl | rfl | rfl | rfl | rfl | rfl | rfl | rfl | rfl | rfl | rfl | rfl | rfl | rfl | rfl | rfl | rfl | rfl : i = 0 ∨ i = 1 ∨ i = 2 ∨ i = 3 ∨ i = 4 ∨ i = 5 ∨ i = 6 ∨ i = 7 ∨ i = 8 ∨ i = 9 ∨ i = 10 ∨ i = 11 ∨ i = 12 ∨ i = 13 ∨ i = 14 ∨ i = 15 ∨ i = 16 ∨ i = 17 ∨ i = 18 ∨ i = 19 ∨ i = 20 ∨ i = 21 := by omega
    · exact absurd hr (by intro h; cases h)
    · exact absurd hr (by intro h; cases h)
    · exact absurd hr (by intro h; cases h)
    · exact absurd hr (by intro h; cases h)
    · obtain rfl : 0 = t := Option.some.inj hr
      obtain rfl := Option.some.inj ho
      have e3 : x 3 = .agg #[.int .i64 0, .int .i64 ep, .int .i64 num, .int .i64 0, .int .i64 pos, .string (mkB data)] := hon _ (Array.mem_of_getElem? (i := 0) rfl) rfl
      have hC' : Below w1.heap.size w1 w' ∧ True := hC
      refine wp_enter 58 #[.agg (rqA ⟨0, ep, num, 0, pos, data⟩)] ?_ ((reqPatch_any ⟨0, ep, num, 0, pos, data⟩ w').mono fun e' wz ⟨he, hb⟩ => ⟨_, he, _, rfl, show Below w1.heap.size w1 wz ∧ (upd e 0 (.agg #[.int .i64 pos, .string (mkB data)])) 0 = .agg #[.int .i64 pos, .string (mkB data)] from ⟨hC'.1.trans (hb.mono hC'.1.size), upd_eq _ _ _⟩⟩)
      go_simp
    · obtain rfl : 1 = t := Option.some.inj hr
      obtain rfl := Option.some.inj ho
      have e4 : x 4 = e 0 := hon _ (Array.mem_of_getElem? (i := 0) rfl) rfl
      have hC' : Below w1.heap.size w1 w' ∧ e 0 = .agg #[.int .i64 pos, .string (mkB data)] := hC
      rw [hC'.2] at e4
      refine wp_enter 48 #[.agg #[.int .i64 pos, .string (mkB data)]] ?_ ((patchEdit_any pos data w').mono fun e' wz ⟨he, hw⟩ => ⟨_, he, _, rfl, show Below w1.heap.size w1 wz ∧ ∃ b : Nat, (upd e 1 (.func (.func 73) #[] #[.pointer (some ⟨w'.heap.size, 0, none⟩)])) 1 = .func (.func 73) #[] #[.pointer (some ⟨b, 0, none⟩)] ∧ wz.cell? ⟨b, 0, none⟩ = some (.int .i64 pos) ∧ wz.cell? ⟨b, 1, none⟩ = some (.string (mkB data)) from by subst hw; exact ⟨hC'.1.trans (((Below.refl _ _).alloc (Nat.le_refl _) _).mono hC'.1.size), w'.heap.size, upd_eq _ _ _, by go_simp, by go_simp⟩⟩)
      go_simp
    · exact absurd hr (by intro h; cases h)
    · exact absurd hr (by intro h; cases h)
    · exact absurd hr (by intro h; cases h)
    · exact absurd hr (by intro h; cases h)
    · exact absurd hr (by intro h; cases h)
    · exact absurd hr (by intro h; cases h)
    · exact absurd hr (by intro h; cases h)
    · exact absurd hr (by intro h; cases h)
    · obtain rfl : 2 = t := Option.some.inj hr
      obtain rfl := Option.some.inj ho
      have e5 : x 5 = e 1 := hon _ (Array.mem_of_getElem? (i := 0) rfl) rfl
      have e13 : x 13 = s0 := hon _ (Array.mem_of_getElem? (i := 1) rfl) rfl
      have hC' : Below w1.heap.size w1 w' ∧ ∃ b : Nat, e 1 = .func (.func 73) #[] #[.pointer (some ⟨b, 0, none⟩)] ∧ w'.cell? ⟨b, 0, none⟩ = some (.int .i64 pos) ∧ w'.cell? ⟨b, 1, none⟩ = some (.string (mkB data)) := hC
      obtain ⟨hG, b, hf, hb0, hb1⟩ := hC'
      rw [hf] at e5
      have hE := ((patch_edOk w' b pos data HDL.out hb0 hb1) w' s0 n0 (Below.refl _ _) (h_1.out.keep hG) HT.out).1 _ (wrF_yes HWK.out)
      refine wp_enter 73 #[s0, .pointer (some ⟨b, 0, none⟩)] ?_ (hE.2.mono fun e' wz ⟨vz, he, hsv, hb⟩ => ⟨_, he, _, rfl, show Below w1.heap.size w1 wz ∧ ∃ v : Value, (upd e 2 (.tuple #[vz, .bool true])) 2 = .tuple #[v, .bool true] ∧ Hid (Sht wz v (wrL n0 pos.toNat data)) from ⟨hG.trans (hb.mono hG.size), vz, upd_eq _ _ _, hsv⟩⟩)
      go_simp
    · exact absurd hr (by intro h; cases h)
    · exact absurd hr (by intro h; cases h)
    · exact absurd hr (by intro h; cases h)
    · exact absurd hr (by intro h; cases h)
    · exact absurd hr (by intro h; cases h)
    · exact absurd hr (by intro h; cases h)
    · exact absurd hr (by intro h; cases h)
  · rintro oi x e w' ho hC hon
    obtain rfl := Option.some.inj ho
    have e21 : x 21 = .pointer (some ⟨d, 0, none⟩) := hon _ (Array.mem_of_getElem? (i := 0) rfl) rfl
    have e16 : x 16 = tupAt (e 2) 0 := hon _ (Array.mem_of_getElem? (i := 1) rfl) rfl
    have hC' : Below w1.heap.size w1 w' ∧ ∃ v : Value, e 2 = .tuple #[v, .bool true] ∧ Hid (Sht w' v (wrL n0 pos.toNat data)) := hC
    obtain ⟨hG, v, he, hv⟩ := hC'
    have hv0 : tupAt (e 2) 0 = v := by rw [he]; rfl
    rw [hv0] at e16
    have y := row_cell (row_keep d_1.out hG) 0 _ rfl
    have yf := row_free (row_keep d_1.out hG) 0
    obtain ⟨vg, vc, hvf, -⟩ := id hv.out
    subst hvf
    refine wp_skip (w' := w'.setCell ⟨d, 0, none⟩ _) ?_ ⟨rfl, w', _, hG, he, hv, rfl⟩
    go_simp
  · rintro i oi x e w' hi hlt hr ho hR hon
    obtain rfl : i = 17 := by simpa using hlt
    obtain rfl := Option.some.inj ho
    have e15 : x 15 = e 2 := hon _ (Array.mem_of_getElem? (i := 0) rfl) rfl
    obtain ⟨w0, v, -, he, -⟩ := hR
    rw [he] at e15
    have hv : tupAt (e 2) 1 = .bool true := by rw [he]; rfl
    refine wp_value (v := tupAt (e 2) 1) (w' := w') ?_ ⟨rfl, rfl⟩
    rw [hv]
    go_simp
  rintro e w' F hF hR
  obtain rfl : F = ({ tmps := #[Value.pointer (some { block := d, off := 0 }), .agg (rqA ⟨0, ep, num, 0, pos, data⟩), undef, Value.pointer (some { block := w.heap.size, off := 0 }), Value.nilIface, Value.nilIface, Value.pointer (some { block := d, off := 0 }), .agg #[.int .i64 0, .int .i64 ep, .int .i64 num, .int .i64 0, .int .i64 pos, .string (mkB data)], Value.nilIface, Value.nilIface, Value.bool false, undef, e 2, .pointer (some ⟨d, 0, none⟩), .pointer (some ⟨w.heap.size, 3, none⟩), .int .i64 0, .agg #[.int .i64 0, .int .i64 ep, .int .i64 num, .int .i64 0, .int .i64 pos, .string (mkB data)], e 0, e 1, .pointer (some ⟨d, 0, none⟩), .pointer (some ⟨w.heap.size, 3, none⟩), .int .i64 0, .pointer (some ⟨d, 0, none⟩), .pointer (some ⟨d, 0, none⟩), .pointer (some ⟨d, 0, none⟩), .pointer (some ⟨d, 0, none⟩), s0, e 2, tupAt (e 2) 0, tupAt (e 2) 1, .pointer (some ⟨d, 0, none⟩), .pointer (some ⟨d, 0, none⟩), .pointer (some ⟨d, 0, none⟩), .pointer (some ⟨d, 0, none⟩), undef, undef, undef, undef, undef, undef, undef, undef, undef], defers := [] } : Act) := hF
  obtain ⟨w0, v, hG, he, hv, rfl⟩ := hR
  have HV := Lib.hid he
  clear he
  have h0v : ∃ a n c, v = .slice a n c := by obtain ⟨g, c, h, -⟩ := hv.out; exact ⟨_, _, _, h⟩
  obtain ⟨X, hX⟩ : ∃ X, w0.setCell ⟨d, 0, none⟩ v = X := ⟨_, rfl⟩
  have hrow := row_keep d_1.out hG
  have hr2 : X.heap[d]? = some (.cells #[v, s1, s2, .int .i64 l0, .int .i64 l1, .int .i64 l2, t0, t1, t2, .int .i64 m0, .int .i64 m1, .int .i64 m2, .int .i64 f0, .int .i64 f1, .int .i64 f2] 88 (0, 0)) := by rw [← hX]; exact row_set hrow 0 v
  have ht : Btn d (d + 1) w0 X := by rw [← hX]; exact btn_set _ _ _ _
  have b_2 := Lib.hid ((b_1.out.keep hG).btn ht (.inr (by omega)))
  have d_2 := Lib.hid hr2
  have G_2 := Lib.hid (gr_trans (gr_below (E_1.out.trans (hG.mono E_1.out.size)) (some d)) (by rw [← hX]; exact gr_set _ _ _ _ : w0.grownBy X (some d)))
  have V_2 := Lib.hid (sht_far hrow s0 rfl h0s hv.out 0 v X hX)
  rw [hX]
  clear hX hrow hr2 ht hG hv h_1 d_1 b_1 E_1 x0 x1 x2 x3 x4 x5
  obtain ⟨x0, x1, x2, x3, x4, x5⟩ := b_2.out
  have yk := row_cell d_2.out 3 _ rfl
  have fk := row_free d_2.out 3
  go_wp2_with fail
  go_still_tail 9, (by kernel_rfl)
  change wpList _ _ _ _ _ X.drew
  obtain ⟨Y, hY⟩ : ∃ Y, X.drew = Y := ⟨_, rfl⟩
  have hdr : Below X.heap.size X Y := by rw [← hY]; exact (Below.refl _ _).drew
  rw [hY]
  clear hY yk fk x0 x1 x2 x3 x4 x5
  have d_3 := row_keep d_2.out hdr
  have yk := row_cell d_3 3 _ rfl
  have fk := row_free d_3 3
  obtain ⟨Z, hZ⟩ : ∃ Z, Y.setCell ⟨d, 3, none⟩ (.int .i64 num) = Z := ⟨_, rfl⟩
  have hr3 : Z.heap[d]? = some (.cells #[v, s1, s2, .int .i64 num, .int .i64 l1, .int .i64 l2, t0, t1, t2, .int .i64 m0, .int .i64 m1, .int .i64 m2, .int .i64 f0, .int .i64 f1, .int .i64 f2] 88 (0, 0)) := by rw [← hZ]; exact row_set d_3 3 _
  have D_4 := Lib.hid hr3
  have G_4 := Lib.hid (gr_trans G_2.out (gr_trans (gr_below hdr (some d)) (by rw [← hZ]; exact gr_set _ _ _ _ : Y.grownBy Z (some d))))
  have V_4 := Lib.hid (sht_far d_3 _ rfl h0v (V_2.out.keep hdr) 3 _ Z hZ)
  clear hr3 hdr d_3 d_2 b_2 G_2 V_2
  go_wp2
  go_ret
  exact ⟨rfl, v, D_4, V_4, G_4.out⟩

set_option maxRecDepth 100000 in
set_option maxHeartbeats 8000000 in
theorem do_01 (a0 a1 a2 a3 : Addr) (d : Nat) (s0 s1 s2 t0 t1 t2 : Value) (n0 n1 n2 u0 u1 u2 : List UInt8) (l0 l1 l2 m0 m1 m2 f0 f1 f2 : Int) (ep num pos : Int) (data : List UInt8) (w : World)
    (hS : Snt w a0 a1 a2 a3) (hD : w.heap[d]? = some (.cells #[s0, s1, s2, .int .i64 l0, .int .i64 l1, .int .i64 l2, t0, t1, t2, .int .i64 m0, .int .i64 m1, .int .i64 m2, .int .i64 f0, .int .i64 f1, .int .i64 f2] 88 (0, 0))) (hl : 0 ≤ l1 ∧ l1 ≤ 1000) (hd : data.length ≤ 2000000) (hs : Sht w s0 n0) (h0s : ∃ a n c, s0 = .slice a n c) (ht : tokB n0 = true)
    (hc : doC ⟨[n0, n1, n2], [u0, u1, u2], [l0, l1, l2], [m0, m1, m2], [f0, f1, f2]⟩ ⟨1, ep, num, 0, pos, data⟩ = 0) :
    Calls Tryd.prog 30 #[.pointer (some ⟨d, 0, none⟩), .agg (rqA ⟨1, ep, num, 0, pos, data⟩)] w (DoY w d (n0) pos data fun v => #[v, s1, s2, .int .i64 l0, .int .i64 num, .int .i64 l2, t0, t1, t2, .int .i64 m0, .int .i64 m1, .int .i64 m2, .int .i64 f0, .int .i64 f1, .int .i64 f2]) := by
  have hrq := (doC_fine hc).1
  have hwk : wokB pos data = true := (rqB_iff.1 hrq).2.2.2.2
  have KR := refuse_1 a0 a1 a2 a3 d s0 s1 s2 t0 t1 t2 n0 n1 n2 u0 u1 u2 l0 l1 l2 m0 m1 m2 f0 f1 f2 ep num 0 pos data
  rw [hc, show errV a0 a1 a2 a3 0 = .nilIface from rfl] at KR
  have KR := Lib.hid KR
  obtain ⟨W, hW⟩ : ∃ W, w.alloc (.cells (rqA ⟨1, ep, num, 0, pos, data⟩) 34) = W := ⟨_, rfl⟩
  have hal : Below w.heap.size w W := by rw [← hW]; exact (Below.refl _ _).alloc (Nat.le_refl _) _
  have B0 : Box6 W w.heap.size ⟨1, ep, num, 0, pos, data⟩ := by rw [← hW]; exact new_box6 w _ _
  have HK := Lib.hid (KR.out W (hS.keep hal) (row_keep hD hal) hl hd)
  have E_0 := Lib.hid hal
  have b_0 := Lib.hid B0
  have d_0 := Lib.hid (row_keep hD hal)
  have h_0 := Lib.hid (hs.keep hal)
  have HT := Lib.hid ht
  have HWK := Lib.hid hwk
  have HDL := Lib.hid hd
  have hbd : d < w.heap.size := (Array.getElem?_eq_some_iff.1 hD).1
  obtain ⟨x0, x1, x2, x3, x4, x5⟩ := b_0.out
  clear hal B0 hS hD hl hd hs ht hc hrq hwk KR
  go_enter Tryd.func30, Tryd.ntmps30
  go_wp2_with fail
  clear hW
  refine HK.out.mono ?_; rintro e w1 ⟨rfl, hb⟩
  have E_1 := Lib.hid (E_0.out.trans (hb.mono E_0.out.size))
  have b_1 := Lib.hid (b_0.out.keep hb)
  have d_1 := Lib.hid (row_keep d_0.out hb)
  have h_1 := Lib.hid (h_0.out.keep hb)
  have hw1 : w.heap.size < w1.heap.size := Nat.lt_of_lt_of_le (World.block_lt_of_cell? _ _ x0) hb.size
  clear x0 x1 x2 x3 x4 x5 E_0 b_0 d_0 h_0 hb HK
  obtain ⟨x0, x1, x2, x3, x4, x5⟩ := b_1.out
  go_wp2_with fail
  refine wp_region_chain 22 3 (fun j => j == 17) (fun j => (#[none, none, none, none, some 0, some 1, none, none, none, none, none, none, none, none, some 2, none, none, none, none, none, none, none, some 3] : Array (Option Nat)).getD j none) (fun j => (#[0, 0, 0, 0, 0, 0, 0, 0, 0, 0, 0, 0, 0, 0, 0, 3, 3, 3, 0, 0, 0, 0] : Array Nat).getD j 0) (fun x => ({ tmps := #[Value.pointer (some { block := d, off := 0 }), .agg (rqA ⟨1, ep, num, 0, pos, data⟩), undef, Value.pointer (some { block := w.heap.size, off := 0 }), Value.nilIface, Value.nilIface, Value.pointer (some { block := d, off := 0 }), .agg #[.int .i64 1, .int .i64 ep, .int .i64 num, .int .i64 0, .int .i64 pos, .string (mkB data)], Value.nilIface, Value.nilIface, Value.bool false, undef, x 15, x 0, x 1, x 2, x 3, x 4, x 5, x 6, x 7, x 8, x 9, x 10, x 11, x 12, x 13, x 14, x 16, x 17, x 18, x 19, x 20, x 21, undef, undef, undef, undef, undef, undef, undef, undef, undef], defers := [] } : Act)) (fun j e => (#[.pointer (some ⟨d, 0, none⟩), .pointer (some ⟨w.heap.size, 3, none⟩), .int .i64 0, .agg #[.int .i64 1, .int .i64 ep, .int .i64 num, .int .i64 0, .int .i64 pos, .string (mkB data)], e 0, e 1, .pointer (some ⟨d, 0, none⟩), .pointer (some ⟨w.heap.size, 3, none⟩), .int .i64 0, .pointer (some ⟨d, 0, none⟩), .pointer (some ⟨d, 0, none⟩), .pointer (some ⟨d, 0, none⟩), .pointer (some ⟨d, 0, none⟩), s0, e 2, e 2, tupAt (e 2) 0, tupAt (e 2) 1, .pointer (some ⟨d, 0, none⟩), .pointer (some ⟨d, 0, none⟩), .pointer (some ⟨d, 0, none⟩), .pointer (some ⟨d, 0, none⟩)] : Array Value).getD j undef) (fun t e w' => match t with | 0 => Below w1.heap.size w1 w' ∧ True | 1 => Below w1.heap.size w1 w' ∧ e 0 = .agg #[.int .i64 pos, .string (mkB data)] | 2 => Below w1.heap.size w1 w' ∧ ∃ b : Nat, e 1 = .func (.func 73) #[] #[.pointer (some ⟨b, 0, none⟩)] ∧ w'.cell? ⟨b, 0, none⟩ = some (.int .i64 pos) ∧ w'.cell? ⟨b, 1, none⟩ = some (.string (mkB data)) | _ => Below w1.heap.size w1 w' ∧ ∃ v : Value, e 2 = .tuple #[v, .bool true] ∧ Hid (Sht w' v (wrL n0 pos.toNat data))) (fun e w' => ∃ (w0 : World) (v : Value), Below w1.heap.size w1 w0 ∧ e 2 = .tuple #[v, .bool true] ∧ Hid (Sht w0 v (wrL n0 pos.toNat data)) ∧ w' = w0.setCell ⟨d, 0, none⟩ v) (x0 := fun i => (#[undef, undef, undef, undef, undef, undef, undef, undef, undef, undef, undef, undef, undef, undef, undef, undef, undef, undef, undef, undef, undef, undef] : Array Value).getD i undef) rfl (by kernel_rfl) (by kernel_rfl) (by kernel_rfl) (by kernel_rfl) (by kernel_rfl) (by kernel_rfl) (by kernel_rfl) (by kernel_rfl) ?_ ?_ ?_ ?_ ?_ ?_ ?_ ?_
  · intro x y h
    simp only [h 0 (by decide), h 1 (by decide), h 2 (by decide), h 3 (by decide), h 4 (by decide), h 5 (by decide), h 6 (by decide), h 7 (by decide), h 8 (by decide), h 9 (by decide), h 10 (by decide), h 11 (by decide), h 12 (by decide), h 13 (by decide), h 14 (by decide), h 15 (by decide), h 16 (by decide), h 17 (by decide), h 18 (by decide), h 19 (by decide), h 20 (by decide), h 21 (by decide)]
  · intro i hi hr e e' h
    obtain rfl | rfl | rfl | rfl | rfl | rfl | rfl | rfl | rfl | rfl | rfl | rfl | rfl | rfl | rfl | rfl | rfl | rfl | rfl | rfl | rfl | rfl : i = 0 ∨ i = 1 ∨ i = 2 ∨ i = 3 ∨ i = 4 ∨ i = 5 ∨ i = 6 ∨ i = 7 ∨ i = 8 ∨ i = 9 ∨ i = 10 ∨ i = 11 ∨ i = 12 ∨ i = 13 ∨ i = 14 ∨ i = 15 ∨ i = 16 ∨ i = 17 ∨ i = 18 ∨ i = 19 ∨ i = 20 ∨ i = 21 := by omega
    · rfl
    · rfl
    · rfl
    · rfl
    · exact absurd hr (by decide)
    · exact absurd hr (by decide)
    · rfl
    · rfl
    · rfl
    · rfl
    · rfl
    · rfl
    · rfl
    · rfl
    · exact absurd hr (by decide)
    · show e 2 = e' 2; rw [h 2 (by decide)]
    · show tupAt (e 2) 0 = tupAt (e' 2) 0; rw [h 2 (by decide)]
    · show tupAt (e 2) 1 = tupAt (e' 2) 1; rw [h 2 (by decide)]
    · rfl
    · rfl
    · rfl
    · rfl
  · exact ⟨(Below.refl _ _).drew, trivial⟩
  · rintro i oi x e t w' hi hr ho hlv htm hC hon
    obtain rfl | rfl | rfl | rfl | rfl | rfl | rfl | rfl | rfl | rfl | rfl | rfl | rfl | rfl | rfl | rfl | rfl | rfl | rfl | rfl | rfl | rfl : i = 0 ∨ i = 1 ∨ i = 2 ∨ i = 3 ∨ i = 4 ∨ i = 5 ∨ i = 6 ∨ i = 7 ∨ i = 8 ∨ i = 9 ∨ i = 10 ∨ i = 11 ∨ i = 12 ∨ i = 13 ∨ i = 14 ∨ i = 15 ∨ i = 16 ∨ i = 17 ∨ i = 18 ∨ i = 19 ∨ i = 20 ∨ i = 21 := by omega
    · obtain rfl := Option.some.inj ho
      refine wp_value (v := .pointer (some ⟨d, 0, none⟩)) (w' := w') ?_ ⟨rfl, rfl⟩
      go_simp
    · obtain rfl := Option.some.inj ho
      refine wp_value (v := .pointer (some ⟨w.heap.size, 3, none⟩)) (w' := w') ?_ ⟨rfl, rfl⟩
      go_simp
    · obtain rfl := Option.some.inj ho
      have e1 : x 1 = .pointer (some ⟨w.heap.size, 3, none⟩) := hon _ (Array.mem_of_getElem? (i := 0) rfl) rfl
      have hG : Below w1.heap.size w1 w' := by
        match t, htm, hC with
        | 0, _, hC => exact hC.1
        | 1, _, hC => exact hC.1
        | 2, _, hC => exact hC.1
        | 3, _, hC => exact hC.1
        | n + 4, h, _ => exact absurd h (by omega)
      have x3' := (b_1.out.keep hG).2.2.2.1
      refine wp_value (v := .int .i64 0) (w' := w') ?_ ⟨rfl, rfl⟩
      go_simp
    · obtain rfl := Option.some.inj ho
      have hG : Below w1.heap.size w1 w' := by
        match t, htm, hC with
        | 0, _, hC => exact hC.1
        | 1, _, hC => exact hC.1
        | 2, _, hC => exact hC.1
        | 3, _, hC => exact hC.1
        | n + 4, h, _ => exact absurd h (by omega)
      obtain ⟨l0, l1, l2, l3, l4, l5⟩ := b_1.out.keep hG
      refine wp_value (v := .agg #[.int .i64 1, .int .i64 ep, .int .i64 num, .int .i64 0, .int .i64 pos, .string (mkB data)]) (w' := w') ?_ ⟨rfl, rfl⟩
      go_simp
    · exact absurd hr (by decide)
    · exact absurd hr (by decide)
    · obtain rfl := Option.some.inj ho
      refine wp_value (v := .pointer (some ⟨d, 0, none⟩)) (w' := w') ?_ ⟨rfl, rfl⟩
      go_simp
    · obtain rfl := Option.some.inj ho
      refine wp_value (v := .pointer (some ⟨w.heap.size, 3, none⟩)) (w' := w') ?_ ⟨rfl, rfl⟩
      go_simp
    · obtain rfl := Option.some.inj ho
      have e7 : x 7 = .pointer (some ⟨w.heap.size, 3, none⟩) := hon _ (Array.mem_of_getElem? (i := 0) rfl) rfl
      have hG : Below w1.heap.size w1 w' := by
        match t, htm, hC with
        | 0, _, hC => exact hC.1
        | 1, _, hC => exact hC.1
        | 2, _, hC => exact hC.1
        | 3, _, hC => exact hC.1
        | n + 4, h, _ => exact absurd h (by omega)
      have x3' := (b_1.out.keep hG).2.2.2.1
      refine wp_value (v := .int .i64 0) (w' := w') ?_ ⟨rfl, rfl⟩
      go_simp
    · obtain rfl := Option.some.inj ho
      have e6 : x 6 = .pointer (some ⟨d, 0, none⟩) := hon _ (Array.mem_of_getElem? (i := 0) rfl) rfl
      refine wp_value (v := .pointer (some ⟨d, 0, none⟩)) (w' := w') ?_ ⟨rfl, rfl⟩
      go_simp
    · obtain rfl := Option.some.inj ho
      have e9 : x 9 = .pointer (some ⟨d, 0, none⟩) := hon _ (Array.mem_of_getElem? (i := 0) rfl) rfl
      refine wp_value (v := .pointer (some ⟨d, 0, none⟩)) (w' := w') ?_ ⟨rfl, rfl⟩
      go_simp
    · obtain rfl := Option.some.inj ho
      have e10 : x 10 = .pointer (some ⟨d, 0, none⟩) := hon _ (Array.mem_of_getElem? (i := 0) rfl) rfl
      refine wp_value (v := .pointer (some ⟨d, 0, none⟩)) (w' := w') ?_ ⟨rfl, rfl⟩
      go_simp
    · obtain rfl := Option.some.inj ho
      have e11 : x 11 = .pointer (some ⟨d, 0, none⟩) := hon _ (Array.mem_of_getElem? (i := 0) rfl) rfl
      have e8 : x 8 = .int .i64 0 := hon _ (Array.mem_of_getElem? (i := 1) rfl) rfl
      refine wp_value (v := .pointer (some ⟨d, 0, none⟩)) (w' := w') ?_ ⟨rfl, rfl⟩
      go_simp
    · obtain rfl := Option.some.inj ho
      have e12 : x 12 = .pointer (some ⟨d, 0, none⟩) := hon _ (Array.mem_of_getElem? (i := 0) rfl) rfl
      have hG : Below w1.heap.size w1 w' := by
        match t, htm, hC with
        | 0, _, hC => exact hC.1
        | 1, _, hC => exact hC.1
        | 2, _, hC => exact hC.1
        | 3, _, hC => exact hC.1
        | n + 4, h, _ => exact absurd h (by omega)
      have y := row_cell (row_keep d_1.out hG) 0 _ rfl
      obtain ⟨sg, sc, hsv, -⟩ := id (h_1.out)
      rw [hsv] at y
      refine wp_value (v := s0) (w' := w') ?_ ⟨rfl, rfl⟩
      rw [hsv]
      go_simp
    · exact absurd hr (by decide)
    · obtain rfl := Option.some.inj ho
      have e14 : x 14 = e 2 := hon _ (Array.mem_of_getElem? (i := 0) rfl) rfl
      refine wp_value (v := e 2) (w' := w') ?_ ⟨rfl, rfl⟩
      go_simp
    · obtain rfl := Option.some.inj ho
      have e15 : x 15 = e 2 := hon _ (Array.mem_of_getElem? (i := 0) rfl) rfl
      obtain rfl : t = 3 := by have h1 : 3 ≤ t := hlv; have h2 : t ≤ 3 := htm; omega
      have hC' : Below w1.heap.size w1 w' ∧ ∃ v : Value, e 2 = .tuple #[v, .bool true] ∧ Hid (Sht w' v (wrL n0 pos.toNat data)) := hC
      obtain ⟨-, v, he, -⟩ := hC'
      rw [he] at e15
      have hv : tupAt (e 2) 0 = v := by rw [he]; rfl
      refine wp_value (v := tupAt (e 2) 0) (w' := w') ?_ ⟨rfl, rfl⟩
      rw [hv]
      go_simp
    · obtain rfl := Option.some.inj ho
      have e15 : x 15 = e 2 := hon _ (Array.mem_of_getElem? (i := 0) rfl) rfl
      obtain rfl : t = 3 := by have h1 : 3 ≤ t := hlv; have h2 : t ≤ 3 := htm; omega
      have hC' : Below w1.heap.size w1 w' ∧ ∃ v : Value, e 2 = .tuple #[v, .bool true] ∧ Hid (Sht w' v (wrL n0 pos.toNat data)) := hC
      obtain ⟨-, v, he, -⟩ := hC'
      rw [he] at e15
      have hv : tupAt (e 2) 1 = .bool true := by rw [he]; rfl
      refine wp_value (v := tupAt (e 2) 1) (w' := w') ?_ ⟨rfl, rfl⟩
      rw [hv]
      go_simp
    · obtain rfl := Option.some.inj ho
      have e0 : x 0 = .pointer (some ⟨d, 0, none⟩) := hon _ (Array.mem_of_getElem? (i := 0) rfl) rfl
      refine wp_value (v := .pointer (some ⟨d, 0, none⟩)) (w' := w') ?_ ⟨rfl, rfl⟩
      go_simp
    · obtain rfl := Option.some.inj ho
      have e18 : x 18 = .pointer (some ⟨d, 0, none⟩) := hon _ (Array.mem_of_getElem? (i := 0) rfl) rfl
      refine wp_value (v := .pointer (some ⟨d, 0, none⟩)) (w' := w') ?_ ⟨rfl, rfl⟩
      go_simp
    · obtain rfl := Option.some.inj ho
      have e19 : x 19 = .pointer (some ⟨d, 0, none⟩) := hon _ (Array.mem_of_getElem? (i := 0) rfl) rfl
      refine wp_value (v := .pointer (some ⟨d, 0, none⟩)) (w' := w') ?_ ⟨rfl, rfl⟩
      go_simp
    · obtain rfl := Option.some.inj ho
      have e20 : x 20 = .pointer (some ⟨d, 0, none⟩) := hon _ (Array.mem_of_getElem? (i := 0) rfl) rfl
      have e2 : x 2 = .int .i64 0 := hon _ (Array.mem_of_getElem? (i := 1) rfl) rfl
      refine wp_value (v := .pointer (some ⟨d, 0, none⟩)) (w' := w') ?_ ⟨rfl, rfl⟩
      go_simp
  · rintro i oi x e t w' hi hr ho hC hon
    obtain rfl | rfl | rfl | rfl | rfl | rfl | rfl | rfl | rfl | rfl | rfl | rfl | rfl | rfl | rfl | rfl | rfl | rfl | rfl | rfl | rfl | rfl : i = 0 ∨ i = 1 ∨ i = 2 ∨ i = 3 ∨ i = 4 ∨ i = 5 ∨ i = 6 ∨ i = 7 ∨ i = 8 ∨ i = 9 ∨ i = 10 ∨ i = 11 ∨ i = 12 ∨ i = 13 ∨ i = 14 ∨ i = 15 ∨ i = 16 ∨ i = 17 ∨ i = 18 ∨ i = 19 ∨ i = 20 ∨ i = 21 := by omega
    · exact absurd hr (by intro h; cases h)
    · exact absurd hr (by intro h; cases h)
    · exact absurd hr (by intro h; cases h)
    · exact absurd hr (by intro h; cases h)
    · obtain rfl : 0 = t := Option.some.inj hr
      obtain rfl := Option.some.inj ho
      have e3 : x 3 = .agg #[.int .i64 1, .int .i64 ep, .int .i64 num, .int .i64 0, .int .i64 pos, .string (mkB data)] := hon _ (Array.mem_of_getElem? (i := 0) rfl) rfl
      have hC' : Below w1.heap.size w1 w' ∧ True := hC
      refine wp_enter 58 #[.agg (rqA ⟨1, ep, num, 0, pos, data⟩)] ?_ ((reqPatch_any ⟨1, ep, num, 0, pos, data⟩ w').mono fun e' wz ⟨he, hb⟩ => ⟨_, he, _, rfl, show Below w1.heap.size w1 wz ∧ (upd e 0 (.agg #[.int .i64 pos, .string (mkB data)])) 0 = .agg #[.int .i64 pos, .string (mkB data)] from ⟨hC'.1.trans (hb.mono hC'.1.size), upd_eq _ _ _⟩⟩)
      go_simp
    · obtain rfl : 1 = t := Option.some.inj hr
      obtain rfl := Option.some.inj ho
      have e4 : x 4 = e 0 := hon _ (Array.mem_of_getElem? (i := 0) rfl) rfl
      have hC' : Below w1.heap.size w1 w' ∧ e 0 = .agg #[.int .i64 pos, .string (mkB data)] := hC
      rw [hC'.2] at e4
      refine wp_enter 48 #[.agg #[.int .i64 pos, .string (mkB data)]] ?_ ((patchEdit_any pos data w').mono fun e' wz ⟨he, hw⟩ => ⟨_, he, _, rfl, show Below w1.heap.size w1 wz ∧ ∃ b : Nat, (upd e 1 (.func (.func 73) #[] #[.pointer (some ⟨w'.heap.size, 0, none⟩)])) 1 = .func (.func 73) #[] #[.pointer (some ⟨b, 0, none⟩)] ∧ wz.cell? ⟨b, 0, none⟩ = some (.int .i64 pos) ∧ wz.cell? ⟨b, 1, none⟩ = some (.string (mkB data)) from by subst hw; exact ⟨hC'.1.trans (((Below.refl _ _).alloc (Nat.le_refl _) _).mono hC'.1.size), w'.heap.size, upd_eq _ _ _, by go_simp, by go_simp⟩⟩)
      go_simp
    · exact absurd hr (by intro h; cases h)
    · exact absurd hr (by intro h; cases h)
    · exact absurd hr (by intro h; cases h)
    · exact absurd hr (by intro h; cases h)
    · exact absurd hr (by intro h; cases h)
    · exact absurd hr (by intro h; cases h)
    · exact absurd hr (by intro h; cases h)
    · exact absurd hr (by intro h; cases h)
    · obtain rfl : 2 = t := Option.some.inj hr
      obtain rfl := Option.some.inj ho
      have e5 : x 5 = e 1 := hon _ (Array.mem_of_getElem? (i := 0) rfl) rfl
      have e13 : x 13 = s0 := hon _ (Array.mem_of_getElem? (i := 1) rfl) rfl
      have hC' : Below w1.heap.size w1 w' ∧ ∃ b : Nat, e 1 = .func (.func 73) #[] #[.pointer (some ⟨b, 0, none⟩)] ∧ w'.cell? ⟨b, 0, none⟩ = some (.int .i64 pos) ∧ w'.cell? ⟨b, 1, none⟩ = some (.string (mkB data)) := hC
      obtain ⟨hG, b, hf, hb0, hb1⟩ := hC'
      rw [hf] at e5
      have hE := ((patch_edOk w' b pos data HDL.out hb0 hb1) w' s0 n0 (Below.refl _ _) (h_1.out.keep hG) HT.out).1 _ (wrF_yes HWK.out)
      refine wp_enter 73 #[s0, .pointer (some ⟨b, 0, none⟩)] ?_ (hE.2.mono fun e' wz ⟨vz, he, hsv, hb⟩ => ⟨_, he, _, rfl, show Below w1.heap.size w1 wz ∧ ∃ v : Value, (upd e 2 (.tuple #[vz, .bool true])) 2 = .tuple #[v, .bool true] ∧ Hid (Sht wz v (wrL n0 pos.toNat data)) from ⟨hG.trans (hb.mono hG.size), vz, upd_eq _ _ _, hsv⟩⟩)
      go_simp
    · exact absurd hr (by intro h; cases h)
    · exact absurd hr (by intro h; cases h)
    · exact absurd hr (by intro h; cases h)
    · exact absurd hr (by intro h; cases h)
    · exact absurd hr (by intro h; cases h)
    · exact absurd hr (by intro h; cases h)
    · exact absurd hr (by intro h; cases h)
  · rintro oi x e w' ho hC hon
    obtain rfl := Option.some.inj ho
    have e21 : x 21 = .pointer (some ⟨d, 0, none⟩) := hon _ (Array.mem_of_getElem? (i := 0) rfl) rfl
    have e16 : x 16 = tupAt (e 2) 0 := hon _ (Array.mem_of_getElem? (i := 1) rfl) rfl
    have hC' : Below w1.heap.size w1 w' ∧ ∃ v : Value, e 2 = .tuple #[v, .bool true] ∧ Hid (Sht w' v (wrL n0 pos.toNat data)) := hC
    obtain ⟨hG, v, he, hv⟩ := hC'
    have hv0 : tupAt (e 2) 0 = v := by rw [he]; rfl
    rw [hv0] at e16
    have y := row_cell (row_keep d_1.out hG) 0 _ rfl
    have yf := row_free (row_keep d_1.out hG) 0
    obtain ⟨vg, vc, hvf, -⟩ := id hv.out
    subst hvf
    refine wp_skip (w' := w'.setCell ⟨d, 0, none⟩ _) ?_ ⟨rfl, w', _, hG, he, hv, rfl⟩
    go_simp
  · rintro i oi x e w' hi hlt hr ho hR hon
    obtain rfl : i = 17 := by simpa using hlt
    obtain rfl := Option.some.inj ho
    have e15 : x 15 = e 2 := hon _ (Array.mem_of_getElem? (i := 0) rfl) rfl
    obtain ⟨w0, v, -, he, -⟩ := hR
    rw [he] at e15
    have hv : tupAt (e 2) 1 = .bool true := by rw [he]; rfl
    refine wp_value (v := tupAt (e 2) 1) (w' := w') ?_ ⟨rfl, rfl⟩
    rw [hv]
    go_simp
  rintro e w' F hF hR
  obtain rfl : F = ({ tmps := #[Value.pointer (some { block := d, off := 0 }), .agg (rqA ⟨1, ep, num, 0, pos, data⟩), undef, Value.pointer (some { block := w.heap.size, off := 0 }), Value.nilIface, Value.nilIface, Value.pointer (some { block := d, off := 0 }), .agg #[.int .i64 1, .int .i64 ep, .int .i64 num, .int .i64 0, .int .i64 pos, .string (mkB data)], Value.nilIface, Value.nilIface, Value.bool false, undef, e 2, .pointer (some ⟨d, 0, none⟩), .pointer (some ⟨w.heap.size, 3, none⟩), .int .i64 0, .agg #[.int .i64 1, .int .i64 ep, .int .i64 num, .int .i64 0, .int .i64 pos, .string (mkB data)], e 0, e 1, .pointer (some ⟨d, 0, none⟩), .pointer (some ⟨w.heap.size, 3, none⟩), .int .i64 0, .pointer (some ⟨d, 0, none⟩), .pointer (some ⟨d, 0, none⟩), .pointer (some ⟨d, 0, none⟩), .pointer (some ⟨d, 0, none⟩), s0, e 2, tupAt (e 2) 0, tupAt (e 2) 1, .pointer (some ⟨d, 0, none⟩), .pointer (some ⟨d, 0, none⟩), .pointer (some ⟨d, 0, none⟩), .pointer (some ⟨d, 0, none⟩), undef, undef, undef, undef, undef, undef, undef, undef, undef], defers := [] } : Act) := hF
  obtain ⟨w0, v, hG, he, hv, rfl⟩ := hR
  have HV := Lib.hid he
  clear he
  have h0v : ∃ a n c, v = .slice a n c := by obtain ⟨g, c, h, -⟩ := hv.out; exact ⟨_, _, _, h⟩
  obtain ⟨X, hX⟩ : ∃ X, w0.setCell ⟨d, 0, none⟩ v = X := ⟨_, rfl⟩
  have hrow := row_keep d_1.out hG
  have hr2 : X.heap[d]? = some (.cells #[v, s1, s2, .int .i64 l0, .int .i64 l1, .int .i64 l2, t0, t1, t2, .int .i64 m0, .int .i64 m1, .int .i64 m2, .int .i64 f0, .int .i64 f1, .int .i64 f2] 88 (0, 0)) := by rw [← hX]; exact row_set hrow 0 v
  have ht : Btn d (d + 1) w0 X := by rw [← hX]; exact btn_set _ _ _ _
  have b_2 := Lib.hid ((b_1.out.keep hG).btn ht (.inr (by omega)))
  have d_2 := Lib.hid hr2
  have G_2 := Lib.hid (gr_trans (gr_below (E_1.out.trans (hG.mono E_1.out.size)) (some d)) (by rw [← hX]; exact gr_set _ _ _ _ : w0.grownBy X (some d)))
  have V_2 := Lib.hid (sht_far hrow s0 rfl h0s hv.out 0 v X hX)
  rw [hX]
  clear hX hrow hr2 ht hG hv h_1 d_1 b_1 E_1 x0 x1 x2 x3 x4 x5
  obtain ⟨x0, x1, x2, x3, x4, x5⟩ := b_2.out
  have yk := row_cell d_2.out 4 _ rfl
  have fk := row_free d_2.out 4
  go_wp2_with fail
  go_still_tail 9, (by kernel_rfl)
  change wpList _ _ _ _ _ X.drew
  obtain ⟨Y, hY⟩ : ∃ Y, X.drew = Y := ⟨_, rfl⟩
  have hdr : Below X.heap.size X Y := by rw [← hY]; exact (Below.refl _ _).drew
  rw [hY]
  clear hY yk fk x0 x1 x2 x3 x4 x5
  have d_3 := row_keep d_2.out hdr
  have yk := row_cell d_3 4 _ rfl
  have fk := row_free d_3 4
  obtain ⟨Z, hZ⟩ : ∃ Z, Y.setCell ⟨d, 4, none⟩ (.int .i64 num) = Z := ⟨_, rfl⟩
  have hr3 : Z.heap[d]? = some (.cells #[v, s1, s2, .int .i64 l0, .int .i64 num, .int .i64 l2, t0, t1, t2, .int .i64 m0, .int .i64 m1, .int .i64 m2, .int .i64 f0, .int .i64 f1, .int .i64 f2] 88 (0, 0)) := by rw [← hZ]; exact row_set d_3 4 _
  have D_4 := Lib.hid hr3
  have G_4 := Lib.hid (gr_trans G_2.out (gr_trans (gr_below hdr (some d)) (by rw [← hZ]; exact gr_set _ _ _ _ : Y.grownBy Z (some d))))
  have V_4 := Lib.hid (sht_far d_3 _ rfl h0v (V_2.out.keep hdr) 4 _ Z hZ)
  clear hr3 hdr d_3 d_2 b_2 G_2 V_2
  go_wp2
  go_ret
  exact ⟨rfl, v, D_4, V_4, G_4.out⟩

set_option maxRecDepth 100000 in
set_option maxHeartbeats 8000000 in
theorem do_02 (a0 a1 a2 a3 : Addr) (d : Nat) (s0 s1 s2 t0 t1 t2 : Value) (n0 n1 n2 u0 u1 u2 : List UInt8) (l0 l1 l2 m0 m1 m2 f0 f1 f2 : Int) (ep num pos : Int) (data : List UInt8) (w : World)
    (hS : Snt w a0 a1 a2 a3) (hD : w.heap[d]? = some (.cells #[s0, s1, s2, .int .i64 l0, .int .i64 l1, .int .i64 l2, t0, t1, t2, .int .i64 m0, .int .i64 m1, .int .i64 m2, .int .i64 f0, .int .i64 f1, .int .i64 f2] 88 (0, 0))) (hl : 0 ≤ l2 ∧ l2 ≤ 1000) (hd : data.length ≤ 2000000) (hs : Sht w s0 n0) (h0s : ∃ a n c, s0 = .slice a n c) (ht : tokB n0 = true)
    (hc : doC ⟨[n0, n1, n2], [u0, u1, u2], [l0, l1, l2], [m0, m1, m2], [f0, f1, f2]⟩ ⟨2, ep, num, 0, pos, data⟩ = 0) :
    Calls Tryd.prog 30 #[.pointer (some ⟨d, 0, none⟩), .agg (rqA ⟨2, ep, num, 0, pos, data⟩)] w (DoY w d (n0) pos data fun v => #[v, s1, s2, .int .i64 l0, .int .i64 l1, .int .i64 num, t0, t1, t2, .int .i64 m0, .int .i64 m1, .int .i64 m2, .int .i64 f0, .int .i64 f1, .int .i64 f2]) := by
  have hrq := (doC_fine hc).1
  have hwk : wokB pos data = true := (rqB_iff.1 hrq).2.2.2.2
  have KR := refuse_2 a0 a1 a2 a3 d s0 s1 s2 t0 t1 t2 n0 n1 n2 u0 u1 u2 l0 l1 l2 m0 m1 m2 f0 f1 f2 ep num 0 pos data
  rw [hc, show errV a0 a1 a2 a3 0 = .nilIface from rfl] at KR
  have KR := Lib.hid KR
  obtain ⟨W, hW⟩ : ∃ W, w.alloc (.cells (rqA ⟨2, ep, num, 0, pos, data⟩) 34) = W := ⟨_, rfl⟩
  have hal : Below w.heap.size w W := by rw [← hW]; exact (Below.refl _ _).alloc (Nat.le_refl _) _
  have B0 : Box6 W w.heap.size ⟨2, ep, num, 0, pos, data⟩ := by rw [← hW]; exact new_box6 w _ _
  have HK := Lib.hid (KR.out W (hS.keep hal) (row_keep hD hal) hl hd)
  have E_0 := Lib.hid hal
  have b_0 := Lib.hid B0
  have d_0 := Lib.hid (row_keep hD hal)
  have h_0 := Lib.hid (hs.keep hal)
  have HT := Lib.hid ht
  have HWK := Lib.hid hwk
  have HDL := Lib.hid hd
  have hbd : d < w.heap.size := (Array.getElem?_eq_some_iff.1 hD).1
  obtain ⟨x0, x1, x2, x3, x4, x5⟩ := b_0.out
  clear hal B0 hS hD hl hd hs ht hc hrq hwk KR
  go_enter Tryd.func30, Tryd.ntmps30
  go_wp2_with fail
  clear hW
  refine HK.out.mono ?_; rintro e w1 ⟨rfl, hb⟩
  have E_1 := Lib.hid (E_0.out.trans (hb.mono E_0.out.size))
  have b_1 := Lib.hid (b_0.out.keep hb)
  have d_1 := Lib.hid (row_keep d_0.out hb)
  have h_1 := Lib.hid (h_0.out.keep hb)
  have hw1 : w.heap.size < w1.heap.size := Nat.lt_of_lt_of_le (World.block_lt_of_cell? _ _ x0) hb.size
  clear x0 x1 x2 x3 x4 x5 E_0 b_0 d_0 h_0 hb HK
  obtain ⟨x0, x1, x2, x3, x4, x5⟩ := b_1.out
  go_wp2_with fail
  refine wp_region_chain 22 3 (fun j => j == 17) (fun j => (#[none, none, none, none, some 0, some 1, none, none, none, none, none, none, none, none, some 2, none, none, none, none, none, none, none, some 3] : Array (Option Nat)).getD j none) (fun j => (#[0, 0, 0, 0, 0, 0, 0, 0, 0, 0, 0, 0, 0, 0, 0, 3, 3, 3, 0, 0, 0, 0] : Array Nat).getD j 0) (fun x => ({ tmps := #[Value.pointer (some { block := d, off := 0 }), .agg (rqA ⟨2, ep, num, 0, pos, data⟩), undef, Value.pointer (some { block := w.heap.size, off := 0 }), Value.nilIface, Value.nilIface, Value.pointer (some { block := d, off := 0 }), .agg #[.int .i64 2, .int .i64 ep, .int .i64 num, .int .i64 0, .int .i64 pos, .string (mkB data)], Value.nilIface, Value.nilIface, Value.bool false, undef, x 15, x 0, x 1, x 2, x 3, x 4, x 5, x 6, x 7, x 8, x 9, x 10, x 11, x 12, x 13, x 14, x 16, x 17, x 18, x 19, x 20, x 21, undef, undef, undef, undef, undef, undef, undef, undef, undef], defers := [] } : Act)) (fun j e => (#[.pointer (some ⟨d, 0, none⟩), .pointer (some ⟨w.heap.size, 3, none⟩), .int .i64 0, .agg #[.int .i64 2, .int .i64 ep, .int .i64 num, .int .i64 0, .int .i64 pos, .string (mkB data)], e 0, e 1, .pointer (some ⟨d, 0, none⟩), .pointer (some ⟨w.heap.size, 3, none⟩), .int .i64 0, .pointer (some ⟨d, 0, none⟩), .pointer (some ⟨d, 0, none⟩), .pointer (some ⟨d, 0, none⟩), .pointer (some ⟨d, 0, none⟩), s0, e 2, e 2, tupAt (e 2) 0, tupAt (e 2) 1, .pointer (some ⟨d, 0, none⟩), .pointer (some ⟨d, 0, none⟩), .pointer (some ⟨d, 0, none⟩), .pointer (some ⟨d, 0, none⟩)] : Array Value).getD j undef) (fun t e w' => match t with | 0 => Below w1.heap.size w1 w' ∧ True | 1 => Below w1.heap.size w1 w' ∧ e 0 = .agg #[.int .i64 pos, .string (mkB data)] | 2 => Below w1.heap.size w1 w' ∧ ∃ b : Nat, e 1 = .func (.func 73) #[] #[.pointer (some ⟨b, 0, none⟩)] ∧ w'.cell? ⟨b, 0, none⟩ = some (.int .i64 pos) ∧ w'.cell? ⟨b, 1, none⟩ = some (.string (mkB data)) | _ => Below w1.heap.size w1 w' ∧ ∃ v : Value, e 2 = .tuple #[v, .bool true] ∧ Hid (Sht w' v (wrL n0 pos.toNat data))) (fun e w' => ∃ (w0 : World) (v : Value), Below w1.heap.size w1 w0 ∧ e 2 = .tuple #[v, .bool true] ∧ Hid (Sht w0 v (wrL n0 pos.toNat data)) ∧ w' = w0.setCell ⟨d, 0, none⟩ v) (x0 := fun i => (#[undef, undef, undef, undef, undef, undef, undef, undef, undef, undef, undef, undef, undef, undef, undef, undef, undef, undef, undef, undef, undef, undef] : Array Value).getD i undef) rfl (by kernel_rfl) (by kernel_rfl) (by kernel_rfl) (by kernel_rfl) (by kernel_rfl) (by kernel_rfl) (by kernel_rfl) (by kernel_rfl) ?_ ?_ ?_ ?_ ?_ ?_ ?_ ?_
  · intro x y h
    simp only [h 0 (by decide), h 1 (by decide), h 2 (by decide), h 3 (by decide), h 4 (by decide), h 5 (by decide), h 6 (by decide), h 7 (by decide), h 8 (by decide), h 9 (by decide), h 10 (by decide), h 11 (by decide), h 12 (by decide), h 13 (by decide), h 14 (by decide), h 15 (by decide), h 16 (by decide), h 17 (by decide), h 18 (by decide), h 19 (by decide), h 20 (by decide), h 21 (by decide)]
  · intro i hi hr e e' h
    obtain rfl | rfl | rfl | rfl | rfl | rfl | rfl | rfl | rfl | rfl | rfl | rfl | rfl | rfl | rfl | rfl | rfl | rfl | rfl | rfl | rfl | rfl : i = 0 ∨ i = 1 ∨ i = 2 ∨ i = 3 ∨ i = 4 ∨ i = 5 ∨ i = 6 ∨ i = 7 ∨ i = 8 ∨ i = 9 ∨ i = 10 ∨ i = 11 ∨ i = 12 ∨ i = 13 ∨ i = 14 ∨ i = 15 ∨ i = 16 ∨ i = 17 ∨ i = 18 ∨ i = 19 ∨ i = 20 ∨ i = 21 := by omega
    · rfl
    · rfl
    · rfl
    · rfl
    · exact absurd hr (by decide)
    · exact absurd hr (by decide)
    · rfl
    · rfl
    · rfl
    · rfl
    · rfl
    · rfl
    · rfl
    · rfl
    · exact absurd hr (by decide)
    · show e 2 = e' 2; rw [h 2 (by decide)]
    · show tupAt (e 2) 0 = tupAt (e' 2) 0; rw [h 2 (by decide)]
    · show tupAt (e 2) 1 = tupAt (e' 2) 1; rw [h 2 (by decide)]
    · rfl
    · rfl
    · rfl
    · rfl
  · exact ⟨(Below.refl _ _).drew, trivial⟩
  · rintro i oi x e t w' hi hr ho hlv htm hC hon
    obtain rfl | rfl | rfl | rfl | rfl | rfl | rfl | rfl | rfl | rfl | rfl | rfl | rfl | rfl | rfl | rfl | rfl | rfl | rfl | rfl | rfl | rfl : i = 0 ∨ i = 1 ∨ i = 2 ∨ i = 3 ∨ i = 4 ∨ i = 5 ∨ i = 6 ∨ i = 7 ∨ i = 8 ∨ i = 9 ∨ i = 10 ∨ i = 11 ∨ i = 12 ∨ i = 13 ∨ i = 14 ∨ i = 15 ∨ i = 16 ∨ i = 17 ∨ i = 18 ∨ i = 19 ∨ i = 20 ∨ i = 21 := by omega
    · obtain rfl := Option.some.inj ho
      refine wp_value (v := .pointer (some ⟨d, 0, none⟩)) (w' := w') ?_ ⟨rfl, rfl⟩
      go_simp
    · obtain rfl := Option.some.inj ho
      refine wp_value (v := .pointer (some ⟨w.heap.size, 3, none⟩)) (w' := w') ?_ ⟨rfl, rfl⟩
      go_simp
    · obtain rfl := Option.some.inj ho
      have e1 : x 1 = .pointer (some ⟨w.heap.size, 3, none⟩) := hon _ (Array.mem_of_getElem? (i := 0) rfl) rfl
      have hG : Below w1.heap.size w1 w' := by
        match t, htm, hC with
        | 0, _, hC => exact hC.1
        | 1, _, hC => exact hC.1
        | 2, _, hC => exact hC.1
        | 3, _, hC => exact hC.1
        | n + 4, h, _ => exact absurd h (by omega)
      have x3' := (b_1.out.keep hG).2.2.2.1
      refine wp_value (v := .int .i64 0) (w' := w') ?_ ⟨rfl, rfl⟩
      go_simp
    · obtain rfl := Option.some.inj ho
      have hG : Below w1.heap.size w1 w' := by
        match t, htm, hC with
        | 0, _, hC => exact hC.1
        | 1, _, hC => exact hC.1
        | 2, _, hC => exact hC.1
        | 3, _, hC => exact hC.1
        | n + 4, h, _ => exact absurd h (by omega)
      obtain ⟨l0, l1, l2, l3, l4, l5⟩ := b_1.out.keep hG
      refine wp_value (v := .agg #[.int .i64 2, .int .i64 ep, .int .i64 num, .int .i64 0, .int .i64 pos, .string (mkB data)]) (w' := w') ?_ ⟨rfl, rfl⟩
      go_simp
    · exact absurd hr (by decide)
    · exact absurd hr (by decide)
    · obtain rfl := Option.some.inj ho
      refine wp_value (v := .pointer (some ⟨d, 0, none⟩)) (w' := w') ?_ ⟨rfl, rfl⟩
      go_simp
    · obtain rfl := Option.some.inj ho
      refine wp_value (v := .pointer (some ⟨w.heap.size, 3, none⟩)) (w' := w') ?_ ⟨rfl, rfl⟩
      go_simp
    · obtain rfl := Option.some.inj ho
      have e7 : x 7 = .pointer (some ⟨w.heap.size, 3, none⟩) := hon _ (Array.mem_of_getElem? (i := 0) rfl) rfl
      have hG : Below w1.heap.size w1 w' := by
        match t, htm, hC with
        | 0, _, hC => exact hC.1
        | 1, _, hC => exact hC.1
        | 2, _, hC => exact hC.1
        | 3, _, hC => exact hC.1
        | n + 4, h, _ => exact absurd h (by omega)
      have x3' := (b_1.out.keep hG).2.2.2.1
      refine wp_value (v := .int .i64 0) (w' := w') ?_ ⟨rfl, rfl⟩
      go_simp
    · obtain rfl := Option.some.inj ho
      have e6 : x 6 = .pointer (some ⟨d, 0, none⟩) := hon _ (Array.mem_of_getElem? (i := 0) rfl) rfl
      refine wp_value (v := .pointer (some ⟨d, 0, none⟩)) (w' := w') ?_ ⟨rfl, rfl⟩
      go_simp
    · obtain rfl := Option.some.inj ho
      have e9 : x 9 = .pointer (some ⟨d, 0, none⟩) := hon _ (Array.mem_of_getElem? (i := 0) rfl) rfl
      refine wp_value (v := .pointer (some ⟨d, 0, none⟩)) (w' := w') ?_ ⟨rfl, rfl⟩
      go_simp
    · obtain rfl := Option.some.inj ho
      have e10 : x 10 = .pointer (some ⟨d, 0, none⟩) := hon _ (Array.mem_of_getElem? (i := 0) rfl) rfl
      refine wp_value (v := .pointer (some ⟨d, 0, none⟩)) (w' := w') ?_ ⟨rfl, rfl⟩
      go_simp
    · obtain rfl := Option.some.inj ho
      have e11 : x 11 = .pointer (some ⟨d, 0, none⟩) := hon _ (Array.mem_of_getElem? (i := 0) rfl) rfl
      have e8 : x 8 = .int .i64 0 := hon _ (Array.mem_of_getElem? (i := 1) rfl) rfl
      refine wp_value (v := .pointer (some ⟨d, 0, none⟩)) (w' := w') ?_ ⟨rfl, rfl⟩
      go_simp
    · obtain rfl := Option.some.inj ho
      have e12 : x 12 = .pointer (some ⟨d, 0, none⟩) := hon _ (Array.mem_of_getElem? (i := 0) rfl) rfl
      have hG : Below w1.heap.size w1 w' := by
        match t, htm, hC with
        | 0, _, hC => exact hC.1
        | 1, _, hC => exact hC.1
        | 2, _, hC => exact hC.1
        | 3, _, hC => exact hC.1
        | n + 4, h, _ => exact absurd h (by omega)
      have y := row_cell (row_keep d_1.out hG) 0 _ rfl
      obtain ⟨sg, sc, hsv, -⟩ := id (h_1.out)
      rw [hsv] at y
      refine wp_value (v := s0) (w' := w') ?_ ⟨rfl, rfl⟩
      rw [hsv]
      go_simp
    · exact absurd hr (by decide)
    · obtain rfl := Option.some.inj ho
      have e14 : x 14 = e 2 := hon _ (Array.mem_of_getElem? (i := 0) rfl) rfl
      refine wp_value (v := e 2) (w' := w') ?_ ⟨rfl, rfl⟩
      go_simp
    · obtain rfl := Option.some.inj ho
      have e15 : x 15 = e 2 := hon _ (Array.mem_of_getElem? (i := 0) rfl) rfl
      obtain rfl : t = 3 := by have h1 : 3 ≤ t := hlv; have h2 : t ≤ 3 := htm; omega
      have hC' : Below w1.heap.size w1 w' ∧ ∃ v : Value, e 2 = .tuple #[v, .bool true] ∧ Hid (Sht w' v (wrL n0 pos.toNat data)) := hC
      obtain ⟨-, v, he, -⟩ := hC'
      rw [he] at e15
      have hv : tupAt (e 2) 0 = v := by rw [he]; rfl
      refine wp_value (v := tupAt (e 2) 0) (w' := w') ?_ ⟨rfl, rfl⟩
      rw [hv]
      go_simp
    · obtain rfl := Option.some.inj ho
      have e15 : x 15 = e 2 := hon _ (Array.mem_of_getElem? (i := 0) rfl) rfl
      obtain rfl : t = 3 := by have h1 : 3 ≤ t := hlv; have h2 : t ≤ 3 := htm; omega
      have hC' : Below w1.heap.size w1 w' ∧ ∃ v : Value, e 2 = .tuple #[v, .bool true] ∧ Hid (Sht w' v (wrL n0 pos.toNat data)) := hC
      obtain ⟨-, v, he, -⟩ := hC'
      rw [he] at e15
      have hv : tupAt (e 2) 1 = .bool true := by rw [he]; rfl
      refine wp_value (v := tupAt (e 2) 1) (w' := w') ?_ ⟨rfl, rfl⟩
      rw [hv]
      go_simp
    · obtain rfl := Option.some.inj ho
      have e0 : x 0 = .pointer (some ⟨d, 0, none⟩) := hon _ (Array.mem_of_getElem? (i := 0) rfl) rfl
      refine wp_value (v := .pointer (some ⟨d, 0, none⟩)) (w' := w') ?_ ⟨rfl, rfl⟩
      go_simp
    · obtain rfl := Option.some.inj ho
      have e18 : x 18 = .pointer (some ⟨d, 0, none⟩) := hon _ (Array.mem_of_getElem? (i := 0) rfl) rfl
      refine wp_value (v := .pointer (some ⟨d, 0, none⟩)) (w' := w') ?_ ⟨rfl, rfl⟩
      go_simp
    · obtain rfl := Option.some.inj ho
      have e19 : x 19 = .pointer (some ⟨d, 0, none⟩) := hon _ (Array.mem_of_getElem? (i := 0) rfl) rfl
      refine wp_value (v := .pointer (some ⟨d, 0, none⟩)) (w' := w') ?_ ⟨rfl, rfl⟩
      go_simp
    · obtain rfl := Option.some.inj ho
      have e20 : x 20 = .pointer (some ⟨d, 0, none⟩) := hon _ (Array.mem_of_getElem? (i := 0) rfl) rfl
      have e2 : x 2 = .int .i64 0 := hon _ (Array.mem_of_getElem? (i := 1) rfl) rfl
      refine wp_value (v := .pointer (some ⟨d, 0, none⟩)) (w' := w') ?_ ⟨rfl, rfl⟩
      go_simp
  · rintro i oi x e t w' hi hr ho hC hon
    obtain rfl | rfl | rfl | rfl | rfl | rfl | rfl | rfl | rfl | rfl | rfl | rfl | rfl | rfl | rfl | rfl | rfl | rfl | rfl | rfl | rfl | rfl : i = 0 ∨ i = 1 ∨ i = 2 ∨ i = 3 ∨ i = 4 ∨ i = 5 ∨ i = 6 ∨ i = 7 ∨ i = 8 ∨ i = 9 ∨ i = 10 ∨ i = 11 ∨ i = 12 ∨ i = 13 ∨ i = 14 ∨ i = 15 ∨ i = 16 ∨ i = 17 ∨ i = 18 ∨ i = 19 ∨ i = 20 ∨ i = 21 := by omega
    · exact absurd hr (by intro h; cases h)
    · exact absurd hr (by intro h; cases h)
    · exact absurd hr (by intro h; cases h)
    · exact absurd hr (by intro h; cases h)
    · obtain rfl : 0 = t := Option.some.inj hr
      obtain rfl := Option.some.inj ho
      have e3 : x 3 = .agg #[.int .i64 2, .int .i64 ep, .int .i64 num, .int .i64 0, .int .i64 pos, .string (mkB data)] := hon _ (Array.mem_of_getElem? (i := 0) rfl) rfl
      have hC' : Below w1.heap.size w1 w' ∧ True := hC
      refine wp_enter 58 #[.agg (rqA ⟨2, ep, num, 0, pos, data⟩)] ?_ ((reqPatch_any ⟨2, ep, num, 0, pos, data⟩ w').mono fun e' wz ⟨he, hb⟩ => ⟨_, he, _, rfl, show Below w1.heap.size w1 wz ∧ (upd e 0 (.agg #[.int .i64 pos, .string (mkB data)])) 0 = .agg #[.int .i64 pos, .string (mkB data)] from ⟨hC'.1.trans (hb.mono hC'.1.size), upd_eq _ _ _⟩⟩)
      go_simp
    · obtain rfl : 1 = t := Option.some.inj hr
      obtain rfl := Option.some.inj ho
      have e4 : x 4 = e 0 := hon _ (Array.mem_of_getElem? (i := 0) rfl) rfl
      have hC' : Below w1.heap.size w1 w' ∧ e 0 = .agg #[.int .i64 pos, .string (mkB data)] := hC
      rw [hC'.2] at e4
      refine wp_enter 48 #[.agg #[.int .i64 pos, .string (mkB data)]] ?_ ((patchEdit_any pos data w').mono fun e' wz ⟨he, hw⟩ => ⟨_, he, _, rfl, show Below w1.heap.size w1 wz ∧ ∃ b : Nat, (upd e 1 (.func (.func 73) #[] #[.pointer (some ⟨w'.heap.size, 0, none⟩)])) 1 = .func (.func 73) #[] #[.pointer (some ⟨b, 0, none⟩)] ∧ wz.cell? ⟨b, 0, none⟩ = some (.int .i64 pos) ∧ wz.cell? ⟨b, 1, none⟩ = some (.string (mkB data)) from by subst hw; exact ⟨hC'.1.trans (((Below.refl _ _).alloc (Nat.le_refl _) _).mono hC'.1.size), w'.heap.size, upd_eq _ _ _, by go_simp, by go_simp⟩⟩)
      go_simp
    · exact absurd hr (by intro h; cases h)
    · exact absurd hr (by intro h; cases h)
    · exact absurd hr (by intro h; cases h)
    · exact absurd hr (by intro h; cases h)
    · exact absurd hr (by intro h; cases h)
    · exact absurd hr (by intro h; cases h)
    · exact absurd hr (by intro h; cases h)
    · exact absurd hr (by intro h; cases h)
    · obtain rfl : 2 = t := Option.some.inj hr
      obtain rfl := Option.some.inj ho
      have e5 : x 5 = e 1 := hon _ (Array.mem_of_getElem? (i := 0) rfl) rfl
      have e13 : x 13 = s0 := hon _ (Array.mem_of_getElem? (i := 1) rfl) rfl
      have hC' : Below w1.heap.size w1 w' ∧ ∃ b : Nat, e 1 = .func (.func 73) #[] #[.pointer (some ⟨b, 0, none⟩)] ∧ w'.cell? ⟨b, 0, none⟩ = some (.int .i64 pos) ∧ w'.cell? ⟨b, 1, none⟩ = some (.string (mkB data)) := hC
      obtain ⟨hG, b, hf, hb0, hb1⟩ := hC'
      rw [hf] at e5
      have hE := ((patch_edOk w' b pos data HDL.out hb0 hb1) w' s0 n0 (Below.refl _ _) (h_1.out.keep hG) HT.out).1 _ (wrF_yes HWK.out)
      refine wp_enter 73 #[s0, .pointer (some ⟨b, 0, none⟩)] ?_ (hE.2.mono fun e' wz ⟨vz, he, hsv, hb⟩ => ⟨_, he, _, rfl, show Below w1.heap.size w1 wz ∧ ∃ v : Value, (upd e 2 (.tuple #[vz, .bool true])) 2 = .tuple #[v, .bool true] ∧ Hid (Sht wz v (wrL n0 pos.toNat data)) from ⟨hG.trans (hb.mono hG.size), vz, upd_eq _ _ _, hsv⟩⟩)
      go_simp
    · exact absurd hr (by intro h; cases h)
    · exact absurd hr (by intro h; cases h)
    · exact absurd hr (by intro h; cases h)
    · exact absurd hr (by intro h; cases h)
    · exact absurd hr (by intro h; cases h)
    · exact absurd hr (by intro h; cases h)
    · exact absurd hr (by intro h; cases h)
  · rintro oi x e w' ho hC hon
    obtain rfl := Option.some.inj ho
    have e21 : x 21 = .pointer (some ⟨d, 0, none⟩) := hon _ (Array.mem_of_getElem? (i := 0) rfl) rfl
    have e16 : x 16 = tupAt (e 2) 0 := hon _ (Array.mem_of_getElem? (i := 1) rfl) rfl
    have hC' : Below w1.heap.size w1 w' ∧ ∃ v : Value, e 2 = .tuple #[v, .bool true] ∧ Hid (Sht w' v (wrL n0 pos.toNat data)) := hC
    obtain ⟨hG, v, he, hv⟩ := hC'
    have hv0 : tupAt (e 2) 0 = v := by rw [he]; rfl
    rw [hv0] at e16
    have y := row_cell (row_keep d_1.out hG) 0 _ rfl
    have yf := row_free (row_keep d_1.out hG) 0
    obtain ⟨vg, vc, hvf, -⟩ := id hv.out
    subst hvf
    refine wp_skip (w' := w'.setCell ⟨d, 0, none⟩ _) ?_ ⟨rfl, w', _, hG, he, hv, rfl⟩
    go_simp
  · rintro i oi x e w' hi hlt hr ho hR hon
    obtain rfl : i = 17 := by simpa using hlt
    obtain rfl := Option.some.inj ho
    have e15 : x 15 = e 2 := hon _ (Array.mem_of_getElem? (i := 0) rfl) rfl
    obtain ⟨w0, v, -, he, -⟩ := hR
    rw [he] at e15
    have hv : tupAt (e 2) 1 = .bool true := by rw [he]; rfl
    refine wp_value (v := tupAt (e 2) 1) (w' := w') ?_ ⟨rfl, rfl⟩
    rw [hv]
    go_simp
  rintro e w' F hF hR
  obtain rfl : F = ({ tmps := #[Value.pointer (some { block := d, off := 0 }), .agg (rqA ⟨2, ep, num, 0, pos, data⟩), undef, Value.pointer (some { block := w.heap.size, off := 0 }), Value.nilIface, Value.nilIface, Value.pointer (some { block := d, off := 0 }), .agg #[.int .i64 2, .int .i64 ep, .int .i64 num, .int .i64 0, .int .i64 pos, .string (mkB data)], Value.nilIface, Value.nilIface, Value.bool false, undef, e 2, .pointer (some ⟨d, 0, none⟩), .pointer (some ⟨w.heap.size, 3, none⟩), .int .i64 0, .agg #[.int .i64 2, .int .i64 ep, .int .i64 num, .int .i64 0, .int .i64 pos, .string (mkB data)], e 0, e 1, .pointer (some ⟨d, 0, none⟩), .pointer (some ⟨w.heap.size, 3, none⟩), .int .i64 0, .pointer (some ⟨d, 0, none⟩), .pointer (some ⟨d, 0, none⟩), .pointer (some ⟨d, 0, none⟩), .pointer (some ⟨d, 0, none⟩), s0, e 2, tupAt (e 2) 0, tupAt (e 2) 1, .pointer (some ⟨d, 0, none⟩), .pointer (some ⟨d, 0, none⟩), .pointer (some ⟨d, 0, none⟩), .pointer (some ⟨d, 0, none⟩), undef, undef, undef, undef, undef, undef, undef, undef, undef], defers := [] } : Act) := hF
  obtain ⟨w0, v, hG, he, hv, rfl⟩ := hR
  have HV := Lib.hid he
  clear he
  have h0v : ∃ a n c, v = .slice a n c := by obtain ⟨g, c, h, -⟩ := hv.out; exact ⟨_, _, _, h⟩
  obtain ⟨X, hX⟩ : ∃ X, w0.setCell ⟨d, 0, none⟩ v = X := ⟨_, rfl⟩
  have hrow := row_keep d_1.out hG
  have hr2 : X.heap[d]? = some (.cells #[v, s1, s2, .int .i64 l0, .int .i64 l1, .int .i64 l2, t0, t1, t2, .int .i64 m0, .int .i64 m1, .int .i64 m2, .int .i64 f0, .int .i64 f1, .int .i64 f2] 88 (0, 0)) := by rw [← hX]; exact row_set hrow 0 v
  have ht : Btn d (d + 1) w0 X := by rw [← hX]; exact btn_set _ _ _ _
  have b_2 := Lib.hid ((b_1.out.keep hG).btn ht (.inr (by omega)))
  have d_2 := Lib.hid hr2
  have G_2 := Lib.hid (gr_trans (gr_below (E_1.out.trans (hG.mono E_1.out.size)) (some d)) (by rw [← hX]; exact gr_set _ _ _ _ : w0.grownBy X (some d)))
  have V_2 := Lib.hid (sht_far hrow s0 rfl h0s hv.out 0 v X hX)
  rw [hX]
  clear hX hrow hr2 ht hG hv h_1 d_1 b_1 E_1 x0 x1 x2 x3 x4 x5
  obtain ⟨x0, x1, x2, x3, x4, x5⟩ := b_2.out
  have yk := row_cell d_2.out 5 _ rfl
  have fk := row_free d_2.out 5
  go_wp2_with fail
  go_still_tail 9, (by kernel_rfl)
  change wpList _ _ _ _ _ X.drew
  obtain ⟨Y, hY⟩ : ∃ Y, X.drew = Y := ⟨_, rfl⟩
  have hdr : Below X.heap.size X Y := by rw [← hY]; exact (Below.refl _ _).drew
  rw [hY]
  clear hY yk fk x0 x1 x2 x3 x4 x5
  have d_3 := row_keep d_2.out hdr
  have yk := row_cell d_3 5 _ rfl
  have fk := row_free d_3 5
  obtain ⟨Z, hZ⟩ : ∃ Z, Y.setCell ⟨d, 5, none⟩ (.int .i64 num) = Z := ⟨_, rfl⟩
  have hr3 : Z.heap[d]? = some (.cells #[v, s1, s2, .int .i64 l0, .int .i64 l1, .int .i64 num, t0, t1, t2, .int .i64 m0, .int .i64 m1, .int .i64 m2, .int .i64 f0, .int .i64 f1, .int .i64 f2] 88 (0, 0)) := by rw [← hZ]; exact row_set d_3 5 _
  have D_4 := Lib.hid hr3
  have G_4 := Lib.hid (gr_trans G_2.out (gr_trans (gr_below hdr (some d)) (by rw [← hZ]; exact gr_set _ _ _ _ : Y.grownBy Z (some d))))
  have V_4 := Lib.hid (sht_far d_3 _ rfl h0v (V_2.out.keep hdr) 5 _ Z hZ)
  clear hr3 hdr d_3 d_2 b_2 G_2 V_2
  go_wp2
  go_ret
  exact ⟨rfl, v, D_4, V_4, G_4.out⟩

set_option maxRecDepth 100000 in
set_option maxHeartbeats 8000000 in
theorem do_10 (a0 a1 a2 a3 : Addr) (d : Nat) (s0 s1 s2 t0 t1 t2 : Value) (n0 n1 n2 u0 u1 u2 : List UInt8) (l0 l1 l2 m0 m1 m2 f0 f1 f2 : Int) (ep num pos : Int) (data : List UInt8) (w : World)
    (hS : Snt w a0 a1 a2 a3) (hD : w.heap[d]? = some (.cells #[s0, s1, s2, .int .i64 l0, .int .i64 l1, .int .i64 l2, t0, t1, t2, .int .i64 m0, .int .i64 m1, .int .i64 m2, .int .i64 f0, .int .i64 f1, .int .i64 f2] 88 (0, 0))) (hl : 0 ≤ l0 ∧ l0 ≤ 1000) (hd : data.length ≤ 2000000) (hs : Sht w s1 n1) (h0s : ∃ a n c, s0 = .slice a n c) (ht : tokB n1 = true)
    (hc : doC ⟨[n0, n1, n2], [u0, u1, u2], [l0, l1, l2], [m0, m1, m2], [f0, f1, f2]⟩ ⟨0, ep, num, 1, pos, data⟩ = 0) :
    Calls Tryd.prog 30 #[.pointer (some ⟨d, 0, none⟩), .agg (rqA ⟨0, ep, num, 1, pos, data⟩)] w (DoY w d (n1) pos data fun v => #[s0, v, s2, .int .i64 num, .int .i64 l1, .int .i64 l2, t0, t1, t2, .int .i64 m0, .int .i64 m1, .int .i64 m2, .int .i64 f0, .int .i64 f1, .int .i64 f2]) := by
  have hrq := (doC_fine hc).1
  have hwk : wokB pos data = true := (rqB_iff.1 hrq).2.2.2.2
  have KR := refuse_0 a0 a1 a2 a3 d s0 s1 s2 t0 t1 t2 n0 n1 n2 u0 u1 u2 l0 l1 l2 m0 m1 m2 f0 f1 f2 ep num 1 pos data
  rw [hc, show errV a0 a1 a2 a3 0 = .nilIface from rfl] at KR
  have KR := Lib.hid KR
  obtain ⟨W, hW⟩ : ∃ W, w.alloc (.cells (rqA ⟨0, ep, num, 1, pos, data⟩) 34) = W := ⟨_, rfl⟩
  have hal : Below w.heap.size w W := by rw [← hW]; exact (Below.refl _ _).alloc (Nat.le_refl _) _
  have B0 : Box6 W w.heap.size ⟨0, ep, num, 1, pos, data⟩ := by rw [← hW]; exact new_box6 w _ _
  have HK := Lib.hid (KR.out W (hS.keep hal) (row_keep hD hal) hl hd)
  have E_0 := Lib.hid hal
  have b_0 := Lib.hid B0
  have d_0 := Lib.hid (row_keep hD hal)
  have h_0 := Lib.hid (hs.keep hal)
  have HT := Lib.hid ht
  have HWK := Lib.hid hwk
  have HDL := Lib.hid hd
  have hbd : d < w.heap.size := (Array.getElem?_eq_some_iff.1 hD).1
  obtain ⟨x0, x1, x2, x3, x4, x5⟩ := b_0.out
  clear hal B0 hS hD hl hd hs ht hc hrq hwk KR
  go_enter Tryd.func30, Tryd.ntmps30
  go_wp2_with fail
  clear hW
  refine HK.out.mono ?_; rintro e w1 ⟨rfl, hb⟩
  have E_1 := Lib.hid (E_0.out.trans (hb.mono E_0.out.size))
  have b_1 := Lib.hid (b_0.out.keep hb)
  have d_1 := Lib.hid (row_keep d_0.out hb)
  have h_1 := Lib.hid (h_0.out.keep hb)
  have hw1 : w.heap.size < w1.heap.size := Nat.lt_of_lt_of_le (World.block_lt_of_cell? _ _ x0) hb.size
  clear x0 x1 x2 x3 x4 x5 E_0 b_0 d_0 h_0 hb HK
  obtain ⟨x0, x1, x2, x3, x4, x5⟩ := b_1.out
  go_wp2_with fail
  refine wp_region_chain 22 3 (fun j => j == 17) (fun j => (#[none, none, none, none, some 0, some 1, none, none, none, none, none, none, none, none, some 2, none, none, none, none, none, none, none, some 3] : Array (Option Nat)).getD j none) (fun j => (#[0, 0, 0, 0, 0, 0, 0, 0, 0, 0, 0, 0, 0, 0, 0, 3, 3, 3, 0, 0, 0, 0] : Array Nat).getD j 0) (fun x => ({ tmps := #[Value.pointer (some { block := d, off := 0 }), .agg (rqA ⟨0, ep, num, 1, pos, data⟩), undef, Value.pointer (some { block := w.heap.size, off := 0 }), Value.nilIface, Value.nilIface, Value.pointer (some { block := d, off := 0 }), .agg #[.int .i64 0, .int .i64 ep, .int .i64 num, .int .i64 1, .int .i64 pos, .string (mkB data)], Value.nilIface, Value.nilIface, Value.bool false, undef, x 15, x 0, x 1, x 2, x 3, x 4, x 5, x 6, x 7, x 8, x 9, x 10, x 11, x 12, x 13, x 14, x 16, x 17, x 18, x 19, x 20, x 21, undef, undef, undef, undef, undef, undef, undef, undef, undef], defers := [] } : Act)) (fun j e => (#[.pointer (some ⟨d, 0, none⟩), .pointer (some ⟨w.heap.size, 3, none⟩), .int .i64 1, .agg #[.int .i64 0, .int .i64 ep, .int .i64 num, .int .i64 1, .int .i64 pos, .string (mkB data)], e 0, e 1, .pointer (some ⟨d, 0, none⟩), .pointer (some ⟨w.heap.size, 3, none⟩), .int .i64 1, .pointer (some ⟨d, 0, none⟩), .pointer (some ⟨d, 0, none⟩), .pointer (some ⟨d, 0, none⟩), .pointer (some ⟨d, 1, none⟩), s1, e 2, e 2, tupAt (e 2) 0, tupAt (e 2) 1, .pointer (some ⟨d, 0, none⟩), .pointer (some ⟨d, 0, none⟩), .pointer (some ⟨d, 0, none⟩), .pointer (some ⟨d, 1, none⟩)] : Array Value).getD j undef) (fun t e w' => match t with | 0 => Below w1.heap.size w1 w' ∧ True | 1 => Below w1.heap.size w1 w' ∧ e 0 = .agg #[.int .i64 pos, .string (mkB data)] | 2 => Below w1.heap.size w1 w' ∧ ∃ b : Nat, e 1 = .func (.func 73) #[] #[.pointer (some ⟨b, 0, none⟩)] ∧ w'.cell? ⟨b, 0, none⟩ = some (.int .i64 pos) ∧ w'.cell? ⟨b, 1, none⟩ = some (.string (mkB data)) | _ => Below w1.heap.size w1 w' ∧ ∃ v : Value, e 2 = .tuple #[v, .bool true] ∧ Hid (Sht w' v (wrL n1 pos.toNat data))) (fun e w' => ∃ (w0 : World) (v : Value), Below w1.heap.size w1 w0 ∧ e 2 = .tuple #[v, .bool true] ∧ Hid (Sht w0 v (wrL n1 pos.toNat data)) ∧ w' = w0.setCell ⟨d, 1, none⟩ v) (x0 := fun i => (#[undef, undef, undef, undef, undef, undef, undef, undef, undef, undef, undef, undef, undef, undef, undef, undef, undef, undef, undef, undef, undef, undef] : Array Value).getD i undef) rfl (by kernel_rfl) (by kernel_rfl) (by kernel_rfl) (by kernel_rfl) (by kernel_rfl) (by kernel_rfl) (by kernel_rfl) (by kernel_rfl) ?_ ?_ ?_ ?_ ?_ ?_ ?_ ?_
  · intro x y h
    simp only [h 0 (by decide), h 1 (by decide), h 2 (by decide), h 3 (by decide), h 4 (by decide), h 5 (by decide), h 6 (by decide), h 7 (by decide), h 8 (by decide), h 9 (by decide), h 10 (by decide), h 11 (by decide), h 12 (by decide), h 13 (by decide), h 14 (by decide), h 15 (by decide), h 16 (by decide), h 17 (by decide), h 18 (by decide), h 19 (by decide), h 20 (by decide), h 21 (by decide)]
  · intro i hi hr e e' h
    obtain rfl | rfl | rfl | rfl | rfl | rfl | rfl | rfl | rfl | rfl | rfl | rfl | rfl | rfl | rfl | rfl | rfl | rfl | rfl | rfl | rfl | rfl : i = 0 ∨ i = 1 ∨ i = 2 ∨ i = 3 ∨ i = 4 ∨ i = 5 ∨ i = 6 ∨ i = 7 ∨ i = 8 ∨ i = 9 ∨ i = 10 ∨ i = 11 ∨ i = 12 ∨ i = 13 ∨ i = 14 ∨ i = 15 ∨ i = 16 ∨ i = 17 ∨ i = 18 ∨ i = 19 ∨ i = 20 ∨ i = 21 := by omega
    · rfl
    · rfl
    · rfl
    · rfl
    · exact absurd hr (by decide)
    · exact absurd hr (by decide)
    · rfl
    · rfl
    · rfl
    · rfl
    · rfl
    · rfl
    · rfl
    · rfl
    · exact absurd hr (by decide)
    · show e 2 = e' 2; rw [h 2 (by decide)]
    · show tupAt (e 2) 0 = tupAt (e' 2) 0; rw [h 2 (by decide)]
    · show tupAt (e 2) 1 = tupAt (e' 2) 1; rw [h 2 (by decide)]
    · rfl
    · rfl
    · rfl
    · rfl
  · exact ⟨(Below.refl _ _).drew, trivial⟩
  · rintro i oi x e t w' hi hr ho hlv htm hC hon
    obtain rfl | rfl | rfl | rfl | rfl | rfl | rfl | rfl | rfl | rfl | rfl | rfl | rfl | rfl | rfl | rfl | rfl | rfl | rfl | rfl | rfl | rfl : i = 0 ∨ i = 1 ∨ i = 2 ∨ i = 3 ∨ i = 4 ∨ i = 5 ∨ i = 6 ∨ i = 7 ∨ i = 8 ∨ i = 9 ∨ i = 10 ∨ i = 11 ∨ i = 12 ∨ i = 13 ∨ i = 14 ∨ i = 15 ∨ i = 16 ∨ i = 17 ∨ i = 18 ∨ i = 19 ∨ i = 20 ∨ i = 21 := by omega
    · obtain rfl := Option.some.inj ho
      refine wp_value (v := .pointer (some ⟨d, 0, none⟩)) (w' := w') ?_ ⟨rfl, rfl⟩
      go_simp
    · obtain rfl := Option.some.inj ho
      refine wp_value (v := .pointer (some ⟨w.heap.size, 3, none⟩)) (w' := w') ?_ ⟨rfl, rfl⟩
      go_simp
    · obtain rfl := Option.some.inj ho
      have e1 : x 1 = .pointer (some ⟨w.heap.size, 3, none⟩) := hon _ (Array.mem_of_getElem? (i := 0) rfl) rfl
      have hG : Below w1.heap.size w1 w' := by
        match t, htm, hC with
        | 0, _, hC => exact hC.1
        | 1, _, hC => exact hC.1
        | 2, _, hC => exact hC.1
        | 3, _, hC => exact hC.1
        | n + 4, h, _ => exact absurd h (by omega)
      have x3' := (b_1.out.keep hG).2.2.2.1
      refine wp_value (v := .int .i64 1) (w' := w') ?_ ⟨rfl, rfl⟩
      go_simp
    · obtain rfl := Option.some.inj ho
      have hG : Below w1.heap.size w1 w' := by
        match t, htm, hC with
        | 0, _, hC => exact hC.1
        | 1, _, hC => exact hC.1
        | 2, _, hC => exact hC.1
        | 3, _, hC => exact hC.1
        | n + 4, h, _ => exact absurd h (by omega)
      obtain ⟨l0, l1, l2, l3, l4, l5⟩ := b_1.out.keep hG
      refine wp_value (v := .agg #[.int .i64 0, .int .i64 ep, .int .i64 num, .int .i64 1, .int .i64 pos, .string (mkB data)]) (w' := w') ?_ ⟨rfl, rfl⟩
      go_simp
    · exact absurd hr (by decide)
    · exact absurd hr (by decide)
    · obtain rfl := Option.some.inj ho
      refine wp_value (v := .pointer (some ⟨d, 0, none⟩)) (w' := w') ?_ ⟨rfl, rfl⟩
      go_simp
    · obtain rfl := Option.some.inj ho
      refine wp_value (v := .pointer (some ⟨w.heap.size, 3, none⟩)) (w' := w') ?_ ⟨rfl, rfl⟩
      go_simp
    · obtain rfl := Option.some.inj ho
      have e7 : x 7 = .pointer (some ⟨w.heap.size, 3, none⟩) := hon _ (Array.mem_of_getElem? (i := 0) rfl) rfl
      have hG : Below w1.heap.size w1 w' := by
        match t, htm, hC with
        | 0, _, hC => exact hC.1
        | 1, _, hC => exact hC.1
        | 2, _, hC => exact hC.1
        | 3, _, hC => exact hC.1
        | n + 4, h, _ => exact absurd h (by omega)
      have x3' := (b_1.out.keep hG).2.2.2.1
      refine wp_value (v := .int .i64 1) (w' := w') ?_ ⟨rfl, rfl⟩
      go_simp
    · obtain rfl := Option.some.inj ho
      have e6 : x 6 = .pointer (some ⟨d, 0, none⟩) := hon _ (Array.mem_of_getElem? (i := 0) rfl) rfl
      refine wp_value (v := .pointer (some ⟨d, 0, none⟩)) (w' := w') ?_ ⟨rfl, rfl⟩
      go_simp
    · obtain rfl := Option.some.inj ho
      have e9 : x 9 = .pointer (some ⟨d, 0, none⟩) := hon _ (Array.mem_of_getElem? (i := 0) rfl) rfl
      refine wp_value (v := .pointer (some ⟨d, 0, none⟩)) (w' := w') ?_ ⟨rfl, rfl⟩
      go_simp
    · obtain rfl := Option.some.inj ho
      have e10 : x 10 = .pointer (some ⟨d, 0, none⟩) := hon _ (Array.mem_of_getElem? (i := 0) rfl) rfl
      refine wp_value (v := .pointer (some ⟨d, 0, none⟩)) (w' := w') ?_ ⟨rfl, rfl⟩
      go_simp
    · obtain rfl := Option.some.inj ho
      have e11 : x 11 = .pointer (some ⟨d, 0, none⟩) := hon _ (Array.mem_of_getElem? (i := 0) rfl) rfl
      have e8 : x 8 = .int .i64 1 := hon _ (Array.mem_of_getElem? (i := 1) rfl) rfl
      refine wp_value (v := .pointer (some ⟨d, 1, none⟩)) (w' := w') ?_ ⟨rfl, rfl⟩
      go_simp
    · obtain rfl := Option.some.inj ho
      have e12 : x 12 = .pointer (some ⟨d, 1, none⟩) := hon _ (Array.mem_of_getElem? (i := 0) rfl) rfl
      have hG : Below w1.heap.size w1 w' := by
        match t, htm, hC with
        | 0, _, hC => exact hC.1
        | 1, _, hC => exact hC.1
        | 2, _, hC => exact hC.1
        | 3, _, hC => exact hC.1
        | n + 4, h, _ => exact absurd h (by omega)
      have y := row_cell (row_keep d_1.out hG) 1 _ rfl
      obtain ⟨sg, sc, hsv, -⟩ := id (h_1.out)
      rw [hsv] at y
      refine wp_value (v := s1) (w' := w') ?_ ⟨rfl, rfl⟩
      rw [hsv]
      go_simp
    · exact absurd hr (by decide)
    · obtain rfl := Option.some.inj ho
      have e14 : x 14 = e 2 := hon _ (Array.mem_of_getElem? (i := 0) rfl) rfl
      refine wp_value (v := e 2) (w' := w') ?_ ⟨rfl, rfl⟩
      go_simp
    · obtain rfl := Option.some.inj ho
      have e15 : x 15 = e 2 := hon _ (Array.mem_of_getElem? (i := 0) rfl) rfl
      obtain rfl : t = 3 := by have h1 : 3 ≤ t := hlv; have h2 : t ≤ 3 := htm; omega
      have hC' : Below w1.heap.size w1 w' ∧ ∃ v : Value, e 2 = .tuple #[v, .bool true] ∧ Hid (Sht w' v (wrL n1 pos.toNat data)) := hC
      obtain ⟨-, v, he, -⟩ := hC'
      rw [he] at e15
      have hv : tupAt (e 2) 0 = v := by rw [he]; rfl
      refine wp_value (v := tupAt (e 2) 0) (w' := w') ?_ ⟨rfl, rfl⟩
      rw [hv]
      go_simp
    · obtain rfl := Option.some.inj ho
      have e15 : x 15 = e 2 := hon _ (Array.mem_of_getElem? (i := 0) rfl) rfl
      obtain rfl : t = 3 := by have h1 : 3 ≤ t := hlv; have h2 : t ≤ 3 := htm; omega
      have hC' : Below w1.heap.size w1 w' ∧ ∃ v : Value, e 2 = .tuple #[v, .bool true] ∧ Hid (Sht w' v (wrL n1 pos.toNat data)) := hC
      obtain ⟨-, v, he, -⟩ := hC'
      rw [he] at e15
      have hv : tupAt (e 2) 1 = .bool true := by rw [he]; rfl
      refine wp_value (v := tupAt (e 2) 1) (w' := w') ?_ ⟨rfl, rfl⟩
      rw [hv]
      go_simp
    · obtain rfl := Option.some.inj ho
      have e0 : x 0 = .pointer (some ⟨d, 0, none⟩) := hon _ (Array.mem_of_getElem? (i := 0) rfl) rfl
      refine wp_value (v := .pointer (some ⟨d, 0, none⟩)) (w' := w') ?_ ⟨rfl, rfl⟩
      go_simp
    · obtain rfl := Option.some.inj ho
      have e18 : x 18 = .pointer (some ⟨d, 0, none⟩) := hon _ (Array.mem_of_getElem? (i := 0) rfl) rfl
      refine wp_value (v := .pointer (some ⟨d, 0, none⟩)) (w' := w') ?_ ⟨rfl, rfl⟩
      go_simp
    · obtain rfl := Option.some.inj ho
      have e19 : x 19 = .pointer (some ⟨d, 0, none⟩) := hon _ (Array.mem_of_getElem? (i := 0) rfl) rfl
      refine wp_value (v := .pointer (some ⟨d, 0, none⟩)) (w' := w') ?_ ⟨rfl, rfl⟩
      go_simp
    · obtain rfl := Option.some.inj ho
      have e20 : x 20 = .pointer (some ⟨d, 0, none⟩) := hon _ (Array.mem_of_getElem? (i := 0) rfl) rfl
      have e2 : x 2 = .int .i64 1 := hon _ (Array.mem_of_getElem? (i := 1) rfl) rfl
      refine wp_value (v := .pointer (some ⟨d, 1, none⟩)) (w' := w') ?_ ⟨rfl, rfl⟩
      go_simp
  · rintro i oi x e t w' hi hr ho hC hon
    obtain rfl | rfl | rfl | rfl | rfl | rfl | rfl | rfl | rfl | rfl | rfl | rfl | rfl | rfl | rfl | rfl | rfl | rfl | rfl | rfl | rfl | rfl : i = 0 ∨ i = 1 ∨ i = 2 ∨ i = 3 ∨ i = 4 ∨ i = 5 ∨ i = 6 ∨ i = 7 ∨ i = 8 ∨ i = 9 ∨ i = 10 ∨ i = 11 ∨ i = 12 ∨ i = 13 ∨ i = 14 ∨ i = 15 ∨ i = 16 ∨ i = 17 ∨ i = 18 ∨ i = 19 ∨ i = 20 ∨ i = 21 := by omega
    · exact absurd hr (by intro h; cases h)
    · exact absurd hr (by intro h; cases h)
    · exact absurd hr (by intro h; cases h)
    · exact absurd hr (by intro h; cases h)
    · obtain rfl : 0 = t := Option.some.inj hr
      obtain rfl := Option.some.inj ho
      have e3 : x 3 = .agg #[.int .i64 0, .int .i64 ep, .int .i64 num, .int .i64 1, .int .i64 pos, .string (mkB data)] := hon _ (Array.mem_of_getElem? (i := 0) rfl) rfl
      have hC' : Below w1.heap.size w1 w' ∧ True := hC
      refine wp_enter 58 #[.agg (rqA ⟨0, ep, num, 1, pos, data⟩)] ?_ ((reqPatch_any ⟨0, ep, num, 1, pos, data⟩ w').mono fun e' wz ⟨he, hb⟩ => ⟨_, he, _, rfl, show Below w1.heap.size w1 wz ∧ (upd e 0 (.agg #[.int .i64 pos, .string (mkB data)])) 0 = .agg #[.int .i64 pos, .string (mkB data)] from ⟨hC'.1.trans (hb.mono hC'.1.size), upd_eq _ _ _⟩⟩)
      go_simp
    · obtain rfl : 1 = t := Option.some.inj hr
      obtain rfl := Option.some.inj ho
      have e4 : x 4 = e 0 := hon _ (Array.mem_of_getElem? (i := 0) rfl) rfl
      have hC' : Below w1.heap.size w1 w' ∧ e 0 = .agg #[.int .i64 pos, .string (mkB data)] := hC
      rw [hC'.2] at e4
      refine wp_enter 48 #[.agg #[.int .i64 pos, .string (mkB data)]] ?_ ((patchEdit_any pos data w').mono fun e' wz ⟨he, hw⟩ => ⟨_, he, _, rfl, show Below w1.heap.size w1 wz ∧ ∃ b : Nat, (upd e 1 (.func (.func 73) #[] #[.pointer (some ⟨w'.heap.size, 0, none⟩)])) 1 = .func (.func 73) #[] #[.pointer (some ⟨b, 0, none⟩)] ∧ wz.cell? ⟨b, 0, none⟩ = some (.int .i64 pos) ∧ wz.cell? ⟨b, 1, none⟩ = some (.string (mkB data)) from by subst hw; exact ⟨hC'.1.trans (((Below.refl _ _).alloc (Nat.le_refl _) _).mono hC'.1.size), w'.heap.size, upd_eq _ _ _, by go_simp, by go_simp⟩⟩)
      go_simp
    · exact absurd hr (by intro h; cases h)
    · exact absurd hr (by intro h; cases h)
    · exact absurd hr (by intro h; cases h)
    · exact absurd hr (by intro h; cases h)
    · exact absurd hr (by intro h; cases h)
    · exact absurd hr (by intro h; cases h)
    · exact absurd hr (by intro h; cases h)
    · exact absurd hr (by intro h; cases h)
    · obtain rfl : 2 = t := Option.some.inj hr
      obtain rfl := Option.some.inj ho
      have e5 : x 5 = e 1 := hon _ (Array.mem_of_getElem? (i := 0) rfl) rfl
      have e13 : x 13 = s1 := hon _ (Array.mem_of_getElem? (i := 1) rfl) rfl
      have hC' : Below w1.heap.size w1 w' ∧ ∃ b : Nat, e 1 = .func (.func 73) #[] #[.pointer (some ⟨b, 0, none⟩)] ∧ w'.cell? ⟨b, 0, none⟩ = some (.int .i64 pos) ∧ w'.cell? ⟨b, 1, none⟩ = some (.string (mkB data)) := hC
      obtain ⟨hG, b, hf, hb0, hb1⟩ := hC'
      rw [hf] at e5
      have hE := ((patch_edOk w' b pos data HDL.out hb0 hb1) w' s1 n1 (Below.refl _ _) (h_1.out.keep hG) HT.out).1 _ (wrF_yes HWK.out)
      refine wp_enter 73 #[s1, .pointer (some ⟨b, 0, none⟩)] ?_ (hE.2.mono fun e' wz ⟨vz, he, hsv, hb⟩ => ⟨_, he, _, rfl, show Below w1.heap.size w1 wz ∧ ∃ v : Value, (upd e 2 (.tuple #[vz, .bool true])) 2 = .tuple #[v, .bool true] ∧ Hid (Sht wz v (wrL n1 pos.toNat data)) from ⟨hG.trans (hb.mono hG.size), vz, upd_eq _ _ _, hsv⟩⟩)
      go_simp
    · exact absurd hr (by intro h; cases h)
    · exact absurd hr (by intro h; cases h)
    · exact absurd hr (by intro h; cases h)
    · exact absurd hr (by intro h; cases h)
    · exact absurd hr (by intro h; cases h)
    · exact absurd hr (by intro h; cases h)
    · exact absurd hr (by intro h; cases h)
  · rintro oi x e w' ho hC hon
    obtain rfl := Option.some.inj ho
    have e21 : x 21 = .pointer (some ⟨d, 1, none⟩) := hon _ (Array.mem_of_getElem? (i := 0) rfl) rfl
    have e16 : x 16 = tupAt (e 2) 0 := hon _ (Array.mem_of_getElem? (i := 1) rfl) rfl
    have hC' : Below w1.heap.size w1 w' ∧ ∃ v : Value, e 2 = .tuple #[v, .bool true] ∧ Hid (Sht w' v (wrL n1 pos.toNat data)) := hC
    obtain ⟨hG, v, he, hv⟩ := hC'
    have hv0 : tupAt (e 2) 0 = v := by rw [he]; rfl
    rw [hv0] at e16
    have y := row_cell (row_keep d_1.out hG) 1 _ rfl
    have yf := row_free (row_keep d_1.out hG) 1
    obtain ⟨vg, vc, hvf, -⟩ := id hv.out
    subst hvf
    refine wp_skip (w' := w'.setCell ⟨d, 1, none⟩ _) ?_ ⟨rfl, w', _, hG, he, hv, rfl⟩
    go_simp
  · rintro i oi x e w' hi hlt hr ho hR hon
    obtain rfl : i = 17 := by simpa using hlt
    obtain rfl := Option.some.inj ho
    have e15 : x 15 = e 2 := hon _ (Array.mem_of_getElem? (i := 0) rfl) rfl
    obtain ⟨w0, v, -, he, -⟩ := hR
    rw [he] at e15
    have hv : tupAt (e 2) 1 = .bool true := by rw [he]; rfl
    refine wp_value (v := tupAt (e 2) 1) (w' := w') ?_ ⟨rfl, rfl⟩
    rw [hv]
    go_simp
  rintro e w' F hF hR
  obtain rfl : F = ({ tmps := #[Value.pointer (some { block := d, off := 0 }), .agg (rqA ⟨0, ep, num, 1, pos, data⟩), undef, Value.pointer (some { block := w.heap.size, off := 0 }), Value.nilIface, Value.nilIface, Value.pointer (some { block := d, off := 0 }), .agg #[.int .i64 0, .int .i64 ep, .int .i64 num, .int .i64 1, .int .i64 pos, .string (mkB data)], Value.nilIface, Value.nilIface, Value.bool false, undef, e 2, .pointer (some ⟨d, 0, none⟩), .pointer (some ⟨w.heap.size, 3, none⟩), .int .i64 1, .agg #[.int .i64 0, .int .i64 ep, .int .i64 num, .int .i64 1, .int .i64 pos, .string (mkB data)], e 0, e 1, .pointer (some ⟨d, 0, none⟩), .pointer (some ⟨w.heap.size, 3, none⟩), .int .i64 1, .pointer (some ⟨d, 0, none⟩), .pointer (some ⟨d, 0, none⟩), .pointer (some ⟨d, 0, none⟩), .pointer (some ⟨d, 1, none⟩), s1, e 2, tupAt (e 2) 0, tupAt (e 2) 1, .pointer (some ⟨d, 0, none⟩), .pointer (some ⟨d, 0, none⟩), .pointer (some ⟨d, 0, none⟩), .pointer (some ⟨d, 1, none⟩), undef, undef, undef, undef, undef, undef, undef, undef, undef], defers := [] } : Act) := hF
  obtain ⟨w0, v, hG, he, hv, rfl⟩ := hR
  have HV := Lib.hid he
  clear he
  have h0v : ∃ a n c, s0 = .slice a n c := h0s
  obtain ⟨X, hX⟩ : ∃ X, w0.setCell ⟨d, 1, none⟩ v = X := ⟨_, rfl⟩
  have hrow := row_keep d_1.out hG
  have hr2 : X.heap[d]? = some (.cells #[s0, v, s2, .int .i64 l0, .int .i64 l1, .int .i64 l2, t0, t1, t2, .int .i64 m0, .int .i64 m1, .int .i64 m2, .int .i64 f0, .int .i64 f1, .int .i64 f2] 88 (0, 0)) := by rw [← hX]; exact row_set hrow 1 v
  have ht : Btn d (d + 1) w0 X := by rw [← hX]; exact btn_set _ _ _ _
  have b_2 := Lib.hid ((b_1.out.keep hG).btn ht (.inr (by omega)))
  have d_2 := Lib.hid hr2
  have G_2 := Lib.hid (gr_trans (gr_below (E_1.out.trans (hG.mono E_1.out.size)) (some d)) (by rw [← hX]; exact gr_set _ _ _ _ : w0.grownBy X (some d)))
  have V_2 := Lib.hid (sht_far hrow s0 rfl h0s hv.out 1 v X hX)
  rw [hX]
  clear hX hrow hr2 ht hG hv h_1 d_1 b_1 E_1 x0 x1 x2 x3 x4 x5
  obtain ⟨x0, x1, x2, x3, x4, x5⟩ := b_2.out
  have yk := row_cell d_2.out 3 _ rfl
  have fk := row_free d_2.out 3
  go_wp2_with fail
  go_still_tail 9, (by kernel_rfl)
  change wpList _ _ _ _ _ X.drew
  obtain ⟨Y, hY⟩ : ∃ Y, X.drew = Y := ⟨_, rfl⟩
  have hdr : Below X.heap.size X Y := by rw [← hY]; exact (Below.refl _ _).drew
  rw [hY]
  clear hY yk fk x0 x1 x2 x3 x4 x5
  have d_3 := row_keep d_2.out hdr
  have yk := row_cell d_3 3 _ rfl
  have fk := row_free d_3 3
  obtain ⟨Z, hZ⟩ : ∃ Z, Y.setCell ⟨d, 3, none⟩ (.int .i64 num) = Z := ⟨_, rfl⟩
  have hr3 : Z.heap[d]? = some (.cells #[s0, v, s2, .int .i64 num, .int .i64 l1, .int .i64 l2, t0, t1, t2, .int .i64 m0, .int .i64 m1, .int .i64 m2, .int .i64 f0, .int .i64 f1, .int .i64 f2] 88 (0, 0)) := by rw [← hZ]; exact row_set d_3 3 _
  have D_4 := Lib.hid hr3
  have G_4 := Lib.hid (gr_trans G_2.out (gr_trans (gr_below hdr (some d)) (by rw [← hZ]; exact gr_set _ _ _ _ : Y.grownBy Z (some d))))
  have V_4 := Lib.hid (sht_far d_3 _ rfl h0v (V_2.out.keep hdr) 3 _ Z hZ)
  clear hr3 hdr d_3 d_2 b_2 G_2 V_2
  go_wp2
  go_ret
  exact ⟨rfl, v, D_4, V_4, G_4.out⟩

set_option maxRecDepth 100000 in
set_option maxHeartbeats 8000000 in
theorem do_11 (a0 a1 a2 a3 : Addr) (d : Nat) (s0 s1 s2 t0 t1 t2 : Value) (n0 n1 n2 u0 u1 u2 : List UInt8) (l0 l1 l2 m0 m1 m2 f0 f1 f2 : Int) (ep num pos : Int) (data : List UInt8) (w : World)
    (hS : Snt w a0 a1 a2 a3) (hD : w.heap[d]? = some (.cells #[s0, s1, s2, .int .i64 l0, .int .i64 l1, .int .i64 l2, t0, t1, t2, .int .i64 m0, .int .i64 m1, .int .i64 m2, .int .i64 f0, .int .i64 f1, .int .i64 f2] 88 (0, 0))) (hl : 0 ≤ l1 ∧ l1 ≤ 1000) (hd : data.length ≤ 2000000) (hs : Sht w s1 n1) (h0s : ∃ a n c, s0 = .slice a n c) (ht : tokB n1 = true)
    (hc : doC ⟨[n0, n1, n2], [u0, u1, u2], [l0, l1, l2], [m0, m1, m2], [f0, f1, f2]⟩ ⟨1, ep, num, 1, pos, data⟩ = 0) :
    Calls Tryd.prog 30 #[.pointer (some ⟨d, 0, none⟩), .agg (rqA ⟨1, ep, num, 1, pos, data⟩)] w (DoY w d (n1) pos data fun v => #[s0, v, s2, .int .i64 l0, .int .i64 num, .int .i64 l2, t0, t1, t2, .int .i64 m0, .int .i64 m1, .int .i64 m2, .int .i64 f0, .int .i64 f1, .int .i64 f2]) := by
  have hrq := (doC_fine hc).1
  have hwk : wokB pos data = true := (rqB_iff.1 hrq).2.2.2.2
  have KR := refuse_1 a0 a1 a2 a3 d s0 s1 s2 t0 t1 t2 n0 n1 n2 u0 u1 u2 l0 l1 l2 m0 m1 m2 f0 f1 f2 ep num 1 pos data
  rw [hc, show errV a0 a1 a2 a3 0 = .nilIface from rfl] at KR
  have KR := Lib.hid KR
  obtain ⟨W, hW⟩ : ∃ W, w.alloc (.cells (rqA ⟨1, ep, num, 1, pos, data⟩) 34) = W := ⟨_, rfl⟩
  have hal : Below w.heap.size w W := by rw [← hW]; exact (Below.refl _ _).alloc (Nat.le_refl _) _
  have B0 : Box6 W w.heap.size ⟨1, ep, num, 1, pos, data⟩ := by rw [← hW]; exact new_box6 w _ _
  have HK := Lib.hid (KR.out W (hS.keep hal) (row_keep hD hal) hl hd)
  have E_0 := Lib.hid hal
  have b_0 := Lib.hid B0
  have d_0 := Lib.hid (row_keep hD hal)
  have h_0 := Lib.hid (hs.keep hal)
  have HT := Lib.hid ht
  have HWK := Lib.hid hwk
  have HDL := Lib.hid hd
  have hbd : d < w.heap.size := (Array.getElem?_eq_some_iff.1 hD).1
  obtain ⟨x0, x1, x2, x3, x4, x5⟩ := b_0.out
  clear hal B0 hS hD hl hd hs ht hc hrq hwk KR
  go_enter Tryd.func30, Tryd.ntmps30
  go_wp2_with fail
  clear hW
  refine HK.out.mono ?_; rintro e w1 ⟨rfl, hb⟩
  have E_1 := Lib.hid (E_0.out.trans (hb.mono E_0.out.size))
  have b_1 := Lib.hid (b_0.out.keep hb)
  have d_1 := Lib.hid (row_keep d_0.out hb)
  have h_1 := Lib.hid (h_0.out.keep hb)
  have hw1 : w.heap.size < w1.heap.size := Nat.lt_of_lt_of_le (World.block_lt_of_cell? _ _ x0) hb.size
  clear x0 x1 x2 x3 x4 x5 E_0 b_0 d_0 h_0 hb HK
  obtain ⟨x0, x1, x2, x3, x4, x5⟩ := b_1.out
  go_wp2_with fail
  refine wp_region_chain 22 3 (fun j => j == 17) (fun j => (#[none, none, none, none, some 0, some 1, none, none, none, none, none, none, none, none, some 2, none, none, none, none, none, none, none, some 3] : Array (Option Nat)).getD j none) (fun j => (#[0, 0, 0, 0, 0, 0, 0, 0, 0, 0, 0, 0, 0, 0, 0, 3, 3, 3, 0, 0, 0, 0] : Array Nat).getD j 0) (fun x => ({ tmps := #[Value.pointer (some { block := d, off := 0 }), .agg (rqA ⟨1, ep, num, 1, pos, data⟩), undef, Value.pointer (some { block := w.heap.size, off := 0 }), Value.nilIface, Value.nilIface, Value.pointer (some { block := d, off := 0 }), .agg #[.int .i64 1, .int .i64 ep, .int .i64 num, .int .i64 1, .int .i64 pos, .string (mkB data)], Value.nilIface, Value.nilIface, Value.bool false, undef, x 15, x 0, x 1, x 2, x 3, x 4, x 5, x 6, x 7, x 8, x 9, x 10, x 11, x 12, x 13, x 14, x 16, x 17, x 18, x 19, x 20, x 21, undef, undef, undef, undef, undef, undef, undef, undef, undef], defers := [] } : Act)) (fun j e => (#[.pointer (some ⟨d, 0, none⟩), .pointer (some ⟨w.heap.size, 3, none⟩), .int .i64 1, .agg #[.int .i64 1, .int .i64 ep, .int .i64 num, .int .i64 1, .int .i64 pos, .string (mkB data)], e 0, e 1, .pointer (some ⟨d, 0, none⟩), .pointer (some ⟨w.heap.size, 3, none⟩), .int .i64 1, .pointer (some ⟨d, 0, none⟩), .pointer (some ⟨d, 0, none⟩), .pointer (some ⟨d, 0, none⟩), .pointer (some ⟨d, 1, none⟩), s1, e 2, e 2, tupAt (e 2) 0, tupAt (e 2) 1, .pointer (some ⟨d, 0, none⟩), .pointer (some ⟨d, 0, none⟩), .pointer (some ⟨d, 0, none⟩), .pointer (some ⟨d, 1, none⟩)] : Array Value).getD j undef) (fun t e w' => match t with | 0 => Below w1.heap.size w1 w' ∧ True | 1 => Below w1.heap.size w1 w' ∧ e 0 = .agg #[.int .i64 pos, .string (mkB data)] | 2 => Below w1.heap.size w1 w' ∧ ∃ b : Nat, e 1 = .func (.func 73) #[] #[.pointer (some ⟨b, 0, none⟩)] ∧ w'.cell? ⟨b, 0, none⟩ = some (.int .i64 pos) ∧ w'.cell? ⟨b, 1, none⟩ = some (.string (mkB data)) | _ => Below w1.heap.size w1 w' ∧ ∃ v : Value, e 2 = .tuple #[v, .bool true] ∧ Hid (Sht w' v (wrL n1 pos.toNat data))) (fun e w' => ∃ (w0 : World) (v : Value), Below w1.heap.size w1 w0 ∧ e 2 = .tuple #[v, .bool true] ∧ Hid (Sht w0 v (wrL n1 pos.toNat data)) ∧ w' = w0.setCell ⟨d, 1, none⟩ v) (x0 := fun i => (#[undef, undef, undef, undef, undef, undef, undef, undef, undef, undef, undef, undef, undef, undef, undef, undef, undef, undef, undef, undef, undef, undef] : Array Value).getD i undef) rfl (by kernel_rfl) (by kernel_rfl) (by kernel_rfl) (by kernel_rfl) (by kernel_rfl) (by kernel_rfl) (by kernel_rfl) (by kernel_rfl) ?_ ?_ ?_ ?_ ?_ ?_ ?_ ?_
  · intro x y h
    simp only [h 0 (by decide), h 1 (by decide), h 2 (by decide), h 3 (by decide), h 4 (by decide), h 5 (by decide), h 6 (by decide), h 7 (by decide), h 8 (by decide), h 9 (by decide), h 10 (by decide), h 11 (by decide), h 12 (by decide), h 13 (by decide), h 14 (by decide), h 15 (by decide), h 16 (by decide), h 17 (by decide), h 18 (by decide), h 19 (by decide), h 20 (by decide), h 21 (by decide)]
  · intro i hi hr e e' h
    obtain rfl | rfl | rfl | rfl | rfl | rfl | rfl | rfl | rfl | rfl | rfl | rfl | rfl | rfl | rfl | rfl | rfl | rfl | rfl | rfl | rfl | rfl : i = 0 ∨ i = 1 ∨ i = 2 ∨ i = 3 ∨ i = 4 ∨ i = 5 ∨ i = 6 ∨ i = 7 ∨ i = 8 ∨ i = 9 ∨ i = 10 ∨ i = 11 ∨ i = 12 ∨ i = 13 ∨ i = 14 ∨ i = 15 ∨ i = 16 ∨ i = 17 ∨ i = 18 ∨ i = 19 ∨ i = 20 ∨ i = 21 := by omega
    · rfl
    · rfl
    · rfl
    · rfl
    · exact absurd hr (by decide)
    · exact absurd hr (by decide)
    · rfl
    · rfl
    · rfl
    · rfl
    · rfl
    · rfl
    · rfl
    · rfl
    · exact absurd hr (by decide)
    · show e 2 = e' 2; rw [h 2 (by decide)]
    · show tupAt (e 2) 0 = tupAt (e' 2) 0; rw [h 2 (by decide)]
    · show tupAt (e 2) 1 = tupAt (e' 2) 1; rw [h 2 (by decide)]
    · rfl
    · rfl
    · rfl
    · rfl
  · exact ⟨(Below.refl _ _).drew, trivial⟩
  · rintro i oi x e t w' hi hr ho hlv htm hC hon
    obtain rfl | rfl | rfl | rfl | rfl | rfl | rfl | rfl | rfl | rfl | rfl | rfl | rfl | rfl | rfl | rfl | rfl | rfl | rfl | rfl | rfl | rfl : i = 0 ∨ i = 1 ∨ i = 2 ∨ i = 3 ∨ i = 4 ∨ i = 5 ∨ i = 6 ∨ i = 7 ∨ i = 8 ∨ i = 9 ∨ i = 10 ∨ i = 11 ∨ i = 12 ∨ i = 13 ∨ i = 14 ∨ i = 15 ∨ i = 16 ∨ i = 17 ∨ i = 18 ∨ i = 19 ∨ i = 20 ∨ i = 21 := by omega
    · obtain rfl := Option.some.inj ho
      refine wp_value (v := .pointer (some ⟨d, 0, none⟩)) (w' := w') ?_ ⟨rfl, rfl⟩
      go_simp
    · obtain rfl := Option.some.inj ho
      refine wp_value (v := .pointer (some ⟨w.heap.size, 3, none⟩)) (w' := w') ?_ ⟨rfl, rfl⟩
      go_simp
    · obtain rfl := Option.some.inj ho
      have e1 : x 1 = .pointer (some ⟨w.heap.size, 3, none⟩) := hon _ (Array.mem_of_getElem? (i := 0) rfl) rfl
      have hG : Below w1.heap.size w1 w' := by
        match t, htm, hC with
        | 0, _, hC => exact hC.1
        | 1, _, hC => exact hC.1
        | 2, _, hC => exact hC.1
        | 3, _, hC => exact hC.1
        | n + 4, h, _ => exact absurd h (by omega)
      have x3' := (b_1.out.keep hG).2.2.2.1
      refine wp_value (v := .int .i64 1) (w' := w') ?_ ⟨rfl, rfl⟩
      go_simp
    · obtain rfl := Option.some.inj ho
      have hG : Below w1.heap.size w1 w' := by
        match t, htm, hC with
        | 0, _, hC => exact hC.1
        | 1, _, hC => exact hC.1
        | 2, _, hC => exact hC.1
        | 3, _, hC => exact hC.1
        | n + 4, h, _ => exact absurd h (by omega)
      obtain ⟨l0, l1, l2, l3, l4, l5⟩ := b_1.out.keep hG
      refine wp_value (v := .agg #[.int .i64 1, .int .i64 ep, .int .i64 num, .int .i64 1, .int .i64 pos, .string (mkB data)]) (w' := w') ?_ ⟨rfl, rfl⟩
      go_simp
    · exact absurd hr (by decide)
    · exact absurd hr (by decide)
    · obtain rfl := Option.some.inj ho
      refine wp_value (v := .pointer (some ⟨d, 0, none⟩)) (w' := w') ?_ ⟨rfl, rfl⟩
      go_simp
    · obtain rfl := Option.some.inj ho
      refine wp_value (v := .pointer (some ⟨w.heap.size, 3, none⟩)) (w' := w') ?_ ⟨rfl, rfl⟩
      go_simp
    · obtain rfl := Option.some.inj ho
      have e7 : x 7 = .pointer (some ⟨w.heap.size, 3, none⟩) := hon _ (Array.mem_of_getElem? (i := 0) rfl) rfl
      have hG : Below w1.heap.size w1 w' := by
        match t, htm, hC with
        | 0, _, hC => exact hC.1
        | 1, _, hC => exact hC.1
        | 2, _, hC => exact hC.1
        | 3, _, hC => exact hC.1
        | n + 4, h, _ => exact absurd h (by omega)
      have x3' := (b_1.out.keep hG).2.2.2.1
      refine wp_value (v := .int .i64 1) (w' := w') ?_ ⟨rfl, rfl⟩
      go_simp
    · obtain rfl := Option.some.inj ho
      have e6 : x 6 = .pointer (some ⟨d, 0, none⟩) := hon _ (Array.mem_of_getElem? (i := 0) rfl) rfl
      refine wp_value (v := .pointer (some ⟨d, 0, none⟩)) (w' := w') ?_ ⟨rfl, rfl⟩
      go_simp
    · obtain rfl := Option.some.inj ho
      have e9 : x 9 = .pointer (some ⟨d, 0, none⟩) := hon _ (Array.mem_of_getElem? (i := 0) rfl) rfl
      refine wp_value (v := .pointer (some ⟨d, 0, none⟩)) (w' := w') ?_ ⟨rfl, rfl⟩
      go_simp
    · obtain rfl := Option.some.inj ho
      have e10 : x 10 = .pointer (some ⟨d, 0, none⟩) := hon _ (Array.mem_of_getElem? (i := 0) rfl) rfl
      refine wp_value (v := .pointer (some ⟨d, 0, none⟩)) (w' := w') ?_ ⟨rfl, rfl⟩
      go_simp
    · obtain rfl := Option.some.inj ho
      have e11 : x 11 = .pointer (some ⟨d, 0, none⟩) := hon _ (Array.mem_of_getElem? (i := 0) rfl) rfl
      have e8 : x 8 = .int .i64 1 := hon _ (Array.mem_of_getElem? (i := 1) rfl) rfl
      refine wp_value (v := .pointer (some ⟨d, 1, none⟩)) (w' := w') ?_ ⟨rfl, rfl⟩
      go_simp
    · obtain rfl := Option.some.inj ho
      have e12 : x 12 = .pointer (some ⟨d, 1, none⟩) := hon _ (Array.mem_of_getElem? (i := 0) rfl) rfl
      have hG : Below w1.heap.size w1 w' := by
        match t, htm, hC with
        | 0, _, hC => exact hC.1
        | 1, _, hC => exact hC.1
        | 2, _, hC => exact hC.1
        | 3, _, hC => exact hC.1
        | n + 4, h, _ => exact absurd h (by omega)
      have y := row_cell (row_keep d_1.out hG) 1 _ rfl
      obtain ⟨sg, sc, hsv, -⟩ := id (h_1.out)
      rw [hsv] at y
      refine wp_value (v := s1) (w' := w') ?_ ⟨rfl, rfl⟩
      rw [hsv]
      go_simp
    · exact absurd hr (by decide)
    · obtain rfl := Option.some.inj ho
      have e14 : x 14 = e 2 := hon _ (Array.mem_of_getElem? (i := 0) rfl) rfl
      refine wp_value (v := e 2) (w' := w') ?_ ⟨rfl, rfl⟩
      go_simp
    · obtain rfl := Option.some.inj ho
      have e15 : x 15 = e 2 := hon _ (Array.mem_of_getElem? (i := 0) rfl) rfl
      obtain rfl : t = 3 := by have h1 : 3 ≤ t := hlv; have h2 : t ≤ 3 := htm; omega
      have hC' : Below w1.heap.size w1 w' ∧ ∃ v : Value, e 2 = .tuple #[v, .bool true] ∧ Hid (Sht w' v (wrL n1 pos.toNat data)) := hC
      obtain ⟨-, v, he, -⟩ := hC'
      rw [he] at e15
      have hv : tupAt (e 2) 0 = v := by rw [he]; rfl
      refine wp_value (v := tupAt (e 2) 0) (w' := w') ?_ ⟨rfl, rfl⟩
      rw [hv]
      go_simp
    · obtain rfl := Option.some.inj ho
      have e15 : x 15 = e 2 := hon _ (Array.mem_of_getElem? (i := 0) rfl) rfl
      obtain rfl : t = 3 := by have h1 : 3 ≤ t := hlv; have h2 : t ≤ 3 := htm; omega
      have hC' : Below w1.heap.size w1 w' ∧ ∃ v : Value, e 2 = .tuple #[v, .bool true] ∧ Hid (Sht w' v (wrL n1 pos.toNat data)) := hC
      obtain ⟨-, v, he, -⟩ := hC'
      rw [he] at e15
      have hv : tupAt (e 2) 1 = .bool true := by rw [he]; rfl
      refine wp_value (v := tupAt (e 2) 1) (w' := w') ?_ ⟨rfl, rfl⟩
      rw [hv]
      go_simp
    · obtain rfl := Option.some.inj ho
      have e0 : x 0 = .pointer (some ⟨d, 0, none⟩) := hon _ (Array.mem_of_getElem? (i := 0) rfl) rfl
      refine wp_value (v := .pointer (some ⟨d, 0, none⟩)) (w' := w') ?_ ⟨rfl, rfl⟩
      go_simp
    · obtain rfl := Option.some.inj ho
      have e18 : x 18 = .pointer (some ⟨d, 0, none⟩) := hon _ (Array.mem_of_getElem? (i := 0) rfl) rfl
      refine wp_value (v := .pointer (some ⟨d, 0, none⟩)) (w' := w') ?_ ⟨rfl, rfl⟩
      go_simp
    · obtain rfl := Option.some.inj ho
      have e19 : x 19 = .pointer (some ⟨d, 0, none⟩) := hon _ (Array.mem_of_getElem? (i := 0) rfl) rfl
      refine wp_value (v := .pointer (some ⟨d, 0, none⟩)) (w' := w') ?_ ⟨rfl, rfl⟩
      go_simp
    · obtain rfl := Option.some.inj ho
      have e20 : x 20 = .pointer (some ⟨d, 0, none⟩) := hon _ (Array.mem_of_getElem? (i := 0) rfl) rfl
      have e2 : x 2 = .int .i64 1 := hon _ (Array.mem_of_getElem? (i := 1) rfl) rfl
      refine wp_value (v := .pointer (some ⟨d, 1, none⟩)) (w' := w') ?_ ⟨rfl, rfl⟩
      go_simp
  · rintro i oi x e t w' hi hr ho hC hon
    obtain rfl | rfl | rfl | rfl | rfl | rfl | rfl | rfl | rfl | rfl | rfl | rfl | rfl | rfl | rfl | rfl | rfl | rfl | rfl | rfl | rfl | rfl : i = 0 ∨ i = 1 ∨ i = 2 ∨ i = 3 ∨ i = 4 ∨ i = 5 ∨ i = 6 ∨ i = 7 ∨ i = 8 ∨ i = 9 ∨ i = 10 ∨ i = 11 ∨ i = 12 ∨ i = 13 ∨ i = 14 ∨ i = 15 ∨ i = 16 ∨ i = 17 ∨ i = 18 ∨ i = 19 ∨ i = 20 ∨ i = 21 := by omega
    · exact absurd hr (by intro h; cases h)
    · exact absurd hr (by intro h; cases h)
    · exact absurd hr (by intro h; cases h)
    · exact absurd hr (by intro h; cases h)
    · obtain rfl : 0 = t := Option.some.inj hr
      obtain rfl := Option.some.inj ho
      have e3 : x 3 = .agg #[.int .i64 1, .int .i64 ep, .int .i64 num, .int .i64 1, .int .i64 pos, .string (mkB data)] := hon _ (Array.mem_of_getElem? (i := 0) rfl) rfl
      have hC' : Below w1.heap.size w1 w' ∧ True := hC
      refine wp_enter 58 #[.agg (rqA ⟨1, ep, num, 1, pos, data⟩)] ?_ ((reqPatch_any ⟨1, ep, num, 1, pos, data⟩ w').mono fun e' wz ⟨he, hb⟩ => ⟨_, he, _, rfl, show Below w1.heap.size w1 wz ∧ (upd e 0 (.agg #[.int .i64 pos, .string (mkB data)])) 0 = .agg #[.int .i64 pos, .string (mkB data)] from ⟨hC'.1.trans (hb.mono hC'.1.size), upd_eq _ _ _⟩⟩)
      go_simp
    · obtain rfl : 1 = t := Option.some.inj hr
      obtain rfl := Option.some.inj ho
      have e4 : x 4 = e 0 := hon _ (Array.mem_of_getElem? (i := 0) rfl) rfl
      have hC' : Below w1.heap.size w1 w' ∧ e 0 = .agg #[.int .i64 pos, .string (mkB data)] := hC
      rw [hC'.2] at e4
      refine wp_enter 48 #[.agg #[.int .i64 pos, .string (mkB data)]] ?_ ((patchEdit_any pos data w').mono fun e' wz ⟨he, hw⟩ => ⟨_, he, _, rfl, show Below w1.heap.size w1 wz ∧ ∃ b : Nat, (upd e 1 (.func (.func 73) #[] #[.pointer (some ⟨w'.heap.size, 0, none⟩)])) 1 = .func (.func 73) #[] #[.pointer (some ⟨b, 0, none⟩)] ∧ wz.cell? ⟨b, 0, none⟩ = some (.int .i64 pos) ∧ wz.cell? ⟨b, 1, none⟩ = some (.string (mkB data)) from by subst hw; exact ⟨hC'.1.trans (((Below.refl _ _).alloc (Nat.le_refl _) _).mono hC'.1.size), w'.heap.size, upd_eq _ _ _, by go_simp, by go_simp⟩⟩)
      go_simp
    · exact absurd hr (by intro h; cases h)
    · exact absurd hr (by intro h; cases h)
    · exact absurd hr (by intro h; cases h)
    · exact absurd hr (by intro h; cases h)
    · exact absurd hr (by intro h; cases h)
    · exact absurd hr (by intro h; cases h)
    · exact absurd hr (by intro h; cases h)
    · exact absurd hr (by intro h; cases h)
    · obtain rfl : 2 = t := Option.some.inj hr
      obtain rfl := Option.some.inj ho
      have e5 : x 5 = e 1 := hon _ (Array.mem_of_getElem? (i := 0) rfl) rfl
      have e13 : x 13 = s1 := hon _ (Array.mem_of_getElem? (i := 1) rfl) rfl
      have hC' : Below w1.heap.size w1 w' ∧ ∃ b : Nat, e 1 = .func (.func 73) #[] #[.pointer (some ⟨b, 0, none⟩)] ∧ w'.cell? ⟨b, 0, none⟩ = some (.int .i64 pos) ∧ w'.cell? ⟨b, 1, none⟩ = some (.string (mkB data)) := hC
      obtain ⟨hG, b, hf, hb0, hb1⟩ := hC'
      rw [hf] at e5
      have hE := ((patch_edOk w' b pos data HDL.out hb0 hb1) w' s1 n1 (Below.refl _ _) (h_1.out.keep hG) HT.out).1 _ (wrF_yes HWK.out)
      refine wp_enter 73 #[s1, .pointer (some ⟨b, 0, none⟩)] ?_ (hE.2.mono fun e' wz ⟨vz, he, hsv, hb⟩ => ⟨_, he, _, rfl, show Below w1.heap.size w1 wz ∧ ∃ v : Value, (upd e 2 (.tuple #[vz, .bool true])) 2 = .tuple #[v, .bool true] ∧ Hid (Sht wz v (wrL n1 pos.toNat data)) from ⟨hG.trans (hb.mono hG.size), vz, upd_eq _ _ _, hsv⟩⟩)
      go_simp
    · exact absurd hr (by intro h; cases h)
    · exact absurd hr (by intro h; cases h)
    · exact absurd hr (by intro h; cases h)
    · exact absurd hr (by intro h; cases h)
    · exact absurd hr (by intro h; cases h)
    · exact absurd hr (by intro h; cases h)
    · exact absurd hr (by intro h; cases h)
  · rintro oi x e w' ho hC hon
    obtain rfl := Option.some.inj ho
    have e21 : x 21 = .pointer (some ⟨d, 1, none⟩) := hon _ (Array.mem_of_getElem? (i := 0) rfl) rfl
    have e16 : x 16 = tupAt (e 2) 0 := hon _ (Array.mem_of_getElem? (i := 1) rfl) rfl
    have hC' : Below w1.heap.size w1 w' ∧ ∃ v : Value, e 2 = .tuple #[v, .bool true] ∧ Hid (Sht w' v (wrL n1 pos.toNat data)) := hC
    obtain ⟨hG, v, he, hv⟩ := hC'
    have hv0 : tupAt (e 2) 0 = v := by rw [he]; rfl
    rw [hv0] at e16
    have y := row_cell (row_keep d_1.out hG) 1 _ rfl
    have yf := row_free (row_keep d_1.out hG) 1
    obtain ⟨vg, vc, hvf, -⟩ := id hv.out
    subst hvf
    refine wp_skip (w' := w'.setCell ⟨d, 1, none⟩ _) ?_ ⟨rfl, w', _, hG, he, hv, rfl⟩
    go_simp
  · rintro i oi x e w' hi hlt hr ho hR hon
    obtain rfl : i = 17 := by simpa using hlt
    obtain rfl := Option.some.inj ho
    have e15 : x 15 = e 2 := hon _ (Array.mem_of_getElem? (i := 0) rfl) rfl
    obtain ⟨w0, v, -, he, -⟩ := hR
    rw [he] at e15
    have hv : tupAt (e 2) 1 = .bool true := by rw [he]; rfl
    refine wp_value (v := tupAt (e 2) 1) (w' := w') ?_ ⟨rfl, rfl⟩
    rw [hv]
    go_simp
  rintro e w' F hF hR
  obtain rfl : F = ({ tmps := #[Value.pointer (some { block := d, off := 0 }), .agg (rqA ⟨1, ep, num, 1, pos, data⟩), undef, Value.pointer (some { block := w.heap.size, off := 0 }), Value.nilIface, Value.nilIface, Value.pointer (some { block := d, off := 0 }), .agg #[.int .i64 1, .int .i64 ep, .int .i64 num, .int .i64 1, .int .i64 pos, .string (mkB data)], Value.nilIface, Value.nilIface, Value.bool false, undef, e 2, .pointer (some ⟨d, 0, none⟩), .pointer (some ⟨w.heap.size, 3, none⟩), .int .i64 1, .agg #[.int .i64 1, .int .i64 ep, .int .i64 num, .int .i64 1, .int .i64 pos, .string (mkB data)], e 0, e 1, .pointer (some ⟨d, 0, none⟩), .pointer (some ⟨w.heap.size, 3, none⟩), .int .i64 1, .pointer (some ⟨d, 0, none⟩), .pointer (some ⟨d, 0, none⟩), .pointer (some ⟨d, 0, none⟩), .pointer (some ⟨d, 1, none⟩), s1, e 2, tupAt (e 2) 0, tupAt (e 2) 1, .pointer (some ⟨d, 0, none⟩), .pointer (some ⟨d, 0, none⟩), .pointer (some ⟨d, 0, none⟩), .pointer (some ⟨d, 1, none⟩), undef, undef, undef, undef, undef, undef, undef, undef, undef], defers := [] } : Act) := hF
  obtain ⟨w0, v, hG, he, hv, rfl⟩ := hR
  have HV := Lib.hid he
  clear he
  have h0v : ∃ a n c, s0 = .slice a n c := h0s
  obtain ⟨X, hX⟩ : ∃ X, w0.setCell ⟨d, 1, none⟩ v = X := ⟨_, rfl⟩
  have hrow := row_keep d_1.out hG
  have hr2 : X.heap[d]? = some (.cells #[s0, v, s2, .int .i64 l0, .int .i64 l1, .int .i64 l2, t0, t1, t2, .int .i64 m0, .int .i64 m1, .int .i64 m2, .int .i64 f0, .int .i64 f1, .int .i64 f2] 88 (0, 0)) := by rw [← hX]; exact row_set hrow 1 v
  have ht : Btn d (d + 1) w0 X := by rw [← hX]; exact btn_set _ _ _ _
  have b_2 := Lib.hid ((b_1.out.keep hG).btn ht (.inr (by omega)))
  have d_2 := Lib.hid hr2
  have G_2 := Lib.hid (gr_trans (gr_below (E_1.out.trans (hG.mono E_1.out.size)) (some d)) (by rw [← hX]; exact gr_set _ _ _ _ : w0.grownBy X (some d)))
  have V_2 := Lib.hid (sht_far hrow s0 rfl h0s hv.out 1 v X hX)
  rw [hX]
  clear hX hrow hr2 ht hG hv h_1 d_1 b_1 E_1 x0 x1 x2 x3 x4 x5
  obtain ⟨x0, x1, x2, x3, x4, x5⟩ := b_2.out
  have yk := row_cell d_2.out 4 _ rfl
  have fk := row_free d_2.out 4
  go_wp2_with fail
  go_still_tail 9, (by kernel_rfl)
  change wpList _ _ _ _ _ X.drew
  obtain ⟨Y, hY⟩ : ∃ Y, X.drew = Y := ⟨_, rfl⟩
  have hdr : Below X.heap.size X Y := by rw [← hY]; exact (Below.refl _ _).drew
  rw [hY]
  clear hY yk fk x0 x1 x2 x3 x4 x5
  have d_3 := row_keep d_2.out hdr
  have yk := row_cell d_3 4 _ rfl
  have fk := row_free d_3 4
  obtain ⟨Z, hZ⟩ : ∃ Z, Y.setCell ⟨d, 4, none⟩ (.int .i64 num) = Z := ⟨_, rfl⟩
  have hr3 : Z.heap[d]? = some (.cells #[s0, v, s2, .int .i64 l0, .int .i64 num, .int .i64 l2, t0, t1, t2, .int .i64 m0, .int .i64 m1, .int .i64 m2, .int .i64 f0, .int .i64 f1, .int .i64 f2] 88 (0, 0)) := by rw [← hZ]; exact row_set d_3 4 _
  have D_4 := Lib.hid hr3
  have G_4 := Lib.hid (gr_trans G_2.out (gr_trans (gr_below hdr (some d)) (by rw [← hZ]; exact gr_set _ _ _ _ : Y.grownBy Z (some d))))
  have V_4 := Lib.hid (sht_far d_3 _ rfl h0v (V_2.out.keep hdr) 4 _ Z hZ)
  clear hr3 hdr d_3 d_2 b_2 G_2 V_2
  go_wp2
  go_ret
  exact ⟨rfl, v, D_4, V_4, G_4.out⟩

set_option maxRecDepth 100000 in
set_option maxHeartbeats 8000000 in
theorem do_12 (a0 a1 a2 a3 : Addr) (d : Nat) (s0 s1 s2 t0 t1 t2 : Value) (n0 n1 n2 u0 u1 u2 : List UInt8) (l0 l1 l2 m0 m1 m2 f0 f1 f2 : Int) (ep num pos : Int) (data : List UInt8) (w : World)
    (hS : Snt w a0 a1 a2 a3) (hD : w.heap[d]? = some (.cells #[s0, s1, s2, .int .i64 l0, .int .i64 l1, .int .i64 l2, t0, t1, t2, .int .i64 m0, .int .i64 m1, .int .i64 m2, .int .i64 f0, .int .i64 f1, .int .i64 f2] 88 (0, 0))) (hl : 0 ≤ l2 ∧ l2 ≤ 1000) (hd : data.length ≤ 2000000) (hs : Sht w s1 n1) (h0s : ∃ a n c, s0 = .slice a n c) (ht : tokB n1 = true)
    (hc : doC ⟨[n0, n1, n2], [u0, u1, u2], [l0, l1, l2], [m0, m1, m2], [f0, f1, f2]⟩ ⟨2, ep, num, 1, pos, data⟩ = 0) :
    Calls Tryd.prog 30 #[.pointer (some ⟨d, 0, none⟩), .agg (rqA ⟨2, ep, num, 1, pos, data⟩)] w (DoY w d (n1) pos data fun v => #[s0, v, s2, .int .i64 l0, .int .i64 l1, .int .i64 num, t0, t1, t2, .int .i64 m0, .int .i64 m1, .int .i64 m2, .int .i64 f0, .int .i64 f1, .int .i64 f2]) := by
  have hrq := (doC_fine hc).1
  have hwk : wokB pos data = true := (rqB_iff.1 hrq).2.2.2.2
  have KR := refuse_2 a0 a1 a2 a3 d s0 s1 s2 t0 t1 t2 n0 n1 n2 u0 u1 u2 l0 l1 l2 m0 m1 m2 f0 f1 f2 ep num 1 pos data
  rw [hc, show errV a0 a1 a2 a3 0 = .nilIface from rfl] at KR
  have KR := Lib.hid KR
  obtain ⟨W, hW⟩ : ∃ W, w.alloc (.cells (rqA ⟨2, ep, num, 1, pos, data⟩) 34) = W := ⟨_, rfl⟩
  have hal : Below w.heap.size w W := by rw [← hW]; exact (Below.refl _ _).alloc (Nat.le_refl _) _
  have B0 : Box6 W w.heap.size ⟨2, ep, num, 1, pos, data⟩ := by rw [← hW]; exact new_box6 w _ _
  have HK := Lib.hid (KR.out W (hS.keep hal) (row_keep hD hal) hl hd)
  have E_0 := Lib.hid hal
  have b_0 := Lib.hid B0
  have d_0 := Lib.hid (row_keep hD hal)
  have h_0 := Lib.hid (hs.keep hal)
  have HT := Lib.hid ht
  have HWK := Lib.hid hwk
  have HDL := Lib.hid hd
  have hbd : d < w.heap.size := (Array.getElem?_eq_some_iff.1 hD).1
  obtain ⟨x0, x1, x2, x3, x4, x5⟩ := b_0.out
  clear hal B0 hS hD hl hd hs ht hc hrq hwk KR
  go_enter Tryd.func30, Tryd.ntmps30
  go_wp2_with fail
  clear hW
  refine HK.out.mono ?_; rintro e w1 ⟨rfl, hb⟩
  have E_1 := Lib.hid (E_0.out.trans (hb.mono E_0.out.size))
  have b_1 := Lib.hid (b_0.out.keep hb)
  have d_1 := Lib.hid (row_keep d_0.out hb)
  have h_1 := Lib.hid (h_0.out.keep hb)
  have hw1 : w.heap.size < w1.heap.size := Nat.lt_of_lt_of_le (World.block_lt_of_cell? _ _ x0) hb.size
  clear x0 x1 x2 x3 x4 x5 E_0 b_0 d_0 h_0 hb HK
  obtain ⟨x0, x1, x2, x3, x4, x5⟩ := b_1.out
  go_wp2_with fail
  refine wp_region_chain 22 3 (fun j => j == 17) (fun j => (#[none, none, none, none, some 0, some 1, none, none, none, none, none, none, none, none, some 2, none, none, none, none, none, none, none, some 3] : Array (Option Nat)).getD j none) (fun j => (#[0, 0, 0, 0, 0, 0, 0, 0, 0, 0, 0, 0, 0, 0, 0, 3, 3, 3, 0, 0, 0, 0] : Array Nat).getD j 0) (fun x => ({ tmps := #[Value.pointer (some { block := d, off := 0 }), .agg (rqA ⟨2, ep, num, 1, pos, data⟩), undef, Value.pointer (some { block := w.heap.size, off := 0 }), Value.nilIface, Value.nilIface, Value.pointer (some { block := d, off := 0 }), .agg #[.int .i64 2, .int .i64 ep, .int .i64 num, .int .i64 1, .int .i64 pos, .string (mkB data)], Value.nilIface, Value.nilIface, Value.bool false, undef, x 15, x 0, x 1, x 2, x 3, x 4, x 5, x 6, x 7, x 8, x 9, x 10, x 11, x 12, x 13, x 14, x 16, x 17, x 18, x 19, x 20, x 21, undef, undef, undef, undef, undef, undef, undef, undef, undef], defers := [] } : Act)) (fun j e => (#[.pointer (some ⟨d, 0, none⟩), .pointer (some ⟨w.heap.size, 3, none⟩), .int .i64 1, .agg #[.int .i64 2, .int .i64 ep, .int .i64 num, .int .i64 1, .int .i64 pos, .string (mkB data)], e 0, e 1, .pointer (some ⟨d, 0, none⟩), .pointer (some ⟨w.heap.size, 3, none⟩), .int .i64 1, .pointer (some ⟨d, 0, none⟩), .pointer (some ⟨d, 0, none⟩), .pointer (some ⟨d, 0, none⟩), .pointer (some ⟨d, 1, none⟩), s1, e 2, e 2, tupAt (e 2) 0, tupAt (e 2) 1, .pointer (some ⟨d, 0, none⟩), .pointer (some ⟨d, 0, none⟩), .pointer (some ⟨d, 0, none⟩), .pointer (some ⟨d, 1, none⟩)] : Array Value).getD j undef) (fun t e w' => match t with | 0 => Below w1.heap.size w1 w' ∧ True | 1 => Below w1.heap.size w1 w' ∧ e 0 = .agg #[.int .i64 pos, .string (mkB data)] | 2 => Below w1.heap.size w1 w' ∧ ∃ b : Nat, e 1 = .func (.func 73) #[] #[.pointer (some ⟨b, 0, none⟩)] ∧ w'.cell? ⟨b, 0, none⟩ = some (.int .i64 pos) ∧ w'.cell? ⟨b, 1, none⟩ = some (.string (mkB data)) | _ => Below w1.heap.size w1 w' ∧ ∃ v : Value, e 2 = .tuple #[v, .bool true] ∧ Hid (Sht w' v (wrL n1 pos.toNat data))) (fun e w' => ∃ (w0 : World) (v : Value), Below w1.heap.size w1 w0 ∧ e 2 = .tuple #[v, .bool true] ∧ Hid (Sht w0 v (wrL n1 pos.toNat data)) ∧ w' = w0.setCell ⟨d, 1, none⟩ v) (x0 := fun i => (#[undef, undef, undef, undef, undef, undef, undef, undef, undef, undef, undef, undef, undef, undef, undef, undef, undef, undef, undef, undef, undef, undef] : Array Value).getD i undef) rfl (by kernel_rfl) (by kernel_rfl) (by kernel_rfl) (by kernel_rfl) (by kernel_rfl) (by kernel_rfl) (by kernel_rfl) (by kernel_rfl) ?_ ?_ ?_ ?_ ?_ ?_ ?_ ?_
  · intro x y h
    simp only [h 0 (by decide), h 1 (by decide), h 2 (by decide), h 3 (by decide), h 4 (by decide), h 5 (by decide), h 6 (by decide), h 7 (by decide), h 8 (by decide), h 9 (by decide), h 10 (by decide), h 11 (by decide), h 12 (by decide), h 13 (by decide), h 14 (by decide), h 15 (by decide), h 16 (by decide), h 17 (by decide), h 18 (by decide), h 19 (by decide), h 20 (by decide), h 21 (by decide)]
  · intro i hi hr e e' h
    obtain rfl | rfl | rfl | rfl | rfl | rfl | rfl | rfl | rfl | rfl | rfl | rfl | rfl | rfl | rfl | rfl | rfl | rfl | rfl | rfl | rfl | rfl : i = 0 ∨ i = 1 ∨ i = 2 ∨ i = 3 ∨ i = 4 ∨ i = 5 ∨ i = 6 ∨ i = 7 ∨ i = 8 ∨ i = 9 ∨ i = 10 ∨ i = 11 ∨ i = 12 ∨ i = 13 ∨ i = 14 ∨ i = 15 ∨ i = 16 ∨ i = 17 ∨ i = 18 ∨ i = 19 ∨ i = 20 ∨ i = 21 := by omega
    · rfl
    · rfl
    · rfl
    · rfl
    · exact absurd hr (by decide)
    · exact absurd hr (by decide)
    · rfl
    · rfl
    · rfl
    · rfl
    · rfl
    · rfl
    · rfl
    · rfl
    · exact absurd hr (by decide)
    · show e 2 = e' 2; rw [h 2 (by decide)]
    · show tupAt (e 2) 0 = tupAt (e' 2) 0; rw [h 2 (by decide)]
    · show tupAt (e 2) 1 = tupAt (e' 2) 1; rw [h 2 (by decide)]
    · rfl
    · rfl
    · rfl
    · rfl
  · exact ⟨(Below.refl _ _).drew, trivial⟩
  · rintro i oi x e t w' hi hr ho hlv htm hC hon
    obtain rfl | rfl | rfl | rfl | rfl | rfl | rfl | rfl | rfl | rfl | rfl | rfl | rfl | rfl | rfl | rfl | rfl | rfl | rfl | rfl | rfl | rfl : i = 0 ∨ i = 1 ∨ i = 2 ∨ i = 3 ∨ i = 4 ∨ i = 5 ∨ i = 6 ∨ i = 7 ∨ i = 8 ∨ i = 9 ∨ i = 10 ∨ i = 11 ∨ i = 12 ∨ i = 13 ∨ i = 14 ∨ i = 15 ∨ i = 16 ∨ i = 17 ∨ i = 18 ∨ i = 19 ∨ i = 20 ∨ i = 21 := by omega
    · obtain rfl := Option.some.inj ho
      refine wp_value (v := .pointer (some ⟨d, 0, none⟩)) (w' := w') ?_ ⟨rfl, rfl⟩
      go_simp
    · obtain rfl := Option.some.inj ho
      refine wp_value (v := .pointer (some ⟨w.heap.size, 3, none⟩)) (w' := w') ?_ ⟨rfl, rfl⟩
      go_simp
    · obtain rfl := Option.some.inj ho
      have e1 : x 1 = .pointer (some ⟨w.heap.size, 3, none⟩) := hon _ (Array.mem_of_getElem? (i := 0) rfl) rfl
      have hG : Below w1.heap.size w1 w' := by
        match t, htm, hC with
        | 0, _, hC => exact hC.1
        | 1, _, hC => exact hC.1
        | 2, _, hC => exact hC.1
        | 3, _, hC => exact hC.1
        | n + 4, h, _ => exact absurd h (by omega)
      have x3' := (b_1.out.keep hG).2.2.2.1
      refine wp_value (v := .int .i64 1) (w' := w') ?_ ⟨rfl, rfl⟩
      go_simp
    · obtain rfl := Option.some.inj ho
      have hG : Below w1.heap.size w1 w' := by
        match t, htm, hC with
        | 0, _, hC => exact hC.1
        | 1, _, hC => exact hC.1
        | 2, _, hC => exact hC.1
        | 3, _, hC => exact hC.1
        | n + 4, h, _ => exact absurd h (by omega)
      obtain ⟨l0, l1, l2, l3, l4, l5⟩ := b_1.out.keep hG
      refine wp_value (v := .agg #[.int .i64 2, .int .i64 ep, .int .i64 num, .int .i64 1, .int .i64 pos, .string (mkB data)]) (w' := w') ?_ ⟨rfl, rfl⟩
      go_simp
    · exact absurd hr (by decide)
    · exact absurd hr (by decide)
    · obtain rfl := Option.some.inj ho
      refine wp_value (v := .pointer (some ⟨d, 0, none⟩)) (w' := w') ?_ ⟨rfl, rfl⟩
      go_simp
    · obtain rfl := Option.some.inj ho
      refine wp_value (v := .pointer (some ⟨w.heap.size, 3, none⟩)) (w' := w') ?_ ⟨rfl, rfl⟩
      go_simp
    · obtain rfl := Option.some.inj ho
      have e7 : x 7 = .pointer (some ⟨w.heap.size, 3, none⟩) := hon _ (Array.mem_of_getElem? (i := 0) rfl) rfl
      have hG : Below w1.heap.size w1 w' := by
        match t, htm, hC with
        | 0, _, hC => exact hC.1
        | 1, _, hC => exact hC.1
        | 2, _, hC => exact hC.1
        | 3, _, hC => exact hC.1
        | n + 4, h, _ => exact absurd h (by omega)
      have x3' := (b_1.out.keep hG).2.2.2.1
      refine wp_value (v := .int .i64 1) (w' := w') ?_ ⟨rfl, rfl⟩
      go_simp
    · obtain rfl := Option.some.inj ho
      have e6 : x 6 = .pointer (some ⟨d, 0, none⟩) := hon _ (Array.mem_of_getElem? (i := 0) rfl) rfl
      refine wp_value (v := .pointer (some ⟨d, 0, none⟩)) (w' := w') ?_ ⟨rfl, rfl⟩
      go_simp
    · obtain rfl := Option.some.inj ho
      have e9 : x 9 = .pointer (some ⟨d, 0, none⟩) := hon _ (Array.mem_of_getElem? (i := 0) rfl) rfl
      refine wp_value (v := .pointer (some ⟨d, 0, none⟩)) (w' := w') ?_ ⟨rfl, rfl⟩
      go_simp
    · obtain rfl := Option.some.inj ho
      have e10 : x 10 = .pointer (some ⟨d, 0, none⟩) := hon _ (Array.mem_of_getElem? (i := 0) rfl) rfl
      refine wp_value (v := .pointer (some ⟨d, 0, none⟩)) (w' := w') ?_ ⟨rfl, rfl⟩
      go_simp
    · obtain rfl := Option.some.inj ho
      have e11 : x 11 = .pointer (some ⟨d, 0, none⟩) := hon _ (Array.mem_of_getElem? (i := 0) rfl) rfl
      have e8 : x 8 = .int .i64 1 := hon _ (Array.mem_of_getElem? (i := 1) rfl) rfl
      refine wp_value (v := .pointer (some ⟨d, 1, none⟩)) (w' := w') ?_ ⟨rfl, rfl⟩
      go_simp
    · obtain rfl := Option.some.inj ho
      have e12 : x 12 = .pointer (some ⟨d, 1, none⟩) := hon _ (Array.mem_of_getElem? (i := 0) rfl) rfl
      have hG : Below w1.heap.size w1 w' := by
        match t, htm, hC with
        | 0, _, hC => exact hC.1
        | 1, _, hC => exact hC.1
        | 2, _, hC => exact hC.1
        | 3, _, hC => exact hC.1
        | n + 4, h, _ => exact absurd h (by omega)
      have y := row_cell (row_keep d_1.out hG) 1 _ rfl
      obtain ⟨sg, sc, hsv, -⟩ := id (h_1.out)
      rw [hsv] at y
      refine wp_value (v := s1) (w' := w') ?_ ⟨rfl, rfl⟩
      rw [hsv]
      go_simp
    · exact absurd hr (by decide)
    · obtain rfl := Option.some.inj ho
      have e14 : x 14 = e 2 := hon _ (Array.mem_of_getElem? (i := 0) rfl) rfl
      refine wp_value (v := e 2) (w' := w') ?_ ⟨rfl, rfl⟩
      go_simp
    · obtain rfl := Option.some.inj ho
      have e15 : x 15 = e 2 := hon _ (Array.mem_of_getElem? (i := 0) rfl) rfl
      obtain rfl : t = 3 := by have h1 : 3 ≤ t := hlv; have h2 : t ≤ 3 := htm; omega
      have hC' : Below w1.heap.size w1 w' ∧ ∃ v : Value, e 2 = .tuple #[v, .bool true] ∧ Hid (Sht w' v (wrL n1 pos.toNat data)) := hC
      obtain ⟨-, v, he, -⟩ := hC'
      rw [he] at e15
      have hv : tupAt (e 2) 0 = v := by rw [he]; rfl
      refine wp_value (v := tupAt (e 2) 0) (w' := w') ?_ ⟨rfl, rfl⟩
      rw [hv]
      go_simp
    · obtain rfl := Option.some.inj ho
      have e15 : x 15 = e 2 := hon _ (Array.mem_of_getElem? (i := 0) rfl) rfl
      obtain rfl : t = 3 := by have h1 : 3 ≤ t := hlv; have h2 : t ≤ 3 := htm; omega
      have hC' : Below w1.heap.size w1 w' ∧ ∃ v : Value, e 2 = .tuple #[v, .bool true] ∧ Hid (Sht w' v (wrL n1 pos.toNat data)) := hC
      obtain ⟨-, v, he, -⟩ := hC'
      rw [he] at e15
      have hv : tupAt (e 2) 1 = .bool true := by rw [he]; rfl
      refine wp_value (v := tupAt (e 2) 1) (w' := w') ?_ ⟨rfl, rfl⟩
      rw [hv]
      go_simp
    · obtain rfl := Option.some.inj ho
      have e0 : x 0 = .pointer (some ⟨d, 0, none⟩) := hon _ (Array.mem_of_getElem? (i := 0) rfl) rfl
      refine wp_value (v := .pointer (some ⟨d, 0, none⟩)) (w' := w') ?_ ⟨rfl, rfl⟩
      go_simp
    · obtain rfl := Option.some.inj ho
      have e18 : x 18 = .pointer (some ⟨d, 0, none⟩) := hon _ (Array.mem_of_getElem? (i := 0) rfl) rfl
      refine wp_value (v := .pointer (some ⟨d, 0, none⟩)) (w' := w') ?_ ⟨rfl, rfl⟩
      go_simp
    · obtain rfl := Option.some.inj ho
      have e19 : x 19 = .pointer (some ⟨d, 0, none⟩) := hon _ (Array.mem_of_getElem? (i := 0) rfl) rfl
      refine wp_value (v := .pointer (some ⟨d, 0, none⟩)) (w' := w') ?_ ⟨rfl, rfl⟩
      go_simp
    · obtain rfl := Option.some.inj ho
      have e20 : x 20 = .pointer (some ⟨d, 0, none⟩) := hon _ (Array.mem_of_getElem? (i := 0) rfl) rfl
      have e2 : x 2 = .int .i64 1 := hon _ (Array.mem_of_getElem? (i := 1) rfl) rfl
      refine wp_value (v := .pointer (some ⟨d, 1, none⟩)) (w' := w') ?_ ⟨rfl, rfl⟩
      go_simp
  · rintro i oi x e t w' hi hr ho hC hon
    obtain rfl | rfl | rfl | rfl | rfl | rfl | rfl | rfl | rfl | rfl | rfl | rfl | rfl | rfl | rfl | rfl | rfl | rfl | rfl | rfl | rfl | rfl : i = 0 ∨ i = 1 ∨ i = 2 ∨ i = 3 ∨ i = 4 ∨ i = 5 ∨ i = 6 ∨ i = 7 ∨ i = 8 ∨ i = 9 ∨ i = 10 ∨ i = 11 ∨ i = 12 ∨ i = 13 ∨ i = 14 ∨ i = 15 ∨ i = 16 ∨ i = 17 ∨ i = 18 ∨ i = 19 ∨ i = 20 ∨ i = 21 := by omega
    · exact absurd hr (by intro h; cases h)
    · exact absurd hr (by intro h; cases h)
    · exact absurd hr (by intro h; cases h)
    · exact absurd hr (by intro h; cases h)
    · obtain rfl : 0 = t := Option.some.inj hr
      obtain rfl := Option.some.inj ho
      have e3 : x 3 = .agg #[.int .i64 2, .int .i64 ep, .int .i64 num, .int .i64 1, .int .i64 pos, .string (mkB data)] := hon _ (Array.mem_of_getElem? (i := 0) rfl) rfl
      have hC' : Below w1.heap.size w1 w' ∧ True := hC
      refine wp_enter 58 #[.agg (rqA ⟨2, ep, num, 1, pos, data⟩)] ?_ ((reqPatch_any ⟨2, ep, num, 1, pos, data⟩ w').mono fun e' wz ⟨he, hb⟩ => ⟨_, he, _, rfl, show Below w1.heap.size w1 wz ∧ (upd e 0 (.agg #[.int .i64 pos, .string (mkB data)])) 0 = .agg #[.int .i64 pos, .string (mkB data)] from ⟨hC'.1.trans (hb.mono hC'.1.size), upd_eq _ _ _⟩⟩)
      go_simp
    · obtain rfl : 1 = t := Option.some.inj hr
      obtain rfl := Option.some.inj ho
      have e4 : x 4 = e 0 := hon _ (Array.mem_of_getElem? (i := 0) rfl) rfl
      have hC' : Below w1.heap.size w1 w' ∧ e 0 = .agg #[.int .i64 pos, .string (mkB data)] := hC
      rw [hC'.2] at e4
      refine wp_enter 48 #[.agg #[.int .i64 pos, .string (mkB data)]] ?_ ((patchEdit_any pos data w').mono fun e' wz ⟨he, hw⟩ => ⟨_, he, _, rfl, show Below w1.heap.size w1 wz ∧ ∃ b : Nat, (upd e 1 (.func (.func 73) #[] #[.pointer (some ⟨w'.heap.size, 0, none⟩)])) 1 = .func (.func 73) #[] #[.pointer (some ⟨b, 0, none⟩)] ∧ wz.cell? ⟨b, 0, none⟩ = some (.int .i64 pos) ∧ wz.cell? ⟨b, 1, none⟩ = some (.string (mkB data)) from by subst hw; exact ⟨hC'.1.trans (((Below.refl _ _).alloc (Nat.le_refl _) _).mono hC'.1.size), w'.heap.size, upd_eq _ _ _, by go_simp, by go_simp⟩⟩)
      go_simp
    · exact absurd hr (by intro h; cases h)
    · exact absurd hr (by intro h; cases h)
    · exact absurd hr (by intro h; cases h)
    · exact absurd hr (by intro h; cases h)
    · exact absurd hr (by intro h; cases h)
    · exact absurd hr (by intro h; cases h)
    · exact absurd hr (by intro h; cases h)
    · exact absurd hr (by intro h; cases h)
    · obtain rfl : 2 = t := Option.some.inj hr
      obtain rfl := Option.some.inj ho
      have e5 : x 5 = e 1 := hon _ (Array.mem_of_getElem? (i := 0) rfl) rfl
      have e13 : x 13 = s1 := hon _ (Array.mem_of_getElem? (i := 1) rfl) rfl
      have hC' : Below w1.heap.size w1 w' ∧ ∃ b : Nat, e 1 = .func (.func 73) #[] #[.pointer (some ⟨b, 0, none⟩)] ∧ w'.cell? ⟨b, 0, none⟩ = some (.int .i64 pos) ∧ w'.cell? ⟨b, 1, none⟩ = some (.string (mkB data)) := hC
      obtain ⟨hG, b, hf, hb0, hb1⟩ := hC'
      rw [hf] at e5
      have hE := ((patch_edOk w' b pos data HDL.out hb0 hb1) w' s1 n1 (Below.refl _ _) (h_1.out.keep hG) HT.out).1 _ (wrF_yes HWK.out)
      refine wp_enter 73 #[s1, .pointer (some ⟨b, 0, none⟩)] ?_ (hE.2.mono fun e' wz ⟨vz, he, hsv, hb⟩ => ⟨_, he, _, rfl, show Below w1.heap.size w1 wz ∧ ∃ v : Value, (upd e 2 (.tuple #[vz, .bool true])) 2 = .tuple #[v, .bool true] ∧ Hid (Sht wz v (wrL n1 pos.toNat data)) from ⟨hG.trans (hb.mono hG.size), vz, upd_eq _ _ _, hsv⟩⟩)
      go_simp
    · exact absurd hr (by intro h; cases h)
    · exact absurd hr (by intro h; cases h)
    · exact absurd hr (by intro h; cases h)
    · exact absurd hr (by intro h; cases h)
    · exact absurd hr (by intro h; cases h)
    · exact absurd hr (by intro h; cases h)
    · exact absurd hr (by intro h; cases h)
  · rintro oi x e w' ho hC hon
    obtain rfl := Option.some.inj ho
    have e21 : x 21 = .pointer (some ⟨d, 1, none⟩) := hon _ (Array.mem_of_getElem? (i := 0) rfl) rfl
    have e16 : x 16 = tupAt (e 2) 0 := hon _ (Array.mem_of_getElem? (i := 1) rfl) rfl
    have hC' : Below w1.heap.size w1 w' ∧ ∃ v : Value, e 2 = .tuple #[v, .bool true] ∧ Hid (Sht w' v (wrL n1 pos.toNat data)) := hC
    obtain ⟨hG, v, he, hv⟩ := hC'
    have hv0 : tupAt (e 2) 0 = v := by rw [he]; rfl
    rw [hv0] at e16
    have y := row_cell (row_keep d_1.out hG) 1 _ rfl
    have yf := row_free (row_keep d_1.out hG) 1
    obtain ⟨vg, vc, hvf, -⟩ := id hv.out
    subst hvf
    refine wp_skip (w' := w'.setCell ⟨d, 1, none⟩ _) ?_ ⟨rfl, w', _, hG, he, hv, rfl⟩
    go_simp
  · rintro i oi x e w' hi hlt hr ho hR hon
    obtain rfl : i = 17 := by simpa using hlt
    obtain rfl := Option.some.inj ho
    have e15 : x 15 = e 2 := hon _ (Array.mem_of_getElem? (i := 0) rfl) rfl
    obtain ⟨w0, v, -, he, -⟩ := hR
    rw [he] at e15
    have hv : tupAt (e 2) 1 = .bool true := by rw [he]; rfl
    refine wp_value (v := tupAt (e 2) 1) (w' := w') ?_ ⟨rfl, rfl⟩
    rw [hv]
    go_simp
  rintro e w' F hF hR
  obtain rfl : F = ({ tmps := #[Value.pointer (some { block := d, off := 0 }), .agg (rqA ⟨2, ep, num, 1, pos, data⟩), undef, Value.pointer (some { block := w.heap.size, off := 0 }), Value.nilIface, Value.nilIface, Value.pointer (some { block := d, off := 0 }), .agg #[.int .i64 2, .int .i64 ep, .int .i64 num, .int .i64 1, .int .i64 pos, .string (mkB data)], Value.nilIface, Value.nilIface, Value.bool false, undef, e 2, .pointer (some ⟨d, 0, none⟩), .pointer (some ⟨w.heap.size, 3, none⟩), .int .i64 1, .agg #[.int .i64 2, .int .i64 ep, .int .i64 num, .int .i64 1, .int .i64 pos, .string (mkB data)], e 0, e 1, .pointer (some ⟨d, 0, none⟩), .pointer (some ⟨w.heap.size, 3, none⟩), .int .i64 1, .pointer (some ⟨d, 0, none⟩), .pointer (some ⟨d, 0, none⟩), .pointer (some ⟨d, 0, none⟩), .pointer (some ⟨d, 1, none⟩), s1, e 2, tupAt (e 2) 0, tupAt (e 2) 1, .pointer (some ⟨d, 0, none⟩), .pointer (some ⟨d, 0, none⟩), .pointer (some ⟨d, 0, none⟩), .pointer (some ⟨d, 1, none⟩), undef, undef, undef, undef, undef, undef, undef, undef, undef], defers := [] } : Act) := hF
  obtain ⟨w0, v, hG, he, hv, rfl⟩ := hR
  have HV := Lib.hid he
  clear he
  have h0v : ∃ a n c, s0 = .slice a n c := h0s
  obtain ⟨X, hX⟩ : ∃ X, w0.setCell ⟨d, 1, none⟩ v = X := ⟨_, rfl⟩
  have hrow := row_keep d_1.out hG
  have hr2 : X.heap[d]? = some (.cells #[s0, v, s2, .int .i64 l0, .int .i64 l1, .int .i64 l2, t0, t1, t2, .int .i64 m0, .int .i64 m1, .int .i64 m2, .int .i64 f0, .int .i64 f1, .int .i64 f2] 88 (0, 0)) := by rw [← hX]; exact row_set hrow 1 v
  have ht : Btn d (d + 1) w0 X := by rw [← hX]; exact btn_set _ _ _ _
  have b_2 := Lib.hid ((b_1.out.keep hG).btn ht (.inr (by omega)))
  have d_2 := Lib.hid hr2
  have G_2 := Lib.hid (gr_trans (gr_below (E_1.out.trans (hG.mono E_1.out.size)) (some d)) (by rw [← hX]; exact gr_set _ _ _ _ : w0.grownBy X (some d)))
  have V_2 := Lib.hid (sht_far hrow s0 rfl h0s hv.out 1 v X hX)
  rw [hX]
  clear hX hrow hr2 ht hG hv h_1 d_1 b_1 E_1 x0 x1 x2 x3 x4 x5
  obtain ⟨x0, x1, x2, x3, x4, x5⟩ := b_2.out
  have yk := row_cell d_2.out 5 _ rfl
  have fk := row_free d_2.out 5
  go_wp2_with fail
  go_still_tail 9, (by kernel_rfl)
  change wpList _ _ _ _ _ X.drew
  obtain ⟨Y, hY⟩ : ∃ Y, X.drew = Y := ⟨_, rfl⟩
  have hdr : Below X.heap.size X Y := by rw [← hY]; exact (Below.refl _ _).drew
  rw [hY]
  clear hY yk fk x0 x1 x2 x3 x4 x5
  have d_3 := row_keep d_2.out hdr
  have yk := row_cell d_3 5 _ rfl
  have fk := row_free d_3 5
  obtain ⟨Z, hZ⟩ : ∃ Z, Y.setCell ⟨d, 5, none⟩ (.int .i64 num) = Z := ⟨_, rfl⟩
  have hr3 : Z.heap[d]? = some (.cells #[s0, v, s2, .int .i64 l0, .int .i64 l1, .int .i64 num, t0, t1, t2, .int .i64 m0, .int .i64 m1, .int .i64 m2, .int .i64 f0, .int .i64 f1, .int .i64 f2] 88 (0, 0)) := by rw [← hZ]; exact row_set d_3 5 _
  have D_4 := Lib.hid hr3
  have G_4 := Lib.hid (gr_trans G_2.out (gr_trans (gr_below hdr (some d)) (by rw [← hZ]; exact gr_set _ _ _ _ : Y.grownBy Z (some d))))
  have V_4 := Lib.hid (sht_far d_3 _ rfl h0v (V_2.out.keep hdr) 5 _ Z hZ)
  clear hr3 hdr d_3 d_2 b_2 G_2 V_2
  go_wp2
  go_ret
  exact ⟨rfl, v, D_4, V_4, G_4.out⟩

set_option maxRecDepth 100000 in
set_option maxHeartbeats 8000000 in
theorem do_20 (a0 a1 a2 a3 : Addr) (d : Nat) (s0 s1 s2 t0 t1 t2 : Value) (n0 n1 n2 u0 u1 u2 : List UInt8) (l0 l1 l2 m0 m1 m2 f0 f1 f2 : Int) (ep num pos : Int) (data : List UInt8) (w : World)
    (hS : Snt w a0 a1 a2 a3) (hD : w.heap[d]? = some (.cells #[s0, s1, s2, .int .i64 l0, .int .i64 l1, .int .i64 l2, t0, t1, t2, .int .i64 m0, .int .i64 m1, .int .i64 m2, .int .i64 f0, .int .i64 f1, .int .i64 f2] 88 (0, 0))) (hl : 0 ≤ l0 ∧ l0 ≤ 1000) (hd : data.length ≤ 2000000) (hs : Sht w s2 n2) (h0s : ∃ a n c, s0 = .slice a n c) (ht : tokB n2 = true)
    (hc : doC ⟨[n0, n1, n2], [u0, u1, u2], [l0, l1, l2], [m0, m1, m2], [f0, f1, f2]⟩ ⟨0, ep, num, 2, pos, data⟩ = 0) :
    Calls Tryd.prog 30 #[.pointer (some ⟨d, 0, none⟩), .agg (rqA ⟨0, ep, num, 2, pos, data⟩)] w (DoY w d (n2) pos data fun v => #[s0, s1, v, .int .i64 num, .int .i64 l1, .int .i64 l2, t0, t1, t2, .int .i64 m0, .int .i64 m1, .int .i64 m2, .int .i64 f0, .int .i64 f1, .int .i64 f2]) := by
  have hrq := (doC_fine hc).1
  have hwk : wokB pos data = true := (rqB_iff.1 hrq).2.2.2.2
  have KR := refuse_0 a0 a1 a2 a3 d s0 s1 s2 t0 t1 t2 n0 n1 n2 u0 u1 u2 l0 l1 l2 m0 m1 m2 f0 f1 f2 ep num 2 pos data
  rw [hc, show errV a0 a1 a2 a3 0 = .nilIface from rfl] at KR
  have KR := Lib.hid KR
  obtain ⟨W, hW⟩ : ∃ W, w.alloc (.cells (rqA ⟨0, ep, num, 2, pos, data⟩) 34) = W := ⟨_, rfl⟩
  have hal : Below w.heap.size w W := by rw [← hW]; exact (Below.refl _ _).alloc (Nat.le_refl _) _
  have B0 : Box6 W w.heap.size ⟨0, ep, num, 2, pos, data⟩ := by rw [← hW]; exact new_box6 w _ _
  have HK := Lib.hid (KR.out W (hS.keep hal) (row_keep hD hal) hl hd)
  have E_0 := Lib.hid hal
  have b_0 := Lib.hid B0
  have d_0 := Lib.hid (row_keep hD hal)
  have h_0 := Lib.hid (hs.keep hal)
  have HT := Lib.hid ht
  have HWK := Lib.hid hwk
  have HDL := Lib.hid hd
  have hbd : d < w.heap.size := (Array.getElem?_eq_some_iff.1 hD).1
  obtain ⟨x0, x1, x2, x3, x4, x5⟩ := b_0.out
  clear hal B0 hS hD hl hd hs ht hc hrq hwk KR
  go_enter Tryd.func30, Tryd.ntmps30
  go_wp2_with fail
  clear hW
  refine HK.out.mono ?_; rintro e w1 ⟨rfl, hb⟩
  have E_1 := Lib.hid (E_0.out.trans (hb.mono E_0.out.size))
  have b_1 := Lib.hid (b_0.out.keep hb)
  have d_1 := Lib.hid (row_keep d_0.out hb)
  have h_1 := Lib.hid (h_0.out.keep hb)
  have hw1 : w.heap.size < w1.heap.size := Nat.lt_of_lt_of_le (World.block_lt_of_cell? _ _ x0) hb.size
  clear x0 x1 x2 x3 x4 x5 E_0 b_0 d_0 h_0 hb HK
  obtain ⟨x0, x1, x2, x3, x4, x5⟩ := b_1.out
  go_wp2_with fail
  refine wp_region_chain 22 3 (fun j => j == 17) (fun j => (#[none, none, none, none, some 0, some 1, none, none, none, none, none, none, none, none, some 2, none, none, none, none, none, none, none, some 3] : Array (Option Nat)).getD j none) (fun j => (#[0, 0, 0, 0, 0, 0, 0, 0, 0, 0, 0, 0, 0, 0, 0, 3, 3, 3, 0, 0, 0, 0] : Array Nat).getD j 0) (fun x => ({ tmps := #[Value.pointer (some { block := d, off := 0 }), .agg (rqA ⟨0, ep, num, 2, pos, data⟩), undef, Value.pointer (some { block := w.heap.size, off := 0 }), Value.nilIface, Value.nilIface, Value.pointer (some { block := d, off := 0 }), .agg #[.int .i64 0, .int .i64 ep, .int .i64 num, .int .i64 2, .int .i64 pos, .string (mkB data)], Value.nilIface, Value.nilIface, Value.bool false, undef, x 15, x 0, x 1, x 2, x 3, x 4, x 5, x 6, x 7, x 8, x 9, x 10, x 11, x 12, x 13, x 14, x 16, x 17, x 18, x 19, x 20, x 21, undef, undef, undef, undef, undef, undef, undef, undef, undef], defers := [] } : Act)) (fun j e => (#[.pointer (some ⟨d, 0, none⟩), .pointer (some ⟨w.heap.size, 3, none⟩), .int .i64 2, .agg #[.int .i64 0, .int .i64 ep, .int .i64 num, .int .i64 2, .int .i64 pos, .string (mkB data)], e 0, e 1, .pointer (some ⟨d, 0, none⟩), .pointer (some ⟨w.heap.size, 3, none⟩), .int .i64 2, .pointer (some ⟨d, 0, none⟩), .pointer (some ⟨d, 0, none⟩), .pointer (some ⟨d, 0, none⟩), .pointer (some ⟨d, 2, none⟩), s2, e 2, e 2, tupAt (e 2) 0, tupAt (e 2) 1, .pointer (some ⟨d, 0, none⟩), .pointer (some ⟨d, 0, none⟩), .pointer (some ⟨d, 0, none⟩), .pointer (some ⟨d, 2, none⟩)] : Array Value).getD j undef) (fun t e w' => match t with | 0 => Below w1.heap.size w1 w' ∧ True | 1 => Below w1.heap.size w1 w' ∧ e 0 = .agg #[.int .i64 pos, .string (mkB data)] | 2 => Below w1.heap.size w1 w' ∧ ∃ b : Nat, e 1 = .func (.func 73) #[] #[.pointer (some ⟨b, 0, none⟩)] ∧ w'.cell? ⟨b, 0, none⟩ = some (.int .i64 pos) ∧ w'.cell? ⟨b, 1, none⟩ = some (.string (mkB data)) | _ => Below w1.heap.size w1 w' ∧ ∃ v : Value, e 2 = .tuple #[v, .bool true] ∧ Hid (Sht w' v (wrL n2 pos.toNat data))) (fun e w' => ∃ (w0 : World) (v : Value), Below w1.heap.size w1 w0 ∧ e 2 = .tuple #[v, .bool true] ∧ Hid (Sht w0 v (wrL n2 pos.toNat data)) ∧ w' = w0.setCell ⟨d, 2, none⟩ v) (x0 := fun i => (#[undef, undef, undef, undef, undef, undef, undef, undef, undef, undef, undef, undef, undef, undef, undef, undef, undef, undef, undef, undef, undef, undef] : Array Value).getD i undef) rfl (by kernel_rfl) (by kernel_rfl) (by kernel_rfl) (by kernel_rfl) (by kernel_rfl) (by kernel_rfl) (by kernel_rfl) (by kernel_rfl) ?_ ?_ ?_ ?_ ?_ ?_ ?_ ?_
  · intro x y h
    simp only [h 0 (by decide), h 1 (by decide), h 2 (by decide), h 3 (by decide), h 4 (by decide), h 5 (by decide), h 6 (by decide), h 7 (by decide), h 8 (by decide), h 9 (by decide), h 10 (by decide), h 11 (by decide), h 12 (by decide), h 13 (by decide), h 14 (by decide), h 15 (by decide), h 16 (by decide), h 17 (by decide), h 18 (by decide), h 19 (by decide), h 20 (by decide), h 21 (by decide)]
  · intro i hi hr e e' h
    obtain rfl | rfl | rfl | rfl | rfl | rfl | rfl | rfl | rfl | rfl | rfl | rfl | rfl | rfl | rfl | rfl | rfl | rfl | rfl | rfl | rfl | rfl : i = 0 ∨ i = 1 ∨ i = 2 ∨ i = 3 ∨ i = 4 ∨ i = 5 ∨ i = 6 ∨ i = 7 ∨ i = 8 ∨ i = 9 ∨ i = 10 ∨ i = 11 ∨ i = 12 ∨ i = 13 ∨ i = 14 ∨ i = 15 ∨ i = 16 ∨ i = 17 ∨ i = 18 ∨ i = 19 ∨ i = 20 ∨ i = 21 := by omega
    · rfl
    · rfl
    · rfl
    · rfl
    · exact absurd hr (by decide)
    · exact absurd hr (by decide)
    · rfl
    · rfl
    · rfl
    · rfl
    · rfl
    · rfl
    · rfl
    · rfl
    · exact absurd hr (by decide)
    · show e 2 = e' 2; rw [h 2 (by decide)]
    · show tupAt (e 2) 0 = tupAt (e' 2) 0; rw [h 2 (by decide)]
    · show tupAt (e 2) 1 = tupAt (e' 2) 1; rw [h 2 (by decide)]
    · rfl
    · rfl
    · rfl
    · rfl
  · exact ⟨(Below.refl _ _).drew, trivial⟩
  · rintro i oi x e t w' hi hr ho hlv htm hC hon
    obtain rfl | rfl | rfl | rfl | rfl | rfl | rfl | rfl | rfl | rfl | rfl | rfl | rfl | rfl | rfl | rfl | rfl | rfl | rfl | rfl | rfl | rfl : i = 0 ∨ i = 1 ∨ i = 2 ∨ i = 3 ∨ i = 4 ∨ i = 5 ∨ i = 6 ∨ i = 7 ∨ i = 8 ∨ i = 9 ∨ i = 10 ∨ i = 11 ∨ i = 12 ∨ i = 13 ∨ i = 14 ∨ i = 15 ∨ i = 16 ∨ i = 17 ∨ i = 18 ∨ i = 19 ∨ i = 20 ∨ i = 21 := by omega
    · obtain rfl := Option.some.inj ho
      refine wp_value (v := .pointer (some ⟨d, 0, none⟩)) (w' := w') ?_ ⟨rfl, rfl⟩
      go_simp
    · obtain rfl := Option.some.inj ho
      refine wp_value (v := .pointer (some ⟨w.heap.size, 3, none⟩)) (w' := w') ?_ ⟨rfl, rfl⟩
      go_simp
    · obtain rfl := Option.some.inj ho
      have e1 : x 1 = .pointer (some ⟨w.heap.size, 3, none⟩) := hon _ (Array.mem_of_getElem? (i := 0) rfl) rfl
      have hG : Below w1.heap.size w1 w' := by
        match t, htm, hC with
        | 0, _, hC => exact hC.1
        | 1, _, hC => exact hC.1
        | 2, _, hC => exact hC.1
        | 3, _, hC => exact hC.1
        | n + 4, h, _ => exact absurd h (by omega)
      have x3' := (b_1.out.keep hG).2.2.2.1
      refine wp_value (v := .int .i64 2) (w' := w') ?_ ⟨rfl, rfl⟩
      go_simp
    · obtain rfl := Option.some.inj ho
      have hG : Below w1.heap.size w1 w' := by
        match t, htm, hC with
        | 0, _, hC => exact hC.1
        | 1, _, hC => exact hC.1
        | 2, _, hC => exact hC.1
        | 3, _, hC => exact hC.1
        | n + 4, h, _ => exact absurd h (by omega)
      obtain ⟨l0, l1, l2, l3, l4, l5⟩ := b_1.out.keep hG
      refine wp_value (v := .agg #[.int .i64 0, .int .i64 ep, .int .i64 num, .int .i64 2, .int .i64 pos, .string (mkB data)]) (w' := w') ?_ ⟨rfl, rfl⟩
      go_simp
    · exact absurd hr (by decide)
    · exact absurd hr (by decide)
    · obtain rfl := Option.some.inj ho
      refine wp_value (v := .pointer (some ⟨d, 0, none⟩)) (w' := w') ?_ ⟨rfl, rfl⟩
      go_simp
    · obtain rfl := Option.some.inj ho
      refine wp_value (v := .pointer (some ⟨w.heap.size, 3, none⟩)) (w' := w') ?_ ⟨rfl, rfl⟩
      go_simp
    · obtain rfl := Option.some.inj ho
      have e7 : x 7 = .pointer (some ⟨w.heap.size, 3, none⟩) := hon _ (Array.mem_of_getElem? (i := 0) rfl) rfl
      have hG : Below w1.heap.size w1 w' := by
        match t, htm, hC with
        | 0, _, hC => exact hC.1
        | 1, _, hC => exact hC.1
        | 2, _, hC => exact hC.1
        | 3, _, hC => exact hC.1
        | n + 4, h, _ => exact absurd h (by omega)
      have x3' := (b_1.out.keep hG).2.2.2.1
      refine wp_value (v := .int .i64 2) (w' := w') ?_ ⟨rfl, rfl⟩
      go_simp
    · obtain rfl := Option.some.inj ho
      have e6 : x 6 = .pointer (some ⟨d, 0, none⟩) := hon _ (Array.mem_of_getElem? (i := 0) rfl) rfl
      refine wp_value (v := .pointer (some ⟨d, 0, none⟩)) (w' := w') ?_ ⟨rfl, rfl⟩
      go_simp
    · obtain rfl := Option.some.inj ho
      have e9 : x 9 = .pointer (some ⟨d, 0, none⟩) := hon _ (Array.mem_of_getElem? (i := 0) rfl) rfl
      refine wp_value (v := .pointer (some ⟨d, 0, none⟩)) (w' := w') ?_ ⟨rfl, rfl⟩
      go_simp
    · obtain rfl := Option.some.inj ho
      have e10 : x 10 = .pointer (some ⟨d, 0, none⟩) := hon _ (Array.mem_of_getElem? (i := 0) rfl) rfl
      refine wp_value (v := .pointer (some ⟨d, 0, none⟩)) (w' := w') ?_ ⟨rfl, rfl⟩
      go_simp
    · obtain rfl := Option.some.inj ho
      have e11 : x 11 = .pointer (some ⟨d, 0, none⟩) := hon _ (Array.mem_of_getElem? (i := 0) rfl) rfl
      have e8 : x 8 = .int .i64 2 := hon _ (Array.mem_of_getElem? (i := 1) rfl) rfl
      refine wp_value (v := .pointer (some ⟨d, 2, none⟩)) (w' := w') ?_ ⟨rfl, rfl⟩
      go_simp
    · obtain rfl := Option.some.inj ho
      have e12 : x 12 = .pointer (some ⟨d, 2, none⟩) := hon _ (Array.mem_of_getElem? (i := 0) rfl) rfl
      have hG : Below w1.heap.size w1 w' := by
        match t, htm, hC with
        | 0, _, hC => exact hC.1
        | 1, _, hC => exact hC.1
        | 2, _, hC => exact hC.1
        | 3, _, hC => exact hC.1
        | n + 4, h, _ => exact absurd h (by omega)
      have y := row_cell (row_keep d_1.out hG) 2 _ rfl
      obtain ⟨sg, sc, hsv, -⟩ := id (h_1.out)
      rw [hsv] at y
      refine wp_value (v := s2) (w' := w') ?_ ⟨rfl, rfl⟩
      rw [hsv]
      go_simp
    · exact absurd hr (by decide)
    · obtain rfl := Option.some.inj ho
      have e14 : x 14 = e 2 := hon _ (Array.mem_of_getElem? (i := 0) rfl) rfl
      refine wp_value (v := e 2) (w' := w') ?_ ⟨rfl, rfl⟩
      go_simp
    · obtain rfl := Option.some.inj ho
      have e15 : x 15 = e 2 := hon _ (Array.mem_of_getElem? (i := 0) rfl) rfl
      obtain rfl : t = 3 := by have h1 : 3 ≤ t := hlv; have h2 : t ≤ 3 := htm; omega
      have hC' : Below w1.heap.size w1 w' ∧ ∃ v : Value, e 2 = .tuple #[v, .bool true] ∧ Hid (Sht w' v (wrL n2 pos.toNat data)) := hC
      obtain ⟨-, v, he, -⟩ := hC'
      rw [he] at e15
      have hv : tupAt (e 2) 0 = v := by rw [he]; rfl
      refine wp_value (v := tupAt (e 2) 0) (w' := w') ?_ ⟨rfl, rfl⟩
      rw [hv]
      go_simp
    · obtain rfl := Option.some.inj ho
      have e15 : x 15 = e 2 := hon _ (Array.mem_of_getElem? (i := 0) rfl) rfl
      obtain rfl : t = 3 := by have h1 : 3 ≤ t := hlv; have h2 : t ≤ 3 := htm; omega
      have hC' : Below w1.heap.size w1 w' ∧ ∃ v : Value, e 2 = .tuple #[v, .bool true] ∧ Hid (Sht w' v (wrL n2 pos.toNat data)) := hC
      obtain ⟨-, v, he, -⟩ := hC'
      rw [he] at e15
      have hv : tupAt (e 2) 1 = .bool true := by rw [he]; rfl
      refine wp_value (v := tupAt (e 2) 1) (w' := w') ?_ ⟨rfl, rfl⟩
      rw [hv]
      go_simp
    · obtain rfl := Option.some.inj ho
      have e0 : x 0 = .pointer (some ⟨d, 0, none⟩) := hon _ (Array.mem_of_getElem? (i := 0) rfl) rfl
      refine wp_value (v := .pointer (some ⟨d, 0, none⟩)) (w' := w') ?_ ⟨rfl, rfl⟩
      go_simp
    · obtain rfl := Option.some.inj ho
      have e18 : x 18 = .pointer (some ⟨d, 0, none⟩) := hon _ (Array.mem_of_getElem? (i := 0) rfl) rfl
      refine wp_value (v := .pointer (some ⟨d, 0, none⟩)) (w' := w') ?_ ⟨rfl, rfl⟩
      go_simp
    · obtain rfl := Option.some.inj ho
      have e19 : x 19 = .pointer (some ⟨d, 0, none⟩) := hon _ (Array.mem_of_getElem? (i := 0) rfl) rfl
      refine wp_value (v := .pointer (some ⟨d, 0, none⟩)) (w' := w') ?_ ⟨rfl, rfl⟩
      go_simp
    · obtain rfl := Option.some.inj ho
      have e20 : x 20 = .pointer (some ⟨d, 0, none⟩) := hon _ (Array.mem_of_getElem? (i := 0) rfl) rfl
      have e2 : x 2 = .int .i64 2 := hon _ (Array.mem_of_getElem? (i := 1) rfl) rfl
      refine wp_value (v := .pointer (some ⟨d, 2, none⟩)) (w' := w') ?_ ⟨rfl, rfl⟩
      go_simp
  · rintro i oi x e t w' hi hr ho hC hon
    obtain rfl | rfl | rfl | rfl | rfl | rfl | rfl | rfl | rfl | rfl | rfl | rfl | rfl | rfl | rfl | rfl | rfl | rfl | rfl | rfl | rfl | rfl : i = 0 ∨ i = 1 ∨ i = 2 ∨ i = 3 ∨ i = 4 ∨ i = 5 ∨ i = 6 ∨ i = 7 ∨ i = 8 ∨ i = 9 ∨ i = 10 ∨ i = 11 ∨ i = 12 ∨ i = 13 ∨ i = 14 ∨ i = 15 ∨ i = 16 ∨ i = 17 ∨ i = 18 ∨ i = 19 ∨ i = 20 ∨ i = 21 := by omega
    · exact absurd hr (by intro h; cases h)
    · exact absurd hr (by intro h; cases h)
    · exact absurd hr (by intro h; cases h)
    · exact absurd hr (by intro h; cases h)
    · obtain rfl : 0 = t := Option.some.inj hr
      obtain rfl := Option.some.inj ho
      have e3 : x 3 = .agg #[.int .i64 0, .int .i64 ep, .int .i64 num, .int .i64 2, .int .i64 pos, .string (mkB data)] := hon _ (Array.mem_of_getElem? (i := 0) rfl) rfl
      have hC' : Below w1.heap.size w1 w' ∧ True := hC
      refine wp_enter 58 #[.agg (rqA ⟨0, ep, num, 2, pos, data⟩)] ?_ ((reqPatch_any ⟨0, ep, num, 2, pos, data⟩ w').mono fun e' wz ⟨he, hb⟩ => ⟨_, he, _, rfl, show Below w1.heap.size w1 wz ∧ (upd e 0 (.agg #[.int .i64 pos, .string (mkB data)])) 0 = .agg #[.int .i64 pos, .string (mkB data)] from ⟨hC'.1.trans (hb.mono hC'.1.size), upd_eq _ _ _⟩⟩)
      go_simp
    · obtain rfl : 1 = t := Option.some.inj hr
      obtain rfl := Option.some.inj ho
      have e4 : x 4 = e 0 := hon _ (Array.mem_of_getElem? (i := 0) rfl) rfl
      have hC' : Below w1.heap.size w1 w' ∧ e 0 = .agg #[.int .i64 pos, .string (mkB data)] := hC
      rw [hC'.2] at e4
      refine wp_enter 48 #[.agg #[.int .i64 pos, .string (mkB data)]] ?_ ((patchEdit_any pos data w').mono fun e' wz ⟨he, hw⟩ => ⟨_, he, _, rfl, show Below w1.heap.size w1 wz ∧ ∃ b : Nat, (upd e 1 (.func (.func 73) #[] #[.pointer (some ⟨w'.heap.size, 0, none⟩)])) 1 = .func (.func 73) #[] #[.pointer (some ⟨b, 0, none⟩)] ∧ wz.cell? ⟨b, 0, none⟩ = some (.int .i64 pos) ∧ wz.cell? ⟨b, 1, none⟩ = some (.string (mkB data)) from by subst hw; exact ⟨hC'.1.trans (((Below.refl _ _).alloc (Nat.le_refl _) _).mono hC'.1.size), w'.heap.size, upd_eq _ _ _, by go_simp, by go_simp⟩⟩)
      go_simp
    · exact absurd hr (by intro h; cases h)
    · exact absurd hr (by intro h; cases h)
    · exact absurd hr (by intro h; cases h)
    · exact absurd hr (by intro h; cases h)
    · exact absurd hr (by intro h; cases h)
    · exact absurd hr (by intro h; cases h)
    · exact absurd hr (by intro h; cases h)
    · exact absurd hr (by intro h; cases h)
    · obtain rfl : 2 = t := Option.some.inj hr
      obtain rfl := Option.some.inj ho
      have e5 : x 5 = e 1 := hon _ (Array.mem_of_getElem? (i := 0) rfl) rfl
      have e13 : x 13 = s2 := hon _ (Array.mem_of_getElem? (i := 1) rfl) rfl
      have hC' : Below w1.heap.size w1 w' ∧ ∃ b : Nat, e 1 = .func (.func 73) #[] #[.pointer (some ⟨b, 0, none⟩)] ∧ w'.cell? ⟨b, 0, none⟩ = some (.int .i64 pos) ∧ w'.cell? ⟨b, 1, none⟩ = some (.string (mkB data)) := hC
      obtain ⟨hG, b, hf, hb0, hb1⟩ := hC'
      rw [hf] at e5
      have hE := ((patch_edOk w' b pos data HDL.out hb0 hb1) w' s2 n2 (Below.refl _ _) (h_1.out.keep hG) HT.out).1 _ (wrF_yes HWK.out)
      refine wp_enter 73 #[s2, .pointer (some ⟨b, 0, none⟩)] ?_ (hE.2.mono fun e' wz ⟨vz, he, hsv, hb⟩ => ⟨_, he, _, rfl, show Below w1.heap.size w1 wz ∧ ∃ v : Value, (upd e 2 (.tuple #[vz, .bool true])) 2 = .tuple #[v, .bool true] ∧ Hid (Sht wz v (wrL n2 pos.toNat data)) from ⟨hG.trans (hb.mono hG.size), vz, upd_eq _ _ _, hsv⟩⟩)
      go_simp
    · exact absurd hr (by intro h; cases h)
    · exact absurd hr (by intro h; cases h)
    · exact absurd hr (by intro h; cases h)
    · exact absurd hr (by intro h; cases h)
    · exact absurd hr (by intro h; cases h)
    · exact absurd hr (by intro h; cases h)
    · exact absurd hr (by intro h; cases h)
  · rintro oi x e w' ho hC hon
    obtain rfl := Option.some.inj ho
    have e21 : x 21 = .pointer (some ⟨d, 2, none⟩) := hon _ (Array.mem_of_getElem? (i := 0) rfl) rfl
    have e16 : x 16 = tupAt (e 2) 0 := hon _ (Array.mem_of_getElem? (i := 1) rfl) rfl
    have hC' : Below w1.heap.size w1 w' ∧ ∃ v : Value, e 2 = .tuple #[v, .bool true] ∧ Hid (Sht w' v (wrL n2 pos.toNat data)) := hC
    obtain ⟨hG, v, he, hv⟩ := hC'
    have hv0 : tupAt (e 2) 0 = v := by rw [he]; rfl
    rw [hv0] at e16
    have y := row_cell (row_keep d_1.out hG) 2 _ rfl
    have yf := row_free (row_keep d_1.out hG) 2
    obtain ⟨vg, vc, hvf, -⟩ := id hv.out
    subst hvf
    refine wp_skip (w' := w'.setCell ⟨d, 2, none⟩ _) ?_ ⟨rfl, w', _, hG, he, hv, rfl⟩
    go_simp
  · rintro i oi x e w' hi hlt hr ho hR hon
    obtain rfl : i = 17 := by simpa using hlt
    obtain rfl := Option.some.inj ho
    have e15 : x 15 = e 2 := hon _ (Array.mem_of_getElem? (i := 0) rfl) rfl
    obtain ⟨w0, v, -, he, -⟩ := hR
    rw [he] at e15
    have hv : tupAt (e 2) 1 = .bool true := by rw [he]; rfl
    refine wp_value (v := tupAt (e 2) 1) (w' := w') ?_ ⟨rfl, rfl⟩
    rw [hv]
    go_simp
  rintro e w' F hF hR
  obtain rfl : F = ({ tmps := #[Value.pointer (some { block := d, off := 0 }), .agg (rqA ⟨0, ep, num, 2, pos, data⟩), undef, Value.pointer (some { block := w.heap.size, off := 0 }), Value.nilIface, Value.nilIface, Value.pointer (some { block := d, off := 0 }), .agg #[.int .i64 0, .int .i64 ep, .int .i64 num, .int .i64 2, .int .i64 pos, .string (mkB data)], Value.nilIface, Value.nilIface, Value.bool false, undef, e 2, .pointer (some ⟨d, 0, none⟩), .pointer (some ⟨w.heap.size, 3, none⟩), .int .i64 2, .agg #[.int .i64 0, .int .i64 ep, .int .i64 num, .int .i64 2, .int .i64 pos, .string (mkB data)], e 0, e 1, .pointer (some ⟨d, 0, none⟩), .pointer (some ⟨w.heap.size, 3, none⟩), .int .i64 2, .pointer (some ⟨d, 0, none⟩), .pointer (some ⟨d, 0, none⟩), .pointer (some ⟨d, 0, none⟩), .pointer (some ⟨d, 2, none⟩), s2, e 2, tupAt (e 2) 0, tupAt (e 2) 1, .pointer (some ⟨d, 0, none⟩), .pointer (some ⟨d, 0, none⟩), .pointer (some ⟨d, 0, none⟩), .pointer (some ⟨d, 2, none⟩), undef, undef, undef, undef, undef, undef, undef, undef, undef], defers := [] } : Act) := hF
  obtain ⟨w0, v, hG, he, hv, rfl⟩ := hR
  have HV := Lib.hid he
  clear he
  have h0v : ∃ a n c, s0 = .slice a n c := h0s
  obtain ⟨X, hX⟩ : ∃ X, w0.setCell ⟨d, 2, none⟩ v = X := ⟨_, rfl⟩
  have hrow := row_keep d_1.out hG
  have hr2 : X.heap[d]? = some (.cells #[s0, s1, v, .int .i64 l0, .int .i64 l1, .int .i64 l2, t0, t1, t2, .int .i64 m0, .int .i64 m1, .int .i64 m2, .int .i64 f0, .int .i64 f1, .int .i64 f2] 88 (0, 0)) := by rw [← hX]; exact row_set hrow 2 v
  have ht : Btn d (d + 1) w0 X := by rw [← hX]; exact btn_set _ _ _ _
  have b_2 := Lib.hid ((b_1.out.keep hG).btn ht (.inr (by omega)))
  have d_2 := Lib.hid hr2
  have G_2 := Lib.hid (gr_trans (gr_below (E_1.out.trans (hG.mono E_1.out.size)) (some d)) (by rw [← hX]; exact gr_set _ _ _ _ : w0.grownBy X (some d)))
  have V_2 := Lib.hid (sht_far hrow s0 rfl h0s hv.out 2 v X hX)
  rw [hX]
  clear hX hrow hr2 ht hG hv h_1 d_1 b_1 E_1 x0 x1 x2 x3 x4 x5
  obtain ⟨x0, x1, x2, x3, x4, x5⟩ := b_2.out
  have yk := row_cell d_2.out 3 _ rfl
  have fk := row_free d_2.out 3
  go_wp2_with fail
  go_still_tail 9, (by kernel_rfl)
  change wpList _ _ _ _ _ X.drew
  obtain ⟨Y, hY⟩ : ∃ Y, X.drew = Y := ⟨_, rfl⟩
  have hdr : Below X.heap.size X Y := by rw [← hY]; exact (Below.refl _ _).drew
  rw [hY]
  clear hY yk fk x0 x1 x2 x3 x4 x5
  have d_3 := row_keep d_2.out hdr
  have yk := row_cell d_3 3 _ rfl
  have fk := row_free d_3 3
  obtain ⟨Z, hZ⟩ : ∃ Z, Y.setCell ⟨d, 3, none⟩ (.int .i64 num) = Z := ⟨_, rfl⟩
  have hr3 : Z.heap[d]? = some (.cells #[s0, s1, v, .int .i64 num, .int .i64 l1, .int .i64 l2, t0, t1, t2, .int .i64 m0, .int .i64 m1, .int .i64 m2, .int .i64 f0, .int .i64 f1, .int .i64 f2] 88 (0, 0)) := by rw [← hZ]; exact row_set d_3 3 _
  have D_4 := Lib.hid hr3
  have G_4 := Lib.hid (gr_trans G_2.out (gr_trans (gr_below hdr (some d)) (by rw [← hZ]; exact gr_set _ _ _ _ : Y.grownBy Z (some d))))
  have V_4 := Lib.hid (sht_far d_3 _ rfl h0v (V_2.out.keep hdr) 3 _ Z hZ)
  clear hr3 hdr d_3 d_2 b_2 G_2 V_2
  go_wp2
  go_ret
  exact ⟨rfl, v, D_4, V_4, G_4.out⟩

set_option maxRecDepth 100000 in
set_option maxHeartbeats 8000000 in
theorem do_21 (a0 a1 a2 a3 : Addr) (d : Nat) (s0 s1 s2 t0 t1 t2 : Value) (n0 n1 n2 u0 u1 u2 : List UInt8) (l0 l1 l2 m0 m1 m2 f0 f1 f2 : Int) (ep num pos : Int) (data : List UInt8) (w : World)
    (hS : Snt w a0 a1 a2 a3) (hD : w.heap[d]? = some (.cells #[s0, s1, s2, .int .i64 l0, .int .i64 l1, .int .i64 l2, t0, t1, t2, .int .i64 m0, .int .i64 m1, .int .i64 m2, .int .i64 f0, .int .i64 f1, .int .i64 f2] 88 (0, 0))) (hl : 0 ≤ l1 ∧ l1 ≤ 1000) (hd : data.length ≤ 2000000) (hs : Sht w s2 n2) (h0s : ∃ a n c, s0 = .slice a n c) (ht : tokB n2 = true)
    (hc : doC ⟨[n0, n1, n2], [u0, u1, u2], [l0, l1, l2], [m0, m1, m2], [f0, f1, f2]⟩ ⟨1, ep, num, 2, pos, data⟩ = 0) :
    Calls Tryd.prog 30 #[.pointer (some ⟨d, 0, none⟩), .agg (rqA ⟨1, ep, num, 2, pos, data⟩)] w (DoY w d (n2) pos data fun v => #[s0, s1, v, .int .i64 l0, .int .i64 num, .int .i64 l2, t0, t1, t2, .int .i64 m0, .int .i64 m1, .int .i64 m2, .int .i64 f0, .int .i64 f1, .int .i64 f2]) := by
  have hrq := (doC_fine hc).1
  have hwk : wokB pos data = true := (rqB_iff.1 hrq).2.2.2.2
  have KR := refuse_1 a0 a1 a2 a3 d s0 s1 s2 t0 t1 t2 n0 n1 n2 u0 u1 u2 l0 l1 l2 m0 m1 m2 f0 f1 f2 ep num 2 pos data
  rw [hc, show errV a0 a1 a2 a3 0 = .nilIface from rfl] at KR
  have KR := Lib.hid KR
  obtain ⟨W, hW⟩ : ∃ W, w.alloc (.cells (rqA ⟨1, ep, num, 2, pos, data⟩) 34) = W := ⟨_, rfl⟩
  have hal : Below w.heap.size w W := by rw [← hW]; exact (Below.refl _ _).alloc (Nat.le_refl _) _
  have B0 : Box6 W w.heap.size ⟨1, ep, num, 2, pos, data⟩ := by rw [← hW]; exact new_box6 w _ _
  have HK := Lib.hid (KR.out W (hS.keep hal) (row_keep hD hal) hl hd)
  have E_0 := Lib.hid hal
  have b_0 := Lib.hid B0
  have d_0 := Lib.hid (row_keep hD hal)
  have h_0 := Lib.hid (hs.keep hal)
  have HT := Lib.hid ht
  have HWK := Lib.hid hwk
  have HDL := Lib.hid hd
  have hbd : d < w.heap.size := (Array.getElem?_eq_some_iff.1 hD).1
  obtain ⟨x0, x1, x2, x3, x4, x5⟩ := b_0.out
  clear hal B0 hS hD hl hd hs ht hc hrq hwk KR
  go_enter Tryd.func30, Tryd.ntmps30
  go_wp2_with fail
  clear hW
  refine HK.out.mono ?_; rintro e w1 ⟨rfl, hb⟩
  have E_1 := Lib.hid (E_0.out.trans (hb.mono E_0.out.size))
  have b_1 := Lib.hid (b_0.out.keep hb)
  have d_1 := Lib.hid (row_keep d_0.out hb)
  have h_1 := Lib.hid (h_0.out.keep hb)
  have hw1 : w.heap.size < w1.heap.size := Nat.lt_of_lt_of_le (World.block_lt_of_cell? _ _ x0) hb.size
  clear x0 x1 x2 x3 x4 x5 E_0 b_0 d_0 h_0 hb HK
  obtain ⟨x0, x1, x2, x3, x4, x5⟩ := b_1.out
  go_wp2_with fail
  refine wp_region_chain 22 3 (fun j => j == 17) (fun j => (#[none, none, none, none, some 0, some 1, none, none, none, none, none, none, none, none, some 2, none, none, none, none, none, none, none, some 3] : Array (Option Nat)).getD j none) (fun j => (#[0, 0, 0, 0, 0, 0, 0, 0, 0, 0, 0, 0, 0, 0, 0, 3, 3, 3, 0, 0, 0, 0] : Array Nat).getD j 0) (fun x => ({ tmps := #[Value.pointer (some { block := d, off := 0 }), .agg (rqA ⟨1, ep, num, 2, pos, data⟩), undef, Value.pointer (some { block := w.heap.size, off := 0 }), Value.nilIface, Value.nilIface, Value.pointer (some { block := d, off := 0 }), .agg #[.int .i64 1, .int .i64 ep, .int .i64 num, .int .i64 2, .int .i64 pos, .string (mkB data)], Value.nilIface, Value.nilIface, Value.bool false, undef, x 15, x 0, x 1, x 2, x 3, x 4, x 5, x 6, x 7, x 8, x 9, x 10, x 11, x 12, x 13, x 14, x 16, x 17, x 18, x 19, x 20, x 21, undef, undef, undef, undef, undef, undef, undef, undef, undef], defers := [] } : Act)) (fun j e => (#[.pointer (some ⟨d, 0, none⟩), .pointer (some ⟨w.heap.size, 3, none⟩), .int .i64 2, .agg #[.int .i64 1, .int .i64 ep, .int .i64 num, .int .i64 2, .int .i64 pos, .string (mkB data)], e 0, e 1, .pointer (some ⟨d, 0, none⟩), .pointer (some ⟨w.heap.size, 3, none⟩), .int .i64 2, .pointer (some ⟨d, 0, none⟩), .pointer (some ⟨d, 0, none⟩), .pointer (some ⟨d, 0, none⟩), .pointer (some ⟨d, 2, none⟩), s2, e 2, e 2, tupAt (e 2) 0, tupAt (e 2) 1, .pointer (some ⟨d, 0, none⟩), .pointer (some ⟨d, 0, none⟩), .pointer (some ⟨d, 0, none⟩), .pointer (some ⟨d, 2, none⟩)] : Array Value).getD j undef) (fun t e w' => match t with | 0 => Below w1.heap.size w1 w' ∧ True | 1 => Below w1.heap.size w1 w' ∧ e 0 = .agg #[.int .i64 pos, .string (mkB data)] | 2 => Below w1.heap.size w1 w' ∧ ∃ b : Nat, e 1 = .func (.func 73) #[] #[.pointer (some ⟨b, 0, none⟩)] ∧ w'.cell? ⟨b, 0, none⟩ = some (.int .i64 pos) ∧ w'.cell? ⟨b, 1, none⟩ = some (.string (mkB data)) | _ => Below w1.heap.size w1 w' ∧ ∃ v : Value, e 2 = .tuple #[v, .bool true] ∧ Hid (Sht w' v (wrL n2 pos.toNat data))) (fun e w' => ∃ (w0 : World) (v : Value), Below w1.heap.size w1 w0 ∧ e 2 = .tuple #[v, .bool true] ∧ Hid (Sht w0 v (wrL n2 pos.toNat data)) ∧ w' = w0.setCell ⟨d, 2, none⟩ v) (x0 := fun i => (#[undef, undef, undef, undef, undef, undef, undef, undef, undef, undef, undef, undef, undef, undef, undef, undef, undef, undef, undef, undef, undef, undef] : Array Value).getD i undef) rfl (by kernel_rfl) (by kernel_rfl) (by kernel_rfl) (by kernel_rfl) (by kernel_rfl) (by kernel_rfl) (by kernel_rfl) (by kernel_rfl) ?_ ?_ ?_ ?_ ?_ ?_ ?_ ?_
  · intro x y h
    simp only [h 0 (by decide), h 1 (by decide), h 2 (by decide), h 3 (by decide), h 4 (by decide), h 5 (by decide), h 6 (by decide), h 7 (by decide), h 8 (by decide), h 9 (by decide), h 10 (by decide), h 11 (by decide), h 12 (by decide), h 13 (by decide), h 14 (by decide), h 15 (by decide), h 16 (by decide), h 17 (by decide), h 18 (by decide), h 19 (by decide), h 20 (by decide), h 21 (by decide)]
  · intro i hi hr e e' h
    obtain rfl | rfl | rfl | rfl | rfl | rfl | rfl | rfl | rfl | rfl | rfl | rfl | rfl | rfl | rfl | rfl | rfl | rfl | rfl | rfl | rfl | rfl : i = 0 ∨ i = 1 ∨ i = 2 ∨ i = 3 ∨ i = 4 ∨ i = 5 ∨ i = 6 ∨ i = 7 ∨ i = 8 ∨ i = 9 ∨ i = 10 ∨ i = 11 ∨ i = 12 ∨ i = 13 ∨ i = 14 ∨ i = 15 ∨ i = 16 ∨ i = 17 ∨ i = 18 ∨ i = 19 ∨ i = 20 ∨ i = 21 := by omega
    · rfl
    · rfl
    · rfl
    · rfl
    · exact absurd hr (by decide)
    · exact absurd hr (by decide)
    · rfl
    · rfl
    · rfl
    · rfl
    · rfl
    · rfl
    · rfl
    · rfl
    · exact absurd hr (by decide)
    · show e 2 = e' 2; rw [h 2 (by decide)]
    · show tupAt (e 2) 0 = tupAt (e' 2) 0; rw [h 2 (by decide)]
    · show tupAt (e 2) 1 = tupAt (e' 2) 1; rw [h 2 (by decide)]
    · rfl
    · rfl
    · rfl
    · rfl
  · exact ⟨(Below.refl _ _).drew, trivial⟩
  · rintro i oi x e t w' hi hr ho hlv htm hC hon
    obtain rfl | rfl | rfl | rfl | rfl | rfl | rfl | rfl | rfl | rfl | rfl | rfl | rfl | rfl | rfl | rfl | rfl | rfl | rfl | rfl | rfl | rfl : i = 0 ∨ i = 1 ∨ i = 2 ∨ i = 3 ∨ i = 4 ∨ i = 5 ∨ i = 6 ∨ i = 7 ∨ i = 8 ∨ i = 9 ∨ i = 10 ∨ i = 11 ∨ i = 12 ∨ i = 13 ∨ i = 14 ∨ i = 15 ∨ i = 16 ∨ i = 17 ∨ i = 18 ∨ i = 19 ∨ i = 20 ∨ i = 21 := by omega
    · obtain rfl := Option.some.inj ho
      refine wp_value (v := .pointer (some ⟨d, 0, none⟩)) (w' := w') ?_ ⟨rfl, rfl⟩
      go_simp
    · obtain rfl := Option.some.inj ho
      refine wp_value (v := .pointer (some ⟨w.heap.size, 3, none⟩)) (w' := w') ?_ ⟨rfl, rfl⟩
      go_simp
    · obtain rfl := Option.some.inj ho
      have e1 : x 1 = .pointer (some ⟨w.heap.size, 3, none⟩) := hon _ (Array.mem_of_getElem? (i := 0) rfl) rfl
      have hG : Below w1.heap.size w1 w' := by
        match t, htm, hC with
        | 0, _, hC => exact hC.1
        | 1, _, hC => exact hC.1
        | 2, _, hC => exact hC.1
        | 3, _, hC => exact hC.1
        | n + 4, h, _ => exact absurd h (by omega)
      have x3' := (b_1.out.keep hG).2.2.2.1
      refine wp_value (v := .int .i64 2) (w' := w') ?_ ⟨rfl, rfl⟩
      go_simp
    · obtain rfl := Option.some.inj ho
      have hG : Below w1.heap.size w1 w' := by
        match t, htm, hC with
        | 0, _, hC => exact hC.1
        | 1, _, hC => exact hC.1
        | 2, _, hC => exact hC.1
        | 3, _, hC => exact hC.1
        | n + 4, h, _ => exact absurd h (by omega)
      obtain ⟨l0, l1, l2, l3, l4, l5⟩ := b_1.out.keep hG
      refine wp_value (v := .agg #[.int .i64 1, .int .i64 ep, .int .i64 num, .int .i64 2, .int .i64 pos, .string (mkB data)]) (w' := w') ?_ ⟨rfl, rfl⟩
      go_simp
    · exact absurd hr (by decide)
    · exact absurd hr (by decide)
    · obtain rfl := Option.some.inj ho
      refine wp_value (v := .pointer (some ⟨d, 0, none⟩)) (w' := w') ?_ ⟨rfl, rfl⟩
      go_simp
    · obtain rfl := Option.some.inj ho
      refine wp_value (v := .pointer (some ⟨w.heap.size, 3, none⟩)) (w' := w') ?_ ⟨rfl, rfl⟩
      go_simp
    · obtain rfl := Option.some.inj ho
      have e7 : x 7 = .pointer (some ⟨w.heap.size, 3, none⟩) := hon _ (Array.mem_of_getElem? (i := 0) rfl) rfl
      have hG : Below w1.heap.size w1 w' := by
        match t, htm, hC with
        | 0, _, hC => exact hC.1
        | 1, _, hC => exact hC.1
        | 2, _, hC => exact hC.1
        | 3, _, hC => exact hC.1
        | n + 4, h, _ => exact absurd h (by omega)
      have x3' := (b_1.out.keep hG).2.2.2.1
      refine wp_value (v := .int .i64 2) (w' := w') ?_ ⟨rfl, rfl⟩
      go_simp
    · obtain rfl := Option.some.inj ho
      have e6 : x 6 = .pointer (some ⟨d, 0, none⟩) := hon _ (Array.mem_of_getElem? (i := 0) rfl) rfl
      refine wp_value (v := .pointer (some ⟨d, 0, none⟩)) (w' := w') ?_ ⟨rfl, rfl⟩
      go_simp
    · obtain rfl := Option.some.inj ho
      have e9 : x 9 = .pointer (some ⟨d, 0, none⟩) := hon _ (Array.mem_of_getElem? (i := 0) rfl) rfl
      refine wp_value (v := .pointer (some ⟨d, 0, none⟩)) (w' := w') ?_ ⟨rfl, rfl⟩
      go_simp
    · obtain rfl := Option.some.inj ho
      have e10 : x 10 = .pointer (some ⟨d, 0, none⟩) := hon _ (Array.mem_of_getElem? (i := 0) rfl) rfl
      refine wp_value (v := .pointer (some ⟨d, 0, none⟩)) (w' := w') ?_ ⟨rfl, rfl⟩
      go_simp
    · obtain rfl := Option.some.inj ho
      have e11 : x 11 = .pointer (some ⟨d, 0, none⟩) := hon _ (Array.mem_of_getElem? (i := 0) rfl) rfl
      have e8 : x 8 = .int .i64 2 := hon _ (Array.mem_of_getElem? (i := 1) rfl) rfl
      refine wp_value (v := .pointer (some ⟨d, 2, none⟩)) (w' := w') ?_ ⟨rfl, rfl⟩
      go_simp
    · obtain rfl := Option.some.inj ho
      have e12 : x 12 = .pointer (some ⟨d, 2, none⟩) := hon _ (Array.mem_of_getElem? (i := 0) rfl) rfl
      have hG : Below w1.heap.size w1 w' := by
        match t, htm, hC with
        | 0, _, hC => exact hC.1
        | 1, _, hC => exact hC.1
        | 2, _, hC => exact hC.1
        | 3, _, hC => exact hC.1
        | n + 4, h, _ => exact absurd h (by omega)
      have y := row_cell (row_keep d_1.out hG) 2 _ rfl
      obtain ⟨sg, sc, hsv, -⟩ := id (h_1.out)
      rw [hsv] at y
      refine wp_value (v := s2) (w' := w') ?_ ⟨rfl, rfl⟩
      rw [hsv]
      go_simp
    · exact absurd hr (by decide)
    · obtain rfl := Option.some.inj ho
      have e14 : x 14 = e 2 := hon _ (Array.mem_of_getElem? (i := 0) rfl) rfl
      refine wp_value (v := e 2) (w' := w') ?_ ⟨rfl, rfl⟩
      go_simp
    · obtain rfl := Option.some.inj ho
      have e15 : x 15 = e 2 := hon _ (Array.mem_of_getElem? (i := 0) rfl) rfl
      obtain rfl : t = 3 := by have h1 : 3 ≤ t := hlv; have h2 : t ≤ 3 := htm; omega
      have hC' : Below w1.heap.size w1 w' ∧ ∃ v : Value, e 2 = .tuple #[v, .bool true] ∧ Hid (Sht w' v (wrL n2 pos.toNat data)) := hC
      obtain ⟨-, v, he, -⟩ := hC'
      rw [he] at e15
      have hv : tupAt (e 2) 0 = v := by rw [he]; rfl
      refine wp_value (v := tupAt (e 2) 0) (w' := w') ?_ ⟨rfl, rfl⟩
      rw [hv]
      go_simp
    · obtain rfl := Option.some.inj ho
      have e15 : x 15 = e 2 := hon _ (Array.mem_of_getElem? (i := 0) rfl) rfl
      obtain rfl : t = 3 := by have h1 : 3 ≤ t := hlv; have h2 : t ≤ 3 := htm; omega
      have hC' : Below w1.heap.size w1 w' ∧ ∃ v : Value, e 2 = .tuple #[v, .bool true] ∧ Hid (Sht w' v (wrL n2 pos.toNat data)) := hC
      obtain ⟨-, v, he, -⟩ := hC'
      rw [he] at e15
      have hv : tupAt (e 2) 1 = .bool true := by rw [he]; rfl
      refine wp_value (v := tupAt (e 2) 1) (w' := w') ?_ ⟨rfl, rfl⟩
      rw [hv]
      go_simp
    · obtain rfl := Option.some.inj ho
      have e0 : x 0 = .pointer (some ⟨d, 0, none⟩) := hon _ (Array.mem_of_getElem? (i := 0) rfl) rfl
      refine wp_value (v := .pointer (some ⟨d, 0, none⟩)) (w' := w') ?_ ⟨rfl, rfl⟩
      go_simp
    · obtain rfl := Option.some.inj ho
      have e18 : x 18 = .pointer (some ⟨d, 0, none⟩) := hon _ (Array.mem_of_getElem? (i := 0) rfl) rfl
      refine wp_value (v := .pointer (some ⟨d, 0, none⟩)) (w' := w') ?_ ⟨rfl, rfl⟩
      go_simp
    · obtain rfl := Option.some.inj ho
      have e19 : x 19 = .pointer (some ⟨d, 0, none⟩) := hon _ (Array.mem_of_getElem? (i := 0) rfl) rfl
      refine wp_value (v := .pointer (some ⟨d, 0, none⟩)) (w' := w') ?_ ⟨rfl, rfl⟩
      go_simp
    · obtain rfl := Option.some.inj ho
      have e20 : x 20 = .pointer (some ⟨d, 0, none⟩) := hon _ (Array.mem_of_getElem? (i := 0) rfl) rfl
      have e2 : x 2 = .int .i64 2 := hon _ (Array.mem_of_getElem? (i := 1) rfl) rfl
      refine wp_value (v := .pointer (some ⟨d, 2, none⟩)) (w' := w') ?_ ⟨rfl, rfl⟩
      go_simp
  · rintro i oi x e t w' hi hr ho hC hon
    obtain rfl | rfl | rfl | rfl | rfl | rfl | rfl | rfl | rfl | rfl | rfl | rfl | rfl | rfl | rfl | rfl | rfl | rfl | rfl | rfl | rfl | rfl : i = 0 ∨ i = 1 ∨ i = 2 ∨ i = 3 ∨ i = 4 ∨ i = 5 ∨ i = 6 ∨ i = 7 ∨ i = 8 ∨ i = 9 ∨ i = 10 ∨ i = 11 ∨ i = 12 ∨ i = 13 ∨ i = 14 ∨ i = 15 ∨ i = 16 ∨ i = 17 ∨ i = 18 ∨ i = 19 ∨ i = 20 ∨ i = 21 := by omega
    · exact absurd hr (by intro h; cases h)
    · exact absurd hr (by intro h; cases h)
    · exact absurd hr (by intro h; cases h)
    · exact absurd hr (by intro h; cases h)
    · obtain rfl : 0 = t := Option.some.inj hr
      obtain rfl := Option.some.inj ho
      have e3 : x 3 = .agg #[.int .i64 1, .int .i64 ep, .int .i64 num, .int .i64 2, .int .i64 pos, .string (mkB data)] := hon _ (Array.mem_of_getElem? (i := 0) rfl) rfl
      have hC' : Below w1.heap.size w1 w' ∧ True := hC
      refine wp_enter 58 #[.agg (rqA ⟨1, ep, num, 2, pos, data⟩)] ?_ ((reqPatch_any ⟨1, ep, num, 2, pos, data⟩ w').mono fun e' wz ⟨he, hb⟩ => ⟨_, he, _, rfl, show Below w1.heap.size w1 wz ∧ (upd e 0 (.agg #[.int .i64 pos, .string (mkB data)])) 0 = .agg #[.int .i64 pos, .string (mkB data)] from ⟨hC'.1.trans (hb.mono hC'.1.size), upd_eq _ _ _⟩⟩)
      go_simp
    · obtain rfl : 1 = t := Option.some.inj hr
      obtain rfl := Option.some.inj ho
      have e4 : x 4 = e 0 := hon _ (Array.mem_of_getElem? (i := 0) rfl) rfl
      have hC' : Below w1.heap.size w1 w' ∧ e 0 = .agg #[.int .i64 pos, .string (mkB data)] := hC
      rw [hC'.2] at e4
      refine wp_enter 48 #[.agg #[.int .i64 pos, .string (mkB data)]] ?_ ((patchEdit_any pos data w').mono fun e' wz ⟨he, hw⟩ => ⟨_, he, _, rfl, show Below w1.heap.size w1 wz ∧ ∃ b : Nat, (upd e 1 (.func (.func 73) #[] #[.pointer (some ⟨w'.heap.size, 0, none⟩)])) 1 = .func (.func 73) #[] #[.pointer (some ⟨b, 0, none⟩)] ∧ wz.cell? ⟨b, 0, none⟩ = some (.int .i64 pos) ∧ wz.cell? ⟨b, 1, none⟩ = some (.string (mkB data)) from by subst hw; exact ⟨hC'.1.trans (((Below.refl _ _).alloc (Nat.le_refl _) _).mono hC'.1.size), w'.heap.size, upd_eq _ _ _, by go_simp, by go_simp⟩⟩)
      go_simp
    · exact absurd hr (by intro h; cases h)
    · exact absurd hr (by intro h; cases h)
    · exact absurd hr (by intro h; cases h)
    · exact absurd hr (by intro h; cases h)
    · exact absurd hr (by intro h; cases h)
    · exact absurd hr (by intro h; cases h)
    · exact absurd hr (by intro h; cases h)
    · exact absurd hr (by intro h; cases h)
    · obtain rfl : 2 = t := Option.some.inj hr
      obtain rfl := Option.some.inj ho
      have e5 : x 5 = e 1 := hon _ (Array.mem_of_getElem? (i := 0) rfl) rfl
      have e13 : x 13 = s2 := hon _ (Array.mem_of_getElem? (i := 1) rfl) rfl
      have hC' : Below w1.heap.size w1 w' ∧ ∃ b : Nat, e 1 = .func (.func 73) #[] #[.pointer (some ⟨b, 0, none⟩)] ∧ w'.cell? ⟨b, 0, none⟩ = some (.int .i64 pos) ∧ w'.cell? ⟨b, 1, none⟩ = some (.string (mkB data)) := hC
      obtain ⟨hG, b, hf, hb0, hb1⟩ := hC'
      rw [hf] at e5
      have hE := ((patch_edOk w' b pos data HDL.out hb0 hb1) w' s2 n2 (Below.refl _ _) (h_1.out.keep hG) HT.out).1 _ (wrF_yes HWK.out)
      refine wp_enter 73 #[s2, .pointer (some ⟨b, 0, none⟩)] ?_ (hE.2.mono fun e' wz ⟨vz, he, hsv, hb⟩ => ⟨_, he, _, rfl, show Below w1.heap.size w1 wz ∧ ∃ v : Value, (upd e 2 (.tuple #[vz, .bool true])) 2 = .tuple #[v, .bool true] ∧ Hid (Sht wz v (wrL n2 pos.toNat data)) from ⟨hG.trans (hb.mono hG.size), vz, upd_eq _ _ _, hsv⟩⟩)
      go_simp
    · exact absurd hr (by intro h; cases h)
    · exact absurd hr (by intro h; cases h)
    · exact absurd hr (by intro h; cases h)
    · exact absurd hr (by intro h; cases h)
    · exact absurd hr (by intro h; cases h)
    · exact absurd hr (by intro h; cases h)
    · exact absurd hr (by intro h; cases h)
  · rintro oi x e w' ho hC hon
    obtain rfl := Option.some.inj ho
    have e21 : x 21 = .pointer (some ⟨d, 2, none⟩) := hon _ (Array.mem_of_getElem? (i := 0) rfl) rfl
    have e16 : x 16 = tupAt (e 2) 0 := hon _ (Array.mem_of_getElem? (i := 1) rfl) rfl
    have hC' : Below w1.heap.size w1 w' ∧ ∃ v : Value, e 2 = .tuple #[v, .bool true] ∧ Hid (Sht w' v (wrL n2 pos.toNat data)) := hC
    obtain ⟨hG, v, he, hv⟩ := hC'
    have hv0 : tupAt (e 2) 0 = v := by rw [he]; rfl
    rw [hv0] at e16
    have y := row_cell (row_keep d_1.out hG) 2 _ rfl
    have yf := row_free (row_keep d_1.out hG) 2
    obtain ⟨vg, vc, hvf, -⟩ := id hv.out
    subst hvf
    refine wp_skip (w' := w'.setCell ⟨d, 2, none⟩ _) ?_ ⟨rfl, w', _, hG, he, hv, rfl⟩
    go_simp
  · rintro i oi x e w' hi hlt hr ho hR hon
    obtain rfl : i = 17 := by simpa using hlt
    obtain rfl := Option.some.inj ho
    have e15 : x 15 = e 2 := hon _ (Array.mem_of_getElem? (i := 0) rfl) rfl
    obtain ⟨w0, v, -, he, -⟩ := hR
    rw [he] at e15
    have hv : tupAt (e 2) 1 = .bool true := by rw [he]; rfl
    refine wp_value (v := tupAt (e 2) 1) (w' := w') ?_ ⟨rfl, rfl⟩
    rw [hv]
    go_simp
  rintro e w' F hF hR
  obtain rfl : F = ({ tmps := #[Value.pointer (some { block := d, off := 0 }), .agg (rqA ⟨1, ep, num, 2, pos, data⟩), undef, Value.pointer (some { block := w.heap.size, off := 0 }), Value.nilIface, Value.nilIface, Value.pointer (some { block := d, off := 0 }), .agg #[.int .i64 1, .int .i64 ep, .int .i64 num, .int .i64 2, .int .i64 pos, .string (mkB data)], Value.nilIface, Value.nilIface, Value.bool false, undef, e 2, .pointer (some ⟨d, 0, none⟩), .pointer (some ⟨w.heap.size, 3, none⟩), .int .i64 2, .agg #[.int .i64 1, .int .i64 ep, .int .i64 num, .int .i64 2, .int .i64 pos, .string (mkB data)], e 0, e 1, .pointer (some ⟨d, 0, none⟩), .pointer (some ⟨w.heap.size, 3, none⟩), .int .i64 2, .pointer (some ⟨d, 0, none⟩), .pointer (some ⟨d, 0, none⟩), .pointer (some ⟨d, 0, none⟩), .pointer (some ⟨d, 2, none⟩), s2, e 2, tupAt (e 2) 0, tupAt (e 2) 1, .pointer (some ⟨d, 0, none⟩), .pointer (some ⟨d, 0, none⟩), .pointer (some ⟨d, 0, none⟩), .pointer (some ⟨d, 2, none⟩), undef, undef, undef, undef, undef, undef, undef, undef, undef], defers := [] } : Act) := hF
  obtain ⟨w0, v, hG, he, hv, rfl⟩ := hR
  have HV := Lib.hid he
  clear he
  have h0v : ∃ a n c, s0 = .slice a n c := h0s
  obtain ⟨X, hX⟩ : ∃ X, w0.setCell ⟨d, 2, none⟩ v = X := ⟨_, rfl⟩
  have hrow := row_keep d_1.out hG
  have hr2 : X.heap[d]? = some (.cells #[s0, s1, v, .int .i64 l0, .int .i64 l1, .int .i64 l2, t0, t1, t2, .int .i64 m0, .int .i64 m1, .int .i64 m2, .int .i64 f0, .int .i64 f1, .int .i64 f2] 88 (0, 0)) := by rw [← hX]; exact row_set hrow 2 v
  have ht : Btn d (d + 1) w0 X := by rw [← hX]; exact btn_set _ _ _ _
  have b_2 := Lib.hid ((b_1.out.keep hG).btn ht (.inr (by omega)))
  have d_2 := Lib.hid hr2
  have G_2 := Lib.hid (gr_trans (gr_below (E_1.out.trans (hG.mono E_1.out.size)) (some d)) (by rw [← hX]; exact gr_set _ _ _ _ : w0.grownBy X (some d)))
  have V_2 := Lib.hid (sht_far hrow s0 rfl h0s hv.out 2 v X hX)
  rw [hX]
  clear hX hrow hr2 ht hG hv h_1 d_1 b_1 E_1 x0 x1 x2 x3 x4 x5
  obtain ⟨x0, x1, x2, x3, x4, x5⟩ := b_2.out
  have yk := row_cell d_2.out 4 _ rfl
  have fk := row_free d_2.out 4
  go_wp2_with fail
  go_still_tail 9, (by kernel_rfl)
  change wpList _ _ _ _ _ X.drew
  obtain ⟨Y, hY⟩ : ∃ Y, X.drew = Y := ⟨_, rfl⟩
  have hdr : Below X.heap.size X Y := by rw [← hY]; exact (Below.refl _ _).drew
  rw [hY]
  clear hY yk fk x0 x1 x2 x3 x4 x5
  have d_3 := row_keep d_2.out hdr
  have yk := row_cell d_3 4 _ rfl
  have fk := row_free d_3 4
  obtain ⟨Z, hZ⟩ : ∃ Z, Y.setCell ⟨d, 4, none⟩ (.int .i64 num) = Z := ⟨_, rfl⟩
  have hr3 : Z.heap[d]? = some (.cells #[s0, s1, v, .int .i64 l0, .int .i64 num, .int .i64 l2, t0, t1, t2, .int .i64 m0, .int .i64 m1, .int .i64 m2, .int .i64 f0, .int .i64 f1, .int .i64 f2] 88 (0, 0)) := by rw [← hZ]; exact row_set d_3 4 _
  have D_4 := Lib.hid hr3
  have G_4 := Lib.hid (gr_trans G_2.out (gr_trans (gr_below hdr (some d)) (by rw [← hZ]; exact gr_set _ _ _ _ : Y.grownBy Z (some d))))
  have V_4 := Lib.hid (sht_far d_3 _ rfl h0v (V_2.out.keep hdr) 4 _ Z hZ)
  clear hr3 hdr d_3 d_2 b_2 G_2 V_2
  go_wp2
  go_ret
  exact ⟨rfl, v, D_4, V_4, G_4.out⟩

set_option maxRecDepth 100000 in
set_option maxHeartbeats 8000000 in
theorem do_22 (a0 a1 a2 a3 : Addr) (d : Nat) (s0 s1 s2 t0 t1 t2 : Value) (n0 n1 n2 u0 u1 u2 : List UInt8) (l0 l1 l2 m0 m1 m2 f0 f1 f2 : Int) (ep num pos : Int) (data : List UInt8) (w : World)
    (hS : Snt w a0 a1 a2 a3) (hD : w.heap[d]? = some (.cells #[s0, s1, s2, .int .i64 l0, .int .i64 l1, .int .i64 l2, t0, t1, t2, .int .i64 m0, .int .i64 m1, .int .i64 m2, .int .i64 f0, .int .i64 f1, .int .i64 f2] 88 (0, 0))) (hl : 0 ≤ l2 ∧ l2 ≤ 1000) (hd : data.length ≤ 2000000) (hs : Sht w s2 n2) (h0s : ∃ a n c, s0 = .slice a n c) (ht : tokB n2 = true)
    (hc : doC ⟨[n0, n1, n2], [u0, u1, u2], [l0, l1, l2], [m0, m1, m2], [f0, f1, f2]⟩ ⟨2, ep, num, 2, pos, data⟩ = 0) :
    Calls Tryd.prog 30 #[.pointer (some ⟨d, 0, none⟩), .agg (rqA ⟨2, ep, num, 2, pos, data⟩)] w (DoY w d (n2) pos data fun v => #[s0, s1, v, .int .i64 l0, .int .i64 l1, .int .i64 num, t0, t1, t2, .int .i64 m0, .int .i64 m1, .int .i64 m2, .int .i64 f0, .int .i64 f1, .int .i64 f2]) := by
  have hrq := (doC_fine hc).1
  have hwk : wokB pos data = true := (rqB_iff.1 hrq).2.2.2.2
  have KR := refuse_2 a0 a1 a2 a3 d s0 s1 s2 t0 t1 t2 n0 n1 n2 u0 u1 u2 l0 l1 l2 m0 m1 m2 f0 f1 f2 ep num 2 pos data
  rw [hc, show errV a0 a1 a2 a3 0 = .nilIface from rfl] at KR
  have KR := Lib.hid KR
  obtain ⟨W, hW⟩ : ∃ W, w.alloc (.cells (rqA ⟨2, ep, num, 2, pos, data⟩) 34) = W := ⟨_, rfl⟩
  have hal : Below w.heap.size w W := by rw [← hW]; exact (Below.refl _ _).alloc (Nat.le_refl _) _
  have B0 : Box6 W w.heap.size ⟨2, ep, num, 2, pos, data⟩ := by rw [← hW]; exact new_box6 w _ _
  have HK := Lib.hid (KR.out W (hS.keep hal) (row_keep hD hal) hl hd)
  have E_0 := Lib.hid hal
  have b_0 := Lib.hid B0
  have d_0 := Lib.hid (row_keep hD hal)
  have h_0 := Lib.hid (hs.keep hal)
  have HT := Lib.hid ht
  have HWK := Lib.hid hwk
  have HDL := Lib.hid hd
  have hbd : d < w.heap.size := (Array.getElem?_eq_some_iff.1 hD).1
  obtain ⟨x0, x1, x2, x3, x4, x5⟩ := b_0.out
  clear hal B0 hS hD hl hd hs ht hc hrq hwk KR
  go_enter Tryd.func30, Tryd.ntmps30
  go_wp2_with fail
  clear hW
  refine HK.out.mono ?_; rintro e w1 ⟨rfl, hb⟩
  have E_1 := Lib.hid (E_0.out.trans (hb.mono E_0.out.size))
  have b_1 := Lib.hid (b_0.out.keep hb)
  have d_1 := Lib.hid (row_keep d_0.out hb)
  have h_1 := Lib.hid (h_0.out.keep hb)
  have hw1 : w.heap.size < w1.heap.size := Nat.lt_of_lt_of_le (World.block_lt_of_cell? _ _ x0) hb.size
  clear x0 x1 x2 x3 x4 x5 E_0 b_0 d_0 h_0 hb HK
  obtain ⟨x0, x1, x2, x3, x4, x5⟩ := b_1.out
  go_wp2_with fail
  refine wp_region_chain 22 3 (fun j => j == 17) (fun j => (#[none, none, none, none, some 0, some 1, none, none, none, none, none, none, none, none, some 2, none, none, none, none, none, none, none, some 3] : Array (Option Nat)).getD j none) (fun j => (#[0, 0, 0, 0, 0, 0, 0, 0, 0, 0, 0, 0, 0, 0, 0, 3, 3, 3, 0, 0, 0, 0] : Array Nat).getD j 0) (fun x => ({ tmps := #[Value.pointer (some { block := d, off := 0 }), .agg (rqA ⟨2, ep, num, 2, pos, data⟩), undef, Value.pointer (some { block := w.heap.size, off := 0 }), Value.nilIface, Value.nilIface, Value.pointer (some { block := d, off := 0 }), .agg #[.int .i64 2, .int .i64 ep, .int .i64 num, .int .i64 2, .int .i64 pos, .string (mkB data)], Value.nilIface, Value.nilIface, Value.bool false, undef, x 15, x 0, x 1, x 2, x 3, x 4, x 5, x 6, x 7, x 8, x 9, x 10, x 11, x 12, x 13, x 14, x 16, x 17, x 18, x 19, x 20, x 21, undef, undef, undef, undef, undef, undef, undef, undef, undef], defers := [] } : Act)) (fun j e => (#[.pointer (some ⟨d, 0, none⟩), .pointer (some ⟨w.heap.size, 3, none⟩), .int .i64 2, .agg #[.int .i64 2, .int .i64 ep, .int .i64 num, .int .i64 2, .int .i64 pos, .string (mkB data)], e 0, e 1, .pointer (some ⟨d, 0, none⟩), .pointer (some ⟨w.heap.size, 3, none⟩), .int .i64 2, .pointer (some ⟨d, 0, none⟩), .pointer (some ⟨d, 0, none⟩), .pointer (some ⟨d, 0, none⟩), .pointer (some ⟨d, 2, none⟩), s2, e 2, e 2, tupAt (e 2) 0, tupAt (e 2) 1, .pointer (some ⟨d, 0, none⟩), .pointer (some ⟨d, 0, none⟩), .pointer (some ⟨d, 0, none⟩), .pointer (some ⟨d, 2, none⟩)] : Array Value).getD j undef) (fun t e w' => match t with | 0 => Below w1.heap.size w1 w' ∧ True | 1 => Below w1.heap.size w1 w' ∧ e 0 = .agg #[.int .i64 pos, .string (mkB data)] | 2 => Below w1.heap.size w1 w' ∧ ∃ b : Nat, e 1 = .func (.func 73) #[] #[.pointer (some ⟨b, 0, none⟩)] ∧ w'.cell? ⟨b, 0, none⟩ = some (.int .i64 pos) ∧ w'.cell? ⟨b, 1, none⟩ = some (.string (mkB data)) | _ => Below w1.heap.size w1 w' ∧ ∃ v : Value, e 2 = .tuple #[v, .bool true] ∧ Hid (Sht w' v (wrL n2 pos.toNat data))) (fun e w' => ∃ (w0 : World) (v : Value), Below w1.heap.size w1 w0 ∧ e 2 = .tuple #[v, .bool true] ∧ Hid (Sht w0 v (wrL n2 pos.toNat data)) ∧ w' = w0.setCell ⟨d, 2, none⟩ v) (x0 := fun i => (#[undef, undef, undef, undef, undef, undef, undef, undef, undef, undef, undef, undef, undef, undef, undef, undef, undef, undef, undef, undef, undef, undef] : Array Value).getD i undef) rfl (by kernel_rfl) (by kernel_rfl) (by kernel_rfl) (by kernel_rfl) (by kernel_rfl) (by kernel_rfl) (by kernel_rfl) (by kernel_rfl) ?_ ?_ ?_ ?_ ?_ ?_ ?_ ?_
  · intro x y h
    simp only [h 0 (by decide), h 1 (by decide), h 2 (by decide), h 3 (by decide), h 4 (by decide), h 5 (by decide), h 6 (by decide), h 7 (by decide), h 8 (by decide), h 9 (by decide), h 10 (by decide), h 11 (by decide), h 12 (by decide), h 13 (by decide), h 14 (by decide), h 15 (by decide), h 16 (by decide), h 17 (by decide), h 18 (by decide), h 19 (by decide), h 20 (by decide), h 21 (by decide)]
  · intro i hi hr e e' h
    obtain rfl | rfl | rfl | rfl | rfl | rfl | rfl | rfl | rfl | rfl | rfl | rfl | rfl | rfl | rfl | rfl | rfl | rfl | rfl | rfl | rfl | rfl : i = 0 ∨ i = 1 ∨ i = 2 ∨ i = 3 ∨ i = 4 ∨ i = 5 ∨ i = 6 ∨ i = 7 ∨ i = 8 ∨ i = 9 ∨ i = 10 ∨ i = 11 ∨ i = 12 ∨ i = 13 ∨ i = 14 ∨ i = 15 ∨ i = 16 ∨ i = 17 ∨ i = 18 ∨ i = 19 ∨ i = 20 ∨ i = 21 := by omega
    · rfl
    · rfl
    · rfl
    · rfl
    · exact absurd hr (by decide)
    · exact absurd hr (by decide)
    · rfl
    · rfl
    · rfl
    · rfl
    · rfl
    · rfl
    · rfl
    · rfl
    · exact absurd hr (by decide)
    · show e 2 = e' 2; rw [h 2 (by decide)]
    · show tupAt (e 2) 0 = tupAt (e' 2) 0; rw [h 2 (by decide)]
    · show tupAt (e 2) 1 = tupAt (e' 2) 1; rw [h 2 (by decide)]
    · rfl
    · rfl
    · rfl
    · rfl
  · exact ⟨(Below.refl _ _).drew, trivial⟩
  · rintro i oi x e t w' hi hr ho hlv htm hC hon
    obtain rfl | rfl | rfl | rfl | rfl | rfl | rfl | rfl | rfl | rfl | rfl | rfl | rfl | rfl | rfl | rfl | rfl | rfl | rfl | rfl | rfl | rfl : i = 0 ∨ i = 1 ∨ i = 2 ∨ i = 3 ∨ i = 4 ∨ i = 5 ∨ i = 6 ∨ i = 7 ∨ i = 8 ∨ i = 9 ∨ i = 10 ∨ i = 11 ∨ i = 12 ∨ i = 13 ∨ i = 14 ∨ i = 15 ∨ i = 16 ∨ i = 17 ∨ i = 18 ∨ i = 19 ∨ i = 20 ∨ i = 21 := by omega
    · obtain rfl := Option.some.inj ho
      refine wp_value (v := .pointer (some ⟨d, 0, none⟩)) (w' := w') ?_ ⟨rfl, rfl⟩
      go_simp
    · obtain rfl := Option.some.inj ho
      refine wp_value (v := .pointer (some ⟨w.heap.size, 3, none⟩)) (w' := w') ?_ ⟨rfl, rfl⟩
      go_simp
    · obtain rfl := Option.some.inj ho
      have e1 : x 1 = .pointer (some ⟨w.heap.size, 3, none⟩) := hon _ (Array.mem_of_getElem? (i := 0) rfl) rfl
      have hG : Below w1.heap.size w1 w' := by
        match t, htm, hC with
        | 0, _, hC => exact hC.1
        | 1, _, hC => exact hC.1
        | 2, _, hC => exact hC.1
        | 3, _, hC => exact hC.1
        | n + 4, h, _ => exact absurd h (by omega)
      have x3' := (b_1.out.keep hG).2.2.2.1
      refine wp_value (v := .int .i64 2) (w' := w') ?_ ⟨rfl, rfl⟩
      go_simp
    · obtain rfl := Option.some.inj ho
      have hG : Below w1.heap.size w1 w' := by
        match t, htm, hC with
        | 0, _, hC => exact hC.1
        | 1, _, hC => exact hC.1
        | 2, _, hC => exact hC.1
        | 3, _, hC => exact hC.1
        | n + 4, h, _ => exact absurd h (by omega)
      obtain ⟨l0, l1, l2, l3, l4, l5⟩ := b_1.out.keep hG
      refine wp_value (v := .agg #[.int .i64 2, .int .i64 ep, .int .i64 num, .int .i64 2, .int .i64 pos, .string (mkB data)]) (w' := w') ?_ ⟨rfl, rfl⟩
      go_simp
    · exact absurd hr (by decide)
    · exact absurd hr (by decide)
    · obtain rfl := Option.some.inj ho
      refine wp_value (v := .pointer (some ⟨d, 0, none⟩)) (w' := w') ?_ ⟨rfl, rfl⟩
      go_simp
    · obtain rfl := Option.some.inj ho
      refine wp_value (v := .pointer (some ⟨w.heap.size, 3, none⟩)) (w' := w') ?_ ⟨rfl, rfl⟩
      go_simp
    · obtain rfl := Option.some.inj ho
      have e7 : x 7 = .pointer (some ⟨w.heap.size, 3, none⟩) := hon _ (Array.mem_of_getElem? (i := 0) rfl) rfl
      have hG : Below w1.heap.size w1 w' := by
        match t, htm, hC with
        | 0, _, hC => exact hC.1
        | 1, _, hC => exact hC.1
        | 2, _, hC => exact hC.1
        | 3, _, hC => exact hC.1
        | n + 4, h, _ => exact absurd h (by omega)
      have x3' := (b_1.out.keep hG).2.2.2.1
      refine wp_value (v := .int .i64 2) (w' := w') ?_ ⟨rfl, rfl⟩
      go_simp
    · obtain rfl := Option.some.inj ho
      have e6 : x 6 = .pointer (some ⟨d, 0, none⟩) := hon _ (Array.mem_of_getElem? (i := 0) rfl) rfl
      refine wp_value (v := .pointer (some ⟨d, 0, none⟩)) (w' := w') ?_ ⟨rfl, rfl⟩
      go_simp
    · obtain rfl := Option.some.inj ho
      have e9 : x 9 = .pointer (some ⟨d, 0, none⟩) := hon _ (Array.mem_of_getElem? (i := 0) rfl) rfl
      refine wp_value (v := .pointer (some ⟨d, 0, none⟩)) (w' := w') ?_ ⟨rfl, rfl⟩
      go_simp
    · obtain rfl := Option.some.inj ho
      have e10 : x 10 = .pointer (some ⟨d, 0, none⟩) := hon _ (Array.mem_of_getElem? (i := 0) rfl) rfl
      refine wp_value (v := .pointer (some ⟨d, 0, none⟩)) (w' := w') ?_ ⟨rfl, rfl⟩
      go_simp
    · obtain rfl := Option.some.inj ho
      have e11 : x 11 = .pointer (some ⟨d, 0, none⟩) := hon _ (Array.mem_of_getElem? (i := 0) rfl) rfl
      have e8 : x 8 = .int .i64 2 := hon _ (Array.mem_of_getElem? (i := 1) rfl) rfl
      refine wp_value (v := .pointer (some ⟨d, 2, none⟩)) (w' := w') ?_ ⟨rfl, rfl⟩
      go_simp
    · obtain rfl := Option.some.inj ho
      have e12 : x 12 = .pointer (some ⟨d, 2, none⟩) := hon _ (Array.mem_of_getElem? (i := 0) rfl) rfl
      have hG : Below w1.heap.size w1 w' := by
        match t, htm, hC with
        | 0, _, hC => exact hC.1
        | 1, _, hC => exact hC.1
        | 2, _, hC => exact hC.1
        | 3, _, hC => exact hC.1
        | n + 4, h, _ => exact absurd h (by omega)
      have y := row_cell (row_keep d_1.out hG) 2 _ rfl
      obtain ⟨sg, sc, hsv, -⟩ := id (h_1.out)
      rw [hsv] at y
      refine wp_value (v := s2) (w' := w') ?_ ⟨rfl, rfl⟩
      rw [hsv]
      go_simp
    · exact absurd hr (by decide)
    · obtain rfl := Option.some.inj ho
      have e14 : x 14 = e 2 := hon _ (Array.mem_of_getElem? (i := 0) rfl) rfl
      refine wp_value (v := e 2) (w' := w') ?_ ⟨rfl, rfl⟩
      go_simp
    · obtain rfl := Option.some.inj ho
      have e15 : x 15 = e 2 := hon _ (Array.mem_of_getElem? (i := 0) rfl) rfl
      obtain rfl : t = 3 := by have h1 : 3 ≤ t := hlv; have h2 : t ≤ 3 := htm; omega
      have hC' : Below w1.heap.size w1 w' ∧ ∃ v : Value, e 2 = .tuple #[v, .bool true] ∧ Hid (Sht w' v (wrL n2 pos.toNat data)) := hC
      obtain ⟨-, v, he, -⟩ := hC'
      rw [he] at e15
      have hv : tupAt (e 2) 0 = v := by rw [he]; rfl
      refine wp_value (v := tupAt (e 2) 0) (w' := w') ?_ ⟨rfl, rfl⟩
      rw [hv]
      go_simp
    · obtain rfl := Option.some.inj ho
      have e15 : x 15 = e 2 := hon _ (Array.mem_of_getElem? (i := 0) rfl) rfl
      obtain rfl : t = 3 := by have h1 : 3 ≤ t := hlv; have h2 : t ≤ 3 := htm; omega
      have hC' : Below w1.heap.size w1 w' ∧ ∃ v : Value, e 2 = .tuple #[v, .bool true] ∧ Hid (Sht w' v (wrL n2 pos.toNat data)) := hC
      obtain ⟨-, v, he, -⟩ := hC'
      rw [he] at e15
      have hv : tupAt (e 2) 1 = .bool true := by rw [he]; rfl
      refine wp_value (v := tupAt (e 2) 1) (w' := w') ?_ ⟨rfl, rfl⟩
      rw [hv]
      go_simp
    · obtain rfl := Option.some.inj ho
      have e0 : x 0 = .pointer (some ⟨d, 0, none⟩) := hon _ (Array.mem_of_getElem? (i := 0) rfl) rfl
      refine wp_value (v := .pointer (some ⟨d, 0, none⟩)) (w' := w') ?_ ⟨rfl, rfl⟩
      go_simp
    · obtain rfl := Option.some.inj ho
      have e18 : x 18 = .pointer (some ⟨d, 0, none⟩) := hon _ (Array.mem_of_getElem? (i := 0) rfl) rfl
      refine wp_value (v := .pointer (some ⟨d, 0, none⟩)) (w' := w') ?_ ⟨rfl, rfl⟩
      go_simp
    · obtain rfl := Option.some.inj ho
      have e19 : x 19 = .pointer (some ⟨d, 0, none⟩) := hon _ (Array.mem_of_getElem? (i := 0) rfl) rfl
      refine wp_value (v := .pointer (some ⟨d, 0, none⟩)) (w' := w') ?_ ⟨rfl, rfl⟩
      go_simp
    · obtain rfl := Option.some.inj ho
      have e20 : x 20 = .pointer (some ⟨d, 0, none⟩) := hon _ (Array.mem_of_getElem? (i := 0) rfl) rfl
      have e2 : x 2 = .int .i64 2 := hon _ (Array.mem_of_getElem? (i := 1) rfl) rfl
      refine wp_value (v := .pointer (some ⟨d, 2, none⟩)) (w' := w') ?_ ⟨rfl, rfl⟩
      go_simp
  · rintro i oi x e t w' hi hr ho hC hon
    obtain rfl | rfl | rfl | rfl | rfl | rfl | rfl | rfl | rfl | rfl | rfl | rfl | rfl | rfl | rfl | rfl | rfl | rfl | rfl | rfl | rfl | rfl : i = 0 ∨ i = 1 ∨ i = 2 ∨ i = 3 ∨ i = 4 ∨ i = 5 ∨ i = 6 ∨ i = 7 ∨ i = 8 ∨ i = 9 ∨ i = 10 ∨ i = 11 ∨ i = 12 ∨ i = 13 ∨ i = 14 ∨ i = 15 ∨ i = 16 ∨ i = 17 ∨ i = 18 ∨ i = 19 ∨ i = 20 ∨ i = 21 := by omega
    · exact absurd hr (by intro h; cases h)
    · exact absurd hr (by intro h; cases h)
    · exact absurd hr (by intro h; cases h)
    · exact absurd hr (by intro h; cases h)
    · obtain rfl : 0 = t := Option.some.inj hr
      obtain rfl := Option.some.inj ho
      have e3 : x 3 = .agg #[.int .i64 2, .int .i64 ep, .int .i64 num, .int .i64 2, .int .i64 pos, .string (mkB data)] := hon _ (Array.mem_of_getElem? (i := 0) rfl) rfl
      have hC' : Below w1.heap.size w1 w' ∧ True := hC
      refine wp_enter 58 #[.agg (rqA ⟨2, ep, num, 2, pos, data⟩)] ?_ ((reqPatch_any ⟨2, ep, num, 2, pos, data⟩ w').mono fun e' wz ⟨he, hb⟩ => ⟨_, he, _, rfl, show Below w1.heap.size w1 wz ∧ (upd e 0 (.agg #[.int .i64 pos, .string (mkB data)])) 0 = .agg #[.int .i64 pos, .string (mkB data)] from ⟨hC'.1.trans (hb.mono hC'.1.size), upd_eq _ _ _⟩⟩)
      go_simp
    · obtain rfl : 1 = t := Option.some.inj hr
      obtain rfl := Option.some.inj ho
      have e4 : x 4 = e 0 := hon _ (Array.mem_of_getElem? (i := 0) rfl) rfl
      have hC' : Below w1.heap.size w1 w' ∧ e 0 = .agg #[.int .i64 pos, .string (mkB data)] := hC
      rw [hC'.2] at e4
      refine wp_enter 48 #[.agg #[.int .i64 pos, .string (mkB data)]] ?_ ((patchEdit_any pos data w').mono fun e' wz ⟨he, hw⟩ => ⟨_, he, _, rfl, show Below w1.heap.size w1 wz ∧ ∃ b : Nat, (upd e 1 (.func (.func 73) #[] #[.pointer (some ⟨w'.heap.size, 0, none⟩)])) 1 = .func (.func 73) #[] #[.pointer (some ⟨b, 0, none⟩)] ∧ wz.cell? ⟨b, 0, none⟩ = some (.int .i64 pos) ∧ wz.cell? ⟨b, 1, none⟩ = some (.string (mkB data)) from by subst hw; exact ⟨hC'.1.trans (((Below.refl _ _).alloc (Nat.le_refl _) _).mono hC'.1.size), w'.heap.size, upd_eq _ _ _, by go_simp, by go_simp⟩⟩)
      go_simp
    · exact absurd hr (by intro h; cases h)
    · exact absurd hr (by intro h; cases h)
    · exact absurd hr (by intro h; cases h)
    · exact absurd hr (by intro h; cases h)
    · exact absurd hr (by intro h; cases h)
    · exact absurd hr (by intro h; cases h)
    · exact absurd hr (by intro h; cases h)
    · exact absurd hr (by intro h; cases h)
    · obtain rfl : 2 = t := Option.some.inj hr
      obtain rfl := Option.some.inj ho
      have e5 : x 5 = e 1 := hon _ (Array.mem_of_getElem? (i := 0) rfl) rfl
      have e13 : x 13 = s2 := hon _ (Array.mem_of_getElem? (i := 1) rfl) rfl
      have hC' : Below w1.heap.size w1 w' ∧ ∃ b : Nat, e 1 = .func (.func 73) #[] #[.pointer (some ⟨b, 0, none⟩)] ∧ w'.cell? ⟨b, 0, none⟩ = some (.int .i64 pos) ∧ w'.cell? ⟨b, 1, none⟩ = some (.string (mkB data)) := hC
      obtain ⟨hG, b, hf, hb0, hb1⟩ := hC'
      rw [hf] at e5
      have hE := ((patch_edOk w' b pos data HDL.out hb0 hb1) w' s2 n2 (Below.refl _ _) (h_1.out.keep hG) HT.out).1 _ (wrF_yes HWK.out)
      refine wp_enter 73 #[s2, .pointer (some ⟨b, 0, none⟩)] ?_ (hE.2.mono fun e' wz ⟨vz, he, hsv, hb⟩ => ⟨_, he, _, rfl, show Below w1.heap.size w1 wz ∧ ∃ v : Value, (upd e 2 (.tuple #[vz, .bool true])) 2 = .tuple #[v, .bool true] ∧ Hid (Sht wz v (wrL n2 pos.toNat data)) from ⟨hG.trans (hb.mono hG.size), vz, upd_eq _ _ _, hsv⟩⟩)
      go_simp
    · exact absurd hr (by intro h; cases h)
    · exact absurd hr (by intro h; cases h)
    · exact absurd hr (by intro h; cases h)
    · exact absurd hr (by intro h; cases h)
    · exact absurd hr (by intro h; cases h)
    · exact absurd hr (by intro h; cases h)
    · exact absurd hr (by intro h; cases h)
  · rintro oi x e w' ho hC hon
    obtain rfl := Option.some.inj ho
    have e21 : x 21 = .pointer (some ⟨d, 2, none⟩) := hon _ (Array.mem_of_getElem? (i := 0) rfl) rfl
    have e16 : x 16 = tupAt (e 2) 0 := hon _ (Array.mem_of_getElem? (i := 1) rfl) rfl
    have hC' : Below w1.heap.size w1 w' ∧ ∃ v : Value, e 2 = .tuple #[v, .bool true] ∧ Hid (Sht w' v (wrL n2 pos.toNat data)) := hC
    obtain ⟨hG, v, he, hv⟩ := hC'
    have hv0 : tupAt (e 2) 0 = v := by rw [he]; rfl
    rw [hv0] at e16
    have y := row_cell (row_keep d_1.out hG) 2 _ rfl
    have yf := row_free (row_keep d_1.out hG) 2
    obtain ⟨vg, vc, hvf, -⟩ := id hv.out
    subst hvf
    refine wp_skip (w' := w'.setCell ⟨d, 2, none⟩ _) ?_ ⟨rfl, w', _, hG, he, hv, rfl⟩
    go_simp
  · rintro i oi x e w' hi hlt hr ho hR hon
    obtain rfl : i = 17 := by simpa using hlt
    obtain rfl := Option.some.inj ho
    have e15 : x 15 = e 2 := hon _ (Array.mem_of_getElem? (i := 0) rfl) rfl
    obtain ⟨w0, v, -, he, -⟩ := hR
    rw [he] at e15
    have hv : tupAt (e 2) 1 = .bool true := by rw [he]; rfl
    refine wp_value (v := tupAt (e 2) 1) (w' := w') ?_ ⟨rfl, rfl⟩
    rw [hv]
    go_simp
  rintro e w' F hF hR
  obtain rfl : F = ({ tmps := #[Value.pointer (some { block := d, off := 0 }), .agg (rqA ⟨2, ep, num, 2, pos, data⟩), undef, Value.pointer (some { block := w.heap.size, off := 0 }), Value.nilIface, Value.nilIface, Value.pointer (some { block := d, off := 0 }), .agg #[.int .i64 2, .int .i64 ep, .int .i64 num, .int .i64 2, .int .i64 pos, .string (mkB data)], Value.nilIface, Value.nilIface, Value.bool false, undef, e 2, .pointer (some ⟨d, 0, none⟩), .pointer (some ⟨w.heap.size, 3, none⟩), .int .i64 2, .agg #[.int .i64 2, .int .i64 ep, .int .i64 num, .int .i64 2, .int .i64 pos, .string (mkB data)], e 0, e 1, .pointer (some ⟨d, 0, none⟩), .pointer (some ⟨w.heap.size, 3, none⟩), .int .i64 2, .pointer (some ⟨d, 0, none⟩), .pointer (some ⟨d, 0, none⟩), .pointer (some ⟨d, 0, none⟩), .pointer (some ⟨d, 2, none⟩), s2, e 2, tupAt (e 2) 0, tupAt (e 2) 1, .pointer (some ⟨d, 0, none⟩), .pointer (some ⟨d, 0, none⟩), .pointer (some ⟨d, 0, none⟩), .pointer (some ⟨d, 2, none⟩), undef, undef, undef, undef, undef, undef, undef, undef, undef], defers := [] } : Act) := hF
  obtain ⟨w0, v, hG, he, hv, rfl⟩ := hR
  have HV := Lib.hid he
  clear he
  have h0v : ∃ a n c, s0 = .slice a n c := h0s
  obtain ⟨X, hX⟩ : ∃ X, w0.setCell ⟨d, 2, none⟩ v = X := ⟨_, rfl⟩
  have hrow := row_keep d_1.out hG
  have hr2 : X.heap[d]? = some (.cells #[s0, s1, v, .int .i64 l0, .int .i64 l1, .int .i64 l2, t0, t1, t2, .int .i64 m0, .int .i64 m1, .int .i64 m2, .int .i64 f0, .int .i64 f1, .int .i64 f2] 88 (0, 0)) := by rw [← hX]; exact row_set hrow 2 v
  have ht : Btn d (d + 1) w0 X := by rw [← hX]; exact btn_set _ _ _ _
  have b_2 := Lib.hid ((b_1.out.keep hG).btn ht (.inr (by omega)))
  have d_2 := Lib.hid hr2
  have G_2 := Lib.hid (gr_trans (gr_below (E_1.out.trans (hG.mono E_1.out.size)) (some d)) (by rw [← hX]; exact gr_set _ _ _ _ : w0.grownBy X (some d)))
  have V_2 := Lib.hid (sht_far hrow s0 rfl h0s hv.out 2 v X hX)
  rw [hX]
  clear hX hrow hr2 ht hG hv h_1 d_1 b_1 E_1 x0 x1 x2 x3 x4 x5
  obtain ⟨x0, x1, x2, x3, x4, x5⟩ := b_2.out
  have yk := row_cell d_2.out 5 _ rfl
  have fk := row_free d_2.out 5
  go_wp2_with fail
  go_still_tail 9, (by kernel_rfl)
  change wpList _ _ _ _ _ X.drew
  obtain ⟨Y, hY⟩ : ∃ Y, X.drew = Y := ⟨_, rfl⟩
  have hdr : Below X.heap.size X Y := by rw [← hY]; exact (Below.refl _ _).drew
  rw [hY]
  clear hY yk fk x0 x1 x2 x3 x4 x5
  have d_3 := row_keep d_2.out hdr
  have yk := row_cell d_3 5 _ rfl
  have fk := row_free d_3 5
  obtain ⟨Z, hZ⟩ : ∃ Z, Y.setCell ⟨d, 5, none⟩ (.int .i64 num) = Z := ⟨_, rfl⟩
  have hr3 : Z.heap[d]? = some (.cells #[s0, s1, v, .int .i64 l0, .int .i64 l1, .int .i64 num, t0, t1, t2, .int .i64 m0, .int .i64 m1, .int .i64 m2, .int .i64 f0, .int .i64 f1, .int .i64 f2] 88 (0, 0)) := by rw [← hZ]; exact row_set d_3 5 _
  have D_4 := Lib.hid hr3
  have G_4 := Lib.hid (gr_trans G_2.out (gr_trans (gr_below hdr (some d)) (by rw [← hZ]; exact gr_set _ _ _ _ : Y.grownBy Z (some d))))
  have V_4 := Lib.hid (sht_far d_3 _ rfl h0v (V_2.out.keep hdr) 5 _ Z hZ)
  clear hr3 hdr d_3 d_2 b_2 G_2 V_2
  go_wp2
  go_ret
  exact ⟨rfl, v, D_4, V_4, G_4.out⟩

end Go.Proofs.YtadoihddmbbjoaaDoor
