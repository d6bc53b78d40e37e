/-
  The disk: contracts of stateOf, diskOf.
-/
import Derived.Test.YtadoihddmbbjoaaDoorKStoOk
import Derived.Test.YtadoihddmbbjoaaDoorKEdited
import Derived.Test.YtadoihddmbbjoaaDoorKRegOps
import Derived.Laws.Cover3
import Derived.Deep.RegionHeld3
namespace Go.Proofs.YtadoihddmbbjoaaDoor
open Go.RowKit Go.Lib

/-- A sheet in a block from lo on. -/
def Shg (w : World) (lo : Nat) (v : Value) (l : List UInt8) : Prop :=
  ∃ g cap, v = .slice (some ⟨g, 0, none⟩) l.length cap ∧ l.length ≤ cap ∧ lo ≤ g ∧ g < w.heap.size ∧ ∀ j (h : j < l.length), w.cell? ⟨g, j, none⟩ = some (.int .u8 (l[j].toNat : Int))
theorem Shg.sht {w : World} {lo : Nat} {v : Value} {l : List UInt8} (h : Shg w lo v l) : Sht w v l := by
  obtain ⟨g, cap, e, h1, h2, h3, h4⟩ := h; exact ⟨g, cap, e, h1, h3, h4⟩
theorem Shg.keep {w w1 : World} {lo : Nat} {v : Value} {l : List UInt8} (h : Shg w lo v l) (hb : Below w.heap.size w w1) : Shg w1 lo v l := by
  obtain ⟨g, cap, e, h1, h2, h3, h4⟩ := h; exact ⟨g, cap, e, h1, h2, Nat.lt_of_lt_of_le h3 hb.size, fun j hj => cell_keep hb (h4 j hj)⟩
theorem Shg.btn {w w1 : World} {lo l h' : Nat} {v : Value} {t : List UInt8} (h : Shg w lo v t) (hb : Btn l h' w w1) (hd : h' ≤ lo) : Shg w1 lo v t := by
  obtain ⟨g, cap, e, h1, h2, h3, h4⟩ := h
  exact ⟨g, cap, e, h1, h2, Nat.lt_of_lt_of_le h3 hb.size, fun j hj => (World.cell?_of_block (a := ⟨g, j, none⟩) (hb.block g h3 (by omega))).trans (h4 j hj)⟩
theorem Shg.form {w : World} {lo : Nat} {v : Value} {l : List UInt8} (h : Shg w lo v l) : ∃ g cap, v = .slice (some ⟨g, 0, none⟩) l.length cap := by
  obtain ⟨g, cap, e, -⟩ := h; exact ⟨g, cap, e⟩
theorem Shg.new {w w1 : World} {lo n cap : Nat} {l : List UInt8} (h : Sht w1 (.slice (some ⟨w.heap.size, 0, none⟩) n cap) l) (hl : lo ≤ w.heap.size) : Shg w1 lo (.slice (some ⟨w.heap.size, 0, none⟩) n cap) l := by
  obtain ⟨g, cap', e, h1, h3, h4⟩ := h
  injection e with e1 e2 e3
  injection e1 with e1
  injection e1 with e1
  subst e1 e2 e3
  exact ⟨_, _, rfl, h1, hl, h3, h4⟩
theorem Shg.wide {w : World} {lo lo' : Nat} {v : Value} {l : List UInt8} (h : Shg w lo v l) (hl : lo' ≤ lo) : Shg w lo' v l := by
  obtain ⟨g, cap, e, h1, h2, h3, h4⟩ := h; exact ⟨g, cap, e, h1, Nat.le_trans hl h2, h3, h4⟩

theorem row_cell {w : World} {b : Nat} {C : Array Value} {T : TypeId} (h : w.heap[b]? = some (.cells C T (0, 0))) (i : Nat) (v : Value) (hv : C[i]? = some v) : w.cell? ⟨b, i, none⟩ = some v := by
  rw [cell_of_row w b i _ _ _ h]; exact hv
theorem row_free {w : World} {b : Nat} {C : Array Value} {T : TypeId} (h : w.heap[b]? = some (.cells C T (0, 0))) (i : Nat) : w.frozen? ⟨b, i, none⟩ = false := by
  simp [World.frozen?, h]
theorem row_set {w : World} {b : Nat} {C : Array Value} {T : TypeId} (h : w.heap[b]? = some (.cells C T (0, 0))) (i : Nat) (v : Value) : (w.setCell ⟨b, i, none⟩ v).heap[b]? = some (.cells (C.setIfInBounds i v) T (0, 0)) := by
  rw [Go.heap_setCell_same _ b i _ _ _ h]
theorem row_far {w w1 : World} {b lo hi : Nat} {O : Obj} (h : w.heap[b]? = some O) (hb : Btn lo hi w w1) (hd : b < lo ∨ hi ≤ b) : w1.heap[b]? = some O :=
  (hb.block b (Array.getElem?_eq_some_iff.1 h).1 (by omega)).trans h
theorem row_keep {w w1 : World} {b : Nat} {O : Obj} (h : w.heap[b]? = some O) (hb : Below w.heap.size w w1) : w1.heap[b]? = some O :=
  (hb.block b (Array.getElem?_eq_some_iff.1 h).1).trans h
theorem row_new (w : World) (C : Array Value) (T : TypeId) : (w.alloc (.cells C T)).heap[w.heap.size]? = some (.cells C T (0, 0)) := by show (w.heap.push _)[w.heap.size]? = _; simp

/-- What stateOf leaves. -/
def ToStt (w : World) (a0 a1 a2 : List UInt8) (b0 b1 b2 : Int) (e : Ending) (w' : World) : Prop :=
  ∃ s0 s1 s2, e = .returned (.agg #[s0, s1, s2, .int .i64 b0, .int .i64 b1, .int .i64 b2]) ∧ Hid (Shg w' w.heap.size s0 a0 ∧ Shg w' w.heap.size s1 a1 ∧ Shg w' w.heap.size s2 a2) ∧ Below w.heap.size w w'

set_option maxRecDepth 100000 in
set_option maxHeartbeats 4000000 in
theorem stateOf_any (v u : Value) (a0 a1 a2 : List UInt8) (b0 b1 b2 : Int) (w : World) (h : Vls w v 3 (strF [a0, a1, a2])) (h' : Vls w u 3 (intF [b0, b1, b2])) :
    Calls Tryd.prog 55 #[v, u] w (ToStt w a0 a1 a2 b0 b1 b2) := by
  obtain ⟨a, cap, rfl, hl, hm, hc⟩ := h
  obtain ⟨a', cap', rfl, hl', hm', hc'⟩ := h'
  obtain ⟨b, off, rfl, g⟩ := hc (by omega)
  obtain ⟨b', off', rfl, g'⟩ := hc' (by omega)
  unfold maxLen at hm hm'
  obtain ⟨W, hW⟩ : ∃ W, w.alloc (.cells #[.slice none 0 0, .slice none 0 0, .slice none 0 0, .int .i64 0, .int .i64 0, .int .i64 0] 86) = W := ⟨_, rfl⟩
  have hal : Below w.heap.size w W := by rw [← hW]; exact (Below.refl _ _).alloc (Nat.le_refl _) _
  have hR : W.heap[w.heap.size]? = some (.cells #[.slice none 0 0, .slice none 0 0, .slice none 0 0, .int .i64 0, .int .i64 0, .int .i64 0] 86 (0, 0)) := by rw [← hW]; exact row_new _ _ _
  have hsz : W.heap.size = w.heap.size + 1 := by rw [← hW]; simp
  obtain ⟨X, hX⟩ : ∃ X, W.alloc (.cells #[.slice none 0 0, .slice none 0 0, .slice none 0 0, .int .i64 b0, .int .i64 b1, .int .i64 b2] 86) = X := ⟨_, rfl⟩
  have hal2 : Below W.heap.size W X := by rw [← hX]; exact (Below.refl _ _).alloc (Nat.le_refl _) _
  have hT : X.heap[W.heap.size]? = some (.cells #[.slice none 0 0, .slice none 0 0, .slice none 0 0, .int .i64 b0, .int .i64 b1, .int .i64 b2] 86 (0, 0)) := by rw [← hX]; exact row_new _ _ _
  have hszX : W.heap.size < X.heap.size := by rw [← hX]; simp
  have HR := Lib.hid (row_keep hR hal2)
  have HT := Lib.hid hT
  have HE := Lib.hid (hal.trans (hal2.mono hal.size))
  have HZ := Lib.hid hsz
  have HG := Lib.hid g
  have x0 : W.cell? ⟨b', off', none⟩ = some (.int .i64 b0) := cell_keep hal (g' 0 (by omega))
  have x1 : W.cell? ⟨b', off' + 1, none⟩ = some (.int .i64 b1) := cell_keep hal (g' 1 (by omega))
  have x2 : W.cell? ⟨b', off' + 2, none⟩ = some (.int .i64 b2) := cell_keep hal (g' 2 (by omega))
  have hat := fun w => run_arrayAt (P := Tryd.prog) w 84 _ 3 (some ⟨b', off', none⟩) 3 cap' Tryd.underlying84 (Nat.le_refl _)
  clear hc hc' g g' hsz hR hT hal hal2
  go_enter Tryd.func55, Tryd.ntmps55
  go_wp2
  clear hW hX hat x0 x1 x2
  go_loopg [14] 3 (fun q s14 wr => ∃ (k : Nat) (x0 x1 x2 : Value), q = 3 - k ∧ k ≤ 3 ∧ s14 = .int .i64 k ∧ Hid (wr.heap[W.heap.size]? = some (.cells #[x0, x1, x2, .int .i64 b0, .int .i64 b1, .int .i64 b2] 86 (0, 0))) ∧ Hid ((0 < k → Shg wr (W.heap.size + 1) x0 a0) ∧ (1 < k → Shg wr (W.heap.size + 1) x1 a1) ∧ (2 < k → Shg wr (W.heap.size + 1) x2 a2)) ∧ Hid (wr.heap[w.heap.size]? = some (.cells #[.slice none 0 0, .slice none 0 0, .slice none 0 0, .int .i64 0, .int .i64 0, .int .i64 0] 86 (0, 0))) ∧ Hid (Below w.heap.size w wr) ∧ W.heap.size < wr.heap.size)
  case atStart => exact ⟨0, _, _, _, rfl, Nat.zero_le _, rfl, HT, Lib.hid ⟨fun h => absurd h (by omega), fun h => absurd h (by omega), fun h => absurd h (by omega)⟩, HR, HE, hszX⟩
  case round =>
    obtain ⟨k, x0, x1, x2, rfl, hk, rfl, HK, HS, HQ, HB, hw⟩ := hrel
    clear HT HR HE
    have hz := HZ.out
    by_cases hlt : k < 3
    · obtain rfl | rfl | rfl : k = 0 ∨ k = 1 ∨ k = 2 := by omega
      · have c1 : wr.cell? ⟨b, off, none⟩ = some (.string (mkB a0)) := cell_keep HB.out (HG.out 0 (by omega))
        obtain ⟨cp, W1, hcv, hS, hB1⟩ := sheet_of a0 wr
        have hK1 := row_keep HK.out hB1
        have hQ1 := row_keep HQ.out hB1
        have y1 := row_cell hK1 0 x0 rfl
        have y2 := row_free hK1 0
        have ht := btn_set W1 W.heap.size 0 (.slice (some ⟨wr.heap.size, 0, none⟩) a0.length cp)
        have HK2 := Lib.hid (row_set hK1 0 (.slice (some ⟨wr.heap.size, 0, none⟩) a0.length cp))
        have HQ2 := Lib.hid (row_far hQ1 ht (.inl (by omega)))
        have HB2 := Lib.hid ((HB.out.trans (hB1.mono HB.out.size)).trans (ht.below (by omega) (HB.out.trans (hB1.mono HB.out.size)).size))
        have HN := Lib.hid ((Shg.new hS (lo := W.heap.size + 1) (by omega)).btn ht (Nat.le_refl _))
        have hs2 : W.heap.size < (W1.setCell ⟨W.heap.size, 0, none⟩ (.slice (some ⟨wr.heap.size, 0, none⟩) a0.length cp)).heap.size := by have := ht.size; have := hB1.size; omega
        have HS2 : Hid ((1 > 0 → Shg (W1.setCell ⟨W.heap.size, 0, none⟩ (.slice (some ⟨wr.heap.size, 0, none⟩) a0.length cp)) (W.heap.size + 1) (.slice (some ⟨wr.heap.size, 0, none⟩) a0.length cp) a0) ∧ (1 > 1 → Shg (W1.setCell ⟨W.heap.size, 0, none⟩ (.slice (some ⟨wr.heap.size, 0, none⟩) a0.length cp)) (W.heap.size + 1) x1 a1) ∧ (1 > 2 → Shg (W1.setCell ⟨W.heap.size, 0, none⟩ (.slice (some ⟨wr.heap.size, 0, none⟩) a0.length cp)) (W.heap.size + 1) x2 a2)) :=
          ⟨fun _ => HN.out, fun h => absurd h (by omega), fun h => absurd h (by omega)⟩
        clear HK HS HQ HB hK1 hQ1 ht hS HN hB1 hz
        go_wp2
        go_roundg (3 - (0 + 1))
        case measure => omega
        case rel => exact ⟨0 + 1, _, x1, x2, rfl, by omega, by go_num, HK2, HS2, HQ2, HB2, by simpa using hs2⟩
      · have c1 : wr.cell? ⟨b, off + 1, none⟩ = some (.string (mkB a1)) := cell_keep HB.out (HG.out 1 (by omega))
        obtain ⟨cp, W1, hcv, hS, hB1⟩ := sheet_of a1 wr
        have hK1 := row_keep HK.out hB1
        have hQ1 := row_keep HQ.out hB1
        have y1 := row_cell hK1 1 x1 rfl
        have y2 := row_free hK1 1
        have ht := btn_set W1 W.heap.size 1 (.slice (some ⟨wr.heap.size, 0, none⟩) a1.length cp)
        have HK2 := Lib.hid (row_set hK1 1 (.slice (some ⟨wr.heap.size, 0, none⟩) a1.length cp))
        have HQ2 := Lib.hid (row_far hQ1 ht (.inl (by omega)))
        have HB2 := Lib.hid ((HB.out.trans (hB1.mono HB.out.size)).trans (ht.below (by omega) (HB.out.trans (hB1.mono HB.out.size)).size))
        have HN := Lib.hid ((Shg.new hS (lo := W.heap.size + 1) (by omega)).btn ht (Nat.le_refl _))
        have hs2 : W.heap.size < (W1.setCell ⟨W.heap.size, 1, none⟩ (.slice (some ⟨wr.heap.size, 0, none⟩) a1.length cp)).heap.size := by have := ht.size; have := hB1.size; omega
        have HS2 : Hid ((2 > 0 → Shg (W1.setCell ⟨W.heap.size, 1, none⟩ (.slice (some ⟨wr.heap.size, 0, none⟩) a1.length cp)) (W.heap.size + 1) x0 a0) ∧ (2 > 1 → Shg (W1.setCell ⟨W.heap.size, 1, none⟩ (.slice (some ⟨wr.heap.size, 0, none⟩) a1.length cp)) (W.heap.size + 1) (.slice (some ⟨wr.heap.size, 0, none⟩) a1.length cp) a1) ∧ (2 > 2 → Shg (W1.setCell ⟨W.heap.size, 1, none⟩ (.slice (some ⟨wr.heap.size, 0, none⟩) a1.length cp)) (W.heap.size + 1) x2 a2)) :=
          ⟨fun _ => ((HS.out.1 (by omega)).keep hB1).btn ht (Nat.le_refl _), fun _ => HN.out, fun h => absurd h (by omega)⟩
        clear HK HS HQ HB hK1 hQ1 ht hS HN hB1 hz
        go_wp2
        go_roundg (3 - (1 + 1))
        case measure => omega
        case rel => exact ⟨1 + 1, x0, _, x2, rfl, by omega, by go_num, HK2, HS2, HQ2, HB2, by simpa using hs2⟩
      · have c1 : wr.cell? ⟨b, off + 2, none⟩ = some (.string (mkB a2)) := cell_keep HB.out (HG.out 2 (by omega))
        obtain ⟨cp, W1, hcv, hS, hB1⟩ := sheet_of a2 wr
        have hK1 := row_keep HK.out hB1
        have hQ1 := row_keep HQ.out hB1
        have y1 := row_cell hK1 2 x2 rfl
        have y2 := row_free hK1 2
        have ht := btn_set W1 W.heap.size 2 (.slice (some ⟨wr.heap.size, 0, none⟩) a2.length cp)
        have HK2 := Lib.hid (row_set hK1 2 (.slice (some ⟨wr.heap.size, 0, none⟩) a2.length cp))
        have HQ2 := Lib.hid (row_far hQ1 ht (.inl (by omega)))
        have HB2 := Lib.hid ((HB.out.trans (hB1.mono HB.out.size)).trans (ht.below (by omega) (HB.out.trans (hB1.mono HB.out.size)).size))
        have HN := Lib.hid ((Shg.new hS (lo := W.heap.size + 1) (by omega)).btn ht (Nat.le_refl _))
        have hs2 : W.heap.size < (W1.setCell ⟨W.heap.size, 2, none⟩ (.slice (some ⟨wr.heap.size, 0, none⟩) a2.length cp)).heap.size := by have := ht.size; have := hB1.size; omega
        have HS2 : Hid ((3 > 0 → Shg (W1.setCell ⟨W.heap.size, 2, none⟩ (.slice (some ⟨wr.heap.size, 0, none⟩) a2.length cp)) (W.heap.size + 1) x0 a0) ∧ (3 > 1 → Shg (W1.setCell ⟨W.heap.size, 2, none⟩ (.slice (some ⟨wr.heap.size, 0, none⟩) a2.length cp)) (W.heap.size + 1) x1 a1) ∧ (3 > 2 → Shg (W1.setCell ⟨W.heap.size, 2, none⟩ (.slice (some ⟨wr.heap.size, 0, none⟩) a2.length cp)) (W.heap.size + 1) (.slice (some ⟨wr.heap.size, 0, none⟩) a2.length cp) a2)) :=
          ⟨fun _ => ((HS.out.1 (by omega)).keep hB1).btn ht (Nat.le_refl _), fun _ => ((HS.out.2.1 (by omega)).keep hB1).btn ht (Nat.le_refl _), fun _ => HN.out⟩
        clear HK HS HQ HB hK1 hQ1 ht hS HN hB1 hz
        go_wp2
        go_roundg (3 - (2 + 1))
        case measure => omega
        case rel => exact ⟨2 + 1, x0, x1, _, rfl, by omega, by go_num, HK2, HS2, HQ2, HB2, by simpa using hs2⟩
    · obtain rfl : k = 3 := by omega
      obtain ⟨h0, h1, h2⟩ := HS.out
      obtain ⟨g0, p0, rfl⟩ := (h0 (by omega)).form
      obtain ⟨g1, p1, rfl⟩ := (h1 (by omega)).form
      obtain ⟨g2, p2, rfl⟩ := (h2 (by omega)).form
      have y0 := row_cell HK.out 0 _ rfl
      have y1 := row_cell HK.out 1 _ rfl
      have y2 := row_cell HK.out 2 _ rfl
      have y3 := row_cell HK.out 3 _ rfl
      have y4 := row_cell HK.out 4 _ rfl
      have y5 := row_cell HK.out 5 _ rfl
      obtain ⟨Z, hZ⟩ : ∃ Z, (((((wr.setCell ⟨w.heap.size, 0, none⟩ (.slice (some ⟨g0, 0, none⟩) a0.length p0)).setCell ⟨w.heap.size, 1, none⟩ (.slice (some ⟨g1, 0, none⟩) a1.length p1)).setCell ⟨w.heap.size, 2, none⟩ (.slice (some ⟨g2, 0, none⟩) a2.length p2)).setCell ⟨w.heap.size, 3, none⟩ (.int .i64 b0)).setCell ⟨w.heap.size, 4, none⟩ (.int .i64 b1)).setCell ⟨w.heap.size, 5, none⟩ (.int .i64 b2) = Z := ⟨_, rfl⟩
      have ht : Btn w.heap.size (w.heap.size + 1) wr Z := by rw [← hZ]; exact (((((btn_set _ _ _ _).trans (btn_set _ _ _ _)).trans (btn_set _ _ _ _)).trans (btn_set _ _ _ _)).trans (btn_set _ _ _ _)).trans (btn_set _ _ _ _)
      have hrow : Z.heap[w.heap.size]? = some (.cells #[.slice (some ⟨g0, 0, none⟩) a0.length p0, .slice (some ⟨g1, 0, none⟩) a1.length p1, .slice (some ⟨g2, 0, none⟩) a2.length p2, .int .i64 b0, .int .i64 b1, .int .i64 b2] 86 (0, 0)) := by
        rw [← hZ]; exact row_set (row_set (row_set (row_set (row_set (row_set HQ.out 0 _) 1 _) 2 _) 3 _) 4 _) 5 _
      have HF : Hid (Shg Z w.heap.size (.slice (some ⟨g0, 0, none⟩) a0.length p0) a0 ∧ Shg Z w.heap.size (.slice (some ⟨g1, 0, none⟩) a1.length p1) a1 ∧ Shg Z w.heap.size (.slice (some ⟨g2, 0, none⟩) a2.length p2) a2) :=
        ⟨((h0 (by omega)).btn ht (by omega)).wide (by omega), ((h1 (by omega)).btn ht (by omega)).wide (by omega), ((h2 (by omega)).btn ht (by omega)).wide (by omega)⟩
      have HZ2 := Lib.hid (HB.out.trans (ht.below (Nat.le_refl _) HB.out.size))
      have HW := Lib.hid hrow
      have q0 := row_cell HQ.out 0 _ rfl
      have q1 := row_cell HQ.out 1 _ rfl
      have q2 := row_cell HQ.out 2 _ rfl
      have q3 := row_cell HQ.out 3 _ rfl
      have q4 := row_cell HQ.out 4 _ rfl
      have q5 := row_cell HQ.out 5 _ rfl
      have f0 := row_free HQ.out 0
      have f1 := row_free HQ.out 1
      have f2 := row_free HQ.out 2
      have f3 := row_free HQ.out 3
      have f4 := row_free HQ.out 4
      have f5 := row_free HQ.out 5
      clear h0 h1 h2 hrow ht hz
      go_wp2
      have r0 := row_cell HW.out 0 _ rfl
      have r1 := row_cell HW.out 1 _ rfl
      have r2 := row_cell HW.out 2 _ rfl
      have r3 := row_cell HW.out 3 _ rfl
      have r4 := row_cell HW.out 4 _ rfl
      have r5 := row_cell HW.out 5 _ rfl
      exact bodyPost_ret (v := .agg #[.slice (some ⟨g0, 0, none⟩) a0.length p0, .slice (some ⟨g1, 0, none⟩) a1.length p1, .slice (some ⟨g2, 0, none⟩) a2.length p2, .int .i64 b0, .int .i64 b1, .int .i64 b2]) (by simp [results, Tryd.results55, go_sem, r0, r1, r2, r3, r4, r5]) rfl ⟨_, _, _, rfl, HF, HZ2.out⟩

end Go.Proofs.YtadoihddmbbjoaaDoor

namespace Go.Proofs.YtadoihddmbbjoaaDoor
open Go.RowKit Go.Lib

/-- Block d is a disk that holds the store S; all that is its own lies from lo on. -/
def Dsk (w : World) (lo d : Nat) (S : StT) : Prop :=
  ∃ s0 s1 s2 t0 t1 t2 : Value, w.heap[d]? = some (.cells #[s0, s1, s2, .int .i64 (S.last.getD 0 0), .int .i64 (S.last.getD 1 0), .int .i64 (S.last.getD 2 0), t0, t1, t2, .int .i64 (S.slast.getD 0 0), .int .i64 (S.slast.getD 1 0), .int .i64 (S.slast.getD 2 0), .int .i64 (S.floors.getD 0 0), .int .i64 (S.floors.getD 1 0), .int .i64 (S.floors.getD 2 0)] 88 (0, 0)) ∧ lo ≤ d ∧ Shg w lo s0 (S.now.getD 0 []) ∧ Shg w lo s1 (S.now.getD 1 []) ∧ Shg w lo s2 (S.now.getD 2 []) ∧ Shg w lo t0 (S.sure.getD 0 []) ∧ Shg w lo t1 (S.sure.getD 1 []) ∧ Shg w lo t2 (S.sure.getD 2 []) ∧ (s0.ownBlock ≠ some d ∧ s1.ownBlock ≠ some d ∧ s2.ownBlock ≠ some d ∧ t0.ownBlock ≠ some d ∧ t1.ownBlock ≠ some d ∧ t2.ownBlock ≠ some d)
theorem Dsk.keep {w w1 : World} {lo d : Nat} {S : StT} (h : Dsk w lo d S) (hb : Below w.heap.size w w1) : Dsk w1 lo d S := by
  obtain ⟨s0, s1, s2, t0, t1, t2, h0, hl, h1, h2, h3, h4, h5, h6, h7⟩ := h
  exact ⟨s0, s1, s2, t0, t1, t2, row_keep h0 hb, hl, h1.keep hb, h2.keep hb, h3.keep hb, h4.keep hb, h5.keep hb, h6.keep hb, h7⟩
theorem Dsk.wide {w : World} {lo lo' d : Nat} {S : StT} (h : Dsk w lo d S) (hl' : lo' ≤ lo) : Dsk w lo' d S := by
  obtain ⟨s0, s1, s2, t0, t1, t2, h0, hl, h1, h2, h3, h4, h5, h6, h7⟩ := h
  exact ⟨s0, s1, s2, t0, t1, t2, h0, Nat.le_trans hl' hl, h1.wide hl', h2.wide hl', h3.wide hl', h4.wide hl', h5.wide hl', h6.wide hl', h7⟩

theorem row_allocB {X w' : World} {C : Array Value} {T : TypeId} (hb : Below (X.alloc (.cells C T)).heap.size (X.alloc (.cells C T)) w') : w'.heap[X.heap.size]? = some (.cells C T (0, 0)) := row_keep (row_new X C T) hb
theorem row_allocD {X w' : World} {C : Array Value} {T : TypeId} (hb : Below (X.alloc (.cells C T)).drew.heap.size (X.alloc (.cells C T)).drew w') : w'.heap[X.heap.size]? = some (.cells C T (0, 0)) := row_keep (w := (X.alloc (.cells C T)).drew) (row_new X C T) hb
theorem row_allocE {X w' : World} {C : Array Value} {T : TypeId} (hb : Below (X.drew.alloc (.cells C T)).heap.size (X.drew.alloc (.cells C T)) w') : w'.heap[X.heap.size]? = some (.cells C T (0, 0)) := row_keep (w := X.drew.alloc (.cells C T)) (row_new X.drew C T) hb

theorem bel1 {w w1 W : World} (h : Below w.heap.size w w1) (k : Below w1.heap.size w1 W) : Below w.heap.size w W := h.trans (k.mono h.size)

theorem cell_btn {w w1 : World} {lo hi b o : Nat} {v : Value} (hb : Btn lo hi w w1) (hd : b < lo ∨ hi ≤ b) (h : w.cell? ⟨b, o, none⟩ = some v) : w1.cell? ⟨b, o, none⟩ = some v :=
  (World.cell?_of_block (a := ⟨b, o, none⟩) (hb.block b (World.block_lt_of_cell? w _ h) (by omega))).trans h
theorem Shg.off {w w1 : World} {lo g : Nat} {v : Value} {t : List UInt8} (h : Shg w lo v t) (hb : Btn g (g + 1) w w1) (hg : v.ownBlock ≠ some g) : Shg w1 lo v t := by
  obtain ⟨g', cap, e, h1, h2, h3, h4⟩ := h
  have hne : g' ≠ g := fun e' => hg (by rw [e, e']; rfl)
  exact ⟨g', cap, e, h1, h2, Nat.lt_of_lt_of_le h3 hb.size, fun j hj => (World.cell?_of_block (a := ⟨g', j, none⟩) (hb.block g' h3 (by omega))).trans (h4 j hj)⟩
theorem Shg.lt {w : World} {lo : Nat} {v : Value} {t : List UInt8} (h : Shg w lo v t) : ∀ b, v.ownBlock = some b → lo ≤ b ∧ b < w.heap.size := by
  obtain ⟨g', cap, e, h1, h2, h3, h4⟩ := h
  intro b hb
  rw [e] at hb
  simp [Value.ownBlock] at hb
  omega

/-- What diskOf leaves. -/
def ToD (w : World) (S : StT) (e : Ending) (w' : World) : Prop := ∃ d, e = .returned (.tuple #[.pointer (some ⟨d, 0, none⟩), .bool true]) ∧ Hid (Dsk w' w.heap.size d S) ∧ Below w.heap.size w w'
/-- .. of what is no store. -/
def ToD0 (w : World) (e : Ending) (w' : World) : Prop := e = .returned (.tuple #[.pointer none, .bool false]) ∧ Below w.heap.size w w'

set_option maxRecDepth 100000 in
set_option maxHeartbeats 4000000 in
theorem diskOf_no (v0 v1 v2 v3 v4 : Value) (S : StT) (w : World) (h : Sto w v0 v1 v2 v3 v4 S) (hz : szT S) (hq : stOkB S = false) :
    Calls Tryd.prog 28 #[.agg #[v0, v1, v2, v3, v4]] w (ToD0 w) := by
  obtain ⟨a0, c0, rfl⟩ := h.now.form
  obtain ⟨a1, c1, rfl⟩ := h.sure.form
  obtain ⟨a2, c2, rfl⟩ := h.last.form
  obtain ⟨a3, c3, rfl⟩ := h.slast.form
  obtain ⟨a4, c4, rfl⟩ := h.floors.form
  obtain ⟨W, hW⟩ : ∃ W, w.alloc (.cells #[.slice a0 S.now.length c0, .slice a1 S.sure.length c1, .slice a2 S.last.length c2, .slice a3 S.slast.length c3, .slice a4 S.floors.length c4] 30) = W := ⟨_, rfl⟩
  have hal : Below w.heap.size w W := by rw [← hW]; exact (Below.refl _ _).alloc (Nat.le_refl _) _
  have A0 : Box5 W w.heap.size (.slice a0 S.now.length c0) (.slice a1 S.sure.length c1) (.slice a2 S.last.length c2) (.slice a3 S.slast.length c3) (.slice a4 S.floors.length c4) := by rw [← hW]; exact new_box5 w _ _ _ _ _ _
  have K := implStoreOk_any _ _ _ _ _ S W (h.keep hal) hz
  rw [hq] at K
  have HK := Lib.hid K
  have HE := Lib.hid hal
  obtain ⟨x0, x1, x2, x3, x4⟩ := id A0
  clear h hal A0 K
  go_enter Tryd.func28, Tryd.ntmps28
  go_wp2_with fail
  clear hW
  refine HK.out.mono ?_; rintro e w1 ⟨rfl, hb⟩
  go_wp2
  go_ret2
  exact ⟨rfl, HE.out.trans (hb.mono HE.out.size)⟩

/-- Three sheets and three numbers, as a value. -/
def Stt (w : World) (lo : Nat) (v : Value) (a0 a1 a2 : List UInt8) (b0 b1 b2 : Int) : Prop :=
  ∃ s0 s1 s2, v = .agg #[s0, s1, s2, .int .i64 b0, .int .i64 b1, .int .i64 b2] ∧ Shg w lo s0 a0 ∧ Shg w lo s1 a1 ∧ Shg w lo s2 a2
theorem Stt.keep {w w1 : World} {lo : Nat} {v : Value} {a0 a1 a2 : List UInt8} {b0 b1 b2 : Int} (h : Stt w lo v a0 a1 a2 b0 b1 b2) (hb : Below w.heap.size w w1) : Stt w1 lo v a0 a1 a2 b0 b1 b2 := by
  obtain ⟨s0, s1, s2, e, h0, h1, h2⟩ := h
  exact ⟨s0, s1, s2, e, h0.keep hb, h1.keep hb, h2.keep hb⟩
theorem Stt.wide {w : World} {lo lo' : Nat} {v : Value} {a0 a1 a2 : List UInt8} {b0 b1 b2 : Int} (h : Stt w lo v a0 a1 a2 b0 b1 b2) (hl : lo' ≤ lo) : Stt w lo' v a0 a1 a2 b0 b1 b2 := by
  obtain ⟨s0, s1, s2, e, h0, h1, h2⟩ := h
  exact ⟨s0, s1, s2, e, h0.wide hl, h1.wide hl, h2.wide hl⟩
/-- None of its sheets lies in block g. -/
def Off (v : Value) (g : Nat) : Prop := ∀ s0 s1 s2 p q r, v = .agg #[s0, s1, s2, p, q, r] → s0.ownBlock ≠ some g ∧ s1.ownBlock ≠ some g ∧ s2.ownBlock ≠ some g
theorem Stt.off {w : World} {lo g : Nat} {v : Value} {a0 a1 a2 : List UInt8} {b0 b1 b2 : Int} (h : Stt w lo v a0 a1 a2 b0 b1 b2) (hg : g < lo ∨ w.heap.size ≤ g) : Off v g := by
  obtain ⟨s0, s1, s2, e, h0, h1, h2⟩ := h
  intro s0' s1' s2' p q r e'
  rw [e] at e'
  injection e' with e'
  simp only [Array.mk.injEq, List.cons.injEq] at e'
  obtain ⟨rfl, rfl, rfl, -⟩ := e'
  exact ⟨fun e => by have := h0.lt g e; omega, fun e => by have := h1.lt g e; omega, fun e => by have := h2.lt g e; omega⟩

/-- While a disk is made: what holds of what has come up. -/
structure Dst (w1 : World) (rd : Nat → Option Value) (n0 n1 n2 : List UInt8) (l0 l1 l2 : Int) (u0 u1 u2 : List UInt8) (m0 m1 m2 : Int) (L : Nat → Bool) (x : Nat → Value) (w : World) : Prop where
  bel : Below w1.heap.size w1 w
  r : ∀ i v, rd i = some v → L i = true → x i = v
  c4 : L 4 = true → Stt w w1.heap.size (x 4) n0 n1 n2 l0 l1 l2
  c9 : L 9 = true → Stt w w1.heap.size (x 9) u0 u1 u2 m0 m1 m2
  al : L 15 = true → ∃ g, x 15 = .pointer (some ⟨g, 0, none⟩) ∧ w1.heap.size ≤ g ∧ w.heap[g]? = some (.cells #[.slice none 0 0, .slice none 0 0, .slice none 0 0, .int .i64 0, .int .i64 0, .int .i64 0, .slice none 0 0, .slice none 0 0, .slice none 0 0, .int .i64 0, .int .i64 0, .int .i64 0, .int .i64 0, .int .i64 0, .int .i64 0] 88 (0, 0)) ∧ (L 4 = true → Off (x 4) g) ∧ (L 9 = true → Off (x 9) g)
theorem Dst.read {w1 w : World} {rd : Nat → Option Value} {n0 n1 n2 u0 u1 u2 : List UInt8} {l0 l1 l2 m0 m1 m2 : Int} {L : Nat → Bool} {x : Nat → Value} (h : Dst w1 rd n0 n1 n2 l0 l1 l2 u0 u1 u2 m0 m1 m2 L x w) {i : Nat} (v : Value)
    (hi : i ≠ 4 ∧ i ≠ 9 ∧ i ≠ 15) (hv : ∀ u, rd i = some u → v = u) : Dst w1 rd n0 n1 n2 l0 l1 l2 u0 u1 u2 m0 m1 m2 (lset L i) (upd x i v) w := by
  obtain ⟨i1, i2, i3⟩ := hi
  refine ⟨h.bel, fun k u hk hl => ?_, fun hl => ?_, fun hl => ?_, fun hl => ?_⟩
  · by_cases e : k = i
    · subst e; rw [upd_eq]; exact hv u hk
    · rw [upd_ne e]; rw [lset_ne e] at hl; exact h.r k u hk hl
  · rw [upd_ne (Ne.symm i1)]; rw [lset_ne (Ne.symm i1)] at hl; exact h.c4 hl
  · rw [upd_ne (Ne.symm i2)]; rw [lset_ne (Ne.symm i2)] at hl; exact h.c9 hl
  · rw [lset_ne (Ne.symm i3)] at hl
    obtain ⟨g, h1, h2, h3, h4, h5⟩ := h.al hl
    rw [upd_ne (Ne.symm i3), upd_ne (Ne.symm i1), upd_ne (Ne.symm i2), lset_ne (Ne.symm i1), lset_ne (Ne.symm i2)]
    exact ⟨g, h1, h2, h3, h4, h5⟩
theorem Dst.call4 {w1 w w' : World} {rd : Nat → Option Value} {n0 n1 n2 u0 u1 u2 : List UInt8} {l0 l1 l2 m0 m1 m2 : Int} {L : Nat → Bool} {x : Nat → Value} (h : Dst w1 rd n0 n1 n2 l0 l1 l2 u0 u1 u2 m0 m1 m2 L x w) (v : Value) (hr : rd 4 = none)
    (hv : Stt w' w.heap.size v n0 n1 n2 l0 l1 l2) (hb : Below w.heap.size w w') : Dst w1 rd n0 n1 n2 l0 l1 l2 u0 u1 u2 m0 m1 m2 (lset L 4) (upd x 4 v) w' := by
  have hs := h.bel.size
  refine ⟨h.bel.trans (hb.mono hs), fun k u hk hl => ?_, fun _ => ?_, fun hl => ?_, fun hl => ?_⟩
  · have e : k ≠ 4 := fun e => by rw [e, hr] at hk; cases hk
    rw [upd_ne e]; rw [lset_ne e] at hl; exact h.r k u hk hl
  · rw [upd_eq]; exact hv.wide hs
  · exact (h.c9 hl).keep hb
  · obtain ⟨g, h1, h2, h3, h4, h5⟩ := h.al hl
    have hg := (Array.getElem?_eq_some_iff.1 h3).1
    exact ⟨g, h1, h2, row_keep h3 hb, fun _ => hv.off (.inl hg), h5⟩
theorem Dst.call9 {w1 w w' : World} {rd : Nat → Option Value} {n0 n1 n2 u0 u1 u2 : List UInt8} {l0 l1 l2 m0 m1 m2 : Int} {L : Nat → Bool} {x : Nat → Value} (h : Dst w1 rd n0 n1 n2 l0 l1 l2 u0 u1 u2 m0 m1 m2 L x w) (v : Value) (hr : rd 9 = none)
    (hv : Stt w' w.heap.size v u0 u1 u2 m0 m1 m2) (hb : Below w.heap.size w w') : Dst w1 rd n0 n1 n2 l0 l1 l2 u0 u1 u2 m0 m1 m2 (lset L 9) (upd x 9 v) w' := by
  have hs := h.bel.size
  refine ⟨h.bel.trans (hb.mono hs), fun k u hk hl => ?_, fun hl => ?_, fun _ => ?_, fun hl => ?_⟩
  · have e : k ≠ 9 := fun e => by rw [e, hr] at hk; cases hk
    rw [upd_ne e]; rw [lset_ne e] at hl; exact h.r k u hk hl
  · exact (h.c4 hl).keep hb
  · rw [upd_eq]; exact hv.wide hs
  · obtain ⟨g, h1, h2, h3, h4, h5⟩ := h.al hl
    have hg := (Array.getElem?_eq_some_iff.1 h3).1
    exact ⟨g, h1, h2, row_keep h3 hb, h4, fun _ => hv.off (.inl hg)⟩
theorem Dst.made {w1 w : World} {rd : Nat → Option Value} {n0 n1 n2 u0 u1 u2 : List UInt8} {l0 l1 l2 m0 m1 m2 : Int} {L : Nat → Bool} {x : Nat → Value} (h : Dst w1 rd n0 n1 n2 l0 l1 l2 u0 u1 u2 m0 m1 m2 L x w) (hr : rd 15 = none) :
    Dst w1 rd n0 n1 n2 l0 l1 l2 u0 u1 u2 m0 m1 m2 (lset L 15) (upd x 15 (.pointer (some ⟨w.heap.size, 0, none⟩))) (w.alloc (.cells #[.slice none 0 0, .slice none 0 0, .slice none 0 0, .int .i64 0, .int .i64 0, .int .i64 0, .slice none 0 0, .slice none 0 0, .slice none 0 0, .int .i64 0, .int .i64 0, .int .i64 0, .int .i64 0, .int .i64 0, .int .i64 0] 88)) := by
  have hs := h.bel.size
  have hb : Below w.heap.size w (w.alloc (.cells #[.slice none 0 0, .slice none 0 0, .slice none 0 0, .int .i64 0, .int .i64 0, .int .i64 0, .slice none 0 0, .slice none 0 0, .slice none 0 0, .int .i64 0, .int .i64 0, .int .i64 0, .int .i64 0, .int .i64 0, .int .i64 0] 88)) := (Below.refl _ _).alloc (Nat.le_refl _) _
  refine ⟨h.bel.trans (hb.mono hs), fun k u hk hl => ?_, fun hl => ?_, fun hl => ?_, fun _ => ?_⟩
  · have e : k ≠ 15 := fun e => by rw [e, hr] at hk; cases hk
    rw [upd_ne e]; rw [lset_ne e] at hl; exact h.r k u hk hl
  · exact (h.c4 hl).keep hb
  · exact (h.c9 hl).keep hb
  · exact ⟨w.heap.size, rfl, hs, row_new _ _ _, fun hl => (h.c4 hl).off (.inr (Nat.le_refl _)), fun hl => (h.c9 hl).off (.inr (Nat.le_refl _))⟩

theorem wp_loadR {o : Oper} {a : Act} {w : World} {K : Act → World → Prop} {Q : Exit → Act → World → Prop} (ty : TypeId) (y : Operand) (ho : o.op = .load ty y) (ad : Value) (hy : a.eval y = ad) (v : Value)
    (hr : (Instr.loadAt ty ad).run Tryd.prog w = .ok v w) (h : K (a.put o.dst v) w) : o.wp Tryd.prog a w K Q := by
  unfold Oper.wp execOp
  simp only [ho, hy, Sem.run_bind, hr, Result.andThen_ok, Sem.run_pure]
  exact h
theorem load_arr3 (w : World) (b o : Nat) (f0 f1 f2 : Int) (h0 : w.cell? ⟨b, o, none⟩ = some (.int .i64 f0)) (h1 : w.cell? ⟨b, o + 1, none⟩ = some (.int .i64 f1)) (h2 : w.cell? ⟨b, o + 2, none⟩ = some (.int .i64 f2)) :
    (Instr.loadAt 84 (.pointer (some ⟨b, o, none⟩))).run Tryd.prog w = .ok (.agg #[.int .i64 f0, .int .i64 f1, .int .i64 f2]) w := by go_simp

/-- The frame of diskOf. -/
def Fd (t0 t1 t2 t3 : Value) (q5 q6 q7 : Value) (x : Nat → Value) : Act := { tmps := #[t0, t1, t2, t3, x 15, q5, q6, q7, x 0, x 1, x 2, x 3, x 4, x 5, x 6, x 7, x 8, x 9, x 10, x 11, x 12, x 13, x 14], defers := [] }

set_option maxRecDepth 100000 in
set_option maxHeartbeats 8000000 in
theorem diskOf_yes (v0 v1 v2 v3 v4 : Value) (S : StT) (w : World) (h : Sto w v0 v1 v2 v3 v4 S) (hz : szT S) (hq : stOkB S = true) :
    Calls Tryd.prog 28 #[.agg #[v0, v1, v2, v3, v4]] w (ToD w S) := by
  obtain ⟨z0, z1, z2, z3, z4⟩ := stOk_lens hq
  obtain ⟨N, U, L, M, F⟩ := S
  obtain ⟨n0, n1, n2, rfl⟩ := three z0
  obtain ⟨u0, u1, u2, rfl⟩ := three z1
  obtain ⟨l0, l1, l2, rfl⟩ := three z2
  obtain ⟨m0, m1, m2, rfl⟩ := three z3
  obtain ⟨f0, f1, f2, rfl⟩ := three z4
  obtain ⟨h0, h1, h2, h3, h4⟩ := id h
  change Vls w v0 3 (strF [n0, n1, n2]) at h0
  change Vls w v1 3 (strF [u0, u1, u2]) at h1
  change Vls w v2 3 (intF [l0, l1, l2]) at h2
  change Vls w v3 3 (intF [m0, m1, m2]) at h3
  change Vls w v4 3 (intF [f0, f1, f2]) at h4
  have hK := fun W hW => implStoreOk_any v0 v1 v2 v3 v4 ⟨[n0, n1, n2], [u0, u1, u2], [l0, l1, l2], [m0, m1, m2], [f0, f1, f2]⟩ W (h.keep (w1 := W) hW) hz
  rw [hq] at hK
  obtain ⟨a0, c0, rfl⟩ := h0.form
  obtain ⟨a1, c1, rfl⟩ := h1.form
  obtain ⟨a2, c2, rfl⟩ := h2.form
  obtain ⟨a3, c3, rfl⟩ := h3.form
  obtain ⟨a4, c4, rfl⟩ := h4.form
  obtain ⟨a4', c4', e4, l4, r4, C4⟩ := id h4
  obtain ⟨rfl, -, rfl⟩ := (Value.slice.injEq ..).mp e4
  obtain ⟨b4, o4, rfl, D4⟩ := C4 (by omega)
  clear C4
  unfold maxLen at r4
  clear h e4 z0 z1 z2 z3 z4 hq hz
  obtain ⟨W, hW⟩ : ∃ W, w.alloc (.cells #[.slice a0 3 c0, .slice a1 3 c1, .slice a2 3 c2, .slice a3 3 c3, .slice (some ⟨b4, o4, none⟩) 3 c4] 30) = W := ⟨_, rfl⟩
  have hal : Below w.heap.size w W := by rw [← hW]; exact (Below.refl _ _).alloc (Nat.le_refl _) _
  have A0 : Box5 W w.heap.size (.slice a0 3 c0) (.slice a1 3 c1) (.slice a2 3 c2) (.slice a3 3 c3) (.slice (some ⟨b4, o4, none⟩) 3 c4) := by rw [← hW]; exact new_box5 w _ _ _ _ _ _
  have HK := Lib.hid (hK W hal)
  have HE := Lib.hid hal
  have HA := Lib.hid A0
  have H0 := Lib.hid h0
  have H1 := Lib.hid h1
  have H2 := Lib.hid h2
  have H3 := Lib.hid h3
  have H4 := Lib.hid D4
  obtain ⟨x0, x1, x2, x3, x4⟩ := id A0
  clear hal A0 h0 h1 h2 h3 h4 D4 hK
  go_enter Tryd.func28, Tryd.ntmps28
  go_wp2_with fail
  clear hW
  refine HK.out.mono ?_; rintro e w1 ⟨rfl, hb⟩
  have HE1 := Lib.hid (HE.out.trans (hb.mono HE.out.size))
  have HA1 := Lib.hid (HA.out.keep hb)
  clear x0 x1 x2 x3 x4 HK HE HA hb
  go_wp2_with fail
  obtain ⟨rd, hrd⟩ : ∃ rd : Nat → Option Value, rd = fun i => match i with | 0 => some (.pointer (some ⟨w.heap.size, 0, none⟩)) | 1 => some (.slice a0 3 c0) | 2 => some (.pointer (some ⟨w.heap.size, 2, none⟩)) | 3 => some (.slice a2 3 c2) | 5 => some (.pointer (some ⟨w.heap.size, 1, none⟩)) | 6 => some (.slice a1 3 c1) | 7 => some (.pointer (some ⟨w.heap.size, 3, none⟩)) | 8 => some (.slice a3 3 c3) | 10 => some (.pointer (some ⟨w.heap.size, 4, none⟩)) | 11 => some (.slice (some ⟨b4, o4, none⟩) 3 c4) | 12 => some (.pointer (some ⟨b4, o4, none⟩)) | 13 => some (.agg #[.int .i64 f0, .int .i64 f1, .int .i64 f2]) | _ => none := ⟨_, rfl⟩
  refine wp_region_inv (by kernel_rfl) (by kernel_rfl) (fun L a w' => ∃ x : Nat → Value, a = Fd (.agg #[.slice a0 3 c0, .slice a1 3 c1, .slice a2 3 c2, .slice a3 3 c3, .slice (some ⟨b4, o4, none⟩) 3 c4]) (.pointer (some ⟨w.heap.size, 0, none⟩)) (.pointer none) (.bool false) (.agg #[.slice a0 3 c0, .slice a1 3 c1, .slice a2 3 c2, .slice a3 3 c3, .slice (some ⟨b4, o4, none⟩) 3 c4]) (.bool true) (.bool false) x ∧
    ((L 16 = false ∧ (L 14 = true → L 4 = true ∧ L 9 = true ∧ x 14 = .agg ((x 4).cells ++ (x 9).cells ++ #[.int .i64 f0, .int .i64 f1, .int .i64 f2])) ∧ Dst w1 rd n0 n1 n2 l0 l1 l2 u0 u1 u2 m0 m1 m2 L x w') ∨ ((∀ j, j < 17 → L j = true) ∧ ∃ g, x 15 = .pointer (some ⟨g, 0, none⟩) ∧ Dsk w' w1.heap.size g ⟨[n0, n1, n2], [u0, u1, u2], [l0, l1, l2], [m0, m1, m2], [f0, f1, f2]⟩ ∧ Below w1.heap.size w1 w'))) ?_ ?_ ?_
  · exact ⟨fun k => if k = 15 then undef else undef, rfl, .inl ⟨rfl, fun h => (by cases h), ⟨(Below.refl _ _).drew, fun i v _ h => (by cases h), fun h => (by cases h), fun h => (by cases h), fun h => (by cases h)⟩⟩⟩
  · rintro L a w' i oi ⟨x, rfl, hI⟩ ho hl hall
    have hi : i < 17 := (Array.getElem?_eq_some_iff.1 ho).1
    have hJ : L 16 = false ∧ (L 14 = true → L 4 = true ∧ L 9 = true ∧ x 14 = .agg ((x 4).cells ++ (x 9).cells ++ #[.int .i64 f0, .int .i64 f1, .int .i64 f2])) ∧ Dst w1 rd n0 n1 n2 l0 l1 l2 u0 u1 u2 m0 m1 m2 L x w' := by
      rcases hI with hI | ⟨h16, -⟩
      · exact hI
      · rw [h16 i hi] at hl; cases hl
    clear hI
    obtain ⟨j16, b14, hC⟩ := hJ
    have B : Below w.heap.size w w' := bel1 HE1.out hC.bel
    obtain rfl | rfl | rfl | rfl | rfl | rfl | rfl | rfl | rfl | rfl | rfl | rfl | rfl | rfl | rfl | rfl | rfl : i = 0 ∨ i = 1 ∨ i = 2 ∨ i = 3 ∨ i = 4 ∨ i = 5 ∨ i = 6 ∨ i = 7 ∨ i = 8 ∨ i = 9 ∨ i = 10 ∨ i = 11 ∨ i = 12 ∨ i = 13 ∨ i = 14 ∨ i = 15 ∨ i = 16 := by omega
    · obtain rfl := Option.some.inj ho
      rw [if_pos (by rfl)]
      refine wp_value (v := .pointer (some ⟨w.heap.size, 0, none⟩)) (w' := w') (by kernel_rfl) ?_
      exact ⟨upd x 0 _, rfl, .inl ⟨j16, fun h => ⟨lset_mono (b14 h).1, lset_mono (b14 h).2.1, (b14 h).2.2⟩, hC.read (i := 0) _ (by omega) (fun u hu => by rw [hrd] at hu; exact Option.some.inj hu)⟩⟩
    · obtain rfl := Option.some.inj ho
      rw [if_pos (by rfl)]
      have d := hall ⟨0, .data⟩ (by simp) rfl
      refine wp_load1 22 (.tmp 8) rfl ⟨w.heap.size, 0, none⟩ (hC.r 0 _ (congrFun hrd 0) d) (.slice a0 3 c0) (HA1.out.keep hC.bel).1 (fun w hc => load_sliceS w _ _ _ _ hc) ?_
      exact ⟨upd x 1 _, rfl, .inl ⟨j16, fun h => ⟨lset_mono (b14 h).1, lset_mono (b14 h).2.1, (b14 h).2.2⟩, hC.read (i := 1) _ (by omega) (fun u hu => by rw [hrd] at hu; exact Option.some.inj hu)⟩⟩
    · obtain rfl := Option.some.inj ho
      rw [if_pos (by rfl)]
      refine wp_value (v := .pointer (some ⟨w.heap.size, 2, none⟩)) (w' := w') (by kernel_rfl) ?_
      exact ⟨upd x 2 _, rfl, .inl ⟨j16, fun h => ⟨lset_mono (b14 h).1, lset_mono (b14 h).2.1, (b14 h).2.2⟩, hC.read (i := 2) _ (by omega) (fun u hu => by rw [hrd] at hu; exact Option.some.inj hu)⟩⟩
    · obtain rfl := Option.some.inj ho
      rw [if_pos (by rfl)]
      have d := hall ⟨2, .data⟩ (by simp) rfl
      refine wp_load1 23 (.tmp 10) rfl ⟨w.heap.size, 2, none⟩ (hC.r 2 _ (congrFun hrd 2) d) (.slice a2 3 c2) (HA1.out.keep hC.bel).2.2.1 (fun w hc => load_sliceI w _ _ _ _ hc) ?_
      exact ⟨upd x 3 _, rfl, .inl ⟨j16, fun h => ⟨lset_mono (b14 h).1, lset_mono (b14 h).2.1, (b14 h).2.2⟩, hC.read (i := 3) _ (by omega) (fun u hu => by rw [hrd] at hu; exact Option.some.inj hu)⟩⟩
    · obtain rfl := Option.some.inj ho
      rw [if_pos (by rfl)]
      have d1 := hall ⟨1, .data⟩ (by simp) rfl
      have d2 := hall ⟨3, .data⟩ (by simp) rfl
      have e1 := hC.r 1 _ (congrFun hrd 1) d1
      have e2 := hC.r 3 _ (congrFun hrd 3) d2
      refine wp_enter 55 #[x 1, x 3] (by kernel_rfl) ?_
      rw [e1, e2]
      refine (stateOf_any _ _ n0 n1 n2 l0 l1 l2 w' (H0.out.keep B) (H2.out.keep B)).mono ?_; rintro e w2 ⟨s0, s1, s2, rfl, hS, hb⟩
      exact ⟨_, rfl, upd x 4 _, rfl, .inl ⟨j16, fun h => absurd (b14 h).1 (by show ¬ L 4 = true; rw [hl]; simp), hC.call4 _ (congrFun hrd 4) ⟨_, _, _, rfl, hS.out.1, hS.out.2.1, hS.out.2.2⟩ hb⟩⟩
    · obtain rfl := Option.some.inj ho
      rw [if_pos (by rfl)]
      refine wp_value (v := .pointer (some ⟨w.heap.size, 1, none⟩)) (w' := w') (by kernel_rfl) ?_
      exact ⟨upd x 5 _, rfl, .inl ⟨j16, fun h => ⟨lset_mono (b14 h).1, lset_mono (b14 h).2.1, (b14 h).2.2⟩, hC.read (i := 5) _ (by omega) (fun u hu => by rw [hrd] at hu; exact Option.some.inj hu)⟩⟩
    · obtain rfl := Option.some.inj ho
      rw [if_pos (by rfl)]
      have d := hall ⟨5, .data⟩ (by simp) rfl
      refine wp_load1 22 (.tmp 13) rfl ⟨w.heap.size, 1, none⟩ (hC.r 5 _ (congrFun hrd 5) d) (.slice a1 3 c1) (HA1.out.keep hC.bel).2.1 (fun w hc => load_sliceS w _ _ _ _ hc) ?_
      exact ⟨upd x 6 _, rfl, .inl ⟨j16, fun h => ⟨lset_mono (b14 h).1, lset_mono (b14 h).2.1, (b14 h).2.2⟩, hC.read (i := 6) _ (by omega) (fun u hu => by rw [hrd] at hu; exact Option.some.inj hu)⟩⟩
    · obtain rfl := Option.some.inj ho
      rw [if_pos (by rfl)]
      refine wp_value (v := .pointer (some ⟨w.heap.size, 3, none⟩)) (w' := w') (by kernel_rfl) ?_
      exact ⟨upd x 7 _, rfl, .inl ⟨j16, fun h => ⟨lset_mono (b14 h).1, lset_mono (b14 h).2.1, (b14 h).2.2⟩, hC.read (i := 7) _ (by omega) (fun u hu => by rw [hrd] at hu; exact Option.some.inj hu)⟩⟩
    · obtain rfl := Option.some.inj ho
      rw [if_pos (by rfl)]
      have d := hall ⟨7, .data⟩ (by simp) rfl
      refine wp_load1 23 (.tmp 15) rfl ⟨w.heap.size, 3, none⟩ (hC.r 7 _ (congrFun hrd 7) d) (.slice a3 3 c3) (HA1.out.keep hC.bel).2.2.2.1 (fun w hc => load_sliceI w _ _ _ _ hc) ?_
      exact ⟨upd x 8 _, rfl, .inl ⟨j16, fun h => ⟨lset_mono (b14 h).1, lset_mono (b14 h).2.1, (b14 h).2.2⟩, hC.read (i := 8) _ (by omega) (fun u hu => by rw [hrd] at hu; exact Option.some.inj hu)⟩⟩
    · obtain rfl := Option.some.inj ho
      rw [if_pos (by rfl)]
      have d1 := hall ⟨6, .data⟩ (by simp) rfl
      have d2 := hall ⟨8, .data⟩ (by simp) rfl
      have e1 := hC.r 6 _ (congrFun hrd 6) d1
      have e2 := hC.r 8 _ (congrFun hrd 8) d2
      refine wp_enter 55 #[x 6, x 8] (by kernel_rfl) ?_
      rw [e1, e2]
      refine (stateOf_any _ _ u0 u1 u2 m0 m1 m2 w' (H1.out.keep B) (H3.out.keep B)).mono ?_; rintro e w2 ⟨s0, s1, s2, rfl, hS, hb⟩
      exact ⟨_, rfl, upd x 9 _, rfl, .inl ⟨j16, fun h => absurd (b14 h).2.1 (by show ¬ L 9 = true; rw [hl]; simp), hC.call9 _ (congrFun hrd 9) ⟨_, _, _, rfl, hS.out.1, hS.out.2.1, hS.out.2.2⟩ hb⟩⟩
    · obtain rfl := Option.some.inj ho
      rw [if_pos (by rfl)]
      refine wp_value (v := .pointer (some ⟨w.heap.size, 4, none⟩)) (w' := w') (by kernel_rfl) ?_
      exact ⟨upd x 10 _, rfl, .inl ⟨j16, fun h => ⟨lset_mono (b14 h).1, lset_mono (b14 h).2.1, (b14 h).2.2⟩, hC.read (i := 10) _ (by omega) (fun u hu => by rw [hrd] at hu; exact Option.some.inj hu)⟩⟩
    · obtain rfl := Option.some.inj ho
      rw [if_pos (by rfl)]
      have d := hall ⟨10, .data⟩ (by simp) rfl
      refine wp_load1 23 (.tmp 18) rfl ⟨w.heap.size, 4, none⟩ (hC.r 10 _ (congrFun hrd 10) d) (.slice (some ⟨b4, o4, none⟩) 3 c4) (HA1.out.keep hC.bel).2.2.2.2 (fun w hc => load_sliceI w _ _ _ _ hc) ?_
      exact ⟨upd x 11 _, rfl, .inl ⟨j16, fun h => ⟨lset_mono (b14 h).1, lset_mono (b14 h).2.1, (b14 h).2.2⟩, hC.read (i := 11) _ (by omega) (fun u hu => by rw [hrd] at hu; exact Option.some.inj hu)⟩⟩
    · obtain rfl := Option.some.inj ho
      rw [if_pos (by rfl)]
      have d := hall ⟨11, .data⟩ (by simp) rfl
      refine wp_arr 84 (.tmp 19) rfl _ (.pointer (some ⟨b4, o4, none⟩)) (hC.r 11 _ (congrFun hrd 11) d) (run_arrayAt (P := Tryd.prog) w' 84 _ 3 (some ⟨b4, o4, none⟩) 3 c4 Tryd.underlying84 (Nat.le_refl _)) ?_
      exact ⟨upd x 12 _, rfl, .inl ⟨j16, fun h => ⟨lset_mono (b14 h).1, lset_mono (b14 h).2.1, (b14 h).2.2⟩, hC.read (i := 12) _ (by omega) (fun u hu => by rw [hrd] at hu; exact Option.some.inj hu)⟩⟩
    · obtain rfl := Option.some.inj ho
      rw [if_pos (by rfl)]
      have d := hall ⟨12, .data⟩ (by simp) rfl
      refine wp_loadR 84 (.tmp 20) rfl _ (hC.r 12 _ (congrFun hrd 12) d) (.agg #[.int .i64 f0, .int .i64 f1, .int .i64 f2]) (load_arr3 w' b4 o4 f0 f1 f2 (cell_keep B (H4.out 0 (by omega))) (cell_keep B (H4.out 1 (by omega))) (cell_keep B (H4.out 2 (by omega)))) ?_
      exact ⟨upd x 13 _, rfl, .inl ⟨j16, fun h => ⟨lset_mono (b14 h).1, lset_mono (b14 h).2.1, (b14 h).2.2⟩, hC.read (i := 13) _ (by omega) (fun u hu => by rw [hrd] at hu; exact Option.some.inj hu)⟩⟩
    · obtain rfl := Option.some.inj ho
      rw [if_pos (by rfl)]
      have d4 := hall ⟨4, .data⟩ (by simp) rfl
      have d9 := hall ⟨9, .data⟩ (by simp) rfl
      have d13 := hall ⟨13, .data⟩ (by simp) rfl
      have e13 := hC.r 13 _ (congrFun hrd 13) d13
      obtain ⟨s0, s1, s2, e4, hs0, hs1, hs2⟩ := hC.c4 d4
      obtain ⟨t0, t1, t2, e9, ht0, ht1, ht2⟩ := hC.c9 d9
      obtain ⟨g0, p0, rfl⟩ := hs0.form
      obtain ⟨g1, p1, rfl⟩ := hs1.form
      obtain ⟨g2, p2, rfl⟩ := hs2.form
      obtain ⟨g3, p3, rfl⟩ := ht0.form
      obtain ⟨g4, p4, rfl⟩ := ht1.form
      obtain ⟨g5, p5, rfl⟩ := ht2.form
      have hb : Tryd.prog.built 88 [(0, x 4), (1, x 9), (2, x 13)] = some ((x 4).cells ++ (x 9).cells ++ #[.int .i64 f0, .int .i64 f1, .int .i64 f2]) := by
        rw [e4, e9, e13]; kernel_rfl
      refine wp_build2 88 _ rfl ((x 4).cells ++ (x 9).cells ++ #[.int .i64 f0, .int .i64 f1, .int .i64 f2]) (by rw [← hb]; congr 1; simp [Fd, Act.eval]) ?_
      exact ⟨upd x 14 _, rfl, .inl ⟨j16, fun _ => ⟨d4, d9, rfl⟩, hC.read (i := 14) _ (by omega) (fun u hu => by rw [hrd] at hu; cases hu)⟩⟩
    · obtain rfl := Option.some.inj ho
      rw [if_pos (by rfl)]
      refine wp_value (v := .pointer (some ⟨w'.heap.size, 0, none⟩)) (w' := w'.alloc (.cells #[.slice none 0 0, .slice none 0 0, .slice none 0 0, .int .i64 0, .int .i64 0, .int .i64 0, .slice none 0 0, .slice none 0 0, .slice none 0 0, .int .i64 0, .int .i64 0, .int .i64 0, .int .i64 0, .int .i64 0, .int .i64 0] 88)) (by kernel_rfl) ?_
      exact ⟨upd x 15 _, rfl, .inl ⟨j16, fun h => ⟨lset_mono (b14 h).1, lset_mono (b14 h).2.1, (b14 h).2.2⟩, hC.made (congrFun hrd 15)⟩⟩
    · obtain rfl := Option.some.inj ho
      rw [if_pos (by rfl)]
      have g0 := hall ⟨0, .phase⟩ (by simp) rfl
      have g1 := hall ⟨1, .phase⟩ (by simp) rfl
      have g2 := hall ⟨2, .phase⟩ (by simp) rfl
      have g3 := hall ⟨3, .phase⟩ (by simp) rfl
      have g4 := hall ⟨4, .phase⟩ (by simp) rfl
      have g5 := hall ⟨5, .phase⟩ (by simp) rfl
      have g6 := hall ⟨6, .phase⟩ (by simp) rfl
      have g7 := hall ⟨7, .phase⟩ (by simp) rfl
      have g8 := hall ⟨8, .phase⟩ (by simp) rfl
      have g9 := hall ⟨9, .phase⟩ (by simp) rfl
      have g10 := hall ⟨10, .phase⟩ (by simp) rfl
      have g11 := hall ⟨11, .phase⟩ (by simp) rfl
      have g12 := hall ⟨12, .phase⟩ (by simp) rfl
      have g13 := hall ⟨13, .phase⟩ (by simp) rfl
      have g14 := hall ⟨14, .phase⟩ (by simp) rfl
      have g15 := hall ⟨15, .phase⟩ (by simp) rfl
      have hL : ∀ k, k < 16 → L k = true := fun k hk => by
        obtain rfl | rfl | rfl | rfl | rfl | rfl | rfl | rfl | rfl | rfl | rfl | rfl | rfl | rfl | rfl | rfl : k = 0 ∨ k = 1 ∨ k = 2 ∨ k = 3 ∨ k = 4 ∨ k = 5 ∨ k = 6 ∨ k = 7 ∨ k = 8 ∨ k = 9 ∨ k = 10 ∨ k = 11 ∨ k = 12 ∨ k = 13 ∨ k = 14 ∨ k = 15 := by omega
        all_goals assumption
      obtain ⟨-, -, e14⟩ := b14 g14
      obtain ⟨s0, s1, s2, e4, hs0, hs1, hs2⟩ := hC.c4 g4
      obtain ⟨t0, t1, t2, e9, ht0, ht1, ht2⟩ := hC.c9 g9
      obtain ⟨g, e15, hg, hrow, o4', o9'⟩ := hC.al g15
      obtain ⟨q0, q1, q2⟩ := o4' g4 _ _ _ _ _ _ e4
      obtain ⟨q3, q4, q5⟩ := o9' g9 _ _ _ _ _ _ e9
      obtain ⟨y0, p0, f0'⟩ := hs0.form
      obtain ⟨y1, p1, f1'⟩ := hs1.form
      obtain ⟨y2, p2, f2'⟩ := hs2.form
      obtain ⟨y3, p3, f3'⟩ := ht0.form
      obtain ⟨y4, p4, f4'⟩ := ht1.form
      obtain ⟨y5, p5, f5'⟩ := ht2.form
      have e14' : x 14 = .agg #[s0, s1, s2, .int .i64 l0, .int .i64 l1, .int .i64 l2, t0, t1, t2, .int .i64 m0, .int .i64 m1, .int .i64 m2, .int .i64 f0, .int .i64 f1, .int .i64 f2] := by rw [e14, e4, e9]; rfl
      refine wp_store_row 88 (.tmp 4) (.tmp 22) rfl g _ e15 e14' 88 _ hrow (by kernel_rfl) rfl (by rw [f0', f1', f2', f3', f4', f5']; simp [Value.oneCell']) ?_
      have ht := setRow_btnV w' g #[s0, s1, s2, .int .i64 l0, .int .i64 l1, .int .i64 l2, t0, t1, t2, .int .i64 m0, .int .i64 m1, .int .i64 m2, .int .i64 f0, .int .i64 f1, .int .i64 f2]
      refine ⟨x, rfl, .inr ⟨fun k hk => ?_, g, e15, ⟨s0, s1, s2, t0, t1, t2, setRow_heap _ _ _ _ _ _ hrow, hg, hs0.off ht q0, hs1.off ht q1, hs2.off ht q2, ht0.off ht q3, ht1.off ht q4, ht2.off ht q5, q0, q1, q2, q3, q4, q5⟩, hC.bel.trans (ht.below hg hC.bel.size)⟩⟩
      by_cases e : k = 16
      · subst e; rfl
      · show (if k = 16 then true else L k) = true
        rw [if_neg e]; exact hL k (by omega)
  · rintro L a w' ⟨x, rfl, hI⟩ hL
    rcases hI with ⟨h16, -⟩ | ⟨-, g, e15, hD, hB⟩
    · rw [hL 16 (by show 16 < 17; omega)] at h16; cases h16
    have HD := Lib.hid (hD.wide HE1.out.size)
    have HF := Lib.hid (bel1 HE1.out hB)
    clear hL hD hB HE1 HA1 H0 H1 H2 H3 H4 hrd
    unfold Fd
    rw [e15]
    clear e15
    go_wp2
    go_ret2
    exact ⟨g, rfl, HD, HF.out⟩

end Go.Proofs.YtadoihddmbbjoaaDoor
