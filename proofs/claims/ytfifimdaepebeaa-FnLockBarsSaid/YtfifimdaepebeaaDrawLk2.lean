/-
  Draws of what is asked of tables: l4WhoDraw, l4Part, l4Ask.
  Draws of tables and what is asked of them: l4Ask, DrawLockOk, DrawLockMay, DrawLockBars, DrawLockGive, DrawLockDrop, DrawLockDown, DrawLockOff.
  Draws of tables and what is asked of them, as the laws call them; wpAt.
-/
import Derived.Test.YtfifimdaepebeaaDrawBent
namespace Go.Proofs.Ytfifimdaepebeaa
open Go.RowKit

set_option maxHeartbeats 1000000 in
theorem l4WhoDraw_any (rb p : Nat) (w : World) (h : Rd w rb p) (hp : p ≤ 800000000) :
    Calls Try.prog 76 #[.pointer (some ⟨rb, 0, none⟩)] w (Nd (fun _ => True) w rb p 2) := by
  have hrb := h.lt
  have HR0 := Lib.hid h
  clear h
  go_enter Try.func76, Try.ntmps76
  go_wp2_with fail
  refine (pick_any rb p 20 _ HR0.out (by omega) (by omega) (by omega)).mono ?_; rintro e w2 ⟨c, rfl, c0, -, hr2, hg2⟩
  have HR2 := Lib.hid hr2
  have HG2 := Lib.hid hg2
  clear hr2 hg2 HR0
  by_cases e0 : c = 0
  · subst e0
    go_wp2_with fail
    refine (numLA_any rb (p + 1) [-1, 3, 9223372036854775807] 3 (fun _ => True) w2 w2.heap.size _ _ rfl rfl rfl HR2.out (by omega) (by omega) (by omega) (by simp)).mono ?_; rintro e w3 ⟨i, q1, rfl, -, hr3, hq3, hg3⟩
    have HR3 := Lib.hid hr3
    have HG3 := Lib.hid (grown_trans HG2.out hg3)
    clear hr3 hg3
    go_wp2
    go_ret
    exact ⟨i, q1, rfl, trivial, HR3.out, by omega, HG3.out⟩
  · have d0 : (c == 0) = false := by simpa using e0
    go_wp2_with fail
    refine (pick_any rb (p + 1) 3 _ HR2.out (by omega) (by omega) (by omega)).mono ?_; rintro e w3 ⟨c3, rfl, -, -, hr3, hg3⟩
    have HR3 := Lib.hid hr3
    have HG3 := Lib.hid (grown_trans HG2.out hg3)
    clear hr3 hg3
    go_wp2
    go_ret
    exact ⟨c3, p + 1 + 1, rfl, trivial, HR3.out, by omega, HG3.out⟩

set_option maxRecDepth 100000 in
/-- append(x, y...) onto a row of the call's own: what it leaves. -/
theorem run_append_spnG (w : World) (ty : TypeId) (B : Nat) (hB : B ≤ w.heap.size) (v0 : Value) (n : Nat) (xs : List Value) (hown : w.ownsRow B 25 2 v0 n xs) (v : Value) (L : List Rng) (hv : Spn w v L) (hL : n + L.length ≤ 1048576) :
    ∃ v' w', (Builtin.append_ #[46, 46] ty #[v0, v]).run Try.prog w = .ok v' w' ∧ w'.ownsRow B 25 2 v' (n + L.length) (xs ++ flat L) ∧ w.grownBy w' v0.ownBlock := by
  obtain ⟨i0, hi, hz0, hz1, hz2⟩ := info_parts infoSpan2
  obtain ⟨a, cap, rfl, c1, c2, hc⟩ := hv
  cases a with
  | none =>
    have h0 : L = [] := by
      cases L with
      | nil => rfl
      | cons x r => obtain ⟨b, off, e, _⟩ := hc (by simp); cases e
    subst h0
    have hle : ∃ a0 c0, v0 = .slice a0 n c0 ∧ n ≤ c0 := by
      rcases hown.2 with ⟨rfl, rfl⟩ | ⟨g, c0, cur, rfl, _, _, h, _⟩
      · exact ⟨_, _, rfl, Nat.le_refl _⟩
      · exact ⟨_, _, rfl, h⟩
    obtain ⟨a0, c0, rfl, hle⟩ := hle
    refine ⟨_, w, run_append_nothing (P := Try.prog) w 46 46 ty 25 i0 Try.underlying46 hi a0 n c0 hle _ (Src.ofNil w Try.underlying46 cap), ?_, World.grownBy.refl _ _⟩
    simpa [flat] using hown
  | some ad =>
    have hnews : ∀ j u, (flat L)[j]? = some u → w.cell? (ad.add j) = some u := by
      intro j u hu
      cases L with
      | nil => simp [flat] at hu
      | cons x r =>
        obtain ⟨b, off, e, hcc⟩ := hc (by simp)
        injection e with e
        subst e
        exact flat_cells _ hcc j u hu
    obtain ⟨v', w', h1, h2, h3, -, -⟩ := run_append_own_at (P := Try.prog) w B 46 ty 25 i0 (.agg #[.int .i64 0, .int .i64 0]) 2 16 Try.underlying46 hi hz0 hz1 hz2 rfl (by decide) _ n xs hown ad L.length cap (flat L) (flat_length L) hnews (flat_one L) (by unfold maxLen; omega) (by omega) hB
    exact ⟨v', w', h1, h2, h3⟩

theorem step_append_spnG {ops : Array Oper} {o : Oper} {a : Act} {w : World} {K : Act → World → Prop} {Q : Exit → Act → World → Prop} {E : Prop} (hgd : o.guard = none) (s x : Operand)
    (ho : o.op = .call { callee := .builtin .append, args := #[s, x], argTypes := #[46, 46] })
    (B : Nat) (v0 v : Value) (hs : a.eval s = v0) (hx : a.eval x = v) (hB : B ≤ w.heap.size) (n : Nat) (xs : List Value) (hown : w.ownsRow B 25 2 v0 n xs) (L : List Rng) (hv : Spn w v L) (hL : n + L.length ≤ 1048576)
    (h : ∀ v' w', w'.ownsRow B 25 2 v' (n + L.length) (xs ++ flat L) → w.grownBy w' v0.ownBlock → K (a.put o.dst v') w') :
    if Region.wanted o (yielded ops a.tmps) = true then Oper.wp Try.prog o a w K Q else E := by
  have hw : Region.wanted o (yielded ops a.tmps) = true := by simp [Region.wanted, hgd]
  rw [if_pos hw]
  obtain ⟨v', w', hr, h2, h3⟩ := run_append_spnG w o.type B hB v0 n xs hown v L hv hL
  unfold Oper.wp execOp
  simp only [ho, resolve, invoke, builtin, Sem.run_bind, Sem.run_pure, Result.andThen_ok, List.map_toArray, List.map_cons, List.map_nil, hs, hx, hr]
  exact h v' w' h2 h3

/-- What a draw of a range leaves. -/
def Dq (w : World) (rb p k : Nat) (e : Ending) (w' : World) : Prop :=
  ∃ (lo hi : Int) (q : Nat), e = .returned (.agg #[.int .i64 lo, .int .i64 hi]) ∧ Rd w' rb q ∧ q ≤ p + k ∧ w.grownBy w' (some rb)

theorem part_cells {w : World} {B cx : Nat} {ax : Option Addr} {N : List Rng} (h : w.ownsRow B 25 2 (.slice ax N.length cx) N.length (flat N)) {j : Nat} (hj : j < N.length) :
    ∃ g, ax = some ⟨g, 0, none⟩ ∧ w.cell? ⟨g, j * 2, none⟩ = some (.int .i64 (N.getD j (0, 0)).1) ∧ w.cell? ⟨g, j * 2 + 1, none⟩ = some (.int .i64 (N.getD j (0, 0)).2) := by
  rcases id h.2 with ⟨_, h0⟩ | ⟨g, cap, cur, e, _⟩
  · omega
  · injection e with e1 e2 e3
    subst e1
    exact ⟨g, rfl, by rw [h.cellAt _ (by omega)]; exact flat_get0 _ _ hj, by rw [h.cellAt _ (by omega)]; exact flat_get1 _ _ hj⟩

theorem part_below {w wx1 wx2 : World} {v : Value} {n : Nat} {xs : List Value} (hb : Below w.heap.size w wx1) (ho : wx1.ownsRow w.heap.size 25 2 v n xs) (hg : wx1.grownBy wx2 v.ownBlock) : Below w.heap.size w wx2 :=
  hb.trans ⟨hg.os, hg.tape, hg.output, hg.size, fun i hi => hg.block i (Nat.lt_of_lt_of_le hi hb.size) (fun e => by have := (own_lt ho e.symm).1; omega)⟩

set_option maxRecDepth 100000 in
set_option maxHeartbeats 8000000 in
theorem l4Part_any (rb p : Nat) (v : Value) (T : List HoldT) (who : Int) (w : World) (h : Rd w rb p) (hp : p ≤ 700000000) (hh : ∀ w1, w.grownBy w1 (some rb) → Hds w1 v T) (hL : ∀ i, i < T.length → (T.getD i hd0).1.length ≤ 13 ∧ (T.getD i hd0).2.length ≤ 13) :
    Calls Try.prog 77 #[.pointer (some ⟨rb, 0, none⟩), v, .int .i64 who] w (Dq w rb p 20) := by
  have hrb := h.lt
  obtain ⟨W0, hW0⟩ : ∃ W0, w.alloc (.cells #[.int .i64 0, .int .i64 0] 25) = W0 := ⟨_, rfl⟩
  have hal : Below w.heap.size w W0 := by rw [← hW0]; exact (Below.refl _ _).alloc (Nat.le_refl _) _
  have B0 : Box2 W0 w.heap.size 0 0 := by rw [← hW0]; exact new_box w 0 0 25
  have HR0 := Lib.hid (h.keep hal)
  have HG0 := Lib.hid (grown_below hal (some rb))
  have HD := Lib.hid hh
  have HB0 := Lib.hid B0
  have HAL := Lib.hid hal
  have HL := Lib.hid hL
  have hne0 : w.heap.size ≠ rb := by omega
  obtain ⟨a, cap, rfl, c1, c2, -⟩ := hh w (World.grownBy.refl _ _)
  unfold maxLen at c2
  clear h hh hL hal B0
  by_cases hw0 : 0 ≤ who
  · by_cases hw1 : who < (T.length : Int)
    · obtain ⟨k, rfl⟩ : ∃ k : Nat, who = (k : Int) := ⟨who.toNat, by omega⟩
      have hk : k < T.length := by omega
      go_enter Try.func77, Try.ntmps77
      go_wp2_with fail
      clear hW0
      refine (pick_any rb p 2 _ HR0.out (by omega) (by omega) (by omega)).mono ?_; rintro e w2 ⟨c, rfl, c0, -, hr2, hg2⟩
      have HR2 := Lib.hid hr2
      have HG2 := Lib.hid (grown_trans HG0.out hg2)
      have HB2 := Lib.hid (HB0.out.grown hg2 hne0)
      clear hr2 hg2 HR0 HB0
      by_cases e0 : c = 0
      · subst e0
        have hd2 := HD.out w2 HG2.out
        obtain ⟨b, off, r, s, rfl, e1, e2, p1, p2, -, -, -⟩ := hd2.at hk
        have hLk := HL.out k hk
        generalize (T.getD k hd0) = H at *
        obtain ⟨L, M⟩ := H
        dsimp only at p1 p2 hLk
        have P1 := Lib.hid p1
        have P2 := Lib.hid p2
        have HLk := Lib.hid hLk
        obtain ⟨ar, cr, rfl⟩ := p1.form
        obtain ⟨as', cs, rfl⟩ := p2.form
        clear p1 p2 hLk hd2 HG0 HAL
        go_wp2_with fail
        go_region_held3 (fun w' => w'.cell? ⟨b, off + k * 2, none⟩ = some (.slice ar L.length cr) ∧ w'.cell? ⟨b, off + k * 2 + 1, none⟩ = some (.slice as' M.length cs))
          (refine ⟨?_, ?_⟩ <;> first | (go_keep; done) | (refine cell_keep hb ?_; assumption))
          (first
            | (have _t := tok1; refine step_append_spnG rfl (.tmp 27) (.tmp 32) rfl w2.heap.size _ _ rfl rfl hb.size _ _ HX1.out M (P2.out.keep hb) (by have := HLk.out; omega) ?_; rintro x2 wx2 hx2 hgx2; have HX2 := Lib.hid hx2; have hb := part_below hb HX1.out hgx2; clear hgx2 hx2)
            | (refine step_append_spnG rfl (.tmp 21) (.tmp 26) rfl w2.heap.size _ _ rfl rfl (by simp) 0 [] ⟨rfl, .inr ⟨w2.heap.size, 0, #[], rfl, Nat.le_refl _, heap_new _ _, Nat.le_refl _, by unfold maxLen; omega, rfl, rfl⟩⟩ L (P1.out.keep (by first | exact below_al (Below.refl _ _).drew | exact (below_al (Below.refl _ _)).drew)) (by have := HLk.out; omega) ?_; rintro x1 wx1 hx1 hgx1; have HX1 := Lib.hid hx1; have hb := below_gr (w := w2) (by first | exact below_al (Below.refl _ _).drew | exact (below_al (Below.refl _ _)).drew) hgx1 (Nat.le_refl _); have tok1 : True := trivial; clear hgx1 hx1))
        have e9 : 0 + L.length + M.length = (L ++ M).length := by simp
        have hx3 := HX2.out
        rw [List.nil_append, ← flat_append, e9] at hx3
        obtain ⟨ax, cx, rfl⟩ := rowForm hx3
        have HX3 := Lib.hid hx3
        have HR3 := Lib.hid (HR2.out.keep hb)
        have HG3 := Lib.hid (grown_trans HG2.out (grown_below hb (some rb)))
        have HB3 := Lib.hid (HB2.out.keep hb)
        have hln : (L ++ M).length ≤ 26 := by have := HLk.out; simp; omega
        have hs2 := HG2.out.size
        clear hx3 HX1 HX2 HR2 HG2 HB2 P1 P2 e1 e2 hb tok1 e9 HLk HD HL
        generalize L ++ M = N at *
        by_cases hN : N.length = 0
        · have hN0 : ((N.length : Int)) = 0 := by omega
          go_wp2_with fail
          refine (l1Some_any rb (p + 1) _ HR3.out (by omega)).mono ?_; rintro e w9 ⟨lo, hi, rfl, -, hr9, hg9⟩
          have HR9 := Lib.hid hr9
          have HG9 := Lib.hid (grown_trans HG3.out hg9)
          obtain ⟨x1, x2, x3, x4⟩ := HB3.out.grown hg9 hne0
          clear hr9 hg9 HR3 HG3 HB3
          go_wp2
          exact bodyPost_ret (v := .agg #[.int .i64 lo, .int .i64 hi]) (by simp [results, Try.results77, go_sem, *]) rfl ⟨lo, hi, (p + 1) + 3, rfl, (HR9.out.set hrb).set hrb, by omega, grown_new (grown_new HG9.out (Nat.le_refl _)) (Nat.le_refl _)⟩
        · have hN0 : 0 < (N.length : Int) := by omega
          have hN1 : 0 < N.length := by omega
          go_wp2_with fail
          refine (pick_any rb (p + 1) N.length _ HR3.out (by omega) (by omega) (by omega)).mono ?_; rintro e w9 ⟨kk, rfl, k0, k1, hr9, hg9⟩
          have k2 := k1 (by omega)
          obtain ⟨j, rfl⟩ : ∃ j : Nat, kk = j := ⟨kk.toNat, by omega⟩
          have hj : j < N.length := by omega
          have ho9 := own_stay HX3.out hg9 (fun g e c => by injection c with c; have := (own_lt HX3.out e).1; omega)
          have HR9 := Lib.hid hr9
          have HG9 := Lib.hid (grown_trans HG3.out hg9)
          obtain ⟨x1, x2, x3, x4⟩ := HB3.out.grown hg9 hne0
          obtain ⟨gx, rfl, y1, y2⟩ := part_cells ho9 hj
          generalize N.getD j (0, 0) = s9 at *
          obtain ⟨lo, hi⟩ := s9
          dsimp only at y1 y2
          clear hr9 hg9 HR3 HG3 HB3 HX3 ho9 k1
          go_wp2
          exact bodyPost_ret (v := .agg #[.int .i64 lo, .int .i64 hi]) (by simp [results, Try.results77, go_sem, *]) rfl ⟨lo, hi, p + 1 + 1, rfl, (HR9.out.set hrb).set hrb, by omega, grown_new (grown_new HG9.out (Nat.le_refl _)) (Nat.le_refl _)⟩
      · have d0 : (c == 0) = false := by simpa using e0
        go_wp2_with fail
        refine (l1Some_any rb (p + 1) _ HR2.out (by omega)).mono ?_; rintro e w9 ⟨lo, hi, rfl, -, hr9, hg9⟩
        have HR9 := Lib.hid hr9
        have HG9 := Lib.hid (grown_trans HG2.out hg9)
        obtain ⟨x1, x2, x3, x4⟩ := HB2.out.grown hg9 hne0
        clear hr9 hg9 HR2 HG2 HB2
        go_wp2
        exact bodyPost_ret (v := .agg #[.int .i64 lo, .int .i64 hi]) (by simp [results, Try.results77, go_sem, *]) rfl ⟨lo, hi, (p + 1) + 3, rfl, (HR9.out.set hrb).set hrb, by omega, grown_new (grown_new HG9.out (Nat.le_refl _)) (Nat.le_refl _)⟩
    · have d1 : decide (who < (T.length : Int)) = false := decide_eq_false hw1
      go_enter Try.func77, Try.ntmps77
      clear HAL
      go_wp2_with fail
      refine (l1Some_any rb (p) _ HR0.out (by omega)).mono ?_; rintro e w9 ⟨lo, hi, rfl, -, hr9, hg9⟩
      have HR9 := Lib.hid hr9
      have HG9 := Lib.hid (grown_trans HG0.out hg9)
      obtain ⟨x1, x2, x3, x4⟩ := HB0.out.grown hg9 hne0
      clear hr9 hg9 HR0 HG0 HB0
      go_wp2
      exact bodyPost_ret (v := .agg #[.int .i64 lo, .int .i64 hi]) (by simp [results, Try.results77, go_sem, *]) rfl ⟨lo, hi, (p) + 3, rfl, (HR9.out.set hrb).set hrb, by omega, grown_new (grown_new HG9.out (Nat.le_refl _)) (Nat.le_refl _)⟩
  · have d1 : decide (0 ≤ who) = false := decide_eq_false hw0
    go_enter Try.func77, Try.ntmps77
    clear HAL
    go_wp2_with fail
    refine (l1Some_any rb (p) _ HR0.out (by omega)).mono ?_; rintro e w9 ⟨lo, hi, rfl, -, hr9, hg9⟩
    have HR9 := Lib.hid hr9
    have HG9 := Lib.hid (grown_trans HG0.out hg9)
    obtain ⟨x1, x2, x3, x4⟩ := HB0.out.grown hg9 hne0
    clear hr9 hg9 HR0 HG0 HB0
    go_wp2
    exact bodyPost_ret (v := .agg #[.int .i64 lo, .int .i64 hi]) (by simp [results, Try.results77, go_sem, *]) rfl ⟨lo, hi, (p) + 3, rfl, (HR9.out.set hrb).set hrb, by omega, grown_new (grown_new HG9.out (Nat.le_refl _)) (Nat.le_refl _)⟩

end Go.Proofs.Ytfifimdaepebeaa

namespace Go.Proofs.Ytfifimdaepebeaa
open Go.RowKit

theorem Byt.stay {w w1 : World} {v : Value} {len : Nat} (h : Byt w v len) (hb : Below w.heap.size w w1) : Byt w1 v len := by
  obtain ⟨z, a, cap, hv, h1, h2, hc⟩ := h
  refine ⟨z, a, cap, hv, h1, h2, fun hp => ?_⟩
  obtain ⟨b, off, ha, hcc⟩ := hc hp
  exact ⟨b, off, ha, fun i hi => ⟨cell_keep hb (hcc i hi).1, (hcc i hi).2⟩⟩

theorem Btw.wideM {lo hi lo' hi' : Nat} {w w' : World} (h : Btw lo hi w w') (h1 : lo' ≤ lo) (h2 : hi ≤ hi') : Btw lo' hi' w w' :=
  ⟨h.os, h.tape, h.output, h.size, fun i hi hn => h.block i hi fun hc => hn ⟨by omega, by omega⟩⟩

/-- What is drawn. -/
def Ask (w : World) (e : Ending) (w' : World) : Prop :=
  ∃ (v : Value) (T : List HoldT) (who : Int) (b : Bool) (lo hi : Int), e = .returned (.tuple #[v, .int .i64 who, .bool b, .agg #[.int .i64 lo, .int .i64 hi]]) ∧ Hid (∀ w1, Btw 0 w.heap.size w' w1 → Hds w1 v T) ∧ Below w.heap.size w w'

set_option maxRecDepth 100000 in
set_option maxHeartbeats 8000000 in
theorem l4Ask_any (v : Value) (len : Nat) (w : World) (h : Byt w v len) :
    Calls Try.prog 42 #[v] w (Ask w) := by
  obtain ⟨W0, hW0⟩ : ∃ W0, w.alloc (.cells #[.int .i64 0, .int .i64 0] 25) = W0 := ⟨_, rfl⟩
  have hal : Below w.heap.size w W0 := by rw [← hW0]; exact (Below.refl _ _).alloc (Nat.le_refl _) _
  have B0 : Box2 W0 w.heap.size 0 0 := by rw [← hW0]; exact new_box w 0 0 25
  have Z0 : W0.heap.size = w.heap.size + 1 := by rw [← hW0]; simp
  have K0 := Lib.hid (open_any v len W0 (h.stay hal))
  have HB0 := Lib.hid B0
  have HAL := Lib.hid hal
  clear h hal B0
  go_enter Try.func42, Try.ntmps42
  go_wp2_with fail
  clear hW0
  refine K0.out.mono ?_; rintro e w1 ⟨rb, rfl, hrb, hr1, hb1⟩
  have HR1 := Lib.hid hr1
  have HB1 := Lib.hid (HB0.out.keep hb1)
  have HBW := Lib.hid (HAL.out.trans (hb1.mono HAL.out.size))
  have hrw : w.heap.size < rb := by omega
  clear hr1 hb1 K0 HB0 HAL
  go_wp2_with fail
  refine (l4Some_any rb 0 _ HR1.out (by omega)).mono ?_; rintro e w2 ⟨v2, T2, q2, rfl, hok, ht2, hr2, hq2, hg2⟩
  have HD2 := Lib.hid ht2.out.hds
  have HR2 := Lib.hid hr2
  have HG2 := Lib.hid hg2
  have hr2l := hr2.lt
  clear ht2 hr2 hg2 HR1
  go_wp2_with fail
  refine (l4Bent_any rb q2 v2 T2 _ HR2.out (by omega) HD2.out hok).mono ?_; rintro e w3 ⟨v3, T3, q3, rfl, hd3, hT4, hL3, hr3, hq3, hg3⟩
  have HR3 := Lib.hid hr3
  have HG3 := Lib.hid (grown_trans HG2.out hg3)
  clear hr3 hg3 HR2 HG2 HD2 hok
  go_wp2_with fail
  refine (l4WhoDraw_any rb q3 _ HR3.out (by omega)).mono ?_; rintro e w4 ⟨who, q4, rfl, -, hr4, hq4, hg4⟩
  have HR4 := Lib.hid hr4
  have HG4 := Lib.hid (grown_trans HG3.out hg4)
  have HG34 := Lib.hid hg4
  clear hr4 hg4 HR3 HG3
  go_wp2_with fail
  refine (pick_any rb q4 2 _ HR4.out (by omega) (by omega) (by omega)).mono ?_; rintro e w5 ⟨c, rfl, -, -, hr5, hg5⟩
  have HR5 := Lib.hid hr5
  have HG5 := Lib.hid (grown_trans HG4.out hg5)
  have HG35 := Lib.hid (grown_trans HG34.out hg5)
  clear hr5 hg5 HR4 HG4 HG34
  go_wp2_with fail
  refine (l4Part_any rb (q4 + 1) v3 T3 who _ HR5.out (by omega) (fun w1 hg => hd3.out w1 (Btw.of_rd (grown_trans HG35.out hg) hr2l)) hL3.out).mono ?_; rintro e w6 ⟨lo, hi, q6, rfl, -, -, hg6⟩
  have HD6 := Lib.hid (fun wf (hb : Btw 0 w.heap.size ((w6.setCell ⟨w.heap.size, 0, none⟩ (.int .i64 lo)).setCell ⟨w.heap.size, 1, none⟩ (.int .i64 hi)) wf) => hd3.out wf (((Btw.of_rd (grown_trans HG35.out hg6) hr2l).trans ((btw_set (g := w.heap.size) (o := 0) (v := .int .i64 lo) (Nat.zero_le _) (by omega)).trans (btw_set (g := w.heap.size) (o := 1) (v := .int .i64 hi) (Nat.zero_le _) (by omega)))).trans (hb.wideM (Nat.le_refl _) (by omega))))
  have HG6 := Lib.hid (grown_trans HG5.out hg6)
  obtain ⟨x1, x2, x3, x4⟩ := HB1.out.grown HG6.out (by omega)
  have HW6 := Lib.hid (HBW.out.trans ⟨HG6.out.os, HG6.out.tape, HG6.out.output, HG6.out.size, fun i hi => HG6.out.block i (Nat.lt_of_lt_of_le hi HBW.out.size) (fun e => by injection e with e; omega)⟩)
  clear hg6 HR5 HG5 HG35 HG6 HB1 HBW hd3 hL3
  go_wp2
  exact bodyPost_ret (v := .tuple #[v3, .int .i64 who, .bool (c == 0), .agg #[.int .i64 lo, .int .i64 hi]]) (by simp [results, Try.results42, go_sem, *]) rfl ⟨v3, T3, who, c == 0, lo, hi, rfl, HD6, (HW6.out.setCell (Nat.le_refl _) _).setCell (Nat.le_refl _) _⟩

end Go.Proofs.Ytfifimdaepebeaa

namespace Go.Proofs.Ytfifimdaepebeaa
open Go.RowKit

theorem byt_stay {w w1 : World} {v : Value} {len : Nat} (h : Byt w v len) (hb : Below w.heap.size w w1) : Byt w1 v len := h.stay hb

/-- What is drawn without a kind. -/
def Ask3 (w : World) (e : Ending) (w' : World) : Prop :=
  ∃ (v : Value) (T : List HoldT) (who : Int) (lo hi : Int), e = .returned (.tuple #[v, .int .i64 who, .agg #[.int .i64 lo, .int .i64 hi]]) ∧ Hid (∀ w1, Btw 0 w.heap.size w' w1 → Hds w1 v T) ∧ Below w.heap.size w w'

/-- What is drawn for an eviction. -/
def Ask2 (w : World) (e : Ending) (w' : World) : Prop :=
  ∃ (v : Value) (T : List HoldT) (who : Int), e = .returned (.tuple #[v, .int .i64 who]) ∧ Hid (∀ w1, Btw 0 w.heap.size w' w1 → Hds w1 v T) ∧ Below w.heap.size w w'

set_option maxHeartbeats 1000000 in
theorem drawLockMay_any (v : Value) (len : Nat) (w : World) (h : Byt w v len) :
    Calls Try.prog 40 #[v] w (Ask w) := by
  have hal : Below w.heap.size w (w.alloc (.cells #[.int .i64 0, .int .i64 0] 25)) := (Below.refl _ _).alloc (Nat.le_refl _) _
  have k := new_box w 0 0 25
  have K := Lib.hid (l4Ask_any v len _ (h.stay hal))
  clear h
  go_enter Try.func40, Try.ntmps40
  go_wp2_with fail
  refine K.out.mono ?_; rintro e w1 ⟨v1, T, who, b, lo, hi, rfl, hd, hb⟩
  obtain ⟨x1, x2, x3, x4⟩ := k.keep hb
  have hw := hal.trans (hb.mono hal.size)
  have hlt : w.heap.size < w1.heap.size := World.block_lt_of_cell? w1 _ x1
  have hbs : Btw 0 (w.heap.size + 1) w1 ((w1.setCell ⟨w.heap.size, 0, none⟩ (.int .i64 lo)).setCell ⟨w.heap.size, 1, none⟩ (.int .i64 hi)) := (btw_set (g := w.heap.size) (o := 0) (v := .int .i64 lo) (Nat.zero_le _) (by simp)).trans (btw_set (g := w.heap.size) (o := 1) (v := .int .i64 hi) (Nat.zero_le _) (by simp))
  have hws : Below w.heap.size w ((w1.setCell ⟨w.heap.size, 0, none⟩ (.int .i64 lo)).setCell ⟨w.heap.size, 1, none⟩ (.int .i64 hi)) := (hw.setCell (Nat.le_refl _) _).setCell (Nat.le_refl _) _
  have hw2 := hws
  have hbt := hbs
  have HD := Lib.hid (fun wf (hb2 : Btw 0 w.heap.size ((w1.setCell ⟨w.heap.size, 0, none⟩ (.int .i64 lo)).setCell ⟨w.heap.size, 1, none⟩ (.int .i64 hi)) wf) => hd.out wf ((hbt.trans (hb2.wideM (Nat.le_refl _) (by simp))).wideM (Nat.le_refl _) (by simp)))
  have HW2 := Lib.hid hw2
  clear hal k K hb hd hw2 hbt hw hbs hws
  go_wp2
  exact bodyPost_ret (v := .tuple #[v1, .int .i64 who, .bool b, .agg #[.int .i64 lo, .int .i64 hi]]) (by simp [results, Try.results40, go_sem, *]) rfl ⟨v1, T, who, b, lo, hi, rfl, HD, HW2.out⟩

set_option maxHeartbeats 1000000 in
theorem drawLockBars_any (v : Value) (len : Nat) (w : World) (h : Byt w v len) :
    Calls Try.prog 23 #[v] w (Ask w) := by
  have hal : Below w.heap.size w (w.alloc (.cells #[.int .i64 0, .int .i64 0] 25)) := (Below.refl _ _).alloc (Nat.le_refl _) _
  have k := new_box w 0 0 25
  have K := Lib.hid (l4Ask_any v len _ (h.stay hal))
  clear h
  go_enter Try.func23, Try.ntmps23
  go_wp2_with fail
  refine K.out.mono ?_; rintro e w1 ⟨v1, T, who, b, lo, hi, rfl, hd, hb⟩
  obtain ⟨x1, x2, x3, x4⟩ := k.keep hb
  have hw := hal.trans (hb.mono hal.size)
  have hlt : w.heap.size < w1.heap.size := World.block_lt_of_cell? w1 _ x1
  have hbs : Btw 0 (w.heap.size + 1) w1 ((w1.setCell ⟨w.heap.size, 0, none⟩ (.int .i64 lo)).setCell ⟨w.heap.size, 1, none⟩ (.int .i64 hi)) := (btw_set (g := w.heap.size) (o := 0) (v := .int .i64 lo) (Nat.zero_le _) (by simp)).trans (btw_set (g := w.heap.size) (o := 1) (v := .int .i64 hi) (Nat.zero_le _) (by simp))
  have hws : Below w.heap.size w ((w1.setCell ⟨w.heap.size, 0, none⟩ (.int .i64 lo)).setCell ⟨w.heap.size, 1, none⟩ (.int .i64 hi)) := (hw.setCell (Nat.le_refl _) _).setCell (Nat.le_refl _) _
  have hw2 := hws
  have hbt := hbs
  have HD := Lib.hid (fun wf (hb2 : Btw 0 w.heap.size ((w1.setCell ⟨w.heap.size, 0, none⟩ (.int .i64 lo)).setCell ⟨w.heap.size, 1, none⟩ (.int .i64 hi)) wf) => hd.out wf ((hbt.trans (hb2.wideM (Nat.le_refl _) (by simp))).wideM (Nat.le_refl _) (by simp)))
  have HW2 := Lib.hid hw2
  clear hal k K hb hd hw2 hbt hw hbs hws
  go_wp2
  exact bodyPost_ret (v := .tuple #[v1, .int .i64 who, .bool b, .agg #[.int .i64 lo, .int .i64 hi]]) (by simp [results, Try.results23, go_sem, *]) rfl ⟨v1, T, who, b, lo, hi, rfl, HD, HW2.out⟩

set_option maxHeartbeats 1000000 in
theorem drawLockGive_any (v : Value) (len : Nat) (w : World) (h : Byt w v len) :
    Calls Try.prog 14 #[v] w (Ask w) := by
  have hal : Below w.heap.size w (w.alloc (.cells #[.int .i64 0, .int .i64 0] 25)) := (Below.refl _ _).alloc (Nat.le_refl _) _
  have k := new_box w 0 0 25
  have K := Lib.hid (l4Ask_any v len _ (h.stay hal))
  clear h
  go_enter Try.func14, Try.ntmps14
  go_wp2_with fail
  refine K.out.mono ?_; rintro e w1 ⟨v1, T, who, b, lo, hi, rfl, hd, hb⟩
  obtain ⟨x1, x2, x3, x4⟩ := k.keep hb
  have hw := hal.trans (hb.mono hal.size)
  have hlt : w.heap.size < w1.heap.size := World.block_lt_of_cell? w1 _ x1
  have hbs : Btw 0 (w.heap.size + 1) w1 ((w1.setCell ⟨w.heap.size, 0, none⟩ (.int .i64 lo)).setCell ⟨w.heap.size, 1, none⟩ (.int .i64 hi)) := (btw_set (g := w.heap.size) (o := 0) (v := .int .i64 lo) (Nat.zero_le _) (by simp)).trans (btw_set (g := w.heap.size) (o := 1) (v := .int .i64 hi) (Nat.zero_le _) (by simp))
  have hws : Below w.heap.size w ((w1.setCell ⟨w.heap.size, 0, none⟩ (.int .i64 lo)).setCell ⟨w.heap.size, 1, none⟩ (.int .i64 hi)) := (hw.setCell (Nat.le_refl _) _).setCell (Nat.le_refl _) _
  have hw2 := hws
  have hbt := hbs
  have HD := Lib.hid (fun wf (hb2 : Btw 0 w.heap.size ((w1.setCell ⟨w.heap.size, 0, none⟩ (.int .i64 lo)).setCell ⟨w.heap.size, 1, none⟩ (.int .i64 hi)) wf) => hd.out wf ((hbt.trans (hb2.wideM (Nat.le_refl _) (by simp))).wideM (Nat.le_refl _) (by simp)))
  have HW2 := Lib.hid hw2
  clear hal k K hb hd hw2 hbt hw hbs hws
  go_wp2
  exact bodyPost_ret (v := .tuple #[v1, .int .i64 who, .bool b, .agg #[.int .i64 lo, .int .i64 hi]]) (by simp [results, Try.results14, go_sem, *]) rfl ⟨v1, T, who, b, lo, hi, rfl, HD, HW2.out⟩

set_option maxHeartbeats 1000000 in
theorem drawLockDrop_any (v : Value) (len : Nat) (w : World) (h : Byt w v len) :
    Calls Try.prog 29 #[v] w (Ask3 w) := by
  have hal : Below w.heap.size w (w.alloc (.cells #[.int .i64 0, .int .i64 0] 25)) := (Below.refl _ _).alloc (Nat.le_refl _) _
  have k := new_box w 0 0 25
  have K := Lib.hid (l4Ask_any v len _ (h.stay hal))
  clear h
  go_enter Try.func29, Try.ntmps29
  go_wp2_with fail
  refine K.out.mono ?_; rintro e w1 ⟨v1, T, who, b, lo, hi, rfl, hd, hb⟩
  obtain ⟨x1, x2, x3, x4⟩ := k.keep hb
  have hw := hal.trans (hb.mono hal.size)
  have hlt : w.heap.size < w1.heap.size := World.block_lt_of_cell? w1 _ x1
  have hbs : Btw 0 (w.heap.size + 1) w1 ((w1.setCell ⟨w.heap.size, 0, none⟩ (.int .i64 lo)).setCell ⟨w.heap.size, 1, none⟩ (.int .i64 hi)) := (btw_set (g := w.heap.size) (o := 0) (v := .int .i64 lo) (Nat.zero_le _) (by simp)).trans (btw_set (g := w.heap.size) (o := 1) (v := .int .i64 hi) (Nat.zero_le _) (by simp))
  have hws : Below w.heap.size w ((w1.setCell ⟨w.heap.size, 0, none⟩ (.int .i64 lo)).setCell ⟨w.heap.size, 1, none⟩ (.int .i64 hi)) := (hw.setCell (Nat.le_refl _) _).setCell (Nat.le_refl _) _
  have hal1 : Below ((w1.setCell ⟨w.heap.size, 0, none⟩ (.int .i64 lo)).setCell ⟨w.heap.size, 1, none⟩ (.int .i64 hi)).heap.size ((w1.setCell ⟨w.heap.size, 0, none⟩ (.int .i64 lo)).setCell ⟨w.heap.size, 1, none⟩ (.int .i64 hi)) (((w1.setCell ⟨w.heap.size, 0, none⟩ (.int .i64 lo)).setCell ⟨w.heap.size, 1, none⟩ (.int .i64 hi)).alloc (.cells #[.int .i64 lo, .int .i64 hi] 25)).drew := ((Below.refl _ _).alloc (Nat.le_refl _) _).drew
  obtain ⟨y1, y2, y3, y4⟩ := new_box w1 lo hi 25
  have hw2 : Below w.heap.size w (((w1.setCell ⟨w.heap.size, 0, none⟩ (.int .i64 lo)).setCell ⟨w.heap.size, 1, none⟩ (.int .i64 hi)).alloc (.cells #[.int .i64 lo, .int .i64 hi] 25)).drew := hws.trans (hal1.mono hws.size)
  have hbt : Btw 0 (w.heap.size + 1) w1 (((w1.setCell ⟨w.heap.size, 0, none⟩ (.int .i64 lo)).setCell ⟨w.heap.size, 1, none⟩ (.int .i64 hi)).alloc (.cells #[.int .i64 lo, .int .i64 hi] 25)).drew := hbs.trans (Btw.of_below hal1)
  have HD := Lib.hid (fun wf (hb2 : Btw 0 w.heap.size (((w1.setCell ⟨w.heap.size, 0, none⟩ (.int .i64 lo)).setCell ⟨w.heap.size, 1, none⟩ (.int .i64 hi)).alloc (.cells #[.int .i64 lo, .int .i64 hi] 25)).drew wf) => hd.out wf ((hbt.trans (hb2.wideM (Nat.le_refl _) (by simp))).wideM (Nat.le_refl _) (by simp)))
  have HW2 := Lib.hid hw2
  clear hal k K hb hd hw2 hbt hw hbs hws hal1
  go_wp2
  go_region
  go_wp2
  exact bodyPost_ret (v := .tuple #[v1, .int .i64 who, .agg #[.int .i64 lo, .int .i64 hi]]) (by simp [results, Try.results29, go_sem, *]) rfl ⟨v1, T, who, lo, hi, rfl, HD, HW2.out⟩

set_option maxHeartbeats 1000000 in
theorem drawLockDown_any (v : Value) (len : Nat) (w : World) (h : Byt w v len) :
    Calls Try.prog 32 #[v] w (Ask3 w) := by
  have hal : Below w.heap.size w (w.alloc (.cells #[.int .i64 0, .int .i64 0] 25)) := (Below.refl _ _).alloc (Nat.le_refl _) _
  have k := new_box w 0 0 25
  have K := Lib.hid (l4Ask_any v len _ (h.stay hal))
  clear h
  go_enter Try.func32, Try.ntmps32
  go_wp2_with fail
  refine K.out.mono ?_; rintro e w1 ⟨v1, T, who, b, lo, hi, rfl, hd, hb⟩
  obtain ⟨x1, x2, x3, x4⟩ := k.keep hb
  have hw := hal.trans (hb.mono hal.size)
  have hlt : w.heap.size < w1.heap.size := World.block_lt_of_cell? w1 _ x1
  have hbs : Btw 0 (w.heap.size + 1) w1 ((w1.setCell ⟨w.heap.size, 0, none⟩ (.int .i64 lo)).setCell ⟨w.heap.size, 1, none⟩ (.int .i64 hi)) := (btw_set (g := w.heap.size) (o := 0) (v := .int .i64 lo) (Nat.zero_le _) (by simp)).trans (btw_set (g := w.heap.size) (o := 1) (v := .int .i64 hi) (Nat.zero_le _) (by simp))
  have hws : Below w.heap.size w ((w1.setCell ⟨w.heap.size, 0, none⟩ (.int .i64 lo)).setCell ⟨w.heap.size, 1, none⟩ (.int .i64 hi)) := (hw.setCell (Nat.le_refl _) _).setCell (Nat.le_refl _) _
  have hal1 : Below ((w1.setCell ⟨w.heap.size, 0, none⟩ (.int .i64 lo)).setCell ⟨w.heap.size, 1, none⟩ (.int .i64 hi)).heap.size ((w1.setCell ⟨w.heap.size, 0, none⟩ (.int .i64 lo)).setCell ⟨w.heap.size, 1, none⟩ (.int .i64 hi)) (((w1.setCell ⟨w.heap.size, 0, none⟩ (.int .i64 lo)).setCell ⟨w.heap.size, 1, none⟩ (.int .i64 hi)).alloc (.cells #[.int .i64 lo, .int .i64 hi] 25)).drew := ((Below.refl _ _).alloc (Nat.le_refl _) _).drew
  obtain ⟨y1, y2, y3, y4⟩ := new_box w1 lo hi 25
  have hw2 : Below w.heap.size w (((w1.setCell ⟨w.heap.size, 0, none⟩ (.int .i64 lo)).setCell ⟨w.heap.size, 1, none⟩ (.int .i64 hi)).alloc (.cells #[.int .i64 lo, .int .i64 hi] 25)).drew := hws.trans (hal1.mono hws.size)
  have hbt : Btw 0 (w.heap.size + 1) w1 (((w1.setCell ⟨w.heap.size, 0, none⟩ (.int .i64 lo)).setCell ⟨w.heap.size, 1, none⟩ (.int .i64 hi)).alloc (.cells #[.int .i64 lo, .int .i64 hi] 25)).drew := hbs.trans (Btw.of_below hal1)
  have HD := Lib.hid (fun wf (hb2 : Btw 0 w.heap.size (((w1.setCell ⟨w.heap.size, 0, none⟩ (.int .i64 lo)).setCell ⟨w.heap.size, 1, none⟩ (.int .i64 hi)).alloc (.cells #[.int .i64 lo, .int .i64 hi] 25)).drew wf) => hd.out wf ((hbt.trans (hb2.wideM (Nat.le_refl _) (by simp))).wideM (Nat.le_refl _) (by simp)))
  have HW2 := Lib.hid hw2
  clear hal k K hb hd hw2 hbt hw hbs hws hal1
  go_wp2
  go_region
  go_wp2
  exact bodyPost_ret (v := .tuple #[v1, .int .i64 who, .agg #[.int .i64 lo, .int .i64 hi]]) (by simp [results, Try.results32, go_sem, *]) rfl ⟨v1, T, who, lo, hi, rfl, HD, HW2.out⟩

set_option maxHeartbeats 1000000 in
theorem drawLockOff_any (v : Value) (len : Nat) (w : World) (h : Byt w v len) :
    Calls Try.prog 35 #[v] w (Ask2 w) := by
  have K := Lib.hid (l4Ask_any v len w h)
  clear h
  go_enter Try.func35, Try.ntmps35
  go_wp2_with fail
  refine K.out.mono ?_; rintro e w1 ⟨v1, T, who, b, lo, hi, rfl, hd, hb⟩
  have HD := Lib.hid (fun wf (hb2 : Btw 0 w.heap.size (w1.alloc (.cells #[.int .i64 lo, .int .i64 hi] 25)) wf) => hd.out wf ((Btw.of_below ((Below.refl _ _).alloc (Nat.le_refl _) _)).trans hb2))
  have hw := Lib.hid (hb.trans (((Below.refl _ _).alloc (Nat.le_refl _) (.cells #[.int .i64 lo, .int .i64 hi] 25)).mono hb.size))
  clear hd hb
  go_wp2
  exact bodyPost_ret (v := .tuple #[v1, .int .i64 who]) (by simp [results, Try.results35, go_sem]) rfl ⟨v1, T, who, rfl, HD, hw.out⟩

/-- The range of one position. -/
theorem wpAt_any (i : Int) (h0 : 0 ≤ i) (h1 : i ≤ 48) (w : World) :
    Calls Try.prog 21 #[.int .i64 i] w fun e w' => e = .returned (.agg #[.int .i64 i, .int .i64 (i + 1)]) ∧ Below w.heap.size w w' := by
  have hwr : IntKind.wrap .i64 (i + 1) = i + 1 := by rw [IntKind.wrap_i64]; omega
  go_enter Try.func21, Try.ntmps21
  go_wp2
  exact bodyPost_ret (by simp [results, Try.results21, go_sem]) rfl ⟨rfl, by (repeat (first | exact Below.refl _ _ | refine Below.setCell ?_ (by simp <;> omega) _ | refine Below.alloc ?_ (by simp <;> omega) _ | refine Below.drew ?_))⟩

end Go.Proofs.Ytfifimdaepebeaa
