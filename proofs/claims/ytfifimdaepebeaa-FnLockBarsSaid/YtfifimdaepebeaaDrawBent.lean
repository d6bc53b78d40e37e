/-
  Draws of tables: l4Bent, l4WhoDraw.
-/
import Derived.Test.YtfifimdaepebeaaDrawLock
import Derived.Deep.RegionLaw
namespace Go.Proofs.Ytfifimdaepebeaa
open Go.RowKit

/-- What a draw of a table leaves, valid or not. -/
def Bnt (w : World) (rb p k : Nat) (e : Ending) (w' : World) : Prop :=
  ∃ v T q, e = .returned v ∧ Hid (∀ w1, Btw 0 w.heap.size w' w1 → Hds w1 v T) ∧ T.length ≤ 4 ∧ Hid (∀ i, i < T.length → (T.getD i hd0).1.length ≤ 13 ∧ (T.getD i hd0).2.length ≤ 13) ∧ Rd w' rb q ∧ q ≤ p + k ∧ w.grownBy w' (some rb)

theorem own_spn1 {w : World} {B : Nat} {v : Value} {L : List Rng} (h : w.ownsRow B 25 2 v L.length (flat L)) : Spn w v L := spn_of (mrow_own h).1 (mrow_own h).2

/-- A list in a row of one's own, in a block not below B0. -/
def OwnP (w : World) (B0 : Nat) (x : Value) (L : List Rng) : Prop := ∃ B, B0 ≤ B ∧ w.ownsRow B 25 2 x L.length (flat L)
theorem own_btw {w w1 : World} {B B0 : Nat} {e : TypeId} {size : Nat} {v : Value} {k : Nat} {xs : List Value} (h : w.ownsRow B e size v k xs) (hb : Btw 0 B0 w w1) (hB : B0 ≤ B) : w1.ownsRow B e size v k xs :=
  ⟨h.1, h.2.imp id fun ⟨g, cap, cur, h1, h2, h3, h4⟩ => ⟨g, cap, cur, h1, h2, (hb.block g (Array.getElem?_eq_some_iff.1 h3).1 (by omega)).trans h3, h4⟩⟩
theorem OwnP.spn {w w1 : World} {B0 : Nat} {x : Value} {L : List Rng} (h : OwnP w B0 x L) (hg : Btw 0 B0 w w1) : Spn w1 x L := by
  obtain ⟨B, hB, ho⟩ := h
  exact own_spn1 (own_btw ho hg hB)
theorem ownp_nil (w : World) (B0 : Nat) : OwnP w B0 (.slice none 0 0) [] := ⟨B0, Nat.le_refl _, World.ownsRow_nil ..⟩
theorem row_rd {w w1 : World} {B0 nb n : Nat} {f g : Nat → Value} (h : RowV2 w nb n f g) (hg : Btw 0 B0 w w1) (hne : B0 ≤ nb) : RowV2 w1 nb n f g := fun i hi => by
  have hlt := World.block_lt_of_cell? w _ (h i hi).1
  exact (RowV2.same h (hg.block nb hlt (by omega))) i hi
theorem Btw.of_rd {w w1 : World} {rb B0 : Nat} (hg : w.grownBy w1 (some rb)) (hlt : rb < B0) : Btw 0 B0 w w1 :=
  ⟨hg.os, hg.tape, hg.output, hg.size, fun i hi' hn => hg.block i hi' (fun e => by injection e with e; omega)⟩

theorem hds_row {w : World} {nb n cap B0 : Nat} {f g : Nat → Value} {T : List HoldT} (hn : n = T.length) (h1 : n ≤ cap) (h2 : cap ≤ maxLen) (hne : B0 ≤ nb) (hr : RowV2 w nb n f g) (hs : ∀ i, i < n → OwnP w B0 (f i) (T.getD i hd0).1 ∧ OwnP w B0 (g i) (T.getD i hd0).2) : ∀ w1, Btw 0 B0 w w1 → Hds w1 (.slice (some ⟨nb, 0, none⟩) n cap) T := by
  subst hn
  intro w1 hg
  have hr1 := row_rd hr hg hne
  refine ⟨_, cap, rfl, h1, h2, fun _ => ⟨nb, 0, rfl, fun i hi => ?_⟩⟩
  obtain ⟨x1, x2, -, -⟩ := hr1 i hi
  exact ⟨_, _, by rw [Nat.zero_add]; exact x1, by rw [Nat.zero_add]; exact x2, (hs i hi).1.spn hg, (hs i hi).2.spn hg⟩

/-- The table's row as pairs. -/
theorem tb_row {w wr : World} {k nb cap : Nat} {F : Nat → HoldT} {vR vS : Nat → Value} (h : TB w wr k F vR vS (.slice (some ⟨nb, 0, none⟩) k cap)) : RowV2 wr nb k vR vS := fun i hi => by
  have h1 := prs_at vR vS k i hi
  exact ⟨by rw [h.own.cellAt _ (by omega)]; exact h1.1, by rw [h.own.cellAt _ (by omega)]; exact h1.2, h.own.frozenAt _, h.own.frozenAt _⟩
theorem tb_form {w wr : World} {k : Nat} {F : Nat → HoldT} {vR vS : Nat → Value} {v : Value} (h : TB w wr k F vR vS v) (hk : 0 < k) : ∃ nb cap, v = .slice (some ⟨nb, 0, none⟩) k cap ∧ w.heap.size ≤ nb ∧ nb < wr.heap.size ∧ k ≤ cap ∧ cap ≤ maxLen := by
  rcases h.own.2 with ⟨_, h0⟩ | ⟨g, cap, cur, rfl, h1, h2, h3, h4, _⟩
  · omega
  · exact ⟨g, cap, rfl, h1, (Array.getElem?_eq_some_iff.1 h2).1, h3, h4⟩

/-- A table of one's own stays when the reader goes on. -/
theorem TB.rd {w wr w1 : World} {k rb : Nat} {F : Nat → HoldT} {vR vS : Nat → Value} {v : Value} (h : TB w wr k F vR vS v) (hg : wr.grownBy w1 (some rb)) (hlt : rb < w.heap.size) :
    w1.ownsRow w.heap.size 48 2 v k (prs vR vS k) ∧ ∀ i, i < k → w1.ownsRow w.heap.size 25 2 (vR i) (F i).1.length (flat (F i).1) ∧ w1.ownsRow w.heap.size 25 2 (vS i) (F i).2.length (flat (F i).2) :=
  ⟨own_stay h.own hg (fun g e c => by injection c with c; have := (own_lt h.own e).1; omega), fun i hi => ⟨own_stay (h.rows i hi).1 hg (fun g e c => by injection c with c; have := (own_lt (h.rows i hi).1 e).1; omega), own_stay (h.rows i hi).2 hg (fun g e c => by injection c with c; have := (own_lt (h.rows i hi).2 e).1; omega)⟩⟩

/-- A table's rows, without saying what has stayed. -/
structure TR (base : Nat) (wr : World) (k : Nat) (F : Nat → HoldT) (vR vS : Nat → Value) (v : Value) : Prop where
  own : wr.ownsRow base 48 2 v k (prs vR vS k)
  rows : ∀ i, i < k → wr.ownsRow base 25 2 (vR i) (F i).1.length (flat (F i).1) ∧ wr.ownsRow base 25 2 (vS i) (F i).2.length (flat (F i).2)
  dist : Dis k vR vS
theorem TB.tr {w wr : World} {k : Nat} {F : Nat → HoldT} {vR vS : Nat → Value} {v : Value} (h : TB w wr k F vR vS v) : TR w.heap.size wr k F vR vS v := ⟨h.own, h.rows, h.dist⟩
theorem TR.stay {base : Nat} {wr w1 : World} {k g : Nat} {F : Nat → HoldT} {vR vS : Nat → Value} {v : Value} (h : TR base wr k F vR vS v) (hg : wr.grownBy w1 (some g)) (hlt : g < base) : TR base w1 k F vR vS v :=
  ⟨own_stay h.own hg (fun x e c => by injection c with c; have := (own_lt h.own e).1; omega), fun i hi => ⟨own_stay (h.rows i hi).1 hg (fun x e c => by injection c with c; have := (own_lt (h.rows i hi).1 e).1; omega), own_stay (h.rows i hi).2 hg (fun x e c => by injection c with c; have := (own_lt (h.rows i hi).2 e).1; omega)⟩, h.dist⟩
theorem TR.keep {base : Nat} {wr w1 : World} {k : Nat} {F : Nat → HoldT} {vR vS : Nat → Value} {v : Value} (h : TR base wr k F vR vS v) (hb : Below wr.heap.size wr w1) : TR base w1 k F vR vS v :=
  ⟨rowBel h.own hb, fun i hi => ⟨rowBel (h.rows i hi).1 hb, rowBel (h.rows i hi).2 hb⟩, h.dist⟩
theorem TR.row {base : Nat} {wr : World} {k nb cap : Nat} {F : Nat → HoldT} {vR vS : Nat → Value} (h : TR base wr k F vR vS (.slice (some ⟨nb, 0, none⟩) k cap)) : RowV2 wr nb k vR vS := fun i hi => by
  have h1 := prs_at vR vS k i hi
  exact ⟨by rw [h.own.cellAt _ (by omega)]; exact h1.1, by rw [h.own.cellAt _ (by omega)]; exact h1.2, h.own.frozenAt _, h.own.frozenAt _⟩
theorem TR.hds {base : Nat} {wr : World} {k nb cap : Nat} {F : Nat → HoldT} {vR vS : Nat → Value} {T : List HoldT} (h : TR base wr k F vR vS (.slice (some ⟨nb, 0, none⟩) k cap)) (hk : k = T.length) (h1 : k ≤ cap) (h2 : cap ≤ maxLen) (hF : ∀ i, i < k → F i = T.getD i hd0) (hn : base ≤ nb) : ∀ w1, Btw 0 base wr w1 → Hds w1 (.slice (some ⟨nb, 0, none⟩) k cap) T :=
  hds_row hk h1 h2 hn h.row fun i hi => by
    obtain ⟨r1, r2⟩ := h.rows i hi
    rw [hF i hi] at r1 r2
    exact ⟨⟨base, Nat.le_refl _, r1⟩, ⟨base, Nat.le_refl _, r2⟩⟩

theorem lock_len12 {T : List HoldT} (h : lockOkB T = true) {i : Nat} (hi : i < T.length) : (T.getD i hd0).1.length ≤ 12 ∧ (T.getD i hd0).2.length ≤ 12 := by
  obtain ⟨h3, hok, -⟩ := (lockOk_iff T).1 h
  have ho := okH_iff.1 (hok i (by omega))
  have h1 := ho.1
  have h2 := ho.2.1
  simp only [spansOkB, Bool.and_eq_true, decide_eq_true_eq] at h1 h2
  omega

theorem getD_dropH (T : List HoldT) (i : Nat) : (T.drop 1).getD i hd0 = T.getD (i + 1) hd0 := by
  rw [List.getD_eq_getElem?_getD, List.getElem?_drop, List.getD_eq_getElem?_getD, Nat.add_comm]

theorem hds_drop {w : World} {nb cap B0 : Nat} {f g : Nat → Value} {T : List HoldT} (h3 : T.length = 3) (h1 : 3 ≤ cap) (h2 : cap ≤ maxLen) (hne : B0 ≤ nb) (hr : RowV2 w nb 3 f g) (hs : ∀ i, i < 3 → OwnP w B0 (f i) (T.getD i hd0).1 ∧ OwnP w B0 (g i) (T.getD i hd0).2) : ∀ w1, Btw 0 B0 w w1 → Hds w1 (.slice (some ⟨nb, 2, none⟩) 2 (cap - 1)) (T.drop 1) := by
  intro w1 hg
  have hr1 := row_rd hr hg hne
  have hl : (T.drop 1).length = 2 := by simp [h3]
  refine ⟨_, cap - 1, by rw [hl], by omega, by omega, fun _ => ⟨nb, 2, rfl, fun i hi => ?_⟩⟩
  rw [hl] at hi
  obtain ⟨x1, x2, -, -⟩ := hr1 (i + 1) (by omega)
  rw [getD_dropH]
  exact ⟨_, _, by rw [show 2 + i * 2 = (i + 1) * 2 by omega]; exact x1, by rw [show 2 + i * 2 = (i + 1) * 2 by omega]; exact x2, (hs (i + 1) (by omega)).1.spn hg, (hs (i + 1) (by omega)).2.spn hg⟩

theorem getD_appH (T : List HoldT) (x : HoldT) (i : Nat) : (T ++ [x]).getD i hd0 = if i < T.length then T.getD i hd0 else if i = T.length then x else hd0 := by
  rw [List.getD_eq_getElem?_getD, List.getD_eq_getElem?_getD]
  by_cases h : i < T.length
  · rw [if_pos h, List.getElem?_append_left h]
  · rw [if_neg h, List.getElem?_append_right (by omega)]
    by_cases e : i = T.length
    · rw [if_pos e, e, Nat.sub_self]; rfl
    · rw [if_neg e, List.getElem?_eq_none (by simp; omega)]; rfl

/-- A table with an empty hold more. -/
theorem bent_app {w w2 w9 : World} {nb cap rb q g cap' : Nat} {T : List HoldT} {vR vS : Nat → Value} {o : Obj} (ht : TR w.heap.size w2 3 (fun i => T.getD i hd0) vR vS (.slice (some ⟨nb, 0, none⟩) 3 cap)) (hr : Rd w2 rb q) (hg : w.grownBy w2 (some rb)) (hrb : rb < w.heap.size) (hn : w.heap.size ≤ nb) (h3 : T.length = 3)
    (hL : ∀ i, i < T.length → (T.getD i hd0).1.length ≤ 12 ∧ (T.getD i hd0).2.length ≤ 12)
    (hown : w9.ownsRow w.heap.size 48 2 (.slice (some ⟨g, 0, none⟩) 4 cap') 4 (prs vR vS 3 ++ [.slice none 0 0, .slice none 0 0]))
    (hgrow : (w2.alloc o).grownBy w9 (Value.slice (some ⟨nb, 0, none⟩) 3 cap).ownBlock) (_hat : (Value.slice (some ⟨nb, 0, none⟩) 3 cap).ownBlock = some g ∨ g = w2.heap.size + 1) :
    (∀ w1, Btw 0 w.heap.size w9 w1 → Hds w1 (.slice (some ⟨g, 0, none⟩) 4 cap') (T ++ [([], [])])) ∧ (∀ i, i < (T ++ [([], [])]).length → ((T ++ [([], [])]).getD i hd0).1.length ≤ 13 ∧ ((T ++ [([], [])]).getD i hd0).2.length ≤ 13) ∧ Rd w9 rb q ∧ w.grownBy w9 (some rb) := by
  have hal : Below w2.heap.size w2 (w2.alloc o) := (Below.refl _ _).alloc (Nat.le_refl _) _
  have hta := ht.keep hal
  have hra := hr.keep hal
  have hga := grown_trans hg (grown_below hal (some rb))
  have hne : (25 : Nat) ≠ 48 := by decide
  have hrow : RowV2 w9 g 4 (upd vR 3 (.slice none 0 0)) (upd vS 3 (.slice none 0 0)) := fun i hi => by
    have e : prs vR vS 3 ++ [.slice none 0 0, .slice none 0 0] = prs (upd vR 3 (.slice none 0 0)) (upd vS 3 (.slice none 0 0)) 4 := by
      show _ = prs (upd vR 3 (.slice none 0 0)) (upd vS 3 (.slice none 0 0)) 3 ++ [upd vR 3 (.slice none 0 0) 3, upd vS 3 (.slice none 0 0) 3]
      rw [upd_at, upd_at, prs_congr 3 (fun i hi => ⟨upd_ne vR _ (by omega), upd_ne vS _ (by omega)⟩)]
    rw [e] at hown
    have h1 := prs_at (upd vR 3 (.slice none 0 0)) (upd vS 3 (.slice none 0 0)) 4 i hi
    exact ⟨by rw [hown.cellAt _ (by omega)]; exact h1.1, by rw [hown.cellAt _ (by omega)]; exact h1.2, hown.frozenAt _, hown.frozenAt _⟩
  have hoc := own_cap hown
  have hgb : w.heap.size ≤ g := (own_lt hown (g := g) rfl).1
  refine ⟨hds_row (by simp [h3]) hoc.1 hoc.2 hgb hrow fun i hi => ?_, fun i hi => ?_, ?_, ?_⟩
  · by_cases e : i = 3
    · subst e
      rw [upd_at, upd_at, getD_appH, if_neg (by omega), if_pos h3.symm]
      exact ⟨ownp_nil _ _, ownp_nil _ _⟩
    · rw [upd_ne _ _ e, upd_ne _ _ e, getD_appH, if_pos (by omega)]
      obtain ⟨r1, r2⟩ := hta.rows i (by omega)
      exact ⟨⟨_, Nat.le_refl _, own_stay r1 hgrow (fun b hb' => own_ne r1 hta.own hne hb')⟩, ⟨_, Nat.le_refl _, own_stay r2 hgrow (fun b hb' => own_ne r2 hta.own hne hb')⟩⟩
  · rw [getD_appH]
    by_cases e : i < T.length
    · rw [if_pos e]; have := hL i e; omega
    · rw [if_neg e]
      split
      · simp
      · simp
  · exact rd_grown hra hgrow (by show rb < nb; omega)
  · exact grown_own hga hgrow (by show w.heap.size ≤ nb; omega)

theorem own_far {W : World} {b : Nat} {e : TypeId} {size : Nat} {v : Value} {k : Nat} {xs : List Value} {nb o : Nat} {u : Value} (h : W.ownsRow b e size v k xs) (hne : v.ownBlock ≠ some nb) : (W.setCell ⟨nb, o, none⟩ u).ownsRow b e size v k xs :=
  ⟨h.1, h.2.imp id fun ⟨g, cap, cur, h1, h2, h3, h4⟩ => ⟨g, cap, cur, h1, h2, (block_set (fun e => hne (by rw [h1, e]; rfl))).trans h3, h4⟩⟩

/-- A table whose second hold's read list is another one. -/
theorem bent_set0 {w w2 w3 : World} {nb cap rb q g cp : Nat} {T : List HoldT} {vR vS : Nat → Value} {L : List Rng} (ht : TR w.heap.size w3 3 (fun i => T.getD i hd0) vR vS (.slice (some ⟨nb, 0, none⟩) 3 cap)) (hr : Rd w3 rb q) (hg : w.grownBy w3 (some rb)) (hrb : rb < w.heap.size) (hn : w.heap.size ≤ nb) (h3 : T.length = 3)
    (hL : ∀ i, i < T.length → (T.getD i hd0).1.length ≤ 12 ∧ (T.getD i hd0).2.length ≤ 12) (hc1 : 3 ≤ cap) (hc2 : cap ≤ maxLen)
    (ho : w3.ownsRow w2.heap.size 25 2 (.slice (some ⟨g, 0, none⟩) L.length cp) L.length (flat L)) (hw2 : w.heap.size ≤ w2.heap.size) (hl : L.length ≤ 13) :
    (∀ w1, Btw 0 w.heap.size (w3.setCell ⟨nb, 2, none⟩ (.slice (some ⟨g, 0, none⟩) L.length cp)) w1 → Hds w1 (.slice (some ⟨nb, 0, none⟩) 3 cap) (T.set 1 (L, (T.getD 1 hd0).2))) ∧ (∀ i, i < (T.set 1 (L, (T.getD 1 hd0).2)).length → ((T.set 1 (L, (T.getD 1 hd0).2)).getD i hd0).1.length ≤ 13 ∧ ((T.set 1 (L, (T.getD 1 hd0).2)).getD i hd0).2.length ≤ 13) ∧
      Rd (w3.setCell ⟨nb, 2, none⟩ (.slice (some ⟨g, 0, none⟩) L.length cp)) rb q ∧ w.grownBy (w3.setCell ⟨nb, 2, none⟩ (.slice (some ⟨g, 0, none⟩) L.length cp)) (some rb) := by
  have hne : (25 : Nat) ≠ 48 := by decide
  have hx := own_far (nb := nb) (o := 2) (u := .slice (some ⟨g, 0, none⟩) L.length cp) ho (fun e => own_ne ho ht.own hne e rfl)
  have hrow : RowV2 (w3.setCell ⟨nb, 2, none⟩ (.slice (some ⟨g, 0, none⟩) L.length cp)) nb 3 (fun i => if i = 1 then .slice (some ⟨g, 0, none⟩) L.length cp else vR i) vS := fun i hi => by
    obtain ⟨a0, a1, a2, a3⟩ := ht.row i hi
    obtain ⟨b0, -, b2, -⟩ := ht.row 1 (by omega)
    refine ⟨?_, ?_, by rw [World.frozen?_setCell]; exact a2, by rw [World.frozen?_setCell]; exact a3⟩
    · dsimp only
      by_cases e : i = 1
      · subst e; rw [if_pos rfl]; go_simp
      · rw [if_neg e, World.cell?_setCell_other _ _ _ _ (fun e' => e (by injection e' with _ e'' _; omega))]; exact a0
    · rw [World.cell?_setCell_other _ _ _ _ (fun e' => by injection e' with _ e'' _; omega)]; exact a1
  refine ⟨hds_row (by rw [List.length_set]; exact h3.symm) hc1 hc2 hn hrow fun i hi => ?_, fun i hi => ?_, hr.set (by omega), grown_new hg hn⟩
  · obtain ⟨r1, r2⟩ := ht.rows i hi
    have f1 := own_far (nb := nb) (o := 2) (u := .slice (some ⟨g, 0, none⟩) L.length cp) r1 (fun e => own_ne r1 ht.own hne e rfl)
    have f2 := own_far (nb := nb) (o := 2) (u := .slice (some ⟨g, 0, none⟩) L.length cp) r2 (fun e => own_ne r2 ht.own hne e rfl)
    by_cases e : i = 1
    · subst e
      rw [if_pos rfl, set_at (by omega)]
      exact ⟨⟨_, hw2, hx⟩, ⟨_, Nat.le_refl _, f2⟩⟩
    · rw [if_neg e, set_off e]
      exact ⟨⟨_, Nat.le_refl _, f1⟩, ⟨_, Nat.le_refl _, f2⟩⟩
  · rw [List.length_set] at hi
    by_cases e : i = 1
    · subst e
      rw [set_at (by omega)]
      have := hL 1 (by omega)
      exact ⟨hl, by show List.length (T.getD 1 hd0).2 ≤ 13; omega⟩
    · rw [set_off e]; have := hL i hi; omega

theorem app_tr {base : Nat} {w4 w9 : World} {nb cap n cs : Nat} {F : Nat → HoldT} {vR vS : Nat → Value} {as' : Option Addr} {o : Obj} (ht : TR base w4 3 F vR vS (.slice (some ⟨nb, 0, none⟩) 3 cap)) (hvs : vS 0 = .slice as' n cs) (hgrow : (w4.alloc o).grownBy w9 (Value.slice as' n cs).ownBlock) :
    w9.ownsRow base 48 2 (.slice (some ⟨nb, 0, none⟩) 3 cap) 3 (prs vR vS 3) ∧ ∀ i, i < 3 → w9.ownsRow base 25 2 (vR i) (F i).1.length (flat (F i).1) ∧ (i ≠ 0 → w9.ownsRow base 25 2 (vS i) (F i).2.length (flat (F i).2)) := by
  have hal : Below w4.heap.size w4 (w4.alloc o) := (Below.refl _ _).alloc (Nat.le_refl _) _
  have hta := ht.keep hal
  have hne : (48 : Nat) ≠ 25 := by decide
  rw [← hvs] at hgrow
  refine ⟨own_stay hta.own hgrow (fun g e => own_ne hta.own (hta.rows 0 (by omega)).2 hne e), fun i hi => ⟨own_stay (hta.rows i hi).1 hgrow (fun g e c => ?_), fun hi0 => own_stay (hta.rows i hi).2 hgrow (fun g e c => ?_)⟩⟩
  · exact (hta.dist.1 i 0 hi (by omega) g e).1 c
  · exact hta.dist.2 i 0 hi (by omega) g e hi0 c
theorem app_tab {base : Nat} {w4 w9 : World} {nb cap n cs : Nat} {F : Nat → HoldT} {vR vS : Nat → Value} {as' : Option Addr} {o : Obj} (ht : TR base w4 3 F vR vS (.slice (some ⟨nb, 0, none⟩) 3 cap)) (hvs : vS 0 = .slice as' n cs) (hgrow : (w4.alloc o).grownBy w9 (Value.slice as' n cs).ownBlock) : RowV2 w9 nb 3 vR vS := fun i hi => by
  have h := (app_tr ht hvs hgrow).1
  have h1 := prs_at vR vS 3 i hi
  exact ⟨by rw [h.cellAt _ (by omega)]; exact h1.1, by rw [h.cellAt _ (by omega)]; exact h1.2, h.frozenAt _, h.frozenAt _⟩

/-- A table whose first hold's write list has one range more. -/
theorem bent_set1 {w w4 w9 : World} {nb cap rb q g cs cap' : Nat} {T : List HoldT} {vR vS : Nat → Value} {L : List Rng} {as' : Option Addr} {o : Obj} {lo hi : Int} (ht : TR w.heap.size w4 3 (fun i => T.getD i hd0) vR vS (.slice (some ⟨nb, 0, none⟩) 3 cap)) (hr : Rd w4 rb q) (hg : w.grownBy w4 (some rb)) (hrb : rb < w.heap.size) (hn : w.heap.size ≤ nb) (h3 : T.length = 3)
    (hL : ∀ i, i < T.length → (T.getD i hd0).1.length ≤ 12 ∧ (T.getD i hd0).2.length ≤ 12) (hc1 : 3 ≤ cap) (hc2 : cap ≤ maxLen) (hvs : vS 0 = .slice as' L.length cs) (hnl : (T.getD 0 hd0).2 = L)
    (ho : w9.ownsRow w.heap.size 25 2 (.slice (some ⟨g, 0, none⟩) (L.length + 1) cap') (L.length + 1) (flat L ++ [.int .i64 lo, .int .i64 hi])) (hgrow : (w4.alloc o).grownBy w9 (Value.slice as' L.length cs).ownBlock) :
    (∀ w1, Btw 0 w.heap.size (w9.setCell ⟨nb, 1, none⟩ (.slice (some ⟨g, 0, none⟩) (L.length + 1) cap')) w1 → Hds w1 (.slice (some ⟨nb, 0, none⟩) 3 cap) (T.set 0 ((T.getD 0 hd0).1, L ++ [(lo, hi)]))) ∧ (∀ i, i < (T.set 0 ((T.getD 0 hd0).1, L ++ [(lo, hi)])).length → ((T.set 0 ((T.getD 0 hd0).1, L ++ [(lo, hi)])).getD i hd0).1.length ≤ 13 ∧ ((T.set 0 ((T.getD 0 hd0).1, L ++ [(lo, hi)])).getD i hd0).2.length ≤ 13) ∧
      Rd (w9.setCell ⟨nb, 1, none⟩ (.slice (some ⟨g, 0, none⟩) (L.length + 1) cap')) rb q ∧ w.grownBy (w9.setCell ⟨nb, 1, none⟩ (.slice (some ⟨g, 0, none⟩) (L.length + 1) cap')) (some rb) := by
  have hne : (25 : Nat) ≠ 48 := by decide
  have hal : Below w4.heap.size w4 (w4.alloc o) := (Below.refl _ _).alloc (Nat.le_refl _) _
  obtain ⟨t1, t2⟩ := app_tr ht hvs hgrow
  have t3 := app_tab ht hvs hgrow
  have ho' : w9.ownsRow w.heap.size 25 2 (.slice (some ⟨g, 0, none⟩) (L.length + 1) cap') (L ++ [(lo, hi)]).length (flat (L ++ [(lo, hi)])) := by
    rw [List.length_append, flat_append]; exact ho
  have hx := own_far (nb := nb) (o := 1) (u := .slice (some ⟨g, 0, none⟩) (L.length + 1) cap') ho' (fun e => own_ne ho' t1 hne e rfl)
  have hrow : RowV2 (w9.setCell ⟨nb, 1, none⟩ (.slice (some ⟨g, 0, none⟩) (L.length + 1) cap')) nb 3 vR (fun i => if i = 0 then .slice (some ⟨g, 0, none⟩) (L.length + 1) cap' else vS i) := fun i hi => by
    obtain ⟨a0, a1, a2, a3⟩ := t3 i hi
    obtain ⟨-, b1, -, b3⟩ := t3 0 (by omega)
    refine ⟨?_, ?_, by rw [World.frozen?_setCell]; exact a2, by rw [World.frozen?_setCell]; exact a3⟩
    · rw [World.cell?_setCell_other _ _ _ _ (fun e' => by injection e' with _ e'' _; omega)]; exact a0
    · dsimp only
      by_cases e : i = 0
      · subst e; rw [if_pos rfl]; go_simp
      · rw [if_neg e, World.cell?_setCell_other _ _ _ _ (fun e' => e (by injection e' with _ e'' _; omega))]; exact a1
  have hlt4 : ∀ b, (Value.slice as' L.length cs).ownBlock = some b → w.heap.size ≤ b := fun b e => by
    have h0 := (ht.rows 0 (by omega)).2
    rw [hvs] at h0
    exact (own_lt h0 e).1
  have hra := hr.keep hal
  have hga := grown_trans hg (grown_below hal (some rb))
  have hr9 : Rd w9 rb q ∧ w.grownBy w9 (some rb) := by
    rcases hob : (Value.slice as' L.length cs).ownBlock with _ | b
    · rw [hob] at hgrow
      have hb : Below (w4.alloc o).heap.size (w4.alloc o) w9 := ⟨hgrow.os, hgrow.tape, hgrow.output, hgrow.size, fun i hi => hgrow.block i hi (by simp)⟩
      exact ⟨hra.keep hb, grown_trans hga (grown_below hb _)⟩
    · rw [hob] at hgrow
      have := hlt4 b hob
      exact ⟨rd_grown hra hgrow (by omega), grown_own hga hgrow (by omega)⟩
  refine ⟨hds_row (by rw [List.length_set]; exact h3.symm) hc1 hc2 hn hrow fun i hi => ?_, fun i hi => ?_, hr9.1.set (by omega), grown_new hr9.2 hn⟩
  · obtain ⟨r1, r2⟩ := t2 i hi
    have f1 := own_far (nb := nb) (o := 1) (u := .slice (some ⟨g, 0, none⟩) (L.length + 1) cap') r1 (fun e => own_ne r1 t1 hne e rfl)
    by_cases e : i = 0
    · subst e
      rw [if_pos rfl, set_at (by omega)]
      exact ⟨⟨_, Nat.le_refl _, f1⟩, ⟨_, Nat.le_refl _, by rw [List.length_append] at hx ⊢; exact hx⟩⟩
    · have f2 := own_far (nb := nb) (o := 1) (u := .slice (some ⟨g, 0, none⟩) (L.length + 1) cap') (r2 e) (fun e' => own_ne (r2 e) t1 hne e' rfl)
      rw [if_neg e, set_off e]
      exact ⟨⟨_, Nat.le_refl _, f1⟩, ⟨_, Nat.le_refl _, f2⟩⟩
  · rw [List.length_set] at hi
    by_cases e : i = 0
    · subst e
      rw [set_at (by omega)]
      have := hL 0 (by omega)
      rw [hnl] at this
      exact ⟨by show List.length (T.getD 0 hd0).1 ≤ 13; omega, by simp; omega⟩
    · rw [set_off e]; have := hL i hi; omega

set_option maxRecDepth 100000 in
set_option maxHeartbeats 8000000 in
theorem l4Bent_any (rb p : Nat) (v : Value) (T : List HoldT) (w : World) (h : Rd w rb p) (hp : p ≤ 550000000) (hh : Hds w v T) (hq : lockOkB T = true) :
    Calls Try.prog 63 #[.pointer (some ⟨rb, 0, none⟩), v] w (Bnt w rb p 310) := by
  have hrb := h.lt
  have h3 := ((lockOk_iff T).1 hq).1
  have K1 := Lib.hid (l4Copy_tb v T w hh (by omega) (fun i hi => lock_len hq hi))
  have HL : Hid (∀ i, i < T.length → (T.getD i hd0).1.length ≤ 12 ∧ (T.getD i hd0).2.length ≤ 12) := fun i hi => lock_len12 hq hi
  have HR0 := Lib.hid h
  clear h hq hh
  go_enter Try.func63, Try.ntmps63
  go_wp2_with fail
  refine K1.out.mono ?_; rintro e w1 ⟨v1, vR, vS, rfl, ht1⟩
  rw [h3] at ht1
  obtain ⟨nb, cap, rfl, hn1, hn2, hc1, hc2⟩ := tb_form ht1.out (by omega)
  have HT1 := Lib.hid ht1.out.tr
  have HR1 := Lib.hid (HR0.out.keep ht1.out.bel)
  have HG1 := Lib.hid (grown_below ht1.out.bel (some rb))
  clear ht1 K1 HR0
  go_wp2_with fail
  refine (pick_any rb p 40 _ HR1.out (by omega) (by omega) (by omega)).mono ?_; rintro e w2 ⟨c, rfl, c0, -, hr2, hg2⟩
  have HT2 := Lib.hid (HT1.out.stay hg2 hrb)
  have HR2 := Lib.hid hr2
  have HG2 := Lib.hid (grown_trans HG1.out hg2)
  have HSP : Hid (∀ i, i < 3 → OwnP w2 w.heap.size (vR i) (T.getD i hd0).1 ∧ OwnP w2 w.heap.size (vS i) (T.getD i hd0).2) := fun i hi => ⟨⟨_, Nat.le_refl _, (HT2.out.rows i hi).1⟩, ⟨_, Nat.le_refl _, (HT2.out.rows i hi).2⟩⟩
  have H3 := Lib.hid h3
  unfold maxLen at hc2
  clear hr2 hg2 HT1 HR1 HG1
  by_cases e0 : c = 0
  · subst e0
    have HD := Lib.hid (hds_drop H3.out hc1 (by unfold maxLen; omega) hn1 HT2.out.row HSP.out)
    have HLL : Hid (∀ i, i < (T.drop 1).length → ((T.drop 1).getD i hd0).1.length ≤ 13 ∧ ((T.drop 1).getD i hd0).2.length ≤ 13) := fun i hi => by
      rw [getD_dropH]; have := HL.out (i + 1) (by simp at hi; omega); omega
    have hd3 : (T.drop 1).length ≤ 4 := by simp; omega
    clear h3
    go_wp2
    go_ret
    exact ⟨_, T.drop 1, p + 1, rfl, HD, hd3, HLL, HR2.out, by omega, HG2.out⟩
  · have d0 : (c == 0) = false := by simpa using e0
    by_cases e1 : c = 1
    · subst e1
      obtain ⟨i0, hi0, hz0, hz1, hz2⟩ := info_parts infoSpan2
      have HI : Hid (Try.prog.info? 25 = some i0 ∧ i0.zero = some (.agg #[.int .i64 0, .int .i64 0]) ∧ i0.size = 2 ∧ i0.bytes = 16) := ⟨hi0, hz0, hz1, hz2⟩
      obtain ⟨x1, x2, x3, x4⟩ := HT2.out.row 0 (by omega)
      obtain ⟨as', cs, hvs⟩ := rowForm (HT2.out.rows 0 (by omega)).2
      have HVS := Lib.hid hvs
      have hll : (T.getD 0 hd0).2.length ≤ 12 := (HL.out 0 (by omega)).2
      rw [hvs] at x2
      have hzz : ((0 : Nat) * 2 + 1) = 1 := rfl
      rw [hzz] at x2 x4
      generalize hnL : (T.getD 0 hd0).2 = L at *
      have HNL := Lib.hid hnL
      have hgs2 := HG2.out.size
      clear hi0 hz0 hz1 hz2 hvs hnL h3 x1 x3 hzz
      go_wp2_with fail
      go_region_law (first
        | (refine step_append_lies _ rfl (.tmp 20) (.tmp 23) 46 rfl w.heap.size 25 i0 (.agg #[.int .i64 0, .int .i64 0]) 2 16 Try.underlying46 HI.out.1 HI.out.2.1 HI.out.2.2.1 HI.out.2.2.2 rfl (by decide) _ _ _ rfl (HOW.out.alloc _) ⟨w4.heap.size, 0, none⟩ 1 1 [.int .i64 lo, .int .i64 hi] rfl rfl (two_new _ _ _ _) (by simp [Value.oneCell']) (by omega) (by unfold maxLen; omega) (by omega) (by have := HG4.out.size; simp; omega) (w4.heap.size + 1) (by simp) ?_; intro g' cap' w9 hown' hgrow hat hltg; obtain ⟨-, y2, -, y4⟩ := app_tab HT4.out HVS.out hgrow 0 (by omega); rw [HVS.out] at y2)
        | (go_simp; go_at_call 73; refine (l1Span_any rb (p + 1) w2.drew (HR2.out.keep (Below.refl _ _).drew) (by omega)).mono ?_; rintro e w4 ⟨lo, hi, rfl, hsp, hr4, hg4⟩; have HT4 := Lib.hid ((HT2.out.keep (Below.refl _ _).drew).stay hg4 hrb); obtain ⟨-, z2, -, -⟩ := HT4.out.row 0 (by omega); rw [HVS.out] at z2; have zA := cell_keep ((Below.refl w4.heap.size w4).alloc (Nat.le_refl _) (.cells #[.int .i64 lo, .int .i64 hi] 25)) z2; have HR4 := Lib.hid hr4; have HG4 := Lib.hid (grown_trans (grown_trans HG2.out (grown_below (Below.refl _ _).drew (some rb))) hg4); have HOW : Hid (w4.ownsRow w.heap.size 25 2 (.slice as' L.length cs) L.length (flat L)) := (by have := (HT4.out.rows 0 (by omega)).2; rw [HVS.out] at this; rw [← HNL.out]; rw [HNL.out] at this ⊢; exact this)))
      all_goals (
        have HSS := Lib.hid (bent_set1 HT4.out HR4.out HG4.out hrb hn1 H3.out HL.out hc1 (by unfold maxLen; omega) HVS.out HNL.out hown' hgrow)
        clear hr4 hg4 HT2 HSP HT4 HOW hgrow hown' y2 y4 x2 x4 z2 zA
        go_wp2
        go_ret
        exact ⟨_, _, p + 1 + 2, rfl, Lib.hid HSS.out.1, by simp [H3.out], Lib.hid HSS.out.2.1, HSS.out.2.2.1, by omega, HSS.out.2.2.2⟩)
    · have d1 : (c == 1) = false := by simpa using e1
      by_cases e2 : c = 2
      · subst e2
        go_wp2_with fail
        refine (l1Lists_any rb (p + 1) _ HR2.out (by omega)).mono ?_; rintro e w3 ⟨g, cp, q, L, rfl, hgrb, HOL, hL13, hr3, hq3, hg3⟩
        have HT3 := Lib.hid (HT2.out.stay hg3 hrb)
        have HR3 := Lib.hid hr3
        have HG3 := Lib.hid (grown_trans HG2.out hg3)
        have HSS := Lib.hid (bent_set0 HT3.out hr3 HG3.out hrb hn1 H3.out HL.out hc1 (by unfold maxLen; omega) HOL.out HG2.out.size hL13)
        obtain ⟨x1, -, x3, -⟩ := HT3.out.row 1 (by omega)
        clear hr3 hg3 HT2 HSP HT3 h3
        go_wp2
        go_ret
        exact ⟨_, _, q, rfl, Lib.hid HSS.out.1, by simp [H3.out], Lib.hid HSS.out.2.1, HSS.out.2.2.1, by omega, HSS.out.2.2.2⟩
      · have d2 : (c == 2) = false := by simpa using e2
        by_cases e3 : c = 3
        · subst e3
          obtain ⟨i0, hi0, hz0, hz1, hz2⟩ := info_parts infoHoldT
          have HI : Hid (Try.prog.info? 48 = some i0 ∧ i0.zero = some (.agg #[.slice none 0 0, .slice none 0 0]) ∧ i0.size = 2 ∧ i0.bytes = 48) := ⟨hi0, hz0, hz1, hz2⟩
          have hg2s := HG2.out.size
          have HO2 := Lib.hid HT2.out.own
          clear h3 hi0 hz0 hz1 hz2
          go_wp2_with (at_builtin; refine wpList_append_lies _ rfl (.tmp 36) (.tmp 38) 23 rfl w.heap.size 48 i0 (.agg #[.slice none 0 0, .slice none 0 0]) 2 48 Try.underlying23 HI.out.1 HI.out.2.1 HI.out.2.2.1 HI.out.2.2.2 rfl (by decide) _ _ _ rfl (HO2.out.alloc _) ⟨w2.heap.size, 0, none⟩ 1 1 [.slice none 0 0, .slice none 0 0] rfl rfl (twoNew _ _ _ _) (by simp [Value.oneCell']) (by omega) (by unfold maxLen; omega) (by omega) (by simp; omega) (w2.heap.size + 1) (by simp) ?_; intro g' cap' w9 hown' hgrow hat hltg)
          have HN := Lib.hid (bent_app HT2.out HR2.out HG2.out hrb hn1 H3.out HL.out hown' hgrow hat)
          clear hown' hgrow hat HT2 HSP HO2
          go_wp2
          go_ret
          exact ⟨_, _, p + 1, rfl, Lib.hid HN.out.1, by simp [H3.out], Lib.hid HN.out.2.1, HN.out.2.2.1, by omega, HN.out.2.2.2⟩
        · have d3 : (c == 3) = false := by simpa using e3
          have HD := Lib.hid (HT2.out.hds (T := T) H3.out.symm hc1 (by unfold maxLen; omega) (fun i _ => rfl) hn1)
          have HLL : Hid (∀ i, i < T.length → (T.getD i hd0).1.length ≤ 13 ∧ (T.getD i hd0).2.length ≤ 13) := fun i hi => by have := HL.out i hi; omega
          clear h3
          go_wp2
          go_ret
          exact ⟨_, T, p + 1, rfl, HD, by have := H3.out; omega, HLL, HR2.out, by omega, HG2.out⟩

end Go.Proofs.Ytfifimdaepebeaa
