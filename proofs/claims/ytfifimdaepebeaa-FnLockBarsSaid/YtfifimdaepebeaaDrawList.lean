/-
  Contract of the draw of a list of ranges (l1List): a new row of at most twelve ranges; the reader's place moved on; nothing else changed.
-/
import Derived.Test.YtfifimdaepebeaaAddCut
import Derived.Test.YtfifimdaepebeaaDrawSpan
import Derived.Test.YtfifimdaepebeaaDrawNum
import Derived.Deep.DeepCutAuto
namespace Go.Proofs.Ytfifimdaepebeaa
open Go.RowKit

theorem own_spn {w : World} {B g cap : Nat} {L : List Rng} (h : w.ownsRow B 25 2 (.slice (some ⟨g, 0, none⟩) L.length cap) L.length (flat L)) : Spn w (.slice (some ⟨g, 0, none⟩) L.length cap) L := by
  have hc := own_cap h
  refine ⟨_, cap, rfl, hc.1, hc.2, fun _ => ⟨g, 0, rfl, fun i hi => ?_⟩⟩
  have := own_row2 h i hi
  rw [Nat.zero_add]
  exact ⟨this.1, this.2.1⟩
theorem own_below {W W' : World} {b : Nat} {e : TypeId} {size : Nat} {v : Value} {k : Nat} {xs : List Value} (h : W.ownsRow b e size v k xs) (hb : Below W.heap.size W W') : W'.ownsRow b e size v k xs :=
  ⟨h.1, h.2.imp id fun ⟨g, cap, cur, h1, h2, h3, h4⟩ => ⟨g, cap, cur, h1, h2, (hb.block g (Array.getElem?_eq_some_iff.1 h3).1).trans h3, h4⟩⟩

theorem rd_grown {a b : World} {rb q g : Nat} (h : Rd a rb q) (hg : a.grownBy b (some g)) (hlt : rb < g) : Rd b rb q := by
  obtain ⟨z, x, len, cap, h0, h1, h2, h3, h4⟩ := h
  refine ⟨z, x, len, cap, grown_cell hg (by omega) h0, grown_cell hg (by omega) h1, (grown_frozen hg (by omega) h1).trans h2, h3, fun hp => ?_⟩
  obtain ⟨b', off, ha, hne, hc⟩ := h4 hp
  exact ⟨b', off, ha, hne, fun i hi => ⟨grown_cell hg (by omega) (hc i hi).1, (hc i hi).2⟩⟩
theorem grown_own {a b c : World} {row : Option Nat} {g : Nat} (h : a.grownBy b row) (k : b.grownBy c (some g)) (hg : a.heap.size ≤ g) : a.grownBy c row :=
  ⟨k.os.trans h.os, k.tape.trans h.tape, k.output.trans h.output, Nat.le_trans h.size k.size, fun i hi hne => (k.block i (Nat.lt_of_lt_of_le hi h.size) (by intro e; injection e with e; omega)).trans (h.block i hi hne)⟩
/-- An append to a row of ranges: what it leaves. -/
theorem app_row {w w8 w9 : World} {rb q B n g cap : Nat} {L : List Rng} {v' : Value} (x y : Int) (hn : L.length = n)
    (ho : w8.ownsRow B 25 2 (.slice (some ⟨g, 0, none⟩) n cap) n (flat L)) (hr : Rd w8 rb q) (hg : w.grownBy w8 (some rb)) (hrbB : rb < B) (hB : B = w.heap.size)
    (hown : w9.ownsRow B 25 2 v' (n + 1) (flat L ++ [.int .i64 x, .int .i64 y]))
    (hgrow : (w8.alloc (.cells #[.int .i64 x, .int .i64 y] 25)).grownBy w9 (some g)) :
    ∃ g' cap', v' = .slice (some ⟨g', 0, none⟩) (n + 1) cap' ∧ g' ≠ rb ∧ w9.ownsRow B 25 2 (.slice (some ⟨g', 0, none⟩) (n + 1) cap') (n + 1) (flat (L ++ [(x, y)])) ∧ Rd w9 rb q ∧ w.grownBy w9 (some rb) := by
  have hgB := ho.lt g rfl
  have hal : Below w8.heap.size w8 (w8.alloc (.cells #[.int .i64 x, .int .i64 y] 25)) := (Below.refl _ _).alloc (Nat.le_refl _) _
  have hr9 := rd_grown (hr.keep hal) hgrow (by omega)
  have hg9 := grown_own (grown_trans hg (grown_below hal _)) hgrow (by omega)
  rcases hown.2 with ⟨-, h0⟩ | ⟨g', cap', cur, rfl, hb', hh, rest⟩
  · omega
  · refine ⟨g', cap', rfl, by omega, ?_, hr9, hg9⟩
    rw [flat_append]
    exact hown

/-- Its numbers are small. -/
def bnd (L : List Rng) : Prop := ∀ s ∈ L, 0 ≤ s.1 ∧ s.1 ≤ 48 ∧ 0 ≤ s.2 ∧ s.2 ≤ 48
theorem bnd_ok {L : List Rng} (h : spansOkB L = true) : bnd L := fun s hs => by
  obtain ⟨h0, h1, h2⟩ := spanOkB_iff.1 (spansOkB_all h s hs)
  omega
theorem okB_len {L : List Rng} (h : spansOkB L = true) : L.length ≤ 12 := by
  unfold spansOkB at h; simp only [Bool.and_eq_true, decide_eq_true_eq] at h; exact h.1

/-- What a draw of a list leaves. -/
def Ls (C : List Rng → Prop) (w : World) (rb p k : Nat) (e : Ending) (w' : World) : Prop :=
  ∃ (g cap q : Nat) (L : List Rng), e = .returned (.slice (some ⟨g, 0, none⟩) L.length cap) ∧ g ≠ rb ∧ Hid (w'.ownsRow w.heap.size 25 2 (.slice (some ⟨g, 0, none⟩) L.length cap) L.length (flat L)) ∧ C L ∧ Rd w' rb q ∧ q ≤ p + k ∧ w.grownBy w' (some rb)

theorem new_row (w : World) {B : Nat} (hB : B ≤ w.heap.size) : (w.alloc (.cells #[] 25)).ownsRow B 25 2 (.slice (some ⟨w.heap.size, 0, none⟩) 0 0) 0 (flat []) := by
  have := World.ownsRow_made w (e := 25) (base := B) (size := 2) #[] 0 hB (by unfold maxLen; omega) rfl
  simpa [flat] using this

/-- The list that has every third place. -/
def third (n : Nat) : List Rng := (List.range n).map fun (i : Nat) => (3 * (i : Int), 3 * (i : Int) + 1)
theorem third_len (n : Nat) : (third n).length = n := by unfold third; simp
theorem third_succ (n : Nat) : third (n + 1) = third n ++ [(3 * (n : Int), 3 * (n : Int) + 1)] := by unfold third; rw [List.range_succ]; simp
theorem third_bnd (n : Nat) (h : n ≤ 12) : bnd (third n) := fun s hs => by
  unfold third at hs
  obtain ⟨i, hi, rfl⟩ := List.mem_map.1 hs
  have := List.mem_range.1 hi
  simp only; omega

set_option maxRecDepth 100000 in
set_option maxHeartbeats 8000000 in
theorem l1List_any (rb p : Nat) (w : World) (h : Rd w rb p) (hp : p ≤ 700000000) :
    Calls Try.prog 98 #[.pointer (some ⟨rb, 0, none⟩)] w (Ls (fun L => L.length ≤ 12 ∧ bnd L) w rb p 200) := by
  obtain ⟨i0, hi0, hz0, hz1, hz2⟩ := info_parts infoSpan'
  have HI0 := Lib.hid (And.intro hi0 (And.intro hz0 (And.intro hz1 hz2)))
  clear hi0 hz0 hz1 hz2
  have hrb := h.lt
  have hal : Below w.heap.size w (w.alloc (.cells #[] 25)) := (Below.refl _ _).alloc (Nat.le_refl _) _
  have HR0 := Lib.hid (h.keep hal)
  have HO0 := Lib.hid (new_row w (Nat.le_refl _))
  have HG0 := Lib.hid (grown_below hal (some rb))
  clear h hal
  go_enter Try.func98, Try.ntmps98
  go_wp2_with fail
  refine (numLA_any rb p [1, 2, 3, 5, 0, 9] 6 (fun v => 0 ≤ v ∧ v ≤ 9) (w.alloc (.cells #[] 25)) (w.heap.size + 1) _ _ rfl rfl (by simp) HR0.out (by omega) (by omega) (by omega) (by simp)).mono ?_; rintro e w1 ⟨i, q1, rfl, ⟨i1, i2⟩, hr1, hq1, hg1⟩
  obtain ⟨n0, rfl⟩ : ∃ n : Nat, i = n := ⟨i.toNat, by omega⟩
  have HR1 := Lib.hid hr1
  have HO1 := Lib.hid (World.ownsRow.kept HO0.out hg1 (Or.inr (by simp [Value.ownBlock]; omega)))
  have HG1 := Lib.hid (grown_trans HG0.out hg1)
  clear hr1 hg1 HR0 HO0 HG0
  go_wp2
  go_loopg [3, 4] n0 (fun gm s3 s4 wr => ∃ (k q g cap : Nat) (L : List Rng), gm = k ∧ k ≤ n0 ∧ s4 = .int .i64 k ∧ s3 = .slice (some ⟨g, 0, none⟩) L.length cap ∧ Hid (wr.ownsRow w.heap.size 25 2 (.slice (some ⟨g, 0, none⟩) L.length cap) L.length (flat L)) ∧ Hid (Rd wr rb q) ∧ Hid (w.grownBy wr (some rb)) ∧ q + 10 * k ≤ p + 100 ∧ g ≠ rb ∧ Hid (L.length ≤ 12 ∧ bnd L))
  case atStart => exact ⟨n0, q1, w.heap.size, 0, [], rfl, Nat.le_refl _, rfl, rfl, HO1, HR1, HG1, by omega, by omega, Lib.hid ⟨by simp, fun s hs => by simp at hs⟩⟩
  case round =>
    obtain ⟨k, q, g, cap, L, hgk, hk, rfl, rfl, HO, HR, HG, hq, hgrb, HB⟩ := hrel
    obtain rfl := hgk.symm
    by_cases hk0 : 0 < k
    · go_wp2_with fail
      refine (l1Span_any rb q _ HR.out (by omega)).mono ?_; rintro e w2 ⟨lo, hi, rfl, hsp, hr2, hg2⟩
      have HR2 := Lib.hid hr2
      have HO2 := Lib.hid (World.ownsRow.kept HO.out hg2 (Or.inr (by simpa [Value.ownBlock] using hgrb)))
      have HG2 := Lib.hid (grown_trans HG.out hg2)
      have HSP := Lib.hid hsp
      clear hr2 hg2 HR HO HG hsp
      go_wp2_with fail
      refine (l1Add_own _ L lo hi _ (own_spn HO2.out) HSP.out).mono ?_; rintro e w3 ⟨g3, cap3, rfl, hg3, ho3, hb3⟩
      have hr2lt := HR2.out.lt
      have hw2 := HG2.out.size
      have HO3 := Lib.hid (World.ownsRow.mono ho3.out hw2)
      have HR3 := Lib.hid (HR2.out.keep hb3)
      have HOo := Lib.hid (own_below HO2.out hb3)
      have HG3 := Lib.hid (grown_trans HG2.out (grown_below hb3 _))
      have hg3rb : g3 ≠ rb := by omega
      clear ho3 hb3 HR2 HO2 HG2 HSP
      generalize rg (addF L lo hi) 48 = M at *
      go_wp2_with fail
      refine (pick_any rb (q + 2) 3 _ HR3.out (by omega) (by omega) (by omega)).mono ?_; rintro e w4 ⟨c, rfl, c0, -, hr4, hg4⟩
      have HR4 := Lib.hid hr4
      have HO4 := Lib.hid (World.ownsRow.kept HO3.out hg4 (Or.inr (by simpa [Value.ownBlock] using hg3rb)))
      have HOo4 := Lib.hid (World.ownsRow.kept HOo.out hg4 (Or.inr (by simpa [Value.ownBlock] using hgrb)))
      have HG4 := Lib.hid (grown_trans HG3.out hg4)
      clear hr4 hg4 HR3 HO3 HOo HG3
      by_cases hc : c = 0
      · subst hc
        go_wp2_with fail
        refine (l1Span_any rb (q + 2 + 1) _ HR4.out (by omega)).mono ?_; rintro e w5 ⟨lo2, hi2, rfl, hsp2, hr5, hg5⟩
        have HR5 := Lib.hid hr5
        have HO5 := Lib.hid (World.ownsRow.kept HO4.out hg5 (Or.inr (by simpa [Value.ownBlock] using hg3rb)))
        have HOo5 := Lib.hid (World.ownsRow.kept HOo4.out hg5 (Or.inr (by simpa [Value.ownBlock] using hgrb)))
        have HG5 := Lib.hid (grown_trans HG4.out hg5)
        have HSP2 := Lib.hid hsp2
        clear hr5 hg5 HR4 HO4 HOo4 HG4 hsp2
        go_wp2_with fail
        refine (l1Cut_own _ M lo2 hi2 _ (own_spn HO5.out) HSP2.out).mono ?_; rintro e w6 ⟨g6, cap6, rfl, hg6, ho6, hb6⟩
        have hr5lt := HR5.out.lt
        have hw5 := HG5.out.size
        have HO6 := Lib.hid (World.ownsRow.mono ho6.out hw5)
        have HR6 := Lib.hid (HR5.out.keep hb6)
        have HOo6 := Lib.hid (own_below HOo5.out hb6)
        have HG6 := Lib.hid (grown_trans HG5.out (grown_below hb6 _))
        have hg6rb : g6 ≠ rb := by omega
        clear ho6 hb6 HR5 HO5 HOo5 HG5 HSP2
        generalize rg (cutF M lo2 hi2) 48 = M2 at *
        by_cases hM : spansOkB M2 = true
        · go_wp2_with fail
          refine (specSpansOk_any _ M2 _ (own_spn HO6.out)).mono ?_; rintro e w7 ⟨rfl, hb7⟩
          have HR7 := Lib.hid (HR6.out.keep hb7)
          have HO7 := Lib.hid (own_below HO6.out hb7)
          have HG7 := Lib.hid (grown_trans HG6.out (grown_below hb7 _))
          have HB7 := Lib.hid (And.intro (okB_len hM) (bnd_ok hM))
          clear hb7
          go_wp2
          go_roundg (k - 1)
          case measure => omega
          case rel => exact ⟨k - 1, _, _, _, M2, rfl, by omega, by go_num, rfl, HO7, HR7, HG7, by omega, hg6rb, HB7⟩
        · replace hM : spansOkB M2 = false := by simpa using hM
          go_wp2_with fail
          refine (specSpansOk_any _ M2 _ (own_spn HO6.out)).mono ?_; rintro e w7 ⟨rfl, hb7⟩
          have HR7 := Lib.hid (HR6.out.keep hb7)
          have HO7 := Lib.hid (own_below HOo6.out hb7)
          have HG7 := Lib.hid (grown_trans HG6.out (grown_below hb7 _))
          clear hb7
          go_wp2
          go_roundg (k - 1)
          case measure => omega
          case rel => exact ⟨k - 1, _, g, cap, L, rfl, by omega, by go_num, rfl, HO7, HR7, HG7, by omega, hgrb, HB⟩
      · have hc' : (c == 0) = false := by simpa using hc
        by_cases hM : spansOkB M = true
        · go_wp2_with fail
          refine (specSpansOk_any _ M _ (own_spn HO4.out)).mono ?_; rintro e w7 ⟨rfl, hb7⟩
          have HR7 := Lib.hid (HR4.out.keep hb7)
          have HO7 := Lib.hid (own_below HO4.out hb7)
          have HG7 := Lib.hid (grown_trans HG4.out (grown_below hb7 _))
          have HB7 := Lib.hid (And.intro (okB_len hM) (bnd_ok hM))
          clear hb7
          go_wp2
          go_roundg (k - 1)
          case measure => omega
          case rel => exact ⟨k - 1, _, _, _, M, rfl, by omega, by go_num, rfl, HO7, HR7, HG7, by omega, hg3rb, HB7⟩
        · replace hM : spansOkB M = false := by simpa using hM
          go_wp2_with fail
          refine (specSpansOk_any _ M _ (own_spn HO4.out)).mono ?_; rintro e w7 ⟨rfl, hb7⟩
          have HR7 := Lib.hid (HR4.out.keep hb7)
          have HO7 := Lib.hid (own_below HOo4.out hb7)
          have HG7 := Lib.hid (grown_trans HG4.out (grown_below hb7 _))
          clear hb7
          go_wp2
          go_roundg (k - 1)
          case measure => omega
          case rel => exact ⟨k - 1, _, g, cap, L, rfl, by omega, by go_num, rfl, HO7, HR7, HG7, by omega, hgrb, HB⟩
    · obtain rfl : k = 0 := by omega
      go_wp2_with fail
      refine (pick_any rb q 10 _ HR.out (by omega) (by omega) (by omega)).mono ?_; rintro e w2 ⟨c, rfl, c0, -, hr2, hg2⟩
      have HR2 := Lib.hid hr2
      have HO2 := Lib.hid (World.ownsRow.kept HO.out hg2 (Or.inr (by simpa [Value.ownBlock] using hgrb)))
      have HG2 := Lib.hid (grown_trans HG.out hg2)
      clear hr2 hg2 HR HO HG
      by_cases hc : c = 0
      · subst hc
        have hr2lt := HR2.out.lt
        have hwg := HG2.out.size
        have hal2 : Below w2.heap.size w2 (w2.alloc (.cells #[] 25)) := (Below.refl _ _).alloc (Nat.le_refl _) _
        have HO3 := Lib.hid (new_row w2 HG2.out.size)
        have HR3 := Lib.hid (HR2.out.keep hal2)
        have HG3 := Lib.hid (grown_trans HG2.out (grown_below hal2 _))
        clear hal2 HR2 HO2 HG2
        go_wp2
        go_loopg [3, 6] 13 (fun gm s3 s6 wr => ∃ (i q g cap : Nat), gm = 13 - i ∧ i ≤ 12 ∧ s6 = .int .i64 i ∧ s3 = .slice (some ⟨g, 0, none⟩) i cap ∧ Hid (wr.ownsRow w.heap.size 25 2 (.slice (some ⟨g, 0, none⟩) i cap) i (flat (third i))) ∧ Hid (Rd wr rb q) ∧ Hid (w.grownBy wr (some rb)) ∧ q ≤ p + 120 + i ∧ g ≠ rb)
        case atStart => exact ⟨0, q + 1, w2.heap.size, 0, rfl, by omega, rfl, rfl, HO3, HR3, HG3, by omega, by omega⟩
        case round =>
          obtain ⟨i, q', g', cap', rfl, hi, rfl, rfl, HOi, HRi, HGi, hqi, hgi⟩ := hrel
          go_wp2_with fail
          refine (pick_any rb q' 2 _ HRi.out (by omega) (by omega) (by omega)).mono ?_; rintro e w4 ⟨c, rfl, c0, c1, hr4, hg4⟩
          have c2 := c1 (by omega)
          have HR4 := Lib.hid hr4
          have HO4 := Lib.hid (World.ownsRow.kept HOi.out hg4 (Or.inr (by simpa [Value.ownBlock] using hgi)))
          have HG4 := Lib.hid (grown_trans HGi.out hg4)
          clear hr4 hg4 HRi HOi HGi c1
          by_cases hlt : (i : Int) < 12 - c
          · go_wp2_with (at_builtin; refine wpList_append_own _ rfl _ _ 46 rfl w.heap.size 25 i0 (.agg #[.int .i64 0, .int .i64 0]) 2 16 Try.underlying46 HI0.out.1 HI0.out.2.1 HI0.out.2.2.1 HI0.out.2.2.2 rfl (by decide) _ _ _ rfl (HO4.out.alloc _) ⟨w4.heap.size, 0, none⟩ 1 1 [.int .i64 (3 * (i : Int)), .int .i64 (3 * (i : Int) + 1)] rfl rfl ?c1 ?c2 ?c3 ?c4 ?c5 ?_)
            case c1 => exact two_new _ _ _ _
            case c2 => simp [Value.oneCell']
            case c3 => unfold maxLen; omega
            case c4 => omega
            case c5 => have := HG4.out.size; first | omega | (simp; omega)
            intro v' w9 hown' hgrow _
            obtain ⟨g9, cap9, rfl, hg9, ho9, hr9, hgr9⟩ := app_row (3 * (i : Int)) (3 * (i : Int) + 1) (third_len i) HO4.out HR4.out HG4.out hrb rfl hown' hgrow
            have HO9 : Hid (w9.ownsRow w.heap.size 25 2 (.slice (some ⟨g9, 0, none⟩) (i + 1) cap9) (i + 1) (flat (third (i + 1)))) := by
              show World.ownsRow _ _ _ _ _ _ _
              rw [third_succ]; exact ho9
            have HR9 := Lib.hid hr9
            have HG9 := Lib.hid hgr9
            clear hown' hgrow ho9 hr9 hgr9
            go_wp2
            go_roundg (13 - (i + 1))
            case measure => omega
            case rel => exact ⟨i + 1, q' + 1, g9, cap9, rfl, by omega, by go_num, rfl, HO9, HR9, HG9, by omega, hg9⟩
          · go_wp2
            go_ret
            refine ⟨g', cap', q' + 1, third i, by rw [third_len]; rfl, hgi, ?_, ⟨by rw [third_len]; exact hi, third_bnd i hi⟩, HR4.out, by omega, HG4.out⟩
            rw [third_len]; exact HO4
      · have hc' : (c == 0) = false := by simpa using hc
        go_wp2
        go_ret
        exact ⟨g, cap, _, L, rfl, hgrb, HO2, HB.out, HR2.out, by omega, HG2.out⟩

end Go.Proofs.Ytfifimdaepebeaa
