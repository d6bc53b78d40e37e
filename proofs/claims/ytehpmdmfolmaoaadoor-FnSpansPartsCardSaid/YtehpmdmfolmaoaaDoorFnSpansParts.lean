/-
  laws.FnSpansParts returns true at every code: the walk of the law. Condition: the table behind math/bits.TrailingZeros64.
-/
import Derived.Test.YtehpmdmfolmaoaaDoorDrawMany
import Derived.Test.YtehpmdmfolmaoaaDoorWp
import Derived.Test.YtehpmdmfolmaoaaDoorRgoSpn
import Derived.Test.YtehpmdmfolmaoaaDoorPartsMath
namespace Go.Proofs.YtehpmdmfolmaoaaDoor.fnSpansParts
open Go.RowKit

theorem spn_nil (w : World) (g : Nat) : Spn w (.slice (some ⟨g, 0, none⟩) 0 0) [] :=
  ⟨_, 0, rfl, Nat.le_refl _, by unfold maxLen; omega, fun h => absurd rfl h⟩

set_option maxRecDepth 100000 in
set_option maxHeartbeats 4000000 in
theorem walk (v : Value) (len : Nat) (w : World) (h : Byt w v len) (hT : TabAt w) (hg0 : 0 < w.heap.size) :
    Calls Tryd.prog 9 #[v] w fun e w' => e = .returned (.bool true) ∧ Below w.heap.size w w' := by
  have HB := Lib.hid h
  have HT := Lib.hid hT
  have hlen : len ≤ 9223372036854775807 := by obtain ⟨z, a, cap, -, h1, h2, -⟩ := h; unfold maxLen at h2; omega
  obtain ⟨z, a, cap, rfl, -, -, -⟩ := h
  clear hT
  by_cases hL : len ≤ 1048576
  · go_enter Tryd.func9, Tryd.ntmps9
    go_wp2_with fail
    refine (drawSpansOk_any _ len _ HB.out).mono ?_; rintro e w1 ⟨g, cap1, L, rfl, hs1, hL13, hb1⟩
    have HS1 := Lib.hid hs1
    have HT1 := Lib.hid (HT.out.keep hb1)
    generalize hoL : spansOkB L = o at *
    have HoL := Lib.hid hoL
    have q1 : (o != o) = false := by simp
    have q2 : (o == o) = true := by simp
    clear hs1 hoL HB HT
    go_wp2_with fail
    refine (implSpansOk_any _ L _ HS1.out).mono ?_; rintro e w2 ⟨rfl, hb2⟩
    rw [HoL.out]
    have HS2 := Lib.hid (HS1.out.keep hb2)
    have HT2 := Lib.hid (HT1.out.keep hb2)
    have E2 := hb1.trans (hb2.mono hb1.size)
    clear HS1 HT1 hb1 hb2
    go_wp2_with fail
    refine (specSpansOk_any _ L _ HS2.out).mono ?_; rintro e w3 ⟨rfl, hb3⟩
    rw [HoL.out]
    have HS3 := Lib.hid (HS2.out.keep hb3)
    have HT3 := Lib.hid (HT2.out.keep hb3)
    have E3 := E2.trans (hb3.mono E2.size)
    clear HS2 HT2 hb3
    cases o
    · go_wp2_with fail
      refine (specSpansOk_any _ L _ HS3.out).mono ?_; rintro e w4 ⟨rfl, hb4⟩
      rw [HoL.out]
      go_wp2
      go_ret
      exact ⟨rfl, E3.trans (hb4.mono E3.size)⟩
    · have ha1 : Below w3.heap.size w3 (w3.alloc (.cells #[] 25)) := (Below.refl _ _).alloc (Nat.le_refl _) _
      have ha2 := ha1.alloc ha1.size (.cells #[] 25)
      have HA2 := Lib.hid ha2
      clear ha1 ha2
      go_wp2
      go_loopg [5, 6, 7] L.length (fun g s5 s6 s7 wr => ∃ k : Nat, g = L.length - k ∧ k ≤ L.length ∧ s7 = .int .i64 k ∧ Spn wr s5 (L.take k) ∧ Spn wr s6 (L.drop (L.length - k)) ∧ Below w3.heap.size w3 wr)
      case atStart => exact ⟨0, rfl, Nat.zero_le _, rfl, spn_nil _ _, by rw [Nat.sub_zero, List.drop_length]; exact spn_nil _ _, HA2.out⟩
      case round =>
        obtain ⟨k, rfl, hk, rfl, hx, hy, hbr⟩ := hrel
        have HSr := Lib.hid (HS3.out.keep hbr)
        have HTr := Lib.hid (HT3.out.keep hbr)
        have Er := E3.trans (hbr.mono E3.size)
        have hgr : 0 < wr.heap.size := Nat.lt_of_lt_of_le hg0 Er.size
        by_cases hlt : k < L.length
        · obtain ⟨j, hj⟩ : ∃ j : Nat, L.length = k + 1 + j := ⟨L.length - (k + 1), by omega⟩
          have hjl : j < L.length := by omega
          have QX := Lib.hid (add_take HoL.out k hlt)
          have QY := Lib.hid (add_drop HoL.out j hjl)
          have hLy : L.length - k = j + 1 := by omega
          rw [hLy] at hy
          have hji : (L.length : Int) - 1 - (k : Int) = (j : Int) := by omega
          have hcells : ∀ i, i < L.length → wr.cell? ⟨g, i * 2, none⟩ = some (.int .i64 (L.getD i (0, 0)).1) ∧ wr.cell? ⟨g, i * 2 + 1, none⟩ = some (.int .i64 (L.getD i (0, 0)).2) := fun i hi => by
            obtain ⟨a', c', hv, -, -, hc⟩ := HSr.out
            obtain ⟨b, off, ha, hcc⟩ := hc (fun e => by rw [e] at hlt; exact absurd hlt (by simp))
            injection hv with p1 p2 p3
            rw [← p1] at ha; injection ha with ha; injection ha with hb1 hb2 hb3
            subst hb1; subst hb2
            have := hcc i hi
            rw [Nat.zero_add] at this
            exact this
          obtain ⟨c1, c2⟩ := hcells k hlt
          have hC3 := Lib.hid (hcells j hjl)
          have HX := Lib.hid hx
          have HY := Lib.hid hy
          obtain ⟨xa, xc, rfl, -, -⟩ := hx.form
          obtain ⟨ya, yc, rfl, -, -⟩ := hy.form
          generalize hXX : L.take k = X at *
          generalize hYY : L.drop (j + 1) = Y at *
          have HJ := Lib.hid hj
          clear hx hy hcells hXX hYY hLy hj
          generalize hsk : L.getD k (0, 0) = sk at *
          obtain ⟨lo, hi⟩ := sk
          have c1' : wr.cell? ⟨g, k * 2, none⟩ = some (.int .i64 lo) := c1
          have c2' : wr.cell? ⟨g, k * 2 + 1, none⟩ = some (.int .i64 hi) := c2
          clear c1 c2 hsk
          go_wp2_with fail
          refine (implSpansAdd_any _ X lo hi _ HX.out HTr.out hgr).mono ?_; rintro e u1 hr; obtain ⟨x', rfl, hx', hu1⟩ := hr.spn
          have q := QX.out
          try dsimp only at q
          rw [q] at hx'
          have HX' := Lib.hid hx'
          have HYu := Lib.hid (HY.out.keep hu1)
          have HTu := Lib.hid (HTr.out.keep hu1)
          have hgu : 0 < u1.heap.size := Nat.lt_of_lt_of_le hgr hu1.size
          have hbu := hbr.trans (hu1.mono hbr.size)
          have d1 := cell_keep hu1 hC3.out.1
          have d2 := cell_keep hu1 hC3.out.2
          generalize hsj : L.getD j (0, 0) = sj at *
          obtain ⟨lo2, hi2⟩ := sj
          have d1' : u1.cell? ⟨g, j * 2, none⟩ = some (.int .i64 lo2) := d1
          have d2' : u1.cell? ⟨g, j * 2 + 1, none⟩ = some (.int .i64 hi2) := d2
          clear d1 d2 hsj q hx' hr c1' c2' HX HY HTr hgr hu1 hbr Er HSr hC3
          go_wp2_with fail
          refine (implSpansAdd_any _ Y lo2 hi2 _ HYu.out HTu.out hgu).mono ?_; rintro e u2 hr; obtain ⟨y', rfl, hy', hu2⟩ := hr.spn
          have q := QY.out
          try dsimp only at q
          rw [q] at hy'
          have HX2 := Lib.hid (HX'.out.keep hu2)
          have HY2 := Lib.hid hy'
          have hb2 := hbu.trans (hu2.mono hbu.size)
          clear hy' hr q d1' d2' HX' HYu HTu hgu hu2 hbu QX QY hji
          go_wp2
          go_roundg (L.length - (k + 1))
          case measure => omega
          case rel => exact ⟨k + 1, rfl, by omega, by go_num, HX2.out, by rw [show L.length - (k + 1) = j by have := HJ.out; omega]; exact HY2.out, hb2⟩
        · obtain rfl : k = L.length := by omega
          rw [List.take_length] at hx
          rw [Nat.sub_self, List.drop_zero] at hy
          have HX := Lib.hid hx
          have HY := Lib.hid hy
          obtain ⟨xa, xc, rfl, -, -⟩ := hx.form
          obtain ⟨ya, yc, rfl, -, -⟩ := hy.form
          have heL := Lib.hid (eqB_refl L)
          clear hx hy
          go_wp2_with fail
          refine (wpSpans_any _ _ L L _ HX.out HSr.out).mono ?_; rintro e v1 ⟨rfl, hv1⟩
          rw [heL.out]
          have HYv := Lib.hid (HY.out.keep hv1)
          have HSv := Lib.hid (HSr.out.keep hv1)
          have Ev := Er.trans (hv1.mono Er.size)
          go_wp2_with fail
          refine (wpSpans_any _ _ L L _ HYv.out HSv.out).mono ?_; rintro e v2 ⟨rfl, hv2⟩
          rw [heL.out]
          go_wp2
          go_ret
          exact ⟨rfl, Ev.trans (hv2.mono Ev.size)⟩
  · go_enter Tryd.func9, Tryd.ntmps9
    go_wp2
    go_ret
    exact ⟨rfl, Below.refl _ _⟩

end Go.Proofs.YtehpmdmfolmaoaaDoor.fnSpansParts
