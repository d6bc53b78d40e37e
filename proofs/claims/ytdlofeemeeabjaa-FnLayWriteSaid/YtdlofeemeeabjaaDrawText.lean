/-
  Contracts of the draws of texts (of, l2Text, l2Some, l2Data, l2At).
-/
import Derived.Test.YtdlofeemeeabjaaDrawNum
import Derived.Test.YtdlofeemeeabjaaSpecLong
import Derived.Laws.IdiomStrings
namespace Go.Proofs.Ytdlofeemeeabjaa
open Go.RowKit

/-- What a draw of a string leaves: a string of the kind Q; the reader's place moved on by at most k; nothing else changed. -/
def Sd (Q : List UInt8 → Prop) (w : World) (rb p k : Nat) (e : Ending) (w' : World) : Prop :=
  ∃ (l : List UInt8) (q : Nat), e = .returned (.string (mkB l)) ∧ Q l ∧ Rd w' rb q ∧ q ≤ p + k ∧ w.grownBy w' (some rb)
set_option maxHeartbeats 1000000 in
theorem of_any (rb p lb ln : Nat) (f : Nat → List UInt8) (Q : List UInt8 → Prop) (w : World) (h : Rd w rb p) (hp : p ≤ 1000000000) (hne : lb ≠ rb) (h1 : 1 ≤ ln) (h2 : ln ≤ 1000)
    (hf : ∀ i, i < ln → w.cell? ⟨lb, i, none⟩ = some (.string (mkB (f i))) ∧ Q (f i)) :
    Calls Try.prog 61 #[.pointer (some ⟨rb, 0, none⟩), .slice (some ⟨lb, 0, none⟩) ln ln] w (Sd Q w rb p 1) := by
  have HR := Lib.hid h
  have HF := Lib.hid hf
  clear h hf
  go_enter Try.func61, Try.ntmps61
  go_wp2_with fail
  refine (pick_any rb p ln _ HR.out hp (by omega) (by omega)).mono ?_; rintro e w1 ⟨v, rfl, v0, v1, hr1, hg1⟩
  have v2 := v1 (by omega)
  obtain ⟨c1, c2⟩ := HF.out v.toNat (by omega)
  have c4 := grown_cell hg1 hne c1
  have HR1 := Lib.hid hr1
  have HG1 := Lib.hid hg1
  have HQ := Lib.hid c2
  clear v1 hr1 hg1 c1 c2
  generalize f v.toNat = y at *
  go_wp2
  go_ret
  exact ⟨y, _, rfl, HQ.out, HR1.out, Nat.le_refl _, HG1.out⟩

set_option maxHeartbeats 2000000 in
theorem l2Text_any (rb p m : Nat) (w : World) (h : Rd w rb p) (hp : p ≤ 900000000) (hm : m ≤ 1000) :
    Calls Try.prog 38 #[.pointer (some ⟨rb, 0, none⟩), .int .i64 m] w (Sd (fun l => l.length ≤ m) w rb p (m + 1)) := by
  have HR := Lib.hid h
  have hlt := h.lt'
  clear h
  go_enter Try.func38, Try.ntmps38
  go_wp2_with fail
  refine (pick_any rb p (m + 1) _ HR.out (by omega) (by omega) (by omega)).mono ?_; rintro e w1 ⟨v, rfl, v0, v1, hr1, hg1⟩
  have v2 := v1 (by omega)
  have HR1 := Lib.hid hr1
  clear v1 hr1
  obtain ⟨n, rfl⟩ : ∃ n : Nat, v = n := ⟨v.toNat, by omega⟩
  go_wp2
  go_loopg [5, 6] n (fun g s5 s6 wr => ∃ (k q : Nat) (l : List UInt8), g = k ∧ k ≤ n ∧ s6 = .int .i64 k ∧ s5 = .string (mkB l) ∧ l.length + k ≤ n ∧ Hid (Rd wr rb q) ∧ q + k ≤ p + 1 + n ∧ Hid (w.grownBy wr (some rb)) ∧ w.heap.size ≤ wr.heap.size)
  case atStart => exact ⟨n, p + 1, [], rfl, Nat.le_refl _, rfl, rfl, by simp, HR1, by omega, Lib.hid hg1, hg1.size⟩
  case round =>
    obtain ⟨k, q, l, hgk, hk, rfl, rfl, hl, HRd, hq, HG, hsz⟩ := hrel
    obtain rfl := hgk.symm
    by_cases hk0 : 0 < k
    · have HF : Hid (∀ i, i < 6 → (wr.alloc (.cells #[.string ⟨#[97]⟩, .string ⟨#[98]⟩, .string ⟨#[99]⟩, .string ⟨#[55]⟩, .string ⟨#[46]⟩, .string ⟨#[122]⟩] 9)).cell? ⟨wr.heap.size, i, none⟩ = some (.string (mkB (([[97], [98], [99], [55], [46], [122]] : List (List UInt8)).getD i []))) ∧ (([[97], [98], [99], [55], [46], [122]] : List (List UInt8)).getD i []).length = 1) := fun i hi => by
        have hh : i = 0 ∨ i = 1 ∨ i = 2 ∨ i = 3 ∨ i = 4 ∨ i = 5 := by omega
        rcases hh with rfl | rfl | rfl | rfl | rfl | rfl
        · exact ⟨(by go_simp : World.cell? _ _ = some (.string ⟨#[97]⟩)), rfl⟩
        · exact ⟨(by go_simp : World.cell? _ _ = some (.string ⟨#[98]⟩)), rfl⟩
        · exact ⟨(by go_simp : World.cell? _ _ = some (.string ⟨#[99]⟩)), rfl⟩
        · exact ⟨(by go_simp : World.cell? _ _ = some (.string ⟨#[55]⟩)), rfl⟩
        · exact ⟨(by go_simp : World.cell? _ _ = some (.string ⟨#[46]⟩)), rfl⟩
        · exact ⟨(by go_simp : World.cell? _ _ = some (.string ⟨#[122]⟩)), rfl⟩
      have hal : Below wr.heap.size wr (wr.alloc (.cells #[.string ⟨#[97]⟩, .string ⟨#[98]⟩, .string ⟨#[99]⟩, .string ⟨#[55]⟩, .string ⟨#[46]⟩, .string ⟨#[122]⟩] 9)) := (Below.refl _ _).alloc (Nat.le_refl _) _
      have HR2 := Lib.hid (HRd.out.keep hal)
      have HG2 := Lib.hid (grown_trans HG.out (grown_below hal _))
      clear hal
      go_wp2_with fail
      refine (of_any rb q wr.heap.size 6 (fun i => ([[97], [98], [99], [55], [46], [122]] : List (List UInt8)).getD i []) (fun l => l.length = 1) _ HR2.out (by omega) (by omega) (by omega) (by omega) HF.out).mono ?_; rintro e w2 ⟨y, q2, rfl, hy, hr2, hq2, hg2⟩
      have hadd := add_mk l y (by omega) w2
      have HY := Lib.hid hy
      have HR3 := Lib.hid hr2
      have HG3 := Lib.hid (grown_trans HG2.out hg2)
      clear hy hr2 hg2 HF HR2 HG2
      go_wp2
      go_roundg (k - 1)
      case measure => omega
      case rel => exact ⟨k - 1, q2, l ++ y, rfl, by omega, by go_num, rfl, by rw [List.length_append, HY.out]; omega, HR3, by omega, HG3, HG3.out.size⟩
    · obtain rfl : k = 0 := by omega
      go_wp2
      go_ret
      exact ⟨l, q, rfl, by omega, HRd.out, by omega, HG.out⟩

theorem ofL_any (rb p : Nat) (L : List (List UInt8)) (ln : Nat) (Q : List UInt8 → Prop) (W : World) (C : Array Value) (T : TypeId) (hC : C = (L.map (fun l => Value.string (mkB l))).toArray) (hln : L.length = ln) (h : Rd W rb p) (hp : p ≤ 1000000000) (h1 : 1 ≤ ln) (h2 : ln ≤ 1000) (hQ : ∀ x ∈ L, Q x) :
    Calls Try.prog 61 #[.pointer (some ⟨rb, 0, none⟩), .slice (some ⟨W.heap.size, 0, none⟩) ln ln] (W.alloc (.cells C T)) (Sd Q W rb p 1) := by
  subst hC
  have hal : Below W.heap.size W (W.alloc (.cells (L.map (fun l => Value.string (mkB l))).toArray T)) := (Below.refl _ _).alloc (Nat.le_refl _) _
  have hlt := h.lt'
  refine (of_any rb p W.heap.size ln (fun i => L.getD i []) Q _ (h.keep hal) hp (by omega) h1 h2 (fun i hi => ?_)).mono ?_
  · refine ⟨?_, ?_⟩
    · rw [World.cell?_alloc_mark]
      simp [List.getD_eq_getElem?_getD, show i < L.length by omega]
    · rw [List.getD_eq_getElem?_getD, List.getElem?_eq_getElem (by omega)]
      exact hQ _ (List.getElem_mem _)
  · rintro e w' ⟨v, q, rfl, hv, hr, hq, hg⟩
    exact ⟨v, q, rfl, hv, hr, hq, grown_trans (grown_below hal _) hg⟩

set_option maxHeartbeats 2000000 in
theorem l2Some_any (rb p : Nat) (w : World) (h : Rd w rb p) (hp : p ≤ 800000000) :
    Calls Try.prog 29 #[.pointer (some ⟨rb, 0, none⟩)] w (Sd (fun l => l.length ≤ 49) w rb p 100) := by
  have HR := Lib.hid h
  clear h
  go_enter Try.func29, Try.ntmps29
  go_wp2_with fail
  refine (numL_any rb p [6, 12, 20, 30, 48] 5 (fun v => 0 ≤ v ∧ v ≤ 48) w _ _ rfl rfl HR.out (by omega) (by omega) (by omega) (by simp)).mono ?_; rintro e w1 ⟨v, q, rfl, ⟨v0, v1⟩, hr1, hq1, hg1⟩
  obtain ⟨m, rfl⟩ : ∃ m : Nat, v = m := ⟨v.toNat, by omega⟩
  have HR1 := Lib.hid hr1
  have HG1 := Lib.hid hg1
  clear hr1 hg1
  go_wp2_with fail
  refine (l2Text_any rb q m _ HR1.out (by omega) (by omega)).mono ?_; rintro e w2 ⟨l, q2, rfl, hl, hr2, hq2, hg2⟩
  have HR2 := Lib.hid hr2
  have HG2 := Lib.hid (grown_trans HG1.out hg2)
  clear hr2 hg2 HR1 HG1
  go_wp2_with fail
  refine (pick_any rb q2 60 _ HR2.out (by omega) (by omega) (by omega)).mono ?_; rintro e w3 ⟨c, rfl, c0, -, hr3, hg3⟩
  have HR3 := Lib.hid hr3
  have HG3 := Lib.hid (grown_trans HG2.out hg3)
  clear hr3 hg3 HR2 HG2
  have hA := add_mk l [65] (by simp; omega) w3
  have hB := add_mk l [32] (by simp; omega) w3
  have eA : (mkB [65] : ByteArray) = ⟨#[65]⟩ := rfl
  have eB : (mkB [32] : ByteArray) = ⟨#[32]⟩ := rfl
  rw [eA] at hA
  rw [eB] at hB
  clear eA eB
  have HLg := Lib.hid (l2Long_any l 49 (by omega) w3)
  by_cases k0 : c = 0
  · subst k0
    clear HLg hB
    go_wp2
    go_ret
    exact ⟨_, _, rfl, by simp; omega, HR3.out, by omega, HG3.out⟩
  · by_cases k1 : c = 1
    · subst k1
      clear HLg hA
      go_wp2
      go_ret
      exact ⟨_, _, rfl, by simp; omega, HR3.out, by omega, HG3.out⟩
    · by_cases k2 : c = 2
      · subst k2
        clear hA hB
        go_wp2_with fail
        refine HLg.out.mono ?_; rintro e w4 ⟨rfl, rfl⟩
        go_wp2
        go_ret
        exact ⟨_, _, rfl, by show List.length _ ≤ 49; rw [padL_len]; omega, HR3.out, by omega, HG3.out⟩
      · clear HLg hA hB
        go_wp2
        go_ret
        exact ⟨_, _, rfl, by omega, HR3.out, by omega, HG3.out⟩

set_option maxHeartbeats 2000000 in
theorem l2At_any (rb p : Nat) (l : List UInt8) (w : World) (h : Rd w rb p) (hp : p ≤ 800000000) (hl : l.length ≤ 1000) :
    Calls Try.prog 42 #[.pointer (some ⟨rb, 0, none⟩), .string (mkB l)] w (Nd (fun v => -1 ≤ v ∧ v ≤ 9223372036854775807) w rb p 3) := by
  have HR := Lib.hid h
  have hsz : (mkB l).size = l.length := mkB_size l
  clear h
  go_enter Try.func42, Try.ntmps42
  go_wp2_with fail
  refine (pick_any rb p 12 _ HR.out (by omega) (by omega) (by omega)).mono ?_; rintro e w1 ⟨a, rfl, a0, a1, hr1, hg1⟩
  have a2 := a1 (by omega)
  have HR1 := Lib.hid hr1
  have HG1 := Lib.hid hg1
  clear hr1 hg1 a1
  go_wp2_with fail
  refine (pick_any rb (p + 1) 30 _ HR1.out (by omega) (by omega) (by omega)).mono ?_; rintro e w2 ⟨b, rfl, b0, b1, hr2, hg2⟩
  have b2 := b1 (by omega)
  have HR2 := Lib.hid hr2
  have HG2 := Lib.hid (grown_trans HG1.out hg2)
  clear hr2 hg2 b1 HR1 HG1
  go_wp2_with fail
  refine (numL_any rb (p + 1 + 1) [0, 1, 3, a, b, l.length, (l.length : Int) + 2, 47, 48, -1, 9223372036854775807] 11 (fun v => -1 ≤ v ∧ v ≤ 9223372036854775807) w2 _ _ rfl rfl HR2.out (by omega) (by omega) (by omega) (by simp; omega)).mono ?_; rintro e w3 ⟨v, q, rfl, hv, hr3, hq, hg3⟩
  have HR3 := Lib.hid hr3
  have HG3 := Lib.hid (grown_trans HG2.out hg3)
  have HV := Lib.hid hv
  clear hr3 hg3 HR2 HG2 hv
  go_wp2
  go_ret
  exact ⟨v, q, rfl, HV.out, HR3.out, by omega, HG3.out⟩

set_option maxHeartbeats 2000000 in
theorem l2Data_any (rb p : Nat) (w : World) (h : Rd w rb p) (hp : p ≤ 800000000) :
    Calls Try.prog 43 #[.pointer (some ⟨rb, 0, none⟩)] w (Sd (fun l => l.length ≤ 49) w rb p 20) := by
  have HR := Lib.hid h
  clear h
  go_enter Try.func43, Try.ntmps43
  go_wp2_with fail
  refine (pick_any rb p 24 _ HR.out (by omega) (by omega) (by omega)).mono ?_; rintro e w1 ⟨c, rfl, c0, -, hr1, hg1⟩
  have HR1 := Lib.hid hr1
  have HG1 := Lib.hid hg1
  clear hr1 hg1
  by_cases k0 : c = 0
  · subst k0
    have HLg := Lib.hid (l2Long_any [97] 49 (by omega) w1)
    go_wp2_with fail
    refine HLg.out.mono ?_; rintro e w2 ⟨rfl, rfl⟩
    go_wp2_with fail
    refine (ofL_any rb (p + 1) [[], [65], [97, 32, 98], padL [97] 49] 4 (fun l => l.length ≤ 49) w1 _ _ rfl rfl HR1.out (by omega) (by omega) (by omega) (by simp [padL_len])).mono ?_; rintro e w2 ⟨l, q, rfl, hl, hr2, hq, hg2⟩
    have HR2 := Lib.hid hr2
    have HG2 := Lib.hid (grown_trans HG1.out hg2)
    clear hr2 hg2
    go_wp2
    go_ret
    exact ⟨l, q, rfl, hl, HR2.out, by omega, HG2.out⟩
  · go_wp2_with fail
    refine (ofL_any rb (p + 1) [[120], [120, 121], [113, 57, 46], [48, 49, 50, 51, 52, 53, 54], [109]] 5 (fun l => l.length ≤ 7) w1 _ _ rfl rfl HR1.out (by omega) (by omega) (by omega) (by simp)).mono ?_; rintro e w2 ⟨l, q, rfl, hl, hr2, hq, hg2⟩
    have HR2 := Lib.hid hr2
    have HG2 := Lib.hid (grown_trans HG1.out hg2)
    clear hr2 hg2
    go_wp2_with fail
    refine (l2Text_any rb q 6 _ HR2.out (by omega) (by omega)).mono ?_; rintro e w3 ⟨y, q3, rfl, hy, hr3, hq3, hg3⟩
    have HR3 := Lib.hid hr3
    have HG3 := Lib.hid (grown_trans HG2.out hg3)
    have hA := add_mk l y (by omega) w3
    clear hr3 hg3
    go_wp2
    go_ret
    exact ⟨_, q3, rfl, by show List.length _ ≤ 49; rw [List.length_append]; omega, HR3.out, by omega, HG3.out⟩

end Go.Proofs.Ytdlofeemeeabjaa
