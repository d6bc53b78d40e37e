/-
  DrawTextAll: a text and a list of patches; nothing that existed has changed.
-/
import Derived.Test.YtehpmdmfolmaoabDrawText
import Derived.Test.YtehpmdmfolmaoabPatches
namespace Go.Proofs.Ytehpmdmfolmaoab
open Go.RowKit

theorem two_cells (w : World) (x y : Value) (T : TypeId) : ∀ (j : Nat) (u : Value), [x, y][j]? = some u → (w.alloc (.cells #[x, y] T)).cell? ((⟨w.heap.size, 0, none⟩ : Addr).add j) = some u := by
  intro j u h
  match j, h with
  | 0, h => simp at h; subst h; simp [Addr.add]
  | 1, h => simp at h; subst h; simp [Addr.add]

def flatP (P : List Pch) : List Value := P.flatMap fun p => [.int .i64 p.1, .string (mkB p.2)]
theorem flatP_append (P : List Pch) (p : Pch) : flatP (P ++ [p]) = flatP P ++ [.int .i64 p.1, .string (mkB p.2)] := by simp [flatP]
theorem flatP_len (P : List Pch) : (flatP P).length = P.length * 2 := by
  induction P with
  | nil => rfl
  | cons p P ih => simp only [flatP, List.flatMap_cons, List.length_append, List.length_cons, List.length_nil] at ih ⊢; omega
theorem flatP_get : ∀ (P : List Pch) (i : Nat), i < P.length → (flatP P)[i * 2]? = some (.int .i64 (P.getD i (0, [])).1) ∧ (flatP P)[i * 2 + 1]? = some (.string (mkB (P.getD i (0, [])).2))
  | [], _, h => absurd h (Nat.not_lt_zero _)
  | p :: P, 0, _ => by simp [flatP]
  | p :: P, i + 1, h => by
    have ih := flatP_get P i (by simpa using h)
    have e : flatP (p :: P) = [.int .i64 p.1, .string (mkB p.2)] ++ flatP P := by simp [flatP]
    rw [e, show (i + 1) * 2 = 2 + i * 2 by omega, List.getElem?_append_right (by simp only [List.length_cons, List.length_nil]; omega), List.getElem?_append_right (by simp only [List.length_cons, List.length_nil]; omega)]
    simpa [show 2 + i * 2 + 1 - 2 = i * 2 + 1 by omega] using ih

theorem rd_grown {a b : World} {rb q g : Nat} {row : Option Nat} (h : Rd a rb q) (hg : a.grownBy b row) (hrow : row = some g) (hlt : rb < g) : Rd b rb q := by
  subst hrow
  obtain ⟨z, x, len, cap, h0, h1, h2, h3, h4⟩ := h
  refine ⟨z, x, len, cap, grown_cell hg (by omega) h0, grown_cell hg (by omega) h1, (grown_frozen hg (by omega) h1).trans h2, h3, fun hp => ?_⟩
  obtain ⟨b', off, ha, hne, hc⟩ := h4 hp
  exact ⟨b', off, ha, hne, fun i hi => ⟨grown_cell hg (by omega) (hc i hi).1, (hc i hi).2⟩⟩

/-- What a round of the draw leaves of the row, the reader and the rest. -/
theorem drawAll_round {w w8 w9 : World} {rb q B n g cap : Nat} {P : List Pch} {v' : Value} (a : Int) (d : List UInt8) (hn : P.length = n)
    (ho : w8.ownsRow B 30 2 (.slice (some ⟨g, 0, none⟩) n cap) n (flatP P)) (hr : Rd w8 rb q) (hb8 : Below w.heap.size w w8) (hB : B ≤ w8.heap.size) (hwB : w.heap.size ≤ B) (hrbB : rb < B)
    (hown : w9.ownsRow B 30 2 v' (n + 1) (flatP P ++ [.int .i64 a, .string (mkB d)]))
    (hgrow : (w8.alloc (.cells #[.int .i64 a, .string (mkB d)] 30)).grownBy w9 (some g)) :
    ∃ g' cap', v' = .slice (some ⟨g', 0, none⟩) (n + 1) cap' ∧ g' ≠ rb ∧ w9.ownsRow B 30 2 (.slice (some ⟨g', 0, none⟩) (n + 1) cap') (n + 1) (flatP (P ++ [(a, d)])) ∧ Rd w9 rb q ∧ Below w.heap.size w w9 ∧ B ≤ w9.heap.size := by
  have hgB := ho.lt g rfl
  have hal : Below w8.heap.size w8 (w8.alloc (.cells #[.int .i64 a, .string (mkB d)] 30)) := (Below.refl _ _).alloc (Nat.le_refl _) _
  have hr9 := rd_grown (hr.keep hal) hgrow rfl (by omega)
  have hb9 := (hb8.alloc hb8.size (.cells #[.int .i64 a, .string (mkB d)] 30)).grown hgrow (by have := hb8.size; simp; omega) (fun q e => by injection e with e; omega)
  have hs9 : B ≤ w9.heap.size := Nat.le_trans (by simp; omega) hgrow.size
  rcases hown.2 with ⟨-, h0⟩ | ⟨g', cap', cur, rfl, hb', hh, rest⟩
  · omega
  · refine ⟨g', cap', rfl, by omega, ?_, hr9, hb9, hs9⟩
    rw [flatP_append]
    exact hown

theorem own_ptc {w : World} {B G n cap : Nat} {P : List Pch} (ho : w.ownsRow B 30 2 (.slice (some ⟨G, 0, none⟩) n cap) n (flatP P)) (hn : P.length = n) (hd : ∀ p ∈ P, p.2.length ≤ 49) :
    Ptc w (.slice (some ⟨G, 0, none⟩) n cap) P := by
  subst hn
  have hcap : P.length ≤ cap ∧ cap ≤ maxLen := by
    rcases ho.2 with ⟨h1, _⟩ | ⟨_, _, _, h1, _, _, h2, h3, _⟩
    · simp at h1
    · simp only [Value.slice.injEq] at h1
      obtain ⟨_, _, rfl⟩ := h1
      exact ⟨h2, h3⟩
  refine ⟨_, cap, rfl, hcap.1, hcap.2, fun i => ?_, fun _ => ⟨G, 0, rfl, fun i hi => ?_⟩⟩
  · by_cases hi : i < P.length
    · rw [List.getD_eq_getElem?_getD, List.getElem?_eq_getElem hi]
      have := hd _ (List.getElem_mem hi)
      simp only [Option.getD_some]; omega
    · rw [List.getD_eq_getElem?_getD, List.getElem?_eq_none (by omega)]; simp
  · obtain ⟨f1, f2⟩ := flatP_get P i hi
    rw [Nat.zero_add]
    exact ⟨(ho.cellAt _ (by omega)).trans f1, (ho.cellAt _ (by omega)).trans f2⟩

theorem infoPch : (Try.prog.info? 30).map (fun i => (i.zero, i.size, i.bytes)) = some (some (.agg #[.int .i64 0, .string ⟨#[]⟩]), 2, 24) := by kernel_rfl

def DtA (w : World) (e : Ending) (w' : World) : Prop :=
  ∃ (l : List UInt8) (v : Value) (P : List Pch), e = .returned (.tuple #[.string (mkB l), v]) ∧ (∃ g cap, v = .slice (some ⟨g, 0, none⟩) P.length cap) ∧ l.length ≤ 49 ∧ Ptc w' v P ∧ P.length ≤ 5 ∧ (∀ p ∈ P, p.2.length ≤ 49) ∧ Below w.heap.size w w'

set_option maxHeartbeats 8000000 in
theorem drawTextAll_any (v : Value) (len : Nat) (w : World) (h : Byt w v len) :
    Calls Try.prog 11 #[v] w (DtA w) := by
  obtain ⟨i0, hi0, hz0, hz1, hz2⟩ := info_parts infoPch
  have HB := Lib.hid h
  clear h
  go_enter Try.func11, Try.ntmps11
  go_wp2_with fail
  refine (open_any v len _ HB.out).mono ?_; rintro e w1 ⟨rb, rfl, hrb, hr1, hb1⟩
  have HR1 := Lib.hid hr1
  clear hr1
  go_wp2_with fail
  refine (l2Some_any rb 0 _ HR1.out (by omega)).mono ?_; rintro e w2 ⟨l, q2, rfl, hl, hr2, hq2, hg2⟩
  have hrb2 := hr2.lt'
  have hal : Below w2.heap.size w2 (w2.alloc (.cells #[] 30)) := (Below.refl _ _).alloc (Nat.le_refl _) _
  have HR2 := Lib.hid (hr2.keep hal)
  have e2 := hb1.trans (below_grown hg2 hrb hb1.size)
  have e3 := e2.trans (hal.mono e2.size)
  have hO : (w2.alloc (.cells #[] 30)).ownsRow w2.heap.size 30 2 (.slice (some ⟨w2.heap.size, 0, none⟩) 0 0) 0 (flatP []) := by
    have := World.ownsRow_made w2 (e := 30) (base := w2.heap.size) (size := 2) #[] 0 (Nat.le_refl _) (by unfold maxLen; omega) rfl
    simpa [flatP] using this
  have HO2 := Lib.hid hO
  have hws := e2.size
  have hsz : w2.heap.size ≤ (w2.alloc (.cells #[] 30)).heap.size := by simp
  clear hr2 hg2 HR1 hO hal e2 hb1
  go_wp2_with fail
  refine (numLA_any rb q2 [1, 2, 3, 0, 5] 5 (fun v => 0 ≤ v ∧ v ≤ 5) (w2.alloc (.cells #[] 30)) (w2.heap.size + 1) _ _ rfl rfl (by simp) HR2.out (by omega) (by omega) (by omega) (by simp)).mono ?_; rintro e w3 ⟨i, q3, rfl, ⟨i1, i2⟩, hr3, hq3, hg3⟩
  obtain ⟨B, hB⟩ : ∃ B, B = w2.heap.size := ⟨_, rfl⟩
  have hrbB : rb < B := by omega
  have hwB : w.heap.size ≤ B := by omega
  rw [← hB] at HO2 hsz
  simp only [← hB]
  clear hB hrb2 hws
  obtain ⟨n0, rfl⟩ : ∃ n : Nat, i = n := ⟨i.toNat, by omega⟩
  have HR3 := Lib.hid hr3
  have e4 := e3.trans (below_grown hg3 hrb e3.size)
  have HO3 := Lib.hid (World.ownsRow.kept HO2.out hg3 (Or.inr (by simp [Value.ownBlock]; omega)))
  have hB3 := Nat.le_trans hsz hg3.size
  clear hr3 hg3 HR2 HO2 e3 hsz
  go_wp2
  go_loopg [6, 7] n0 (fun g s6 s7 wr => ∃ (k q G cap : Nat) (P : List Pch), g = k ∧ k ≤ n0 ∧ s7 = .int .i64 k ∧ s6 = .slice (some ⟨G, 0, none⟩) P.length cap ∧ Hid (wr.ownsRow B 30 2 (.slice (some ⟨G, 0, none⟩) P.length cap) P.length (flatP P)) ∧ Hid (Rd wr rb q) ∧ Hid (Below w.heap.size w wr) ∧ q + 40 * k ≤ 400 ∧ P.length + k ≤ n0 ∧ Hid (∀ p ∈ P, p.2.length ≤ 49) ∧ G ≠ rb ∧ B ≤ wr.heap.size)
  case atStart => exact ⟨n0, q3, B, 0, [], rfl, Nat.le_refl _, rfl, rfl, HO3, HR3, Lib.hid e4, by omega, by simp, Lib.hid (by simp), by omega, hB3⟩
  case round =>
    obtain ⟨k, q, G, cap, P, hgk, hk, rfl, rfl, HO, HR, HG, hq, hPk, HD, hgrb, hBr⟩ := hrel
    obtain rfl := hgk.symm
    obtain ⟨n, hn⟩ : ∃ n, P.length = n := ⟨_, rfl⟩
    have HN := Lib.hid hn
    simp only [hn] at HO hPk ⊢
    clear hn
    by_cases hk0 : 0 < k
    · go_wp2_with fail
      refine (pick_any rb q 30 _ HR.out (by omega) (by omega) (by omega)).mono ?_; rintro e w4 ⟨a, rfl, a0, -, hr4, hg4⟩
      have HR4 := Lib.hid hr4
      have HO4 := Lib.hid (World.ownsRow.kept HO.out hg4 (Or.inr (by simpa [Value.ownBlock] using hgrb)))
      have HG4 := Lib.hid (HG.out.trans (below_grown hg4 hrb HG.out.size))
      have hB4 := Nat.le_trans hBr hg4.size
      clear hr4 hg4 HR HO HG
      go_wp2_with fail
      refine (pick_any rb (q + 1) 8 _ HR4.out (by omega) (by omega) (by omega)).mono ?_; rintro e w5 ⟨c, rfl, c0, -, hr5, hg5⟩
      have HR5 := Lib.hid hr5
      have HO5 := Lib.hid (World.ownsRow.kept HO4.out hg5 (Or.inr (by simpa [Value.ownBlock] using hgrb)))
      have HG5 := Lib.hid (HG4.out.trans (below_grown hg5 hrb HG4.out.size))
      have hB5 := Nat.le_trans hB4 hg5.size
      clear hr5 hg5 HR4 HO4 HG4
      by_cases hc : c = 0
      · subst hc
        go_wp2_with fail
        refine (l2At_any rb (q + 1 + 1) l _ HR5.out (by omega) (by omega)).mono ?_; rintro e w6 ⟨b, q6, rfl, -, hr6, hq6, hg6⟩
        have HR6 := Lib.hid hr6
        have HO6 := Lib.hid (World.ownsRow.kept HO5.out hg6 (Or.inr (by simpa [Value.ownBlock] using hgrb)))
        have HG6 := Lib.hid (HG5.out.trans (below_grown hg6 hrb HG5.out.size))
        have hB6 := Nat.le_trans hB5 hg6.size
        clear hr6 hg6 HR5 HO5 HG5
        go_wp2_with fail
        refine (l2Data_any rb q6 _ HR6.out (by omega)).mono ?_; rintro e w8 ⟨d, q8, rfl, hd, hr8, hq8, hg8⟩
        have HR8 := Lib.hid hr8
        have HO8 := Lib.hid (World.ownsRow.kept HO6.out hg8 (Or.inr (by simpa [Value.ownBlock] using hgrb)))
        have HG8 := Lib.hid (HG6.out.trans (below_grown hg8 hrb HG6.out.size))
        have hB8 : B ≤ w8.heap.size := Nat.le_trans hB6 hg8.size
        clear hr8 hg8 HR6 HO6 HG6
        go_wp2_with (at_builtin; refine wpList_append_own _ rfl _ _ 23 rfl B 30 i0 (.agg #[.int .i64 0, .string ⟨#[]⟩]) 2 24 Try.underlying23 hi0 hz0 hz1 hz2 rfl (by decide) _ _ _ rfl (HO8.out.alloc _) ⟨w8.heap.size, 0, none⟩ 1 1 [.int .i64 b, .string (mkB d)] rfl rfl ?c1a ?c2a ?c3a ?c4a ?c5a ?_)
        case c1a => exact two_cells _ _ _ _
        case c2a => simp [Value.oneCell']
        case c3a => unfold maxLen; omega
        case c4a => omega
        case c5a => simp; omega
        intro v' w9 hown' hgrow _
        have HT := Lib.hid (drawAll_round b d HN.out HO8.out HR8.out HG8.out hB8 hwB hrbB hown' hgrow)
        obtain ⟨g', cap', hv', hgr', ho', hr', hg', hB'⟩ := HT.out
        subst hv'
        have HO9 := Lib.hid ho'
        have HR9 := Lib.hid hr'
        have HG9 := Lib.hid hg'
        have hPd : (P ++ [(b, d)]).length = n + 1 := by rw [List.length_append, HN.out]; rfl
        have HPd := Lib.hid hPd
        have HD9 : Hid (∀ p ∈ P ++ [(b, d)], p.2.length ≤ 49) := fun p hp => by
          rcases List.mem_append.1 hp with h | h
          · exact HD.out p h
          · simp at h; subst h; exact hd
        clear hown' hgrow HT ho' hr' hg' hPd
        go_wp2
        go_roundg (k - 1)
        case measure => omega
        case rel => exact ⟨k - 1, q8, g', cap', P ++ [(b, d)], rfl, by omega, by go_num, by rw [HPd.out], HPd.out ▸ HO9, HR9, HG9, by omega, by rw [HPd.out]; omega, HD9, hgr', hB'⟩
      · have hc' : (c == 0) = false := by simpa using hc
        go_wp2_with fail
        refine (l2Data_any rb (q + 1 + 1) _ HR5.out (by omega)).mono ?_; rintro e w8 ⟨d, q8, rfl, hd, hr8, hq8, hg8⟩
        have HR8 := Lib.hid hr8
        have HO8 := Lib.hid (World.ownsRow.kept HO5.out hg8 (Or.inr (by simpa [Value.ownBlock] using hgrb)))
        have HG8 := Lib.hid (HG5.out.trans (below_grown hg8 hrb HG5.out.size))
        have hB8 : B ≤ w8.heap.size := Nat.le_trans hB5 hg8.size
        clear hr8 hg8 HR5 HO5 HG5
        go_wp2_with (at_builtin; refine wpList_append_own _ rfl _ _ 23 rfl B 30 i0 (.agg #[.int .i64 0, .string ⟨#[]⟩]) 2 24 Try.underlying23 hi0 hz0 hz1 hz2 rfl (by decide) _ _ _ rfl (HO8.out.alloc _) ⟨w8.heap.size, 0, none⟩ 1 1 [.int .i64 a, .string (mkB d)] rfl rfl ?c1b ?c2b ?c3b ?c4b ?c5b ?_)
        case c1b => exact two_cells _ _ _ _
        case c2b => simp [Value.oneCell']
        case c3b => unfold maxLen; omega
        case c4b => omega
        case c5b => simp; omega
        intro v' w9 hown' hgrow _
        have HT := Lib.hid (drawAll_round a d HN.out HO8.out HR8.out HG8.out hB8 hwB hrbB hown' hgrow)
        obtain ⟨g', cap', hv', hgr', ho', hr', hg', hB'⟩ := HT.out
        subst hv'
        have HO9 := Lib.hid ho'
        have HR9 := Lib.hid hr'
        have HG9 := Lib.hid hg'
        have hPd : (P ++ [(a, d)]).length = n + 1 := by rw [List.length_append, HN.out]; rfl
        have HPd := Lib.hid hPd
        have HD9 : Hid (∀ p ∈ P ++ [(a, d)], p.2.length ≤ 49) := fun p hp => by
          rcases List.mem_append.1 hp with h | h
          · exact HD.out p h
          · simp at h; subst h; exact hd
        clear hown' hgrow HT ho' hr' hg' hPd
        go_wp2
        go_roundg (k - 1)
        case measure => omega
        case rel => exact ⟨k - 1, q8, g', cap', P ++ [(a, d)], rfl, by omega, by go_num, by rw [HPd.out], HPd.out ▸ HO9, HR9, HG9, by omega, by rw [HPd.out]; omega, HD9, hgr', hB'⟩
    · obtain rfl : k = 0 := by omega
      go_wp2
      go_ret2
      exact ⟨l, .slice (some ⟨G, 0, none⟩) n cap, P, rfl, ⟨G, cap, by rw [HN.out]⟩, hl, own_ptc HO.out HN.out HD.out, by rw [HN.out]; omega, HD.out, HG.out⟩

end Go.Proofs.Ytehpmdmfolmaoab
