/-
  laws.FnLayWrite returns true at every code: the walk of the law. No condition.
-/
import Derived.Test.YtdlofeemeeabjaaDrawLayOf
import Derived.Test.YtdlofeemeeabjaaImplCut
import Derived.Test.YtdlofeemeeabjaaImplWrite
import Derived.Test.YtdlofeemeeabjaaImplLof
import Derived.Test.YtdlofeemeeabjaaImplLt
import Derived.Test.YtdlofeemeeabjaaLtLaws
import Derived.Test.YtdlofeemeeabjaaPartCollect
import Derived.Test.YtdlofeemeeabjaaDrawText
/-! DrawTextWrite: a text, a place, data; nothing that existed has changed. -/
namespace Go.Proofs.Ytdlofeemeeabjaa
open Go.RowKit

def DtW (w : World) (e : Ending) (w' : World) : Prop :=
  ∃ (l : List UInt8) (a : Int) (d : List UInt8), e = .returned (.tuple #[.string (mkB l), .int .i64 a, .string (mkB d)]) ∧ l.length ≤ 49 ∧ d.length ≤ 49 ∧ (-1 ≤ a ∧ a ≤ 9223372036854775807) ∧ Below w.heap.size w w'

set_option maxHeartbeats 2000000 in
theorem drawTextWrite_any (v : Value) (len : Nat) (w : World) (h : Byt w v len) :
    Calls Try.prog 18 #[v] w (DtW w) := by
  have HB := Lib.hid h
  clear h
  go_enter Try.func18, Try.ntmps18
  go_wp2_with fail
  refine (open_any v len _ HB.out).mono ?_; rintro e w1 ⟨rb, rfl, hrb, hr1, hb1⟩
  have HR1 := Lib.hid hr1
  clear hr1
  go_wp2_with fail
  refine (l2Some_any rb 0 _ HR1.out (by omega)).mono ?_; rintro e w2 ⟨l, q2, rfl, hl, hr2, hq2, hg2⟩
  have HR2 := Lib.hid hr2
  have HG2 := Lib.hid hg2
  clear hr2 hg2 HR1
  go_wp2_with fail
  refine (l2At_any rb q2 l _ HR2.out (by omega) (by omega)).mono ?_; rintro e w3 ⟨a, q3, rfl, ha, hr3, hq3, hg3⟩
  have HR3 := Lib.hid hr3
  have HG3 := Lib.hid (grown_trans HG2.out hg3)
  have HA := Lib.hid ha
  clear hr3 hg3 HR2 HG2 ha
  go_wp2_with fail
  refine (l2Data_any rb q3 _ HR3.out (by omega)).mono ?_; rintro e w4 ⟨d, q4, rfl, hd, hr4, hq4, hg4⟩
  have HG4 := Lib.hid (grown_trans HG3.out hg4)
  clear hr4 hg4 HR3 HG3
  have e4 := hb1.trans (below_grown HG4.out (Nat.le_trans hrb (Nat.le_refl _)) hb1.size)
  go_wp2
  go_ret3
  exact ⟨l, a, d, rfl, hl, hd, HA.out, e4⟩

end Go.Proofs.Ytdlofeemeeabjaa

namespace Go.Proofs.Ytdlofeemeeabjaa.fnLayWrite
open Go.RowKit

/-! A write into a striped file, part by part. Plain mathematics. -/
theorem len_eq {m n : Nat} (h : ∀ a, a < m ↔ a < n) : m = n := by
  rcases Nat.lt_trichotomy m n with c | c | c
  · have := (h m).2 c; omega
  · exact c
  · have := (h n).1 c; omega
theorem getD_far {l : List UInt8} {i : Nat} (h : l.length ≤ i) : l.getD i 46 = 46 := by rw [List.getD_eq_getElem?_getD, List.getElem?_eq_none h]; rfl
theorem ob_key {size many : Int} {F : List UInt8} {o : Nat} (hy : layOkB size many = true) (ho : (o : Int) < many) (a : Nat) : a < (obS size many F o).length ↔ backF size many o a < (F.length : Int) := lof_key hy ho _ _
theorem ob_get {size many : Int} {F : List UInt8} {o : Nat} (hy : layOkB size many = true) (ho : (o : Int) < many) (a : Nat) : (obS size many F o).getD a 46 = F.getD (backF size many o a).toNat 46 := by
  have b := back_bd (a := (a : Int)) hy (show (0 : Int) ≤ o by omega) ho (by omega)
  have r := at_back (size := size) (many := many) (obj := (o : Int)) (a := (a : Int)) hy (by omega) ho
  by_cases h : a < (obS size many F o).length
  · have hk := (ob_key hy ho a).1 h
    obtain ⟨i, hi⟩ : ∃ i : Nat, backF size many o a = i := ⟨(backF size many o a).toNat, by omega⟩
    rw [hi] at r hk ⊢
    have := lof_get (l := F) hy ho F.length i (by omega) r.1
    rw [r.2, Int.toNat_natCast] at this
    rw [Int.toNat_natCast]
    exact this
  · rw [getD_far (by omega), getD_far]
    have hb : ¬ backF size many o a < (F.length : Int) := fun q => h ((ob_key hy ho a).2 q)
    omega

theorem wrL_getD' (l : List UInt8) (a : Nat) (d : List UInt8) (i : Nat) (h : i < max l.length (a + d.length)) : (wrL l a d).getD i 46 = if a ≤ i ∧ i < a + d.length then d.getD (i - a) 46 else l.getD i 46 := by
  rw [wrL_getD _ _ _ _ h]
  split
  · rfl
  · split
    · rfl
    · rw [getD_far (by omega)]
theorem ob_write {size many : Int} {F d : List UInt8} {p o lo : Nat} (hy : layOkB size many = true) (ho : (o : Int) < many) (hF : p ≤ F.length) (hd : 0 < d.length)
    (hr : ∀ j : Nat, j < d.length → objF size many ((p : Int) + j) = o ∧ atF size many ((p : Int) + j) = (lo : Int) + j) :
    obS size many (wrL F p d) o = wrL (obS size many F o) lo d ∧ ∀ o' : Nat, o' ≠ o → (o' : Int) < many → obS size many (wrL F p d) o' = obS size many F o' := by
  have bk : ∀ j : Nat, j < d.length → backF size many o ((lo : Int) + j) = (p : Int) + j := fun j hj => by
    have e := back_at (size := size) (many := many) (p := (p : Int) + j) hy
    rw [(hr j hj).1, (hr j hj).2] at e; exact e
  have hA : ∀ a : Nat, backF size many o a < (p : Int) ↔ a < lo := fun a => by
    have e := bk 0 hd
    have l := back_lt (size := size) (many := many) (o := o) hy ho (a := (a : Int)) (b := (lo : Int))
    simp at e
    rw [e] at l; omega
  have hB : ∀ a : Nat, backF size many o a < (p : Int) + d.length ↔ a < lo + d.length := fun a => by
    have e := bk (d.length - 1) (by omega)
    have l := back_lt (size := size) (many := many) (o := o) hy ho (b := (a : Int)) (a := (lo : Int) + (d.length - 1 : Nat))
    rw [e] at l; omega
  constructor
  · have hlen : (obS size many (wrL F p d) o).length = (wrL (obS size many F o) lo d).length := len_eq fun a => by
      rw [ob_key hy ho, wrL_len, wrL_len]
      have k := ob_key (F := F) hy ho a
      have b := hB a
      omega
    refine ext_getD hlen fun a ha => ?_
    have ha' := ha
    rw [← hlen, ob_key hy ho, wrL_len] at ha'
    rw [ob_get hy ho]
    rw [wrL_len] at ha
    have b := back_bd (a := (a : Int)) hy (show (0 : Int) ≤ o by omega) ho (by omega)
    rw [wrL_getD' _ _ _ _ (by omega), wrL_getD' _ _ _ _ ha]
    have a1 := hA a
    have b1 := hB a
    by_cases c : lo ≤ a ∧ a < lo + d.length
    · have e := bk (a - lo) (by omega)
      rw [show (lo : Int) + (a - lo : Nat) = (a : Int) by omega] at e
      rw [if_pos (by omega), if_pos c]
      congr 1; omega
    · rw [if_neg (by omega), if_neg c, ob_get hy ho]
  · intro o' hne ho'
    have hout : ∀ a : Nat, ¬ ((p : Int) ≤ backF size many o' a ∧ backF size many o' a < (p : Int) + d.length) := fun a ⟨c1, c2⟩ => by
      have r := at_back (size := size) (many := many) (obj := (o' : Int)) (a := (a : Int)) hy (by omega) ho'
      have q := (hr (backF size many o' a - p).toNat (by omega)).1
      rw [show (p : Int) + ((backF size many o' a - p).toNat : Int) = backF size many o' a by omega, r.1] at q
      omega
    have hlen : (obS size many (wrL F p d) o').length = (obS size many F o').length := len_eq fun a => by
      rw [ob_key hy ho', ob_key hy ho', wrL_len]
      have := hout a
      omega
    refine ext_getD hlen fun a ha => ?_
    have ha' := ha
    rw [ob_key hy ho'] at ha'
    have b := back_bd (a := (a : Int)) hy (show (0 : Int) ≤ o' by omega) ho' (by omega)
    have h := hout a
    rw [ob_get hy ho', ob_get hy ho', wrL_getD' _ _ _ _ (by omega), if_neg (by omega)]

/-- One more piece of a write. -/
theorem wr_more (l : List UInt8) (a k n : Nat) (d : List UInt8) (h : k + n ≤ d.length) : wrL (wrL l a (d.take k)) (a + k) ((d.drop k).take n) = wrL l a (d.take (k + n)) := by
  have e := wr_split l a k (d.take (k + n)) (by rw [List.length_take]; omega)
  rw [List.take_take, Nat.min_eq_left (by omega), List.drop_take] at e
  rwa [show k + n - k = n by omega] at e


theorem own_strs {w : World} {B n : Nat} {v : Value} {L : List (List UInt8)} (hn : L.length = n) (h : w.ownsRow B 9 1 v n (strs L)) : Vls w v n (fun i => .string (mkB (L.getD i []))) := by
  subst hn
  refine (own_vls h).congr fun i hi => ?_
  unfold strs
  simp [List.getD_eq_getElem?_getD, List.getElem?_map, List.getElem?_eq_getElem hi]
theorem loL_len {size many : Int} {l : List UInt8} (hy : layOkB size many = true) (ht : tokB l = true) : (loL size many l).length = many.toNat := by
  unfold loL; rw [if_pos ⟨hy, ht⟩]; simp
theorem loL_get {size many : Int} {l : List UInt8} (hy : layOkB size many = true) (ht : tokB l = true) {o : Nat} (ho : o < many.toNat) : (loL size many l).getD o [] = obS size many l o := by
  unfold loL obS; rw [if_pos ⟨hy, ht⟩]
  simp [List.getD_eq_getElem?_getD, ho]
/-- The file made long enough; writing into it is writing into the file. -/
def lngL (s : List UInt8) (a : Nat) : List UInt8 := if s.length < a then cutL s a else s
theorem lngL_len (s : List UInt8) (a : Nat) : a ≤ (lngL s a).length := by unfold lngL; split <;> (try rw [cutL_len]) <;> omega
theorem lngL_wr (s : List UInt8) (a : Nat) (d : List UInt8) (hd : 0 < d.length) : wrL (lngL s a) a d = wrL s a d := by
  unfold lngL
  split
  · rename_i h
    refine ext_getD (by rw [wrL_len, wrL_len, cutL_len]; omega) fun i hi => ?_
    rw [wrL_len] at hi
    rw [wrL_getD' _ _ _ _ (by rw [cutL_len]; omega), wrL_getD' _ _ _ _ hi]
    split
    · rfl
    · rename_i c
      rw [cutL_getD _ _ _ (by omega)]
      split
      · rfl
      · rw [getD_far (by omega)]
  · rfl
theorem lngL_ok {s : List UInt8} {a : Nat} (h : tokB s = true) (ha : a ≤ 48) : tokB (lngL s a) = true := by
  unfold lngL; split
  · exact tokB_cutL h ha
  · exact h

theorem wrL_none (F : List UInt8) (a : Nat) (h : a ≤ F.length) : wrL F a [] = F := by
  refine ext_getD (by rw [wrL_len]; simp; omega) fun i hi => ?_
  rw [wrL_getD' _ _ _ _ (by omega), if_neg (by simp)]
theorem pts_set {w : World} {a : Option Addr} {n cap : Nat} {P : List PartT} (h : Pts w (.slice a n cap) P) (g o : Nat) (u : Value) (hg : ∀ b o', a = some ⟨b, o', none⟩ → g ≠ b) : Pts (w.setCell ⟨g, o, none⟩ u) (.slice a n cap) P := by
  obtain ⟨a1, cap1, e, h1, h2, h3⟩ := h
  injection e with e1 e2 e3
  subst e1
  refine ⟨a, cap1, by rw [e2, e3], h1, h2, fun hp => ?_⟩
  obtain ⟨b, off, hb, hc⟩ := h3 hp
  have hne := hg b off hb
  have far : ∀ x v, w.cell? ⟨b, x, none⟩ = some v → (w.setCell ⟨g, o, none⟩ u).cell? ⟨b, x, none⟩ = some v := fun x v hv => btn_cell (btn_set w g o u) (by omega) hv
  exact ⟨b, off, hb, fun i hi => ⟨far _ _ (hc i hi).1, far _ _ (hc i hi).2.1, far _ _ (hc i hi).2.2.1, far _ _ (hc i hi).2.2.2⟩⟩

theorem new_part (w : World) (x y z u : Int) (T : TypeId) :
    (w.alloc (.cells #[.int .i64 x, .int .i64 y, .int .i64 z, .int .i64 u] T)).cell? ⟨w.heap.size, 0, none⟩ = some (.int .i64 x) ∧ (w.alloc (.cells #[.int .i64 x, .int .i64 y, .int .i64 z, .int .i64 u] T)).cell? ⟨w.heap.size, 1, none⟩ = some (.int .i64 y) ∧
    (w.alloc (.cells #[.int .i64 x, .int .i64 y, .int .i64 z, .int .i64 u] T)).cell? ⟨w.heap.size, 2, none⟩ = some (.int .i64 z) ∧ (w.alloc (.cells #[.int .i64 x, .int .i64 y, .int .i64 z, .int .i64 u] T)).cell? ⟨w.heap.size, 3, none⟩ = some (.int .i64 u) := ⟨by go_simp, by go_simp, by go_simp, by go_simp⟩
theorem frz_keep {w w1 : World} {b o : Nat} {v : Value} (hb : Below w.heap.size w w1) (hc : w.cell? ⟨b, o, none⟩ = some v) (hf : w.frozen? ⟨b, o, none⟩ = false) : w1.frozen? ⟨b, o, none⟩ = false :=
  (World.frozen?_of_block (a := ⟨b, o, none⟩) (hb.block b (World.block_lt_of_cell? w _ hc))).trans hf
theorem step_facts {size : Int} {m a0 q n o lo : Nat} {F d : List UInt8} (hy : layOkB size m = true) (hF3 : tokB F = true) (wtd : tokB d = true) (h48 : a0 + d.length ≤ 48) (hq : q + n ≤ d.length) (hn : 0 < n) (hom : o < m) (hlo : lo + n ≤ 48)
    (hr : ∀ j : Int, 0 ≤ j → j < ((lo : Int) + n) - lo → objF size m (((a0 + q : Nat) : Int) + j) = o ∧ atF size m (((a0 + q : Nat) : Int) + j) = (lo : Int) + j) :
    tokB (obS size m (wrL F a0 (d.take q)) o) = true ∧ wokB lo ((d.take (q + n)).drop q) = true ∧
    obS size m (wrL F a0 (d.take (q + n))) o = wrL (obS size m (wrL F a0 (d.take q)) o) lo ((d.take (q + n)).drop q) ∧ ∀ i : Nat, i ≠ o → i < m → obS size m (wrL F a0 (d.take (q + n))) i = obS size m (wrL F a0 (d.take q)) i := by
  have tk : ∀ (l : List UInt8), tokB l = true → ∀ k, tokB (l.take k) = true := fun l h k => by
    rw [tokB_iff] at h ⊢
    exact ⟨by rw [List.length_take]; omega, fun c hc => h.2 c (List.mem_of_mem_take hc)⟩
  have tdr : ∀ (l : List UInt8), tokB l = true → ∀ k, tokB (l.drop k) = true := fun l h k => by
    rw [tokB_iff] at h ⊢
    exact ⟨by rw [List.length_drop]; omega, fun c hc => h.2 c (List.mem_of_mem_drop hc)⟩
  have hp : ((d.take (q + n)).drop q).length = n := by rw [List.length_drop, List.length_take]; omega
  have hpe : (d.take (q + n)).drop q = (d.drop q).take n := by rw [List.drop_take, Nat.add_sub_cancel_left]
  have htF : tokB (wrL F a0 (d.take q)) = true := tokB_wrL hF3 (tk d wtd q) (by rw [List.length_take]; omega)
  have hk : ltK (obS size m (wrL F a0 (d.take q))) m = true := ltK_obs htF m
  have hm := wr_more F a0 q n d hq
  rw [← hpe] at hm
  have ow := ob_write (size := size) (many := (m : Int)) (F := wrL F a0 (d.take q)) (d := (d.take (q + n)).drop q) (p := a0 + q) (o := o) (lo := lo) hy (by omega) (by rw [wrL_len, List.length_take]; omega) (by omega) (fun j hj => hr j (by omega) (by omega))
  rw [hm] at ow
  refine ⟨ltK_at hk hom, wokB_iff.2 ⟨by omega, fun e => by rw [e] at hp; simp at hp; omega, tdr _ (tk d wtd _) _, by rw [hp]; omega⟩, ow.1, fun i h1 h2 => ow.2 i h1 (by omega)⟩

set_option maxRecDepth 100000 in
set_option maxHeartbeats 8000000 in
theorem walk (v : Value) (len : Nat) (w : World) (h : Byt w v len) :
    Calls Try.prog 5 #[v] w fun e w' => e = .returned (.bool true) ∧ Below w.heap.size w w' := by
  have HB := Lib.hid h
  have hlen : len ≤ 9223372036854775807 := by obtain ⟨z, a, cap, -, h1, h2, -⟩ := h; unfold maxLen at h2; omega
  obtain ⟨z, a, cap, rfl, -, -, -⟩ := h
  by_cases hL : len ≤ 1048576
  · go_enter Try.func5, Try.ntmps5
    go_wp2_with fail
    refine (drawTextWrite_any _ len _ HB.out).mono ?_; rintro e w1 ⟨s, at0, d, rfl, hs, hd, ⟨ha0, ha1⟩, hb1⟩
    go_wp2_with fail
    refine (drawLayOf_any _ len _ (byt_keep HB.out hb1)).mono ?_; rintro e w2 ⟨size, many, l2, rfl, -, hb2⟩
    obtain ⟨W, hW⟩ : ∃ W, w2.alloc (.cells #[.int .i64 size, .int .i64 many] 24) = W := ⟨_, rfl⟩
    have kl := new_box w2 size many 24
    have hal : Below w2.heap.size w2 W := by rw [← hW]; exact (Below.refl _ _).alloc (Nat.le_refl _) _
    have hlt : w2.heap.size < W.heap.size := by rw [← hW]; simp
    rw [hW] at kl
    have E1 := Lib.hid ((hb1.trans (hb2.mono hb1.size)).trans (hal.mono (hb1.trans (hb2.mono hb1.size)).size))
    have K1 := Lib.hid kl
    have H1 := Lib.hid (fun W => implTextWrite_any s at0 d (by omega) (by omega) W)
    have H2 := Lib.hid (fun W => specTextWrite_any s at0 d (by omega) (by omega) W)
    have H3 := Lib.hid (fun W => specLayOk_any size many W)
    have zs : (mkB s).size = s.length := mkB_size s
    have zd : (mkB d).size = d.length := mkB_size d
    have hsz2 : w.heap.size ≤ w2.heap.size := (hb1.trans (hb2.mono hb1.size)).size
    clear hb1 hb2 hal HB kl
    by_cases hq : twB s at0 d = true
    · have hq' := hq
      unfold twB at hq'
      simp only [Bool.and_eq_true] at hq'
      obtain ⟨hts, hwk⟩ := hq'
      obtain ⟨w0, wne, wtd, w48⟩ := wokB_iff.1 hwk
      obtain ⟨a0, rfl⟩ : ∃ a0 : Nat, at0 = a0 := ⟨at0.toNat, by omega⟩
      have hX : twS s a0 d = wrL s a0 d := by rw [twS_ok hts, if_pos hwk, Int.toNat_natCast]
      rw [hX, hq] at H1 H2
      have hd0 : 0 < d.length := List.length_pos_iff.2 wne
      have q1 : ((mkB (wrL s a0 d)).toList == (mkB (wrL s a0 d)).toList) = true := by simp
      have q2 : ((mkB (wrL s a0 d)).toList != (mkB (wrL s a0 d)).toList) = false := by simp
      obtain ⟨X, hXX⟩ : ∃ X, wrL s a0 d = X := ⟨_, rfl⟩
      rw [hXX] at H1 H2 q1 q2
      clear hX hq hwk wne
      go_wp2_with fail
      clear hW
      refine (H1.out _).mono ?_; rintro e w3 ⟨rfl, hb3⟩
      have K3 := Lib.hid (K1.out.keep hb3)
      have E3 := Lib.hid (E1.out.trans (hb3.mono E1.out.size))
      have l3 := Nat.lt_of_lt_of_le hlt hb3.size
      clear hb3 K1 E1 hlt
      go_wp2_with fail
      refine (H2.out _).mono ?_; rintro e w4 ⟨rfl, hb4⟩
      have K4 := Lib.hid (K3.out.keep hb4)
      have E4 := Lib.hid (E3.out.trans (hb4.mono E3.out.size))
      have l4 := Nat.lt_of_lt_of_le l3 hb4.size
      clear hb4 K3 E3 l3 H1 H2
      obtain ⟨x1, x2, -, -⟩ := id K4.out
      by_cases hy : layOkB size many = true
      · rw [hy] at H3
        go_wp2_with fail
        refine (H3.out _).mono ?_; rintro e w5 ⟨rfl, hb5⟩
        have K5 := Lib.hid (K4.out.keep hb5)
        have E5 := Lib.hid (E4.out.trans (hb5.mono E4.out.size))
        have l5 := Nat.lt_of_lt_of_le l4 hb5.size
        clear hb5 K4 E4 l4 H3 x1 x2
        have hw := tokB_wrL hts wtd (show a0 + d.length ≤ 48 by omega)
        rw [hXX] at hw
        have HwX := Lib.hid hw
        by_cases hc : s.length < a0
        · have HC0 := Lib.hid (implTextCut_any s a0 (by omega) w5)
          have hT : tcS s a0 = cutL s a0 := by unfold tcS; rw [if_pos hts, if_pos (by omega), Int.toNat_natCast]
          rw [hT] at HC0
          have hF1 : a0 ≤ (cutL s a0).length := by rw [cutL_len]; omega
          have hF2 : wrL (cutL s a0) a0 d = X := by have := lngL_wr s a0 d hd0; unfold lngL at this; rw [if_pos hc] at this; rw [this, hXX]
          have hF3 : tokB (cutL s a0) = true := tokB_cutL hts (by omega)
          generalize cutL s a0 = F at *
          clear hT
          go_wp2_with fail
          refine HC0.out.mono ?_; rintro e w6 ⟨rfl, hb6⟩
          have K6 := Lib.hid (K5.out.keep hb6)
          have E6 := Lib.hid (E5.out.trans (hb6.mono E5.out.size))
          have l6 := Nat.lt_of_lt_of_le l5 hb6.size
          clear hb6 K5 E5 l5 HC0
          have HtF : tokB F = true := hF3
          have H4 := Lib.hid (fun W => implLayOf_any size many F (by have := tokB_len hF3; omega) W)
          have hLn := loL_len hy HtF
          obtain ⟨c1, c2, c3, c4⟩ := layOkB_iff.1 hy
          obtain ⟨m, rfl⟩ : ∃ m : Nat, many = m := ⟨many.toNat, by omega⟩
          have hLg := Lib.hid (fun i (hi : i < m) => loL_get (l := F) hy HtF (show i < (m : Int).toNat by omega))
          obtain ⟨L0, hL0⟩ : ∃ L, loL size m F = L := ⟨_, rfl⟩
          rw [hL0] at H4 hLn hLg
          have hLm : L0.length = m := by omega
          obtain ⟨x1, x2, -, -⟩ := id K6.out
          have H5 := Lib.hid (fun W => implLayParts_any size m a0 ((a0 : Int) + d.length) W)
          have hch : Chain size m a0 ((a0 : Int) + d.length) (lpL size m a0 ((a0 : Int) + d.length)) := by
            unfold lpL
            rw [if_pos ⟨hy, spanOkB_iff.2 ⟨by omega, by omega, by omega⟩⟩]
            exact prts_chain hy (by omega) _ _ rfl (by omega) (by omega)
          have h48 : (lpL size m a0 ((a0 : Int) + d.length)).length ≤ 48 := by
            unfold lpL
            split
            · have := prS_len (size := size) (many := (m : Int)) (lo := (a0 : Int)) ((a0 : Int) + d.length - a0).toNat; unfold prts; omega
            · simp
          obtain ⟨P, hP⟩ : ∃ P, lpL size m a0 ((a0 : Int) + d.length) = P := ⟨_, rfl⟩
          rw [hP] at H5 hch h48
          have HCH := Lib.hid hch
          have HF2 := Lib.hid hF2
          have HF3 := Lib.hid hF3
          have HTD := Lib.hid wtd
          have HY := Lib.hid hy
          clear hP hch hL0 hLn hF2 hF3 HtF hy hw hts wtd
          have j1 : IntKind.i64.wrap ((a0 : Int) + d.length) = (a0 : Int) + d.length := IntWalk.i64_in _ (by omega)
          go_wp2_with fail
          refine (H4.out _).mono ?_; rintro e w7 ⟨v1, rfl, ho7, hb7⟩
          have HO7 : Hid (w7.ownsRow w6.heap.size 9 1 v1 m (strs L0)) := by have := ho7.out; rwa [hLm] at this
          obtain ⟨g, cp, rfl⟩ : ∃ g cp, v1 = .slice (some ⟨g, 0, none⟩) m cp := by
            rcases HO7.out.2 with ⟨-, h0⟩ | ⟨g, cap, cur, rfl, -⟩
            · exfalso; omega
            · exact ⟨_, _, rfl⟩
          have K7 := Lib.hid (K6.out.keep hb7)
          have B7 := Lib.hid hb7
          have E7 := Lib.hid (E6.out.trans (hb7.mono E6.out.size))
          have l7 := Nat.lt_of_lt_of_le l6 hb7.size
          clear hb7 ho7 x1 x2 H4
          obtain ⟨x1, x2, -, -⟩ := id K7.out
          go_wp2_with fail
          refine (H5.out _).mono ?_; rintro e w8 ⟨v2, rfl, ho8, hb8⟩
          have P8 := Lib.hid (own_pts ho8.out)
          have HO8 := Lib.hid (own_below1 HO7.out hb8)
          have g7 := (HO7.out.lt g rfl).2
          have B8 := Lib.hid (B7.out.trans (hb8.mono B7.out.size))
          have K8 := Lib.hid (K7.out.keep hb8)
          have E8 := Lib.hid (E7.out.trans (hb8.mono E7.out.size))
          have g8 := (HO8.out.lt g rfl).1
          have l8 := Nat.lt_of_lt_of_le l7 hb8.size
          clear hb8 E7 x1 x2 H5 HO7 B7 K7
          obtain ⟨a2, cap2, rfl, hl2, hm2, hc2⟩ := P8.out
          have HGB : Hid (∀ b o', a2 = some ⟨b, o', none⟩ → g ≠ b) := fun b o' e => by
            subst e
            have := (ho8.out.lt b rfl).1
            have := g7
            omega
          unfold maxLen at hm2
          clear hc2 ho8 g7
          go_wp2_with fail
          go_loopg [15] P.length (fun gm s15 wr => ∃ (k p : Nat) (T : List (List UInt8)), gm = P.length - k ∧ k ≤ P.length ∧ s15 = .int .i64 k ∧ Hid (nextF a0 P k = p) ∧ a0 ≤ p ∧ p ≤ a0 + d.length ∧ T.length = m ∧ Hid (∀ i, i < m → T.getD i [] = obS size m (wrL F a0 (d.take (p - a0))) i) ∧ Hid (wr.ownsRow w6.heap.size 9 1 (.slice (some ⟨g, 0, none⟩) m cp) m (strs T)) ∧ Hid (Pts wr (.slice a2 P.length cap2) P) ∧ Hid (Below w6.heap.size w6 wr))
          case atStart => exact ⟨0, a0, L0, rfl, Nat.zero_le _, rfl, Lib.hid rfl, Nat.le_refl _, by omega, hLm, (fun i hi => by
            rw [Nat.sub_self, List.take_zero, wrL_none _ _ hF1]; exact hLg.out i hi), HO8, P8, B8⟩
          case round =>
            obtain ⟨k, p, T, rfl, hk, rfl, HNX, hp1, hp2, hTm, HT, HO, HPs, HBl⟩ := hrel
            by_cases hlt : k < P.length
            · obtain ⟨a2', cap2', e2, -, -, hc2⟩ := HPs.out
              injection e2 with e21 e22 e23
              subst e21 e23
              obtain ⟨b2, o2, rfl, hcc⟩ := hc2 (fun e => by subst e; simp at hlt)
              have HNX1 : Hid (nextF a0 P (k + 1) = nextF a0 P k + ((P.getD k pD).2.2.1 - (P.getD k pD).2.1)) := rfl
              obtain ⟨⟨g1, g2, g3, g4, g5, g6, g7⟩, g8⟩ := HCH.out.good k hlt
              obtain ⟨y1, y2, y3, y4⟩ := hcc k hlt
              rw [HNX.out] at g1 g6 g7 g8 HNX1
              obtain ⟨x, hx⟩ : ∃ x, P.getD k pD = x := ⟨_, rfl⟩
              have hx' : P.getD k (0, 0, 0, 0) = x := hx
              rw [hx] at g1 g2 g3 g4 g5 g6 g7 HNX1
              rw [hx'] at y1 y2 y3 y4
              obtain ⟨oo, xa, xb, fr⟩ := x
              simp only at g1 g2 g3 g4 g5 g6 g7 y1 y2 y3 y4
              have HN1 : Hid (nextF a0 P (k + 1) = (p : Int) + (xb - xa)) := HNX1.out
              subst g1
              have g70 := (g7 0 (by omega) (by omega)).1
              have bd := at_bd (size := size) (many := (m : Int)) (p := (p : Int)) HY.out (by omega)
              rw [Int.add_zero] at g70
              rw [g70] at bd
              obtain ⟨o, rfl⟩ : ∃ o : Nat, oo = o := ⟨oo.toNat, by omega⟩
              obtain ⟨lo, rfl⟩ : ∃ lo : Nat, xa = lo := ⟨xa.toNat, by omega⟩
              obtain ⟨n, hn⟩ : ∃ n : Nat, xb = (lo : Int) + n := ⟨(xb - lo).toNat, by omega⟩
              subst hn
              have hom : o < m := by omega
              obtain ⟨q, rfl⟩ : ∃ q, p = a0 + q := ⟨p - a0, by omega⟩
              have HT0 := HT.out
              rw [Nat.add_sub_cancel_left] at HT0
              obtain ⟨f1, f2, f3, f4⟩ := step_facts (size := size) (m := m) (a0 := a0) (q := q) (n := n) (o := o) (lo := lo) (F := F) (d := d) HY.out HF3.out HTD.out (by omega) (by omega) (by omega) hom (by omega) (fun j h1 h2 => g7 j h1 h2)
              have hSo := HT0 o hom
              obtain ⟨So, hSoe⟩ : ∃ S, obS size m (wrL F a0 (d.take q)) o = S := ⟨_, rfl⟩
              obtain ⟨pc, hpc⟩ : ∃ pc, (d.take (q + n)).drop q = pc := ⟨_, rfl⟩
              rw [hSoe] at hSo f1 f3
              rw [hpc] at f2 f3
              have hpl : pc.length ≤ 48 := by rw [← hpc, List.length_drop, List.length_take]; omega
              have hx : (mkB d).extract q (q + n) = mkB pc := by rw [mkB_extract, hpc]
              have HTW := Lib.hid (fun W => implTextWrite_any So lo pc (by have := tokB_len f1; omega) (by omega) W)
              have hts2 : twS So lo pc = wrL So lo pc := by rw [twS_ok f1, if_pos f2, Int.toNat_natCast]
              have htb2 : twB So lo pc = true := by unfold twB; rw [f1, f2]; rfl
              rw [hts2, htb2] at HTW
              obtain ⟨Nw, hNw⟩ : ∃ N, wrL So lo pc = N := ⟨_, rfl⟩
              rw [hNw] at HTW f3
              have HT1 : Hid (∀ i, i < m → (T.set o Nw).getD i [] = obS size m (wrL F a0 (d.take (q + n))) i) := fun i hi => by
                rw [List.getD_eq_getElem?_getD, List.getElem?_set]
                by_cases e : o = i
                · subst e
                  rw [if_pos rfl, if_pos (by omega), f3]; rfl
                · rw [if_neg e, f4 i (fun e' => e e'.symm) hi, ← List.getD_eq_getElem?_getD]
                  exact HT0 i hi
              obtain ⟨W1, hW1⟩ : ∃ X, wr.alloc (.cells #[.int .i64 o, .int .i64 lo, .int .i64 ((lo : Int) + n), .int .i64 ((a0 : Int) + q)] 49) = X := ⟨_, rfl⟩
              have hb1 : Below wr.heap.size wr W1 := by rw [← hW1]; exact (Below.refl _ _).alloc (Nat.le_refl _) _
              have hz := new_part wr o lo ((lo : Int) + n) ((a0 : Int) + q) 49
              rw [hW1] at hz
              obtain ⟨z0, z1, z2, z3⟩ := hz
              have HO1 := Lib.hid (own_below1 HO.out hb1)
              have HB1 := Lib.hid (HBl.out.trans (hb1.mono HBl.out.size))
              have HP1 := Lib.hid (HPs.out.keep hb1)
              have hgl := HO.out.lt g rfl
              have HGL := Lib.hid hgl
              clear g7 g70 bd hcc hc2 hx' HNX HNX1 g8 e22 HT HT0 f1 f2 f3 f4 hSoe hpc hts2 htb2 hNw hgl
              have i0 : (0 : Int) ≤ (k : Int) := by omega
              have i1 : (k : Int) < (P.length : Int) := by omega
              have j2 : IntKind.i64.wrap (((a0 + q : Nat) : Int) - a0) = (q : Int) := by rw [IntWalk.i64_in _ (by omega)]; omega
              have u0 : W1.cell? ⟨g, o, none⟩ = some (.string (mkB So)) := by
                rw [HO1.out.cellAt _ (by omega)]
                unfold strs
                rw [List.getElem?_map, List.getElem?_eq_getElem (by omega)]
                rw [List.getD_eq_getElem?_getD, List.getElem?_eq_getElem (by omega)] at hSo
                simp only [Option.getD_some] at hSo
                rw [Option.map_some, hSo]
              have u1 : W1.frozen? ⟨g, o, none⟩ = false := HO1.out.frozenAt _
              have hgB : ¬ g = wr.heap.size := by have := HGL.out.2; omega
              have j3 : IntKind.i64.wrap ((q : Int) + ((lo : Int) + n)) = (q : Int) + ((lo : Int) + n) := IntWalk.i64_in _ (by omega)
              obtain ⟨r, hr⟩ : ∃ r, q + n = r := ⟨_, rfl⟩
              rw [hr] at hx
              have j4 : IntKind.i64.wrap ((q : Int) + ((lo : Int) + n) - lo) = (r : Int) := by rw [IntWalk.i64_in _ (by omega)]; omega
              have s1 : (0 : Int) ≤ (q : Int) := by omega
              have s2 : (q : Int) ≤ (r : Int) := by omega
              have s3 : (r : Int) ≤ (d.length : Int) := by omega
              have s4 : q ≤ r := by omega
              have s5 : (0 : Int) ≤ (r : Int) := by omega
              have s6 : r ≤ d.length := by omega
              have hsl : ∀ W, (Instr.slice 9 (.string (mkB d)) (some (.int .i64 q)) (some (.int .i64 r)) none).run Try.prog W = .ok (.string (mkB pc)) W := fun W => by
                rw [run_slice_string W 9 (mkB d) .i64 .i64 q r Try.underlying9 s1 s2 (by rw [zd]; exact s3), Int.toNat_natCast, Int.toNat_natCast, hx]
              have HR := Lib.hid hr
              clear hr
              have j6 : (0 : Int) ≤ (o : Int) := by omega
              have j7 : (o : Int) < (m : Int) := by omega
              have Hb1 := Lib.hid hb1
              clear hSo hb1
              go_wp2_with fail
              clear hW1 y1 y2 y3 y4
              have jq : ((a0 : Int) + (q : Int) - (a0 : Int)) = (q : Int) := by omega
              simp only [jq]
              clear jq
              generalize hBn : wr.heap.size = B at *
              obtain ⟨V, hV⟩ : ∃ V : Nat → Value, V = fun i => (#[.slice (some ⟨g, 0, none⟩) m cp, .pointer (some ⟨B, 0, none⟩), .int .i64 o, .slice (some ⟨g, 0, none⟩) m cp, .pointer (some ⟨B, 0, none⟩), .int .i64 o, .pointer (some ⟨g, o, none⟩), .string (mkB So), .pointer (some ⟨B, 1, none⟩), .pointer (some ⟨B, 1, none⟩), .int .i64 lo, .string (mkB d), .int .i64 q, .int .i64 q, .pointer (some ⟨B, 1, none⟩), .pointer (some ⟨B, 2, none⟩), .int .i64 ((lo : Int) + n), .int .i64 ((q : Int) + ((lo : Int) + n)), .pointer (some ⟨B, 1, none⟩), .pointer (some ⟨B, 1, none⟩), .int .i64 lo, .int .i64 r, .string (mkB pc), .tuple #[.string (mkB Nw), .bool true], .tuple #[.string (mkB Nw), .bool true], .string (mkB Nw), .bool true, .pointer (some ⟨g, o, none⟩)] : Array Value).getD i undef := ⟨_, rfl⟩
              have V0 : V 0 = .slice (some ⟨g, 0, none⟩) m cp := by rw [hV]; rfl
              have V1 : V 1 = .pointer (some ⟨B, 0, none⟩) := by rw [hV]; rfl
              have V2 : V 2 = .int .i64 o := by rw [hV]; rfl
              have V3 : V 3 = .slice (some ⟨g, 0, none⟩) m cp := by rw [hV]; rfl
              have V4 : V 4 = .pointer (some ⟨B, 0, none⟩) := by rw [hV]; rfl
              have V5 : V 5 = .int .i64 o := by rw [hV]; rfl
              have V6 : V 6 = .pointer (some ⟨g, o, none⟩) := by rw [hV]; rfl
              have V7 : V 7 = .string (mkB So) := by rw [hV]; rfl
              have V8 : V 8 = .pointer (some ⟨B, 1, none⟩) := by rw [hV]; rfl
              have V9 : V 9 = .pointer (some ⟨B, 1, none⟩) := by rw [hV]; rfl
              have V10 : V 10 = .int .i64 lo := by rw [hV]; rfl
              have V11 : V 11 = .string (mkB d) := by rw [hV]; rfl
              have V12 : V 12 = .int .i64 q := by rw [hV]; rfl
              have V13 : V 13 = .int .i64 q := by rw [hV]; rfl
              have V14 : V 14 = .pointer (some ⟨B, 1, none⟩) := by rw [hV]; rfl
              have V15 : V 15 = .pointer (some ⟨B, 2, none⟩) := by rw [hV]; rfl
              have V16 : V 16 = .int .i64 ((lo : Int) + n) := by rw [hV]; rfl
              have V17 : V 17 = .int .i64 ((q : Int) + ((lo : Int) + n)) := by rw [hV]; rfl
              have V18 : V 18 = .pointer (some ⟨B, 1, none⟩) := by rw [hV]; rfl
              have V19 : V 19 = .pointer (some ⟨B, 1, none⟩) := by rw [hV]; rfl
              have V20 : V 20 = .int .i64 lo := by rw [hV]; rfl
              have V21 : V 21 = .int .i64 r := by rw [hV]; rfl
              have V22 : V 22 = .string (mkB pc) := by rw [hV]; rfl
              have V23 : V 23 = .tuple #[.string (mkB Nw), .bool true] := by rw [hV]; rfl
              have V24 : V 24 = .tuple #[.string (mkB Nw), .bool true] := by rw [hV]; rfl
              have V25 : V 25 = .string (mkB Nw) := by rw [hV]; rfl
              have V26 : V 26 = .bool true := by rw [hV]; rfl
              have V27 : V 27 = .pointer (some ⟨g, o, none⟩) := by rw [hV]; rfl
              have V28 : V 28 = undef := by rw [hV]; rfl
              clear hV
              refine wp_region_fix 28 (fun j => j == 26) (fun x => ({ tmps := #[Value.slice a len cap, undef, Value.bool false, Value.string (mkB s), Value.int IntKind.i64 ↑a0, Value.string (mkB d), Value.pointer (some { block := w2.heap.size, off := 0 }), Value.string (mkB l2), Value.string (mkB X), Value.bool true, Value.string (mkB X), Value.bool true, Value.string (mkB F), Value.slice (some { block := g, off := 0 }) m cp, Value.slice (some { block := b2, off := o2 }) P.length cap2, Value.int IntKind.i64 ↑k, Value.pointer (some { block := B, off := 0 }), Value.int IntKind.i64 ↑q, undef, undef, Value.slice a len cap, Value.int IntKind.i64 ↑len, Value.bool (decide ((1048576 : Int) < (len : Int))), Value.tuple #[Value.string (mkB s), Value.int IntKind.i64 ↑a0, Value.string (mkB d)], Value.slice a len cap, Value.tuple #[Value.string (mkB s), Value.int IntKind.i64 ↑a0, Value.string (mkB d)], Value.string (mkB s), Value.int IntKind.i64 ↑a0, Value.string (mkB d), Value.tuple #[Value.agg #[Value.int IntKind.i64 size, Value.int IntKind.i64 ↑m], Value.string (mkB l2)], Value.slice a len cap, Value.tuple #[Value.agg #[Value.int IntKind.i64 size, Value.int IntKind.i64 ↑m], Value.string (mkB l2)], Value.agg #[Value.int IntKind.i64 size, Value.int IntKind.i64 ↑m], Value.string (mkB l2), Value.tuple #[Value.string (mkB X), Value.bool true], Value.string (mkB s), Value.int IntKind.i64 ↑a0, Value.string (mkB d), Value.tuple #[Value.string (mkB X), Value.bool true], Value.string (mkB X), Value.bool true, Value.tuple #[Value.string (mkB X), Value.bool true], Value.string (mkB s), Value.int IntKind.i64 ↑a0, Value.string (mkB d), Value.tuple #[Value.string (mkB X), Value.bool true], Value.string (mkB X), Value.bool true, Value.string (mkB X), Value.string (mkB X), Value.bool false, Value.bool false, Value.bool true, Value.bool true, Value.bool false, Value.bool false, Value.bool false, Value.bool true, Value.bool false, Value.bool false, Value.bool false, Value.agg #[Value.int IntKind.i64 size, Value.int IntKind.i64 ↑m], Value.bool true, Value.bool false, Value.bool false, undef, undef, undef, undef, undef, undef, undef, undef, Value.string (mkB s), Value.string (mkB s), Value.int IntKind.i64 ↑s.length, Value.int IntKind.i64 ↑a0, Value.bool true, Value.tuple #[Value.string (mkB F), Value.bool (tcB s ↑a0)], Value.string (mkB s), Value.int IntKind.i64 ↑a0, Value.tuple #[Value.string (mkB F), Value.bool (tcB s ↑a0)], Value.string (mkB F), Value.bool (tcB s ↑a0), Value.agg #[Value.int IntKind.i64 size, Value.int IntKind.i64 ↑m], Value.string (mkB F), Value.slice (some { block := g, off := 0 }) m cp, Value.agg #[Value.int IntKind.i64 size, Value.int IntKind.i64 ↑m], Value.int IntKind.i64 ↑a0, Value.int IntKind.i64 ↑a0, Value.string (mkB d), Value.int IntKind.i64 ↑d.length, Value.int IntKind.i64 (↑a0 + ↑d.length), Value.agg #[Value.int IntKind.i64 ↑a0, Value.int IntKind.i64 (↑a0 + ↑d.length)], Value.slice (some { block := b2, off := o2 }) P.length cap2, Value.int IntKind.i64 ↑k, Value.slice (some { block := b2, off := o2 }) P.length cap2, Value.int IntKind.i64 ↑P.length, Value.bool true, u99, u100, Value.slice (some { block := b2, off := o2 }) P.length cap2, Value.int IntKind.i64 ↑k, Value.pointer (some { block := b2, off := o2 + k * 4 }), Value.agg #[Value.int IntKind.i64 ↑o, Value.int IntKind.i64 ↑lo, Value.int IntKind.i64 (↑lo + ↑n), Value.int IntKind.i64 (↑a0 + ↑q)], Value.pointer (some { block := B, off := 3 }), Value.int IntKind.i64 (↑a0 + ↑q), Value.int IntKind.i64 ↑a0, Value.int IntKind.i64 ↑q, x 24, x 0, x 1, x 2, x 3, x 4, x 5, x 6, x 7, x 8, x 9, x 10, x 11, x 12, x 13, x 14, x 15, x 16, x 17, x 18, x 19, x 20, x 21, x 22, x 23, x 25, x 26, x 27, undef, undef, undef, undef, undef, undef, undef, undef, undef, undef, undef, undef], defers := [] } : Act)) V (fun w' => ∃ w0, Below W1.heap.size W1 w0 ∧ w' = w0.setCell ⟨g, o, none⟩ (.string (mkB Nw))) (x0 := fun i => (#[u110, u111, u112, u113, u114, u115, u116, u117, u118, u119, u120, u121, u122, u123, u124, u125, u126, u127, u128, u129, u130, u131, u132, u133, u109, u134, u135, u136] : Array Value).getD i undef) rfl (by kernel_rfl) (by kernel_rfl) (by kernel_rfl) (by kernel_rfl) (by kernel_rfl) ?_ ?_ ?_ ?_ ?_
              · intro x y h
                simp only [h 0 (by decide), h 1 (by decide), h 2 (by decide), h 3 (by decide), h 4 (by decide), h 5 (by decide), h 6 (by decide), h 7 (by decide), h 8 (by decide), h 9 (by decide), h 10 (by decide), h 11 (by decide), h 12 (by decide), h 13 (by decide), h 14 (by decide), h 15 (by decide), h 16 (by decide), h 17 (by decide), h 18 (by decide), h 19 (by decide), h 20 (by decide), h 21 (by decide), h 22 (by decide), h 23 (by decide), h 24 (by decide), h 25 (by decide), h 26 (by decide), h 27 (by decide)]
              · rintro i oi x w' hi ho hbe hon
                have y0 := cell_keep hbe z0
                have y1 := cell_keep hbe z1
                have y2 := cell_keep hbe z2
                have y3 := cell_keep hbe z3
                have yg := cell_keep hbe u0
                obtain rfl | rfl | rfl | rfl | rfl | rfl | rfl | rfl | rfl | rfl | rfl | rfl | rfl | rfl | rfl | rfl | rfl | rfl | rfl | rfl | rfl | rfl | rfl | rfl | rfl | rfl | rfl | rfl : i = 0 ∨ i = 1 ∨ i = 2 ∨ i = 3 ∨ i = 4 ∨ i = 5 ∨ i = 6 ∨ i = 7 ∨ i = 8 ∨ i = 9 ∨ i = 10 ∨ i = 11 ∨ i = 12 ∨ i = 13 ∨ i = 14 ∨ i = 15 ∨ i = 16 ∨ i = 17 ∨ i = 18 ∨ i = 19 ∨ i = 20 ∨ i = 21 ∨ i = 22 ∨ i = 23 ∨ i = 24 ∨ i = 25 ∨ i = 26 ∨ i = 27 := by omega
                · obtain rfl := Option.some.inj ho
                  refine wp_value (v := .slice (some ⟨g, 0, none⟩) m cp) (w' := w') ?_ ⟨by rw [V0]; rfl, Below.refl _ _⟩
                  go_simp
                · obtain rfl := Option.some.inj ho
                  refine wp_value (v := .pointer (some ⟨B, 0, none⟩)) (w' := w') ?_ ⟨by rw [V1]; rfl, Below.refl _ _⟩
                  go_simp
                · obtain rfl := Option.some.inj ho
                  have e1 : x 1 = .pointer (some ⟨B, 0, none⟩) := (hon _ (Array.mem_of_getElem? (i := 0) rfl) rfl).trans V1
                  refine wp_value (v := .int .i64 o) (w' := w') ?_ ⟨by rw [V2]; rfl, Below.refl _ _⟩
                  go_simp
                · obtain rfl := Option.some.inj ho
                  refine wp_value (v := .slice (some ⟨g, 0, none⟩) m cp) (w' := w') ?_ ⟨by rw [V3]; rfl, Below.refl _ _⟩
                  go_simp
                · obtain rfl := Option.some.inj ho
                  refine wp_value (v := .pointer (some ⟨B, 0, none⟩)) (w' := w') ?_ ⟨by rw [V4]; rfl, Below.refl _ _⟩
                  go_simp
                · obtain rfl := Option.some.inj ho
                  have e4 : x 4 = .pointer (some ⟨B, 0, none⟩) := (hon _ (Array.mem_of_getElem? (i := 0) rfl) rfl).trans V4
                  refine wp_value (v := .int .i64 o) (w' := w') ?_ ⟨by rw [V5]; rfl, Below.refl _ _⟩
                  go_simp
                · obtain rfl := Option.some.inj ho
                  have e3 : x 3 = .slice (some ⟨g, 0, none⟩) m cp := (hon _ (Array.mem_of_getElem? (i := 0) rfl) rfl).trans V3
                  have e5 : x 5 = .int .i64 o := (hon _ (Array.mem_of_getElem? (i := 1) rfl) rfl).trans V5
                  refine wp_value (v := .pointer (some ⟨g, o, none⟩)) (w' := w') ?_ ⟨by rw [V6]; rfl, Below.refl _ _⟩
                  go_simp
                · obtain rfl := Option.some.inj ho
                  have e6 : x 6 = .pointer (some ⟨g, o, none⟩) := (hon _ (Array.mem_of_getElem? (i := 0) rfl) rfl).trans V6
                  refine wp_value (v := .string (mkB So)) (w' := w') ?_ ⟨by rw [V7]; rfl, Below.refl _ _⟩
                  go_simp
                · obtain rfl := Option.some.inj ho
                  refine wp_value (v := .pointer (some ⟨B, 1, none⟩)) (w' := w') ?_ ⟨by rw [V8]; rfl, Below.refl _ _⟩
                  go_simp
                · obtain rfl := Option.some.inj ho
                  have e8 : x 8 = .pointer (some ⟨B, 1, none⟩) := (hon _ (Array.mem_of_getElem? (i := 0) rfl) rfl).trans V8
                  refine wp_value (v := .pointer (some ⟨B, 1, none⟩)) (w' := w') ?_ ⟨by rw [V9]; rfl, Below.refl _ _⟩
                  go_simp
                · obtain rfl := Option.some.inj ho
                  have e9 : x 9 = .pointer (some ⟨B, 1, none⟩) := (hon _ (Array.mem_of_getElem? (i := 0) rfl) rfl).trans V9
                  refine wp_value (v := .int .i64 lo) (w' := w') ?_ ⟨by rw [V10]; rfl, Below.refl _ _⟩
                  go_simp
                · obtain rfl := Option.some.inj ho
                  refine wp_value (v := .string (mkB d)) (w' := w') ?_ ⟨by rw [V11]; rfl, Below.refl _ _⟩
                  go_simp
                · obtain rfl := Option.some.inj ho
                  refine wp_value (v := .int .i64 q) (w' := w') ?_ ⟨by rw [V12]; rfl, Below.refl _ _⟩
                  go_simp
                · obtain rfl := Option.some.inj ho
                  refine wp_value (v := .int .i64 q) (w' := w') ?_ ⟨by rw [V13]; rfl, Below.refl _ _⟩
                  go_simp
                · obtain rfl := Option.some.inj ho
                  refine wp_value (v := .pointer (some ⟨B, 1, none⟩)) (w' := w') ?_ ⟨by rw [V14]; rfl, Below.refl _ _⟩
                  go_simp
                · obtain rfl := Option.some.inj ho
                  have e14 : x 14 = .pointer (some ⟨B, 1, none⟩) := (hon _ (Array.mem_of_getElem? (i := 0) rfl) rfl).trans V14
                  refine wp_value (v := .pointer (some ⟨B, 2, none⟩)) (w' := w') ?_ ⟨by rw [V15]; rfl, Below.refl _ _⟩
                  go_simp
                · obtain rfl := Option.some.inj ho
                  have e15 : x 15 = .pointer (some ⟨B, 2, none⟩) := (hon _ (Array.mem_of_getElem? (i := 0) rfl) rfl).trans V15
                  refine wp_value (v := .int .i64 ((lo : Int) + n)) (w' := w') ?_ ⟨by rw [V16]; rfl, Below.refl _ _⟩
                  go_simp
                · obtain rfl := Option.some.inj ho
                  have e13 : x 13 = .int .i64 q := (hon _ (Array.mem_of_getElem? (i := 0) rfl) rfl).trans V13
                  have e16 : x 16 = .int .i64 ((lo : Int) + n) := (hon _ (Array.mem_of_getElem? (i := 1) rfl) rfl).trans V16
                  refine wp_value (v := .int .i64 ((q : Int) + ((lo : Int) + n))) (w' := w') ?_ ⟨by rw [V17]; rfl, Below.refl _ _⟩
                  go_simp
                · obtain rfl := Option.some.inj ho
                  refine wp_value (v := .pointer (some ⟨B, 1, none⟩)) (w' := w') ?_ ⟨by rw [V18]; rfl, Below.refl _ _⟩
                  go_simp
                · obtain rfl := Option.some.inj ho
                  have e18 : x 18 = .pointer (some ⟨B, 1, none⟩) := (hon _ (Array.mem_of_getElem? (i := 0) rfl) rfl).trans V18
                  refine wp_value (v := .pointer (some ⟨B, 1, none⟩)) (w' := w') ?_ ⟨by rw [V19]; rfl, Below.refl _ _⟩
                  go_simp
                · obtain rfl := Option.some.inj ho
                  have e19 : x 19 = .pointer (some ⟨B, 1, none⟩) := (hon _ (Array.mem_of_getElem? (i := 0) rfl) rfl).trans V19
                  refine wp_value (v := .int .i64 lo) (w' := w') ?_ ⟨by rw [V20]; rfl, Below.refl _ _⟩
                  go_simp
                · obtain rfl := Option.some.inj ho
                  have e17 : x 17 = .int .i64 ((q : Int) + ((lo : Int) + n)) := (hon _ (Array.mem_of_getElem? (i := 0) rfl) rfl).trans V17
                  have e20 : x 20 = .int .i64 lo := (hon _ (Array.mem_of_getElem? (i := 1) rfl) rfl).trans V20
                  refine wp_value (v := .int .i64 r) (w' := w') ?_ ⟨by rw [V21]; rfl, Below.refl _ _⟩
                  go_simp
                · obtain rfl := Option.some.inj ho
                  have e11 : x 11 = .string (mkB d) := (hon _ (Array.mem_of_getElem? (i := 0) rfl) rfl).trans V11
                  have e12 : x 12 = .int .i64 q := (hon _ (Array.mem_of_getElem? (i := 1) rfl) rfl).trans V12
                  have e21 : x 21 = .int .i64 r := (hon _ (Array.mem_of_getElem? (i := 2) rfl) rfl).trans V21
                  refine wp_value (v := .string (mkB pc)) (w' := w') ?_ ⟨by rw [V22]; rfl, Below.refl _ _⟩
                  go_simp
                · obtain rfl := Option.some.inj ho
                  have e7 : x 7 = .string (mkB So) := (hon _ (Array.mem_of_getElem? (i := 0) rfl) rfl).trans V7
                  have e10 : x 10 = .int .i64 lo := (hon _ (Array.mem_of_getElem? (i := 1) rfl) rfl).trans V10
                  have e22 : x 22 = .string (mkB pc) := (hon _ (Array.mem_of_getElem? (i := 2) rfl) rfl).trans V22
                  refine wp_enter 19 #[.string (mkB So), .int .i64 lo, .string (mkB pc)] ?_ ((HTW.out w').mono fun e w2 ⟨he, hb⟩ => ⟨_, he, by rw [V23]; rfl, hb⟩)
                  go_simp
                · obtain rfl := Option.some.inj ho
                  have e23 : x 23 = .tuple #[.string (mkB Nw), .bool true] := (hon _ (Array.mem_of_getElem? (i := 0) rfl) rfl).trans V23
                  refine wp_value (v := .tuple #[.string (mkB Nw), .bool true]) (w' := w') ?_ ⟨by rw [V24]; rfl, Below.refl _ _⟩
                  go_simp
                · obtain rfl := Option.some.inj ho
                  have e24 : x 24 = .tuple #[.string (mkB Nw), .bool true] := (hon _ (Array.mem_of_getElem? (i := 0) rfl) rfl).trans V24
                  refine wp_value (v := .string (mkB Nw)) (w' := w') ?_ ⟨by rw [V25]; rfl, Below.refl _ _⟩
                  go_simp
                · obtain rfl := Option.some.inj ho
                  have e24 : x 24 = .tuple #[.string (mkB Nw), .bool true] := (hon _ (Array.mem_of_getElem? (i := 0) rfl) rfl).trans V24
                  refine wp_value (v := .bool true) (w' := w') ?_ ⟨by rw [V26]; rfl, Below.refl _ _⟩
                  go_simp
                · obtain rfl := Option.some.inj ho
                  have e0 : x 0 = .slice (some ⟨g, 0, none⟩) m cp := (hon _ (Array.mem_of_getElem? (i := 0) rfl) rfl).trans V0
                  have e2 : x 2 = .int .i64 o := (hon _ (Array.mem_of_getElem? (i := 1) rfl) rfl).trans V2
                  refine wp_value (v := .pointer (some ⟨g, o, none⟩)) (w' := w') ?_ ⟨by rw [V27]; rfl, Below.refl _ _⟩
                  go_simp
              · rintro i oi x w' hi hlt ho hon
                obtain rfl : i = 26 := by simpa using hlt
                obtain rfl := Option.some.inj ho
                have e24 : x 24 = .tuple #[.string (mkB Nw), .bool true] := (hon _ (Array.mem_of_getElem? (i := 0) rfl) rfl).trans V24
                refine wp_value (v := .bool true) (w' := w') ?_ ⟨by rw [V26]; rfl, rfl⟩
                go_simp
              · rintro oi x w' ho hbe hv
                obtain rfl := Option.some.inj ho
                have e27 : x 27 = .pointer (some ⟨g, o, none⟩) := (hv 27 (by omega) rfl).trans V27
                have e25 : x 25 = .string (mkB Nw) := (hv 25 (by omega) rfl).trans V25
                have yg := cell_keep hbe u0
                have yf := frz_keep hbe u0 u1
                refine wp_skip (w' := w'.setCell ⟨g, o, none⟩ (.string (mkB Nw))) ?_ ⟨by rw [V28]; rfl, w', hbe, rfl⟩
                go_simp
              rintro w' ⟨w0, hb0, rfl⟩
              simp only [V0, V1, V2, V3, V4, V5, V6, V7, V8, V9, V10, V11, V12, V13, V14, V15, V16, V17, V18, V19, V20, V21, V22, V23, V24, V25, V26, V27]
              clear V0 V1 V2 V3 V4 V5 V6 V7 V8 V9 V10 V11 V12 V13 V14 V15 V16 V17 V18 V19 V20 V21 V22 V23 V24 V25 V26 V27 V28
              have hqn : a0 + q + n = a0 + (q + n) := by omega
              have hOs : World.ownsRow (w0.setCell ⟨g, o, none⟩ (.string (mkB Nw))) w6.heap.size 9 1 (.slice (some ⟨g, 0, none⟩) m cp) m (strs (T.set o Nw)) := by
                have hs := ((own_below1 HO1.out hb0).stored o (.string (mkB Nw))).1
                rwa [strs_set] at hs
              have HOn := Lib.hid hOs
              have HPn := Lib.hid (pts_set (HP1.out.keep hb0) g o (.string (mkB Nw)) HGB.out)
              have HBn := Lib.hid ((HB1.out.trans (hb0.mono HB1.out.size)).setCell (p := ⟨g, o, none⟩) (by have := HGL.out.1; simp only; omega) (.string (mkB Nw)))
              have HTn : Hid (∀ i, i < m → (T.set o Nw).getD i [] = obS size m (wrL F a0 (d.take (a0 + (q + n) - a0))) i) := fun i hi => by rw [Nat.add_sub_cancel_left]; exact HT1.out i hi
              clear hOs hb0 HB1 HP1 HO1 HT1 u0 u1 z0 z1 z2 z3 HTW
              go_wp2
              go_roundg (P.length - (k + 1))
              case measure => omega
              case rel => exact ⟨k + 1, a0 + (q + n), T.set o Nw, rfl, by omega, by go_num, by show _ = _; rw [HN1.out]; omega, by omega, by omega, by rw [List.length_set]; exact hTm, HTn, HOn, HPn, HBn⟩
            · obtain rfl : k = P.length := by omega
              have hpe : p = a0 + d.length := by have := HCH.out.last; rw [HNX.out] at this; omega
              subst hpe
              have hvl : Vls wr (.slice (some ⟨g, 0, none⟩) m cp) m (sF (obS size m X)) := (own_strs hTm HO.out).congr fun i hi => by
                show _ = Value.string (mkB _)
                rw [HT.out i hi, Nat.add_sub_cancel_left, List.take_of_length_le (Nat.le_refl _), HF2.out]
              have hN := ltN_obs (size := size) (m := m) rfl HY.out (tokB_len HwX.out)
              have hB : ltB size m (obS size m X) m = true := ltB_ok (ltK_obs HwX.out m) (by rw [hN]; omega)
              have hS : ltS size m (obS size m X) m = X := by rw [ltS_yes hB, hN, Int.toNat_natCast]; exact lt_back HY.out
              have HLT := Lib.hid (implLayText_any size m _ m (obS size m X) wr hvl (fun i _ => by have := tokB_len (ltK_at (ltK_obs (size := size) (many := (m : Int)) HwX.out (i + 1)) (Nat.lt_succ_self i)); omega) (by omega))
              rw [hS, hB] at HLT
              have Kf := Lib.hid (K6.out.keep HBl.out)
              have Ef := Lib.hid (E6.out.trans (HBl.out.mono E6.out.size))
              clear hvl hN hB hS HT HO HPs HNX HBl
              obtain ⟨x1, x2, -, -⟩ := id Kf.out
              go_wp2_with fail
              refine HLT.out.mono ?_; rintro e w9 ⟨rfl, hb9⟩
              have En := Lib.hid (Ef.out.trans (hb9.mono Ef.out.size))
              clear hb9 x1 x2 Kf Ef HLT
              go_wp2
              go_ret
              exact ⟨rfl, En.out⟩
        · have hF1 : a0 ≤ s.length := by omega
          have hF2 : wrL s a0 d = X := hXX
          have hF3 := hts
          have hcc : (s.length : Int) < a0 → False := by omega
          have HtF : tokB s = true := hF3
          have H4 := Lib.hid (fun W => implLayOf_any size many s (by have := tokB_len hF3; omega) W)
          have hLn := loL_len hy HtF
          obtain ⟨c1, c2, c3, c4⟩ := layOkB_iff.1 hy
          obtain ⟨m, rfl⟩ : ∃ m : Nat, many = m := ⟨many.toNat, by omega⟩
          have hLg := Lib.hid (fun i (hi : i < m) => loL_get (l := s) hy HtF (show i < (m : Int).toNat by omega))
          obtain ⟨L0, hL0⟩ : ∃ L, loL size m s = L := ⟨_, rfl⟩
          rw [hL0] at H4 hLn hLg
          have hLm : L0.length = m := by omega
          obtain ⟨x1, x2, -, -⟩ := id K5.out
          have H5 := Lib.hid (fun W => implLayParts_any size m a0 ((a0 : Int) + d.length) W)
          have hch : Chain size m a0 ((a0 : Int) + d.length) (lpL size m a0 ((a0 : Int) + d.length)) := by
            unfold lpL
            rw [if_pos ⟨hy, spanOkB_iff.2 ⟨by omega, by omega, by omega⟩⟩]
            exact prts_chain hy (by omega) _ _ rfl (by omega) (by omega)
          have h48 : (lpL size m a0 ((a0 : Int) + d.length)).length ≤ 48 := by
            unfold lpL
            split
            · have := prS_len (size := size) (many := (m : Int)) (lo := (a0 : Int)) ((a0 : Int) + d.length - a0).toNat; unfold prts; omega
            · simp
          obtain ⟨P, hP⟩ : ∃ P, lpL size m a0 ((a0 : Int) + d.length) = P := ⟨_, rfl⟩
          rw [hP] at H5 hch h48
          have HCH := Lib.hid hch
          have HF2 := Lib.hid hF2
          have HF3 := Lib.hid hF3
          have HTD := Lib.hid wtd
          have HY := Lib.hid hy
          clear hP hch hL0 hLn hF2 hF3 HtF hy hw hts wtd
          have j1 : IntKind.i64.wrap ((a0 : Int) + d.length) = (a0 : Int) + d.length := IntWalk.i64_in _ (by omega)
          go_wp2_with fail
          refine (H4.out _).mono ?_; rintro e w7 ⟨v1, rfl, ho7, hb7⟩
          have HO7 : Hid (w7.ownsRow w5.heap.size 9 1 v1 m (strs L0)) := by have := ho7.out; rwa [hLm] at this
          obtain ⟨g, cp, rfl⟩ : ∃ g cp, v1 = .slice (some ⟨g, 0, none⟩) m cp := by
            rcases HO7.out.2 with ⟨-, h0⟩ | ⟨g, cap, cur, rfl, -⟩
            · exfalso; omega
            · exact ⟨_, _, rfl⟩
          have K7 := Lib.hid (K5.out.keep hb7)
          have B7 := Lib.hid hb7
          have E7 := Lib.hid (E5.out.trans (hb7.mono E5.out.size))
          have l7 := Nat.lt_of_lt_of_le l5 hb7.size
          clear hb7 ho7 x1 x2 H4
          obtain ⟨x1, x2, -, -⟩ := id K7.out
          go_wp2_with fail
          refine (H5.out _).mono ?_; rintro e w8 ⟨v2, rfl, ho8, hb8⟩
          have P8 := Lib.hid (own_pts ho8.out)
          have HO8 := Lib.hid (own_below1 HO7.out hb8)
          have g7 := (HO7.out.lt g rfl).2
          have B8 := Lib.hid (B7.out.trans (hb8.mono B7.out.size))
          have K8 := Lib.hid (K7.out.keep hb8)
          have E8 := Lib.hid (E7.out.trans (hb8.mono E7.out.size))
          have g8 := (HO8.out.lt g rfl).1
          have l8 := Nat.lt_of_lt_of_le l7 hb8.size
          clear hb8 E7 x1 x2 H5 HO7 B7 K7
          obtain ⟨a2, cap2, rfl, hl2, hm2, hc2⟩ := P8.out
          have HGB : Hid (∀ b o', a2 = some ⟨b, o', none⟩ → g ≠ b) := fun b o' e => by
            subst e
            have := (ho8.out.lt b rfl).1
            have := g7
            omega
          unfold maxLen at hm2
          clear hc2 ho8 g7
          go_wp2_with fail
          go_loopg [15] P.length (fun gm s15 wr => ∃ (k p : Nat) (T : List (List UInt8)), gm = P.length - k ∧ k ≤ P.length ∧ s15 = .int .i64 k ∧ Hid (nextF a0 P k = p) ∧ a0 ≤ p ∧ p ≤ a0 + d.length ∧ T.length = m ∧ Hid (∀ i, i < m → T.getD i [] = obS size m (wrL s a0 (d.take (p - a0))) i) ∧ Hid (wr.ownsRow w5.heap.size 9 1 (.slice (some ⟨g, 0, none⟩) m cp) m (strs T)) ∧ Hid (Pts wr (.slice a2 P.length cap2) P) ∧ Hid (Below w5.heap.size w5 wr))
          case atStart => exact ⟨0, a0, L0, rfl, Nat.zero_le _, rfl, Lib.hid rfl, Nat.le_refl _, by omega, hLm, (fun i hi => by
            rw [Nat.sub_self, List.take_zero, wrL_none _ _ hF1]; exact hLg.out i hi), HO8, P8, B8⟩
          case round =>
            obtain ⟨k, p, T, rfl, hk, rfl, HNX, hp1, hp2, hTm, HT, HO, HPs, HBl⟩ := hrel
            by_cases hlt : k < P.length
            · obtain ⟨a2', cap2', e2, -, -, hc2⟩ := HPs.out
              injection e2 with e21 e22 e23
              subst e21 e23
              obtain ⟨b2, o2, rfl, hcc⟩ := hc2 (fun e => by subst e; simp at hlt)
              have HNX1 : Hid (nextF a0 P (k + 1) = nextF a0 P k + ((P.getD k pD).2.2.1 - (P.getD k pD).2.1)) := rfl
              obtain ⟨⟨g1, g2, g3, g4, g5, g6, g7⟩, g8⟩ := HCH.out.good k hlt
              obtain ⟨y1, y2, y3, y4⟩ := hcc k hlt
              rw [HNX.out] at g1 g6 g7 g8 HNX1
              obtain ⟨x, hx⟩ : ∃ x, P.getD k pD = x := ⟨_, rfl⟩
              have hx' : P.getD k (0, 0, 0, 0) = x := hx
              rw [hx] at g1 g2 g3 g4 g5 g6 g7 HNX1
              rw [hx'] at y1 y2 y3 y4
              obtain ⟨oo, xa, xb, fr⟩ := x
              simp only at g1 g2 g3 g4 g5 g6 g7 y1 y2 y3 y4
              have HN1 : Hid (nextF a0 P (k + 1) = (p : Int) + (xb - xa)) := HNX1.out
              subst g1
              have g70 := (g7 0 (by omega) (by omega)).1
              have bd := at_bd (size := size) (many := (m : Int)) (p := (p : Int)) HY.out (by omega)
              rw [Int.add_zero] at g70
              rw [g70] at bd
              obtain ⟨o, rfl⟩ : ∃ o : Nat, oo = o := ⟨oo.toNat, by omega⟩
              obtain ⟨lo, rfl⟩ : ∃ lo : Nat, xa = lo := ⟨xa.toNat, by omega⟩
              obtain ⟨n, hn⟩ : ∃ n : Nat, xb = (lo : Int) + n := ⟨(xb - lo).toNat, by omega⟩
              subst hn
              have hom : o < m := by omega
              obtain ⟨q, rfl⟩ : ∃ q, p = a0 + q := ⟨p - a0, by omega⟩
              have HT0 := HT.out
              rw [Nat.add_sub_cancel_left] at HT0
              obtain ⟨f1, f2, f3, f4⟩ := step_facts (size := size) (m := m) (a0 := a0) (q := q) (n := n) (o := o) (lo := lo) (F := s) (d := d) HY.out HF3.out HTD.out (by omega) (by omega) (by omega) hom (by omega) (fun j h1 h2 => g7 j h1 h2)
              have hSo := HT0 o hom
              obtain ⟨So, hSoe⟩ : ∃ S, obS size m (wrL s a0 (d.take q)) o = S := ⟨_, rfl⟩
              obtain ⟨pc, hpc⟩ : ∃ pc, (d.take (q + n)).drop q = pc := ⟨_, rfl⟩
              rw [hSoe] at hSo f1 f3
              rw [hpc] at f2 f3
              have hpl : pc.length ≤ 48 := by rw [← hpc, List.length_drop, List.length_take]; omega
              have hx : (mkB d).extract q (q + n) = mkB pc := by rw [mkB_extract, hpc]
              have HTW := Lib.hid (fun W => implTextWrite_any So lo pc (by have := tokB_len f1; omega) (by omega) W)
              have hts2 : twS So lo pc = wrL So lo pc := by rw [twS_ok f1, if_pos f2, Int.toNat_natCast]
              have htb2 : twB So lo pc = true := by unfold twB; rw [f1, f2]; rfl
              rw [hts2, htb2] at HTW
              obtain ⟨Nw, hNw⟩ : ∃ N, wrL So lo pc = N := ⟨_, rfl⟩
              rw [hNw] at HTW f3
              have HT1 : Hid (∀ i, i < m → (T.set o Nw).getD i [] = obS size m (wrL s a0 (d.take (q + n))) i) := fun i hi => by
                rw [List.getD_eq_getElem?_getD, List.getElem?_set]
                by_cases e : o = i
                · subst e
                  rw [if_pos rfl, if_pos (by omega), f3]; rfl
                · rw [if_neg e, f4 i (fun e' => e e'.symm) hi, ← List.getD_eq_getElem?_getD]
                  exact HT0 i hi
              obtain ⟨W1, hW1⟩ : ∃ X, wr.alloc (.cells #[.int .i64 o, .int .i64 lo, .int .i64 ((lo : Int) + n), .int .i64 ((a0 : Int) + q)] 49) = X := ⟨_, rfl⟩
              have hb1 : Below wr.heap.size wr W1 := by rw [← hW1]; exact (Below.refl _ _).alloc (Nat.le_refl _) _
              have hz := new_part wr o lo ((lo : Int) + n) ((a0 : Int) + q) 49
              rw [hW1] at hz
              obtain ⟨z0, z1, z2, z3⟩ := hz
              have HO1 := Lib.hid (own_below1 HO.out hb1)
              have HB1 := Lib.hid (HBl.out.trans (hb1.mono HBl.out.size))
              have HP1 := Lib.hid (HPs.out.keep hb1)
              have hgl := HO.out.lt g rfl
              have HGL := Lib.hid hgl
              clear g7 g70 bd hcc hc2 hx' HNX HNX1 g8 e22 HT HT0 f1 f2 f3 f4 hSoe hpc hts2 htb2 hNw hgl
              have i0 : (0 : Int) ≤ (k : Int) := by omega
              have i1 : (k : Int) < (P.length : Int) := by omega
              have j2 : IntKind.i64.wrap (((a0 + q : Nat) : Int) - a0) = (q : Int) := by rw [IntWalk.i64_in _ (by omega)]; omega
              have u0 : W1.cell? ⟨g, o, none⟩ = some (.string (mkB So)) := by
                rw [HO1.out.cellAt _ (by omega)]
                unfold strs
                rw [List.getElem?_map, List.getElem?_eq_getElem (by omega)]
                rw [List.getD_eq_getElem?_getD, List.getElem?_eq_getElem (by omega)] at hSo
                simp only [Option.getD_some] at hSo
                rw [Option.map_some, hSo]
              have u1 : W1.frozen? ⟨g, o, none⟩ = false := HO1.out.frozenAt _
              have hgB : ¬ g = wr.heap.size := by have := HGL.out.2; omega
              have j3 : IntKind.i64.wrap ((q : Int) + ((lo : Int) + n)) = (q : Int) + ((lo : Int) + n) := IntWalk.i64_in _ (by omega)
              obtain ⟨r, hr⟩ : ∃ r, q + n = r := ⟨_, rfl⟩
              rw [hr] at hx
              have j4 : IntKind.i64.wrap ((q : Int) + ((lo : Int) + n) - lo) = (r : Int) := by rw [IntWalk.i64_in _ (by omega)]; omega
              have s1 : (0 : Int) ≤ (q : Int) := by omega
              have s2 : (q : Int) ≤ (r : Int) := by omega
              have s3 : (r : Int) ≤ (d.length : Int) := by omega
              have s4 : q ≤ r := by omega
              have s5 : (0 : Int) ≤ (r : Int) := by omega
              have s6 : r ≤ d.length := by omega
              have hsl : ∀ W, (Instr.slice 9 (.string (mkB d)) (some (.int .i64 q)) (some (.int .i64 r)) none).run Try.prog W = .ok (.string (mkB pc)) W := fun W => by
                rw [run_slice_string W 9 (mkB d) .i64 .i64 q r Try.underlying9 s1 s2 (by rw [zd]; exact s3), Int.toNat_natCast, Int.toNat_natCast, hx]
              have HR := Lib.hid hr
              clear hr
              have j6 : (0 : Int) ≤ (o : Int) := by omega
              have j7 : (o : Int) < (m : Int) := by omega
              have Hb1 := Lib.hid hb1
              clear hSo hb1
              go_wp2_with fail
              clear hW1 y1 y2 y3 y4
              have jq : ((a0 : Int) + (q : Int) - (a0 : Int)) = (q : Int) := by omega
              simp only [jq]
              clear jq
              generalize hBn : wr.heap.size = B at *
              obtain ⟨V, hV⟩ : ∃ V : Nat → Value, V = fun i => (#[.slice (some ⟨g, 0, none⟩) m cp, .pointer (some ⟨B, 0, none⟩), .int .i64 o, .slice (some ⟨g, 0, none⟩) m cp, .pointer (some ⟨B, 0, none⟩), .int .i64 o, .pointer (some ⟨g, o, none⟩), .string (mkB So), .pointer (some ⟨B, 1, none⟩), .pointer (some ⟨B, 1, none⟩), .int .i64 lo, .string (mkB d), .int .i64 q, .int .i64 q, .pointer (some ⟨B, 1, none⟩), .pointer (some ⟨B, 2, none⟩), .int .i64 ((lo : Int) + n), .int .i64 ((q : Int) + ((lo : Int) + n)), .pointer (some ⟨B, 1, none⟩), .pointer (some ⟨B, 1, none⟩), .int .i64 lo, .int .i64 r, .string (mkB pc), .tuple #[.string (mkB Nw), .bool true], .tuple #[.string (mkB Nw), .bool true], .string (mkB Nw), .bool true, .pointer (some ⟨g, o, none⟩)] : Array Value).getD i undef := ⟨_, rfl⟩
              have V0 : V 0 = .slice (some ⟨g, 0, none⟩) m cp := by rw [hV]; rfl
              have V1 : V 1 = .pointer (some ⟨B, 0, none⟩) := by rw [hV]; rfl
              have V2 : V 2 = .int .i64 o := by rw [hV]; rfl
              have V3 : V 3 = .slice (some ⟨g, 0, none⟩) m cp := by rw [hV]; rfl
              have V4 : V 4 = .pointer (some ⟨B, 0, none⟩) := by rw [hV]; rfl
              have V5 : V 5 = .int .i64 o := by rw [hV]; rfl
              have V6 : V 6 = .pointer (some ⟨g, o, none⟩) := by rw [hV]; rfl
              have V7 : V 7 = .string (mkB So) := by rw [hV]; rfl
              have V8 : V 8 = .pointer (some ⟨B, 1, none⟩) := by rw [hV]; rfl
              have V9 : V 9 = .pointer (some ⟨B, 1, none⟩) := by rw [hV]; rfl
              have V10 : V 10 = .int .i64 lo := by rw [hV]; rfl
              have V11 : V 11 = .string (mkB d) := by rw [hV]; rfl
              have V12 : V 12 = .int .i64 q := by rw [hV]; rfl
              have V13 : V 13 = .int .i64 q := by rw [hV]; rfl
              have V14 : V 14 = .pointer (some ⟨B, 1, none⟩) := by rw [hV]; rfl
              have V15 : V 15 = .pointer (some ⟨B, 2, none⟩) := by rw [hV]; rfl
              have V16 : V 16 = .int .i64 ((lo : Int) + n) := by rw [hV]; rfl
              have V17 : V 17 = .int .i64 ((q : Int) + ((lo : Int) + n)) := by rw [hV]; rfl
              have V18 : V 18 = .pointer (some ⟨B, 1, none⟩) := by rw [hV]; rfl
              have V19 : V 19 = .pointer (some ⟨B, 1, none⟩) := by rw [hV]; rfl
              have V20 : V 20 = .int .i64 lo := by rw [hV]; rfl
              have V21 : V 21 = .int .i64 r := by rw [hV]; rfl
              have V22 : V 22 = .string (mkB pc) := by rw [hV]; rfl
              have V23 : V 23 = .tuple #[.string (mkB Nw), .bool true] := by rw [hV]; rfl
              have V24 : V 24 = .tuple #[.string (mkB Nw), .bool true] := by rw [hV]; rfl
              have V25 : V 25 = .string (mkB Nw) := by rw [hV]; rfl
              have V26 : V 26 = .bool true := by rw [hV]; rfl
              have V27 : V 27 = .pointer (some ⟨g, o, none⟩) := by rw [hV]; rfl
              have V28 : V 28 = undef := by rw [hV]; rfl
              clear hV
              refine wp_region_fix 28 (fun j => j == 26) (fun x => ({ tmps := #[Value.slice a len cap, undef, Value.bool false, Value.string (mkB s), Value.int IntKind.i64 ↑a0, Value.string (mkB d), Value.pointer (some { block := w2.heap.size, off := 0 }), Value.string (mkB l2), Value.string (mkB X), Value.bool true, Value.string (mkB X), Value.bool true, Value.string (mkB s), Value.slice (some { block := g, off := 0 }) m cp, Value.slice (some { block := b2, off := o2 }) P.length cap2, Value.int IntKind.i64 ↑k, Value.pointer (some { block := B, off := 0 }), Value.int IntKind.i64 ↑q, undef, undef, Value.slice a len cap, Value.int IntKind.i64 ↑len, Value.bool (decide ((1048576 : Int) < (len : Int))), Value.tuple #[Value.string (mkB s), Value.int IntKind.i64 ↑a0, Value.string (mkB d)], Value.slice a len cap, Value.tuple #[Value.string (mkB s), Value.int IntKind.i64 ↑a0, Value.string (mkB d)], Value.string (mkB s), Value.int IntKind.i64 ↑a0, Value.string (mkB d), Value.tuple #[Value.agg #[Value.int IntKind.i64 size, Value.int IntKind.i64 ↑m], Value.string (mkB l2)], Value.slice a len cap, Value.tuple #[Value.agg #[Value.int IntKind.i64 size, Value.int IntKind.i64 ↑m], Value.string (mkB l2)], Value.agg #[Value.int IntKind.i64 size, Value.int IntKind.i64 ↑m], Value.string (mkB l2), Value.tuple #[Value.string (mkB X), Value.bool true], Value.string (mkB s), Value.int IntKind.i64 ↑a0, Value.string (mkB d), Value.tuple #[Value.string (mkB X), Value.bool true], Value.string (mkB X), Value.bool true, Value.tuple #[Value.string (mkB X), Value.bool true], Value.string (mkB s), Value.int IntKind.i64 ↑a0, Value.string (mkB d), Value.tuple #[Value.string (mkB X), Value.bool true], Value.string (mkB X), Value.bool true, Value.string (mkB X), Value.string (mkB X), Value.bool false, Value.bool false, Value.bool true, Value.bool true, Value.bool false, Value.bool false, Value.bool false, Value.bool true, Value.bool false, Value.bool false, Value.bool false, Value.agg #[Value.int IntKind.i64 size, Value.int IntKind.i64 ↑m], Value.bool true, Value.bool false, Value.bool false, undef, undef, undef, undef, undef, undef, undef, undef, Value.string (mkB s), Value.string (mkB s), Value.int IntKind.i64 ↑s.length, Value.int IntKind.i64 ↑a0, Value.bool false, undef, undef, undef, undef, undef, undef, Value.agg #[Value.int IntKind.i64 size, Value.int IntKind.i64 ↑m], Value.string (mkB s), Value.slice (some { block := g, off := 0 }) m cp, Value.agg #[Value.int IntKind.i64 size, Value.int IntKind.i64 ↑m], Value.int IntKind.i64 ↑a0, Value.int IntKind.i64 ↑a0, Value.string (mkB d), Value.int IntKind.i64 ↑d.length, Value.int IntKind.i64 (↑a0 + ↑d.length), Value.agg #[Value.int IntKind.i64 ↑a0, Value.int IntKind.i64 (↑a0 + ↑d.length)], Value.slice (some { block := b2, off := o2 }) P.length cap2, Value.int IntKind.i64 ↑k, Value.slice (some { block := b2, off := o2 }) P.length cap2, Value.int IntKind.i64 ↑P.length, Value.bool true, u99, u100, Value.slice (some { block := b2, off := o2 }) P.length cap2, Value.int IntKind.i64 ↑k, Value.pointer (some { block := b2, off := o2 + k * 4 }), Value.agg #[Value.int IntKind.i64 ↑o, Value.int IntKind.i64 ↑lo, Value.int IntKind.i64 (↑lo + ↑n), Value.int IntKind.i64 (↑a0 + ↑q)], Value.pointer (some { block := B, off := 3 }), Value.int IntKind.i64 (↑a0 + ↑q), Value.int IntKind.i64 ↑a0, Value.int IntKind.i64 ↑q, x 24, x 0, x 1, x 2, x 3, x 4, x 5, x 6, x 7, x 8, x 9, x 10, x 11, x 12, x 13, x 14, x 15, x 16, x 17, x 18, x 19, x 20, x 21, x 22, x 23, x 25, x 26, x 27, undef, undef, undef, undef, undef, undef, undef, undef, undef, undef, undef, undef], defers := [] } : Act)) V (fun w' => ∃ w0, Below W1.heap.size W1 w0 ∧ w' = w0.setCell ⟨g, o, none⟩ (.string (mkB Nw))) (x0 := fun i => (#[u110, u111, u112, u113, u114, u115, u116, u117, u118, u119, u120, u121, u122, u123, u124, u125, u126, u127, u128, u129, u130, u131, u132, u133, u109, u134, u135, u136] : Array Value).getD i undef) rfl (by kernel_rfl) (by kernel_rfl) (by kernel_rfl) (by kernel_rfl) (by kernel_rfl) ?_ ?_ ?_ ?_ ?_
              · intro x y h
                simp only [h 0 (by decide), h 1 (by decide), h 2 (by decide), h 3 (by decide), h 4 (by decide), h 5 (by decide), h 6 (by decide), h 7 (by decide), h 8 (by decide), h 9 (by decide), h 10 (by decide), h 11 (by decide), h 12 (by decide), h 13 (by decide), h 14 (by decide), h 15 (by decide), h 16 (by decide), h 17 (by decide), h 18 (by decide), h 19 (by decide), h 20 (by decide), h 21 (by decide), h 22 (by decide), h 23 (by decide), h 24 (by decide), h 25 (by decide), h 26 (by decide), h 27 (by decide)]
              · rintro i oi x w' hi ho hbe hon
                have y0 := cell_keep hbe z0
                have y1 := cell_keep hbe z1
                have y2 := cell_keep hbe z2
                have y3 := cell_keep hbe z3
                have yg := cell_keep hbe u0
                obtain rfl | rfl | rfl | rfl | rfl | rfl | rfl | rfl | rfl | rfl | rfl | rfl | rfl | rfl | rfl | rfl | rfl | rfl | rfl | rfl | rfl | rfl | rfl | rfl | rfl | rfl | rfl | rfl : i = 0 ∨ i = 1 ∨ i = 2 ∨ i = 3 ∨ i = 4 ∨ i = 5 ∨ i = 6 ∨ i = 7 ∨ i = 8 ∨ i = 9 ∨ i = 10 ∨ i = 11 ∨ i = 12 ∨ i = 13 ∨ i = 14 ∨ i = 15 ∨ i = 16 ∨ i = 17 ∨ i = 18 ∨ i = 19 ∨ i = 20 ∨ i = 21 ∨ i = 22 ∨ i = 23 ∨ i = 24 ∨ i = 25 ∨ i = 26 ∨ i = 27 := by omega
                · obtain rfl := Option.some.inj ho
                  refine wp_value (v := .slice (some ⟨g, 0, none⟩) m cp) (w' := w') ?_ ⟨by rw [V0]; rfl, Below.refl _ _⟩
                  go_simp
                · obtain rfl := Option.some.inj ho
                  refine wp_value (v := .pointer (some ⟨B, 0, none⟩)) (w' := w') ?_ ⟨by rw [V1]; rfl, Below.refl _ _⟩
                  go_simp
                · obtain rfl := Option.some.inj ho
                  have e1 : x 1 = .pointer (some ⟨B, 0, none⟩) := (hon _ (Array.mem_of_getElem? (i := 0) rfl) rfl).trans V1
                  refine wp_value (v := .int .i64 o) (w' := w') ?_ ⟨by rw [V2]; rfl, Below.refl _ _⟩
                  go_simp
                · obtain rfl := Option.some.inj ho
                  refine wp_value (v := .slice (some ⟨g, 0, none⟩) m cp) (w' := w') ?_ ⟨by rw [V3]; rfl, Below.refl _ _⟩
                  go_simp
                · obtain rfl := Option.some.inj ho
                  refine wp_value (v := .pointer (some ⟨B, 0, none⟩)) (w' := w') ?_ ⟨by rw [V4]; rfl, Below.refl _ _⟩
                  go_simp
                · obtain rfl := Option.some.inj ho
                  have e4 : x 4 = .pointer (some ⟨B, 0, none⟩) := (hon _ (Array.mem_of_getElem? (i := 0) rfl) rfl).trans V4
                  refine wp_value (v := .int .i64 o) (w' := w') ?_ ⟨by rw [V5]; rfl, Below.refl _ _⟩
                  go_simp
                · obtain rfl := Option.some.inj ho
                  have e3 : x 3 = .slice (some ⟨g, 0, none⟩) m cp := (hon _ (Array.mem_of_getElem? (i := 0) rfl) rfl).trans V3
                  have e5 : x 5 = .int .i64 o := (hon _ (Array.mem_of_getElem? (i := 1) rfl) rfl).trans V5
                  refine wp_value (v := .pointer (some ⟨g, o, none⟩)) (w' := w') ?_ ⟨by rw [V6]; rfl, Below.refl _ _⟩
                  go_simp
                · obtain rfl := Option.some.inj ho
                  have e6 : x 6 = .pointer (some ⟨g, o, none⟩) := (hon _ (Array.mem_of_getElem? (i := 0) rfl) rfl).trans V6
                  refine wp_value (v := .string (mkB So)) (w' := w') ?_ ⟨by rw [V7]; rfl, Below.refl _ _⟩
                  go_simp
                · obtain rfl := Option.some.inj ho
                  refine wp_value (v := .pointer (some ⟨B, 1, none⟩)) (w' := w') ?_ ⟨by rw [V8]; rfl, Below.refl _ _⟩
                  go_simp
                · obtain rfl := Option.some.inj ho
                  have e8 : x 8 = .pointer (some ⟨B, 1, none⟩) := (hon _ (Array.mem_of_getElem? (i := 0) rfl) rfl).trans V8
                  refine wp_value (v := .pointer (some ⟨B, 1, none⟩)) (w' := w') ?_ ⟨by rw [V9]; rfl, Below.refl _ _⟩
                  go_simp
                · obtain rfl := Option.some.inj ho
                  have e9 : x 9 = .pointer (some ⟨B, 1, none⟩) := (hon _ (Array.mem_of_getElem? (i := 0) rfl) rfl).trans V9
                  refine wp_value (v := .int .i64 lo) (w' := w') ?_ ⟨by rw [V10]; rfl, Below.refl _ _⟩
                  go_simp
                · obtain rfl := Option.some.inj ho
                  refine wp_value (v := .string (mkB d)) (w' := w') ?_ ⟨by rw [V11]; rfl, Below.refl _ _⟩
                  go_simp
                · obtain rfl := Option.some.inj ho
                  refine wp_value (v := .int .i64 q) (w' := w') ?_ ⟨by rw [V12]; rfl, Below.refl _ _⟩
                  go_simp
                · obtain rfl := Option.some.inj ho
                  refine wp_value (v := .int .i64 q) (w' := w') ?_ ⟨by rw [V13]; rfl, Below.refl _ _⟩
                  go_simp
                · obtain rfl := Option.some.inj ho
                  refine wp_value (v := .pointer (some ⟨B, 1, none⟩)) (w' := w') ?_ ⟨by rw [V14]; rfl, Below.refl _ _⟩
                  go_simp
                · obtain rfl := Option.some.inj ho
                  have e14 : x 14 = .pointer (some ⟨B, 1, none⟩) := (hon _ (Array.mem_of_getElem? (i := 0) rfl) rfl).trans V14
                  refine wp_value (v := .pointer (some ⟨B, 2, none⟩)) (w' := w') ?_ ⟨by rw [V15]; rfl, Below.refl _ _⟩
                  go_simp
                · obtain rfl := Option.some.inj ho
                  have e15 : x 15 = .pointer (some ⟨B, 2, none⟩) := (hon _ (Array.mem_of_getElem? (i := 0) rfl) rfl).trans V15
                  refine wp_value (v := .int .i64 ((lo : Int) + n)) (w' := w') ?_ ⟨by rw [V16]; rfl, Below.refl _ _⟩
                  go_simp
                · obtain rfl := Option.some.inj ho
                  have e13 : x 13 = .int .i64 q := (hon _ (Array.mem_of_getElem? (i := 0) rfl) rfl).trans V13
                  have e16 : x 16 = .int .i64 ((lo : Int) + n) := (hon _ (Array.mem_of_getElem? (i := 1) rfl) rfl).trans V16
                  refine wp_value (v := .int .i64 ((q : Int) + ((lo : Int) + n))) (w' := w') ?_ ⟨by rw [V17]; rfl, Below.refl _ _⟩
                  go_simp
                · obtain rfl := Option.some.inj ho
                  refine wp_value (v := .pointer (some ⟨B, 1, none⟩)) (w' := w') ?_ ⟨by rw [V18]; rfl, Below.refl _ _⟩
                  go_simp
                · obtain rfl := Option.some.inj ho
                  have e18 : x 18 = .pointer (some ⟨B, 1, none⟩) := (hon _ (Array.mem_of_getElem? (i := 0) rfl) rfl).trans V18
                  refine wp_value (v := .pointer (some ⟨B, 1, none⟩)) (w' := w') ?_ ⟨by rw [V19]; rfl, Below.refl _ _⟩
                  go_simp
                · obtain rfl := Option.some.inj ho
                  have e19 : x 19 = .pointer (some ⟨B, 1, none⟩) := (hon _ (Array.mem_of_getElem? (i := 0) rfl) rfl).trans V19
                  refine wp_value (v := .int .i64 lo) (w' := w') ?_ ⟨by rw [V20]; rfl, Below.refl _ _⟩
                  go_simp
                · obtain rfl := Option.some.inj ho
                  have e17 : x 17 = .int .i64 ((q : Int) + ((lo : Int) + n)) := (hon _ (Array.mem_of_getElem? (i := 0) rfl) rfl).trans V17
                  have e20 : x 20 = .int .i64 lo := (hon _ (Array.mem_of_getElem? (i := 1) rfl) rfl).trans V20
                  refine wp_value (v := .int .i64 r) (w' := w') ?_ ⟨by rw [V21]; rfl, Below.refl _ _⟩
                  go_simp
                · obtain rfl := Option.some.inj ho
                  have e11 : x 11 = .string (mkB d) := (hon _ (Array.mem_of_getElem? (i := 0) rfl) rfl).trans V11
                  have e12 : x 12 = .int .i64 q := (hon _ (Array.mem_of_getElem? (i := 1) rfl) rfl).trans V12
                  have e21 : x 21 = .int .i64 r := (hon _ (Array.mem_of_getElem? (i := 2) rfl) rfl).trans V21
                  refine wp_value (v := .string (mkB pc)) (w' := w') ?_ ⟨by rw [V22]; rfl, Below.refl _ _⟩
                  go_simp
                · obtain rfl := Option.some.inj ho
                  have e7 : x 7 = .string (mkB So) := (hon _ (Array.mem_of_getElem? (i := 0) rfl) rfl).trans V7
                  have e10 : x 10 = .int .i64 lo := (hon _ (Array.mem_of_getElem? (i := 1) rfl) rfl).trans V10
                  have e22 : x 22 = .string (mkB pc) := (hon _ (Array.mem_of_getElem? (i := 2) rfl) rfl).trans V22
                  refine wp_enter 19 #[.string (mkB So), .int .i64 lo, .string (mkB pc)] ?_ ((HTW.out w').mono fun e w2 ⟨he, hb⟩ => ⟨_, he, by rw [V23]; rfl, hb⟩)
                  go_simp
                · obtain rfl := Option.some.inj ho
                  have e23 : x 23 = .tuple #[.string (mkB Nw), .bool true] := (hon _ (Array.mem_of_getElem? (i := 0) rfl) rfl).trans V23
                  refine wp_value (v := .tuple #[.string (mkB Nw), .bool true]) (w' := w') ?_ ⟨by rw [V24]; rfl, Below.refl _ _⟩
                  go_simp
                · obtain rfl := Option.some.inj ho
                  have e24 : x 24 = .tuple #[.string (mkB Nw), .bool true] := (hon _ (Array.mem_of_getElem? (i := 0) rfl) rfl).trans V24
                  refine wp_value (v := .string (mkB Nw)) (w' := w') ?_ ⟨by rw [V25]; rfl, Below.refl _ _⟩
                  go_simp
                · obtain rfl := Option.some.inj ho
                  have e24 : x 24 = .tuple #[.string (mkB Nw), .bool true] := (hon _ (Array.mem_of_getElem? (i := 0) rfl) rfl).trans V24
                  refine wp_value (v := .bool true) (w' := w') ?_ ⟨by rw [V26]; rfl, Below.refl _ _⟩
                  go_simp
                · obtain rfl := Option.some.inj ho
                  have e0 : x 0 = .slice (some ⟨g, 0, none⟩) m cp := (hon _ (Array.mem_of_getElem? (i := 0) rfl) rfl).trans V0
                  have e2 : x 2 = .int .i64 o := (hon _ (Array.mem_of_getElem? (i := 1) rfl) rfl).trans V2
                  refine wp_value (v := .pointer (some ⟨g, o, none⟩)) (w' := w') ?_ ⟨by rw [V27]; rfl, Below.refl _ _⟩
                  go_simp
              · rintro i oi x w' hi hlt ho hon
                obtain rfl : i = 26 := by simpa using hlt
                obtain rfl := Option.some.inj ho
                have e24 : x 24 = .tuple #[.string (mkB Nw), .bool true] := (hon _ (Array.mem_of_getElem? (i := 0) rfl) rfl).trans V24
                refine wp_value (v := .bool true) (w' := w') ?_ ⟨by rw [V26]; rfl, rfl⟩
                go_simp
              · rintro oi x w' ho hbe hv
                obtain rfl := Option.some.inj ho
                have e27 : x 27 = .pointer (some ⟨g, o, none⟩) := (hv 27 (by omega) rfl).trans V27
                have e25 : x 25 = .string (mkB Nw) := (hv 25 (by omega) rfl).trans V25
                have yg := cell_keep hbe u0
                have yf := frz_keep hbe u0 u1
                refine wp_skip (w' := w'.setCell ⟨g, o, none⟩ (.string (mkB Nw))) ?_ ⟨by rw [V28]; rfl, w', hbe, rfl⟩
                go_simp
              rintro w' ⟨w0, hb0, rfl⟩
              simp only [V0, V1, V2, V3, V4, V5, V6, V7, V8, V9, V10, V11, V12, V13, V14, V15, V16, V17, V18, V19, V20, V21, V22, V23, V24, V25, V26, V27]
              clear V0 V1 V2 V3 V4 V5 V6 V7 V8 V9 V10 V11 V12 V13 V14 V15 V16 V17 V18 V19 V20 V21 V22 V23 V24 V25 V26 V27 V28
              have hqn : a0 + q + n = a0 + (q + n) := by omega
              have hOs : World.ownsRow (w0.setCell ⟨g, o, none⟩ (.string (mkB Nw))) w5.heap.size 9 1 (.slice (some ⟨g, 0, none⟩) m cp) m (strs (T.set o Nw)) := by
                have hs := ((own_below1 HO1.out hb0).stored o (.string (mkB Nw))).1
                rwa [strs_set] at hs
              have HOn := Lib.hid hOs
              have HPn := Lib.hid (pts_set (HP1.out.keep hb0) g o (.string (mkB Nw)) HGB.out)
              have HBn := Lib.hid ((HB1.out.trans (hb0.mono HB1.out.size)).setCell (p := ⟨g, o, none⟩) (by have := HGL.out.1; simp only; omega) (.string (mkB Nw)))
              have HTn : Hid (∀ i, i < m → (T.set o Nw).getD i [] = obS size m (wrL s a0 (d.take (a0 + (q + n) - a0))) i) := fun i hi => by rw [Nat.add_sub_cancel_left]; exact HT1.out i hi
              clear hOs hb0 HB1 HP1 HO1 HT1 u0 u1 z0 z1 z2 z3 HTW
              go_wp2
              go_roundg (P.length - (k + 1))
              case measure => omega
              case rel => exact ⟨k + 1, a0 + (q + n), T.set o Nw, rfl, by omega, by go_num, by show _ = _; rw [HN1.out]; omega, by omega, by omega, by rw [List.length_set]; exact hTm, HTn, HOn, HPn, HBn⟩
            · obtain rfl : k = P.length := by omega
              have hpe : p = a0 + d.length := by have := HCH.out.last; rw [HNX.out] at this; omega
              subst hpe
              have hvl : Vls wr (.slice (some ⟨g, 0, none⟩) m cp) m (sF (obS size m X)) := (own_strs hTm HO.out).congr fun i hi => by
                show _ = Value.string (mkB _)
                rw [HT.out i hi, Nat.add_sub_cancel_left, List.take_of_length_le (Nat.le_refl _), HF2.out]
              have hN := ltN_obs (size := size) (m := m) rfl HY.out (tokB_len HwX.out)
              have hB : ltB size m (obS size m X) m = true := ltB_ok (ltK_obs HwX.out m) (by rw [hN]; omega)
              have hS : ltS size m (obS size m X) m = X := by rw [ltS_yes hB, hN, Int.toNat_natCast]; exact lt_back HY.out
              have HLT := Lib.hid (implLayText_any size m _ m (obS size m X) wr hvl (fun i _ => by have := tokB_len (ltK_at (ltK_obs (size := size) (many := (m : Int)) HwX.out (i + 1)) (Nat.lt_succ_self i)); omega) (by omega))
              rw [hS, hB] at HLT
              have Kf := Lib.hid (K5.out.keep HBl.out)
              have Ef := Lib.hid (E5.out.trans (HBl.out.mono E5.out.size))
              clear hvl hN hB hS HT HO HPs HNX HBl
              obtain ⟨x1, x2, -, -⟩ := id Kf.out
              go_wp2_with fail
              refine HLT.out.mono ?_; rintro e w9 ⟨rfl, hb9⟩
              have En := Lib.hid (Ef.out.trans (hb9.mono Ef.out.size))
              clear hb9 x1 x2 Kf Ef HLT
              go_wp2
              go_ret
              exact ⟨rfl, En.out⟩
      · replace hy : layOkB size many = false := by simpa using hy
        rw [hy] at H3
        go_wp2_with fail
        refine (H3.out _).mono ?_; rintro e w5 ⟨rfl, hb5⟩
        have E5 := Lib.hid (E4.out.trans (hb5.mono E4.out.size))
        go_wp2
        go_ret
        exact ⟨rfl, E5.out⟩
    · replace hq : twB s at0 d = false := by simpa using hq
      rw [hq] at H1 H2
      obtain ⟨X, hXX⟩ : ∃ X, twS s at0 d = X := ⟨_, rfl⟩
      rw [hXX] at H1 H2
      have q1 : ((mkB X).toList == (mkB X).toList) = true := by simp
      have q2 : ((mkB X).toList != (mkB X).toList) = false := by simp
      clear hXX hq
      go_wp2_with fail
      clear hW
      refine (H1.out _).mono ?_; rintro e w3 ⟨rfl, hb3⟩
      have E3 := Lib.hid (E1.out.trans (hb3.mono E1.out.size))
      clear hb3 K1 E1 hlt
      go_wp2_with fail
      refine (H2.out _).mono ?_; rintro e w4 ⟨rfl, hb4⟩
      have E4 := Lib.hid (E3.out.trans (hb4.mono E3.out.size))
      clear hb4 E3 H1 H2
      go_wp2
      go_ret
      exact ⟨rfl, E4.out⟩
  · go_enter Try.func5, Try.ntmps5
    go_wp2
    go_ret
    exact ⟨rfl, Below.refl _ _⟩

end Go.Proofs.Ytdlofeemeeabjaa.fnLayWrite
