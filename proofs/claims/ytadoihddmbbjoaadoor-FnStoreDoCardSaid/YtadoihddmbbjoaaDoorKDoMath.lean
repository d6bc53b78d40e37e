/-
  File contents as lists of bytes: plain mathematics (no program). tokB: is it a file; cutL, wrL, allL: what a cut, a write, a list of writes leave; rdL: what is read.
  Stores as lists: what both sides are shown to return. Plain mathematics.
  What StoreDo returns: a request, its code, and the store that it leaves; a store that is valid stays so.
-/
import Derived.Laws.CopyOwn
namespace Go.Proofs.YtadoihddmbbjoaaDoor

/-- A byte of a file. -/
def fbN (n : Nat) : Bool := decide (n = 46 ∨ (97 ≤ n ∧ n ≤ 122) ∨ (48 ≤ n ∧ n ≤ 57))
def fb (c : UInt8) : Bool := fbN c.toNat
def tokB (l : List UInt8) : Bool := decide (l.length ≤ 48) && l.all fb
/-- So long at least. -/
def padL (l : List UInt8) (n : Nat) : List UInt8 := l ++ List.replicate (n - l.length) 46
def cutL (l : List UInt8) (n : Nat) : List UInt8 := (padL l n).take n
def wrL (l : List UInt8) (at' : Nat) (d : List UInt8) : List UInt8 := (padL l at').take at' ++ d ++ (padL l at').drop (at' + d.length)
def rdL (l : List UInt8) (lo hi : Nat) : List UInt8 := (l.take hi).drop lo

theorem tokB_iff {l : List UInt8} : tokB l = true ↔ l.length ≤ 48 ∧ ∀ c ∈ l, fb c = true := by
  unfold tokB; simp
theorem tokB_len {l : List UInt8} (h : tokB l = true) : l.length ≤ 48 := (tokB_iff.1 h).1
theorem fb_dot : fb 46 = true := by decide
theorem padL_len (l : List UInt8) (n : Nat) : (padL l n).length = max l.length n := by unfold padL; simp; omega
theorem padL_get (l : List UInt8) (n i : Nat) (h : i < max l.length n) : (padL l n)[i]? = some (if i < l.length then l.getD i 46 else 46) := by
  unfold padL
  by_cases hi : i < l.length
  · rw [if_pos hi, List.getElem?_append_left hi]
    simp [List.getD_eq_getElem?_getD, hi]
  · rw [if_neg hi, List.getElem?_append_right (by omega), List.getElem?_replicate, if_pos (by omega)]
theorem padL_id {l : List UInt8} {n : Nat} (h : n ≤ l.length) : padL l n = l := by
  unfold padL; rw [show n - l.length = 0 by omega]; simp
theorem cutL_len (l : List UInt8) (n : Nat) : (cutL l n).length = n := by unfold cutL; rw [List.length_take, padL_len]; omega
theorem cutL_eq (l : List UInt8) (n : Nat) : cutL l n = l.take n ++ List.replicate (n - l.length) 46 := by
  unfold cutL padL
  rw [List.take_append]
  congr 1
  rw [List.take_of_length_le (by simp)]
theorem cutL_get (l : List UInt8) (n i : Nat) (h : i < n) : (cutL l n)[i]? = some (if i < l.length then l.getD i 46 else 46) := by
  unfold cutL
  rw [List.getElem?_take, if_pos h, padL_get l n i (by omega)]
theorem wrL_len (l : List UInt8) (at' : Nat) (d : List UInt8) : (wrL l at' d).length = max l.length (at' + d.length) := by
  unfold wrL
  rw [List.length_append, List.length_append, List.length_take, List.length_drop, padL_len]
  omega
theorem wrL_get (l : List UInt8) (at' : Nat) (d : List UInt8) (i : Nat) (h : i < max l.length (at' + d.length)) :
    (wrL l at' d)[i]? = some (if at' ≤ i ∧ i < at' + d.length then d.getD (i - at') 46 else if i < l.length then l.getD i 46 else 46) := by
  unfold wrL
  have h1 : ((padL l at').take at').length = at' := by rw [List.length_take, padL_len]; omega
  by_cases c1 : i < at'
  · rw [if_neg (by omega), List.append_assoc, List.getElem?_append_left (by omega), List.getElem?_take, if_pos c1, padL_get l at' i (by omega)]
  · by_cases c2 : i < at' + d.length
    · rw [if_pos ⟨by omega, c2⟩, List.getElem?_append_left (by rw [List.length_append]; omega), List.getElem?_append_right (by omega), h1]
      rw [List.getElem?_eq_getElem (by omega), List.getD_eq_getElem?_getD, List.getElem?_eq_getElem (by omega)]
      rfl
    · rw [if_neg (by omega), List.getElem?_append_right (by rw [List.length_append]; omega), List.length_append, h1, List.getElem?_drop]
      rw [show at' + d.length + (i - (at' + d.length)) = i by omega, padL_get l at' i (by omega)]

theorem splice_getElem? {α : Type} (L : List α) (off : Nat) (cs : List α) (h : off + cs.length ≤ L.length) (i : Nat) :
    (splice L off cs)[i]? = if off ≤ i ∧ i < off + cs.length then cs[i - off]? else L[i]? := by
  unfold splice
  by_cases c1 : i < off
  · rw [if_neg (by omega), List.getElem?_append_left (by rw [List.length_take]; omega), List.getElem?_take, if_pos c1]
  · have h1 : (L.take off).length = off := by rw [List.length_take]; omega
    rw [List.getElem?_append_right (by omega), h1]
    by_cases c2 : i < off + cs.length
    · rw [if_pos ⟨by omega, c2⟩, List.getElem?_append_left (by omega)]
    · rw [if_neg (by omega), List.getElem?_append_right (by omega), List.getElem?_drop]
      congr 1; omega

/-- What the program's write leaves is what the model's leaves. -/
theorem splice_wrL (l : List UInt8) (at' : Nat) (d : List UInt8) : splice (cutL l (max l.length (at' + d.length))) at' d = wrL l at' d := by
  apply List.ext_getElem?
  intro i
  have hlen : (cutL l (max l.length (at' + d.length))).length = max l.length (at' + d.length) := cutL_len _ _
  rw [splice_getElem? _ _ _ (by rw [hlen]; omega)]
  by_cases hi : i < max l.length (at' + d.length)
  · rw [wrL_get l at' d i hi, cutL_get l _ i hi]
    by_cases c : at' ≤ i ∧ i < at' + d.length
    · rw [if_pos c, if_pos c, List.getElem?_eq_getElem (by omega), List.getD_eq_getElem?_getD, List.getElem?_eq_getElem (by omega)]; rfl
    · rw [if_neg c, if_neg c]
  · rw [if_neg (by omega), List.getElem?_eq_none (by omega), List.getElem?_eq_none (by rw [wrL_len]; omega)]

theorem all_padL {l : List UInt8} {n : Nat} (h : ∀ c ∈ l, fb c = true) : ∀ c ∈ padL l n, fb c = true := by
  intro c hc
  unfold padL at hc
  rcases List.mem_append.1 hc with h1 | h1
  · exact h c h1
  · rw [(List.mem_replicate.1 h1).2]; exact fb_dot
theorem tokB_cutL {l : List UInt8} {n : Nat} (h : tokB l = true) (hn : n ≤ 48) : tokB (cutL l n) = true :=
  tokB_iff.2 ⟨by rw [cutL_len]; exact hn, fun c hc => all_padL (tokB_iff.1 h).2 c (List.mem_of_mem_take hc)⟩
theorem tokB_wrL {l d : List UInt8} {at' : Nat} (h : tokB l = true) (hd : tokB d = true) (hn : at' + d.length ≤ 48) : tokB (wrL l at' d) = true := by
  refine tokB_iff.2 ⟨by rw [wrL_len]; have := tokB_len h; omega, fun c hc => ?_⟩
  unfold wrL at hc
  rcases List.mem_append.1 hc with h1 | h1
  · rcases List.mem_append.1 h1 with h2 | h2
    · exact all_padL (tokB_iff.1 h).2 c (List.mem_of_mem_take h2)
    · exact (tokB_iff.1 hd).2 c h2
  · exact all_padL (tokB_iff.1 h).2 c (List.mem_of_mem_drop h1)

/-- Whether a write can be done. -/
def wokB (at' : Int) (d : List UInt8) : Bool := decide (0 ≤ at') && (decide (d ≠ []) && (tokB d && decide (at' + d.length ≤ 48)))
theorem wokB_iff {at' : Int} {d : List UInt8} : wokB at' d = true ↔ 0 ≤ at' ∧ d ≠ [] ∧ tokB d = true ∧ at' + d.length ≤ 48 := by
  unfold wokB; simp
/-- What TextWrite answers: the text and whether it was done. -/
def twS (l : List UInt8) (at' : Int) (d : List UInt8) : List UInt8 := if tokB l = true then (if wokB at' d = true then wrL l at'.toNat d else l) else []
def twB (l : List UInt8) (at' : Int) (d : List UInt8) : Bool := tokB l && wokB at' d
def tcS (l : List UInt8) (n : Int) : List UInt8 := if tokB l = true then (if 0 ≤ n ∧ n ≤ 48 then cutL l n.toNat else l) else []
def tcB (l : List UInt8) (n : Int) : Bool := tokB l && decide (0 ≤ n ∧ n ≤ 48)
def trS (l : List UInt8) (lo hi : Int) : List UInt8 := if tokB l = true ∧ (0 ≤ lo ∧ lo < hi ∧ hi ≤ 48) then rdL l lo.toNat hi.toNat else []

end Go.Proofs.YtadoihddmbbjoaaDoor

namespace Go.Proofs.YtadoihddmbbjoaaDoor

/-- A store's contents. -/
structure StT where
  now : List (List UInt8)
  sure : List (List UInt8)
  last : List Int
  slast : List Int
  floors : List Int

/-- A store with nothing, not even objects. -/
def st0 : StT := ⟨[], [], [], [], []⟩
/-- A new store. -/
def stNew : StT := ⟨[[], [], []], [[], [], []], [0, 0, 0], [0, 0, 0], [0, 0, 0]⟩

def txB (L : List (List UInt8)) : Bool := L.all tokB && decide (L.length = 3)
def numB (s l f : Int) : Bool := decide (0 ≤ s ∧ s ≤ l ∧ l ≤ 1000 ∧ 0 ≤ f ∧ f ≤ 100)
def numAt (S : StT) (i : Nat) : Bool := numB (S.slast.getD i 0) (S.last.getD i 0) (S.floors.getD i 0)
def lensB (S : StT) : Bool := decide (S.last.length = 3 ∧ S.slast.length = 3 ∧ S.floors.length = 3)
def nmB (S : StT) : Bool := lensB S && (List.range 3).all (numAt S)
def stOkB (S : StT) : Bool := txB S.now && (txB S.sure && nmB S)

theorem numB_true {s l f : Int} (h : 0 ≤ s ∧ s ≤ l ∧ l ≤ 1000 ∧ 0 ≤ f ∧ f ≤ 100) : numB s l f = true := decide_eq_true h
theorem numB_false {s l f : Int} (h : ¬ (0 ≤ s ∧ s ≤ l ∧ l ≤ 1000 ∧ 0 ≤ f ∧ f ≤ 100)) : numB s l f = false := decide_eq_false h
theorem numB_iff {s l f : Int} : numB s l f = true ↔ 0 ≤ s ∧ s ≤ l ∧ l ≤ 1000 ∧ 0 ≤ f ∧ f ≤ 100 := by unfold numB; simp
theorem lensB_iff {S : StT} : lensB S = true ↔ S.last.length = 3 ∧ S.slast.length = 3 ∧ S.floors.length = 3 := by unfold lensB; simp

theorem txB_iff {L : List (List UInt8)} : txB L = true ↔ L.length = 3 ∧ ∀ i, i < 3 → tokB (L.getD i []) = true := by
  unfold txB
  rw [Bool.and_eq_true, List.all_eq_true, decide_eq_true_eq]
  constructor
  · rintro ⟨h1, h2⟩
    refine ⟨h2, fun i hi => ?_⟩
    rw [List.getD_eq_getElem?_getD, List.getElem?_eq_getElem (by omega)]
    exact h1 _ (List.getElem_mem _)
  · rintro ⟨h1, h2⟩
    refine ⟨fun x hx => ?_, h1⟩
    obtain ⟨i, hi, rfl⟩ := List.getElem_of_mem hx
    have := h2 i (by omega)
    rwa [List.getD_eq_getElem?_getD, List.getElem?_eq_getElem hi] at this
theorem txB_bad {L : List (List UInt8)} {i : Nat} (hi : i < L.length) (h : tokB (L.getD i []) = false) : txB L = false := by
  cases hx : txB L
  · rfl
  · obtain ⟨h1, h2⟩ := txB_iff.1 hx
    rw [h2 i (by omega)] at h; cases h
theorem txB_end {L : List (List UInt8)} (h : ∀ i, i < L.length → tokB (L.getD i []) = true) : txB L = decide (L.length = 3) := by
  rw [Bool.eq_iff_iff, txB_iff, decide_eq_true_eq]
  exact ⟨fun h => h.1, fun h3 => ⟨h3, fun i hi => h i (by omega)⟩⟩
theorem txB_at {L : List (List UInt8)} (h : txB L = true) {i : Nat} (hi : i < 3) : tokB (L.getD i []) = true := (txB_iff.1 h).2 i hi

theorem nmB_iff {S : StT} : nmB S = true ↔ lensB S = true ∧ ∀ i, i < 3 → numAt S i = true := by
  unfold nmB
  rw [Bool.and_eq_true, List.all_eq_true]
  simp only [List.mem_range]
theorem nmB_bad {S : StT} {i : Nat} (hi : i < 3) (h : numAt S i = false) : nmB S = false := by
  cases hx : nmB S
  · rfl
  · rw [(nmB_iff.1 hx).2 i hi] at h; cases h
theorem nmB_len {S : StT} (h : lensB S = false) : nmB S = false := by unfold nmB; rw [h]; rfl

theorem stOk_iff {S : StT} : stOkB S = true ↔ txB S.now = true ∧ txB S.sure = true ∧ nmB S = true := by
  unfold stOkB; rw [Bool.and_eq_true, Bool.and_eq_true]

theorem stOk_nm {S : StT} (h : nmB S = false) : stOkB S = false := by unfold stOkB; rw [h, Bool.and_false, Bool.and_false]
theorem stOk_now {S : StT} (h : txB S.now = false) : stOkB S = false := by unfold stOkB; rw [h, Bool.false_and]
theorem stOk_sure {S : StT} (h : txB S.sure = false) : stOkB S = false := by unfold stOkB; rw [h, Bool.false_and, Bool.and_false]

/-- What is there has three of all. -/
theorem stOk_lens {S : StT} (h : stOkB S = true) : S.now.length = 3 ∧ S.sure.length = 3 ∧ S.last.length = 3 ∧ S.slast.length = 3 ∧ S.floors.length = 3 := by
  obtain ⟨h1, h2, h3⟩ := stOk_iff.1 h
  obtain ⟨h4, -⟩ := nmB_iff.1 h3
  obtain ⟨h5, h6, h7⟩ := lensB_iff.1 h4
  exact ⟨(txB_iff.1 h1).1, (txB_iff.1 h2).1, h5, h6, h7⟩
theorem three {α : Type} {L : List α} (h : L.length = 3) : ∃ a b c, L = [a, b, c] := by
  match L, h with
  | [a, b, c], _ => exact ⟨a, b, c, rfl⟩

def syncT (S : StT) : StT := if stOkB S = true then ⟨S.now, S.now, S.last, S.last, S.floors⟩ else st0
def fallT (S : StT) : StT := if stOkB S = true then ⟨S.sure, S.sure, S.slast, S.slast, S.floors⟩ else st0
def cliB (who : Int) : Bool := decide (0 ≤ who ∧ who < 3)
def epoB (e : Int) : Bool := decide (0 ≤ e ∧ e ≤ 100)
def fenT (S : StT) (who e : Int) : StT := if stOkB S = true then (if (cliB who && epoB e) = true then ⟨S.now, S.sure, S.last, S.slast, S.floors.set who.toNat (max (S.floors.getD who.toNat 0) e)⟩ else S) else st0
def fenB (S : StT) (who e : Int) : Bool := stOkB S && (cliB who && epoB e)

end Go.Proofs.YtadoihddmbbjoaaDoor

namespace Go.Proofs.YtadoihddmbbjoaaDoor

/-- A request. -/
structure ReqT where
  who : Int
  ep : Int
  num : Int
  obj : Int
  pos : Int
  data : List UInt8
/-- Whether it can be one of any store. -/
def rqB (q : ReqT) : Bool := cliB q.who && (epoB q.ep && (decide (1 ≤ q.num ∧ q.num ≤ 1000) && (cliB q.obj && wokB q.pos q.data)))
/-- The code that a valid store answers with. -/
def doC (S : StT) (q : ReqT) : Int :=
  if rqB q = true then
    (if q.ep < S.floors.getD q.who.toNat 0 then 2
     else if q.num ≤ S.last.getD q.who.toNat 0 then 3
     else if S.last.getD q.who.toNat 0 + 1 < q.num then 4 else 0)
  else 1
/-- The store that a valid store becomes. -/
def doS (S : StT) (q : ReqT) : StT :=
  if doC S q = 0 then { S with now := S.now.set q.obj.toNat (wrL (S.now.getD q.obj.toNat []) q.pos.toNat q.data), last := S.last.set q.who.toNat q.num } else S
def doT (S : StT) (q : ReqT) : StT := if stOkB S = true then doS S q else st0
def doK (S : StT) (q : ReqT) : Int := if stOkB S = true then doC S q else 1

theorem rqB_iff {q : ReqT} : rqB q = true ↔ (0 ≤ q.who ∧ q.who < 3) ∧ (0 ≤ q.ep ∧ q.ep ≤ 100) ∧ (1 ≤ q.num ∧ q.num ≤ 1000) ∧ (0 ≤ q.obj ∧ q.obj < 3) ∧ wokB q.pos q.data = true := by
  unfold rqB cliB epoB; simp only [Bool.and_eq_true, decide_eq_true_eq]
theorem doC_fine {S : StT} {q : ReqT} (h : doC S q = 0) : rqB q = true ∧ S.last.getD q.who.toNat 0 + 1 = q.num := by
  unfold doC at h
  split at h
  · rename_i hq
    refine ⟨hq, ?_⟩
    split at h
    · cases h
    · split at h
      · cases h
      · split at h
        · cases h
        · omega
  · cases h
theorem getD_set {α : Type} (L : List α) (k i : Nat) (x d : α) : (L.set k x).getD i d = if k = i ∧ i < L.length then x else L.getD i d := by
  simp only [List.getD_eq_getElem?_getD, List.getElem?_set]
  by_cases h1 : k = i
  · subst h1
    by_cases h2 : k < L.length
    · simp [h2]
    · simp [h2]
  · simp [h1]
theorem stOkB_doS {S : StT} {q : ReqT} (h : stOkB S = true) : stOkB (doS S q) = true := by
  unfold doS
  split
  · rename_i hc
    obtain ⟨hq, hn⟩ := doC_fine hc
    obtain ⟨⟨w0, w1⟩, -, ⟨n0, n1⟩, ⟨o0, o1⟩, hw⟩ := rqB_iff.1 hq
    obtain ⟨p0, -, p2, p3⟩ := wokB_iff.1 hw
    unfold stOkB at h ⊢
    simp only [Bool.and_eq_true] at h ⊢
    obtain ⟨ht, hs, hm⟩ := h
    refine ⟨?_, hs, ?_⟩
    · obtain ⟨t1, t2⟩ := txB_iff.1 ht
      refine txB_iff.2 ⟨by simpa using t1, fun i hi => ?_⟩
      show tokB ((S.now.set _ _).getD i []) = true
      rw [getD_set]
      split
      · exact tokB_wrL (t2 _ (by omega)) p2 (by omega)
      · exact t2 i hi
    · obtain ⟨hl, ha⟩ := nmB_iff.1 hm
      obtain ⟨l1, l2, l3⟩ := lensB_iff.1 hl
      refine nmB_iff.2 ⟨lensB_iff.2 ⟨by simpa using l1, l2, l3⟩, fun i hi => ?_⟩
      have hk := numB_iff.1 (ha i hi)
      show numB (S.slast.getD i 0) ((S.last.set q.who.toNat q.num).getD i 0) (S.floors.getD i 0) = true
      rw [getD_set]
      split
      · rename_i e
        rw [e.1] at hn
        exact numB_iff.2 ⟨hk.1, by omega, by omega, hk.2.2.2.1, hk.2.2.2.2⟩
      · exact numB_iff.2 hk
  · exact h

end Go.Proofs.YtadoihddmbbjoaaDoor
