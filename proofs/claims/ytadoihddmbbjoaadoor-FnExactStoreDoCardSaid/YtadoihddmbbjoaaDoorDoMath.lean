/-
  What StoreDo returns: a request, its code, and the store that it leaves; a store that is valid stays so.
-/
import Derived.Test.YtadoihddmbbjoaaDoorStoMath
import Derived.Test.YtadoihddmbbjoaaDoorTextMath
namespace Go.Proofs.YtadoihddmbbjoaaDoor

/-- A request. -/
structure ReqT where
  who : Int
  ep : Int
  num : Int
  obj : Int
  pos : Int
  data : List UInt8
/-- Whether it can be one of any store. -/
def rqB (q : ReqT) : Bool := cliB q.who && (epoB q.ep && (decide (1 ≤ q.num ∧ q.num ≤ 1000) && (cliB q.obj && wokB q.pos q.data)))
/-- The code that a valid store answers with. -/
def doC (S : StT) (q : ReqT) : Int :=
  if rqB q = true then
    (if q.ep < S.floors.getD q.who.toNat 0 then 2
     else if q.num ≤ S.last.getD q.who.toNat 0 then 3
     else if S.last.getD q.who.toNat 0 + 1 < q.num then 4 else 0)
  else 1
/-- The store that a valid store becomes. -/
def doS (S : StT) (q : ReqT) : StT :=
  if doC S q = 0 then { S with now := S.now.set q.obj.toNat (wrL (S.now.getD q.obj.toNat []) q.pos.toNat q.data), last := S.last.set q.who.toNat q.num } else S
def doT (S : StT) (q : ReqT) : StT := if stOkB S = true then doS S q else st0
def doK (S : StT) (q : ReqT) : Int := if stOkB S = true then doC S q else 1

theorem rqB_iff {q : ReqT} : rqB q = true ↔ (0 ≤ q.who ∧ q.who < 3) ∧ (0 ≤ q.ep ∧ q.ep ≤ 100) ∧ (1 ≤ q.num ∧ q.num ≤ 1000) ∧ (0 ≤ q.obj ∧ q.obj < 3) ∧ wokB q.pos q.data = true := by
  unfold rqB cliB epoB; simp only [Bool.and_eq_true, decide_eq_true_eq]
theorem doC_fine {S : StT} {q : ReqT} (h : doC S q = 0) : rqB q = true ∧ S.last.getD q.who.toNat 0 + 1 = q.num := by
  unfold doC at h
  split at h
  · rename_i hq
    refine ⟨hq, ?_⟩
    split at h
    · cases h
    · split at h
      · cases h
      · split at h
        · cases h
        · omega
  · cases h
theorem getD_set {α : Type} (L : List α) (k i : Nat) (x d : α) : (L.set k x).getD i d = if k = i ∧ i < L.length then x else L.getD i d := by
  simp only [List.getD_eq_getElem?_getD, List.getElem?_set]
  by_cases h1 : k = i
  · subst h1
    by_cases h2 : k < L.length
    · simp [h2]
    · simp [h2]
  · simp [h1]
theorem stOkB_doS {S : StT} {q : ReqT} (h : stOkB S = true) : stOkB (doS S q) = true := by
  unfold doS
  split
  · rename_i hc
    obtain ⟨hq, hn⟩ := doC_fine hc
    obtain ⟨⟨w0, w1⟩, -, ⟨n0, n1⟩, ⟨o0, o1⟩, hw⟩ := rqB_iff.1 hq
    obtain ⟨p0, -, p2, p3⟩ := wokB_iff.1 hw
    unfold stOkB at h ⊢
    simp only [Bool.and_eq_true] at h ⊢
    obtain ⟨ht, hs, hm⟩ := h
    refine ⟨?_, hs, ?_⟩
    · obtain ⟨t1, t2⟩ := txB_iff.1 ht
      refine txB_iff.2 ⟨by simpa using t1, fun i hi => ?_⟩
      show tokB ((S.now.set _ _).getD i []) = true
      rw [getD_set]
      split
      · exact tokB_wrL (t2 _ (by omega)) p2 (by omega)
      · exact t2 i hi
    · obtain ⟨hl, ha⟩ := nmB_iff.1 hm
      obtain ⟨l1, l2, l3⟩ := lensB_iff.1 hl
      refine nmB_iff.2 ⟨lensB_iff.2 ⟨by simpa using l1, l2, l3⟩, fun i hi => ?_⟩
      have hk := numB_iff.1 (ha i hi)
      show numB (S.slast.getD i 0) ((S.last.set q.who.toNat q.num).getD i 0) (S.floors.getD i 0) = true
      rw [getD_set]
      split
      · rename_i e
        rw [e.1] at hn
        exact numB_iff.2 ⟨hk.1, by omega, by omega, hk.2.2.2.1, hk.2.2.2.2⟩
      · exact numB_iff.2 hk
  · exact h

end Go.Proofs.YtadoihddmbbjoaaDoor
