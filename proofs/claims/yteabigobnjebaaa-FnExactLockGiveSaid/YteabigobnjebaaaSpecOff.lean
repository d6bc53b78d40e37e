/-
  spec.LockOff.
-/
import Derived.Test.YteabigobnjebaaaSpecPut
import Derived.Test.YteabigobnjebaaaGiveMath
import Derived.Test.YteabigobnjebaaaSpecMay
namespace Go.Proofs.Yteabigobnjebaaa
open Go.RowKit

theorem spn_nil (w : World) : Spn w (.slice none 0 0) [] := ⟨none, 0, rfl, by simp, by unfold maxLen; omega, fun h => absurd rfl h⟩
theorem TbB.base {w w1 : World} {T : List HoldT} {q : Bool} {e : Ending} {w' : World} (h : TbB w1 T q e w') (hb : Below w.heap.size w w1) : TbB w T q e w' := by
  obtain ⟨v, he, ht, hb1⟩ := h
  exact ⟨v, he, Lib.hid (ht.out.wide hb.size), hb.trans (hb1.mono hb.size)⟩

theorem chT_put {T : List HoldT} {k : Nat} {lo hi : Int} {f : Int → Int} {h : HoldT} (hq : lockOkB T = true) (hk : k < 3) (hs : spanOkB lo hi = true) (he : mH (putM (T.getD k hd0) lo hi f) = h) : chT T (k : Int) lo hi f = putT T k h := by
  unfold chT putT
  rw [if_pos hq, if_pos (by rw [hs, whoB_iff.2 (by omega)]; rfl), Int.toNat_natCast, he]
theorem lock_okH {T : List HoldT} (hq : lockOkB T = true) {k : Nat} (hk : k < 3) : okH (T.getD k hd0) = true := ((lockOk_iff T).1 hq).2.1 k hk

set_option maxRecDepth 100000 in
set_option maxHeartbeats 4000000 in
theorem specOff_any (v : Value) (T : List HoldT) (who : Int) (w : World) (h : Hds w v T) :
    Calls Try.prog 39 #[v, .int .i64 who] w (TbB w (chT T who 0 48 (fun x => mn x 0)).1 (chT T who 0 48 (fun x => mn x 0)).2) := by
  have K1 := Lib.hid (specLockOk_any v T w h)
  have K2 := Lib.hid (fun W => l4Who_any who W)
  have HD := Lib.hid h
  by_cases hq0 : lockOkB T = true
  · have h3 := ((lockOk_iff T).1 hq0).1
    by_cases hq1 : whoB who = true
    · obtain ⟨w01, w02⟩ := whoB_iff.1 hq1
      obtain ⟨k, rfl⟩ : ∃ k : Nat, who = (k : Int) := ⟨who.toNat, by omega⟩
      have hk : k < 3 := by omega
      rw [chT_put hq0 hk (by decide) (off_mH (lock_okH hq0 hk))]
      have KP := Lib.hid (fun W hW => l4Put_any v T k (.slice none 0 0) (.slice none 0 0) [] [] W hW hq0 hk (spn_nil W) (spn_nil W))
      rw [hq0] at K1
      rw [hq1] at K2
      generalize putT T k ([], []) = C at *
      clear hq0 hq1 h h3
      go_enter Try.func39, Try.ntmps39
      go_wp2_with fail
      refine K1.out.mono ?_; rintro e w1 ⟨rfl, hb1⟩
      go_wp2_with fail
      refine (K2.out _).mono ?_; rintro e w2 ⟨rfl, hb2⟩
      have hb12 := hb1.trans (hb2.mono hb1.size)
      have KQ := Lib.hid (KP.out w2 (HD.out.keep hb12))
      clear KP K1 K2
      go_wp2_with fail
      refine KQ.out.mono ?_; rintro e w3 h0
      obtain ⟨v3, rfl, h1⟩ := h0.base hb12
      clear KQ
      go_wp2
      exact bodyPost_ret (v := .tuple #[v3, .bool C.2]) (by simp [results, Try.results39, go_sem]) rfl ⟨v3, rfl, h1⟩
    · have HC1 : Hid (chT T who 0 48 (fun x => mn x 0) = (T, false)) := by show _ = _; unfold chT; rw [if_pos hq0, if_neg (by simp [hq1])]
      have KP := Lib.hid (fun W hW => l4Copy_any v T W hW (by omega) (fun i hi => lock_len hq0 hi))
      replace hq1 : whoB who = false := by simpa using hq1
      rw [hq0] at K1
      rw [hq1] at K2
      clear hq0 hq1 h h3
      go_enter Try.func39, Try.ntmps39
      go_wp2_with fail
      refine K1.out.mono ?_; rintro e w1 ⟨rfl, hb1⟩
      go_wp2_with fail
      refine (K2.out _).mono ?_; rintro e w2 ⟨rfl, hb2⟩
      have hb12 := hb1.trans (hb2.mono hb1.size)
      have KQ := Lib.hid (KP.out w2 (HD.out.keep hb12))
      clear KP K1 K2
      go_wp2_with fail
      refine KQ.out.mono ?_; rintro e w3 ⟨v3, rfl, h1, hb3⟩
      have H1 := Lib.hid (h1.out.wide (lo' := w.heap.size) hb12.size)
      have HB := Lib.hid (hb12.trans (hb3.mono hb12.size))
      clear KQ h1
      go_wp2
      rw [HC1.out]
      exact bodyPost_ret (v := .tuple #[v3, .bool false]) (by simp [results, Try.results39, go_sem]) rfl ⟨v3, rfl, H1, HB.out⟩
  · have HC1 : Hid (chT T who 0 48 (fun x => mn x 0) = ([], false)) := by show _ = _; unfold chT; rw [if_neg hq0]
    replace hq0 : lockOkB T = false := by simpa using hq0
    rw [hq0] at K1
    clear hq0 h K2
    go_enter Try.func39, Try.ntmps39
    go_wp2_with fail
    refine K1.out.mono ?_; rintro e w1 ⟨rfl, hb1⟩
    clear K1
    have HB := Lib.hid ((hb1.alloc hb1.size (.cells #[] 78)))
    go_wp2
    rw [HC1.out]
    exact bodyPost_ret (v := .tuple #[.slice (some ⟨w1.heap.size, 0, none⟩) 0 0, .bool false]) (by simp [results, Try.results39, go_sem]) rfl ⟨_, rfl, Lib.hid (otab_nil _ _ _ _ _ (by unfold maxLen; omega)), HB.out⟩

end Go.Proofs.Yteabigobnjebaaa
