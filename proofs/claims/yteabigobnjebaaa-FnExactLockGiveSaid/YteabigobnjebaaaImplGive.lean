/-
  impl.LockGive, impl.LockDrop, impl.LockDown, impl.LockOff.
-/
import Derived.Test.YteabigobnjebaaaChanged
import Derived.Deep.RegionHeld3
namespace Go.Proofs.Yteabigobnjebaaa
open Go.RowKit

theorem mostF (m : Int) : (∀ (a b : Value) (W : World), (callFunc 76 #[a, b]).run Try.prog W = .ok (.enter 76 #[a, b]) W) ∧
    ∀ (x : Int) (W : World), Calls Try.prog 76 #[.int .i64 m, .int .i64 x] W fun e w' => e = .returned (.int .i64 (mn x m)) ∧ W = w' :=
  ⟨fun a b W => enters_of Try.func76 (by kernel_rfl) rfl #[a, b] W, fun x W => atMost_any m x W⟩

theorem TbB.from {w w1 : World} {T : List HoldT} {q : Bool} {e : Ending} {w' : World} (h : TbB w1 T q e w') (hb : Below w.heap.size w w1) : TbB w T q e w' := by
  obtain ⟨v, he, ht, hb1⟩ := h
  exact ⟨v, he, Lib.hid (ht.out.wide hb.size), hb.trans (hb1.mono hb.size)⟩

set_option maxRecDepth 100000 in
set_option maxHeartbeats 1000000 in
theorem implOff_any (v : Value) (T : List HoldT) (who : Int) (w : World) (h : Hds w v T) :
    Calls Try.prog 40 #[v, .int .i64 who] w (TbB w (chT T who 0 48 (fun x => mn x 0)).1 (chT T who 0 48 (fun x => mn x 0)).2) := by
  have KC := Lib.hid (changed_any 76 (fun x => mn x 0) 0 (mostF 0).1 (mostF 0).2 v T who 0 48 w h)
  generalize chT T who 0 48 (fun x => mn x 0) = C at *
  clear h
  go_enter Try.func40, Try.ntmps40
  go_wp2_with fail
  refine KC.out.mono ?_; rintro e w1 ⟨v1, rfl, h1⟩
  clear KC
  go_wp2
  exact bodyPost_ret (v := .tuple #[v1, .bool C.2]) (by simp [results, Try.results40, go_sem]) rfl ⟨v1, rfl, h1⟩

set_option maxRecDepth 100000 in
set_option maxHeartbeats 1000000 in
theorem implDrop_any (v : Value) (T : List HoldT) (who lo hi : Int) (w : World) (h : Hds w v T) :
    Calls Try.prog 36 #[v, .int .i64 who, .agg #[.int .i64 lo, .int .i64 hi]] w (TbB w (chT T who lo hi (fun x => mn x 0)).1 (chT T who lo hi (fun x => mn x 0)).2) := by
  have hal : Below w.heap.size w (w.alloc (.cells #[.int .i64 lo, .int .i64 hi] 43)) := (Below.refl _ _).alloc (Nat.le_refl _) _
  have KC := Lib.hid (changed_any 76 (fun x => mn x 0) 0 (mostF 0).1 (mostF 0).2 v T who lo hi _ (h.keep hal))
  generalize chT T who lo hi (fun x => mn x 0) = C at *
  have HAL := Lib.hid hal
  clear h hal
  go_enter Try.func36, Try.ntmps36
  go_wp2_with fail
  refine KC.out.mono ?_; rintro e w1 h0
  obtain ⟨v1, rfl, h1⟩ := h0.from HAL.out
  clear KC
  go_wp2
  exact bodyPost_ret (v := .tuple #[v1, .bool C.2]) (by simp [results, Try.results36, go_sem]) rfl ⟨v1, rfl, h1⟩

set_option maxRecDepth 100000 in
set_option maxHeartbeats 1000000 in
theorem implDown_any (v : Value) (T : List HoldT) (who lo hi : Int) (w : World) (h : Hds w v T) :
    Calls Try.prog 38 #[v, .int .i64 who, .agg #[.int .i64 lo, .int .i64 hi]] w (TbB w (chT T who lo hi (fun x => mn x 1)).1 (chT T who lo hi (fun x => mn x 1)).2) := by
  have hal : Below w.heap.size w (w.alloc (.cells #[.int .i64 lo, .int .i64 hi] 43)) := (Below.refl _ _).alloc (Nat.le_refl _) _
  have KC := Lib.hid (changed_any 76 (fun x => mn x 1) 1 (mostF 1).1 (mostF 1).2 v T who lo hi _ (h.keep hal))
  generalize chT T who lo hi (fun x => mn x 1) = C at *
  have HAL := Lib.hid hal
  clear h hal
  go_enter Try.func38, Try.ntmps38
  go_wp2_with fail
  refine KC.out.mono ?_; rintro e w1 h0
  obtain ⟨v1, rfl, h1⟩ := h0.from HAL.out
  clear KC
  go_wp2
  exact bodyPost_ret (v := .tuple #[v1, .bool C.2]) (by simp [results, Try.results38, go_sem]) rfl ⟨v1, rfl, h1⟩

set_option maxRecDepth 100000 in
set_option maxHeartbeats 1000000 in
theorem implGive_any (v : Value) (T : List HoldT) (who : Int) (wr : Bool) (lo hi : Int) (w : World) (h : Hds w v T) :
    Calls Try.prog 33 #[v, .int .i64 who, .bool wr, .agg #[.int .i64 lo, .int .i64 hi]] w (TbB w (chT T who lo hi (fun x => mx x (wantOf wr))).1 (chT T who lo hi (fun x => mx x (wantOf wr))).2) := by
  have hal : Below w.heap.size w (w.alloc (.cells #[.int .i64 lo, .int .i64 hi] 43)) := (Below.refl _ _).alloc (Nat.le_refl _) _
  have KC := Lib.hid (fun W h => changed_any 74 (fun x => mx x (wantOf wr)) (wantOf wr) (leastF (wantOf wr)).1 (leastF (wantOf wr)).2 v T who lo hi W h)
  generalize chT T who lo hi (fun x => mx x (wantOf wr)) = C at *
  have H0 := Lib.hid (h.keep hal)
  have HAL := Lib.hid hal
  clear h hal
  go_enter Try.func33, Try.ntmps33
  go_wp2_with fail
  go_region_held3 (fun w' => w'.cell? ⟨w.heap.size, 0, none⟩ = some (.int .i64 lo) ∧ w'.cell? ⟨w.heap.size, 1, none⟩ = some (.int .i64 hi))
    (refine ⟨?_, ?_⟩ <;> first | (go_keep; done) | (go_simp; done) | (refine cell_keep hb ?_; first | (go_keep; done) | (go_simp; done)))
    (first
      | (go_at_call 63; refine (modeOf_any wr _).mono ?_; rintro e w' ⟨rfl, rfl⟩)
      | (go_at_call 73; refine (KC.out _ (H0.out.keep (Below.refl _ _).drew)).mono ?_; rintro e w1 ⟨v1, rfl, h1, hb⟩))
  have H1 := Lib.hid (h1.out.wide (lo' := w.heap.size) HAL.out.drew.size)
  have HB := Lib.hid (HAL.out.drew.trans (hb.mono HAL.out.drew.size))
  clear KC h1 hb
  go_wp2
  exact bodyPost_ret (v := .tuple #[v1, .bool C.2]) (by simp [results, Try.results33, go_sem]) rfl ⟨v1, rfl, H1, HB.out⟩

end Go.Proofs.Yteabigobnjebaaa
