/-
  laws.FnExactLayParts returns true at every layout and range: both sides return the same list, in memory of its own. No condition.
-/
import Derived.Test.YteglfdcoeogilabPartEx
import Derived.Test.YteglfdcoeogilabPartCollect
import Derived.Test.YteglfdcoeogilabSpecParts
namespace Go.Proofs.Yteglfdcoeogilab.exLayParts
open Go.RowKit

/-- A row of one's own, or none. -/
def Gp (w : World) (B : Nat) (v : Value) (n : Nat) (f : Nat → PartT) : Prop :=
  (v = .slice none 0 0 ∧ n = 0) ∨ ∃ g cap, v = .slice (some ⟨g, 0, none⟩) n cap ∧ B ≤ g ∧ Row4 w g n f

theorem Gp.of_own {w : World} {B : Nat} {v : Value} {L : List PartT} (h : w.ownsRow B 70 4 v L.length (flat4 L)) : Gp w B v L.length (fun i => L.getD i (0, 0, 0, 0)) := by
  rcases h.2 with h1 | ⟨g, cap, cur, rfl, hb, _⟩
  · exact Or.inl h1
  · exact Or.inr ⟨g, cap, rfl, hb, own_row4 h⟩
theorem Gp.keep {w w1 : World} {B : Nat} {v : Value} {n : Nat} {f : Nat → PartT} (h : Gp w B v n f) (hb : Below w.heap.size w w1) : Gp w1 B v n f :=
  h.imp id fun ⟨g, cap, h1, h2, h3⟩ => ⟨g, cap, h1, h2, h3.keep hb⟩

theorem mark_gp {w : World} {B n : Nat} {v : Value} {f : Nat → PartT} (h : Gp w B v n f) (hn : n ≤ 48) (hB : B ≤ w.heap.size) :
    Calls Try.prog 26 #[v, .int .i64 1] w fun e w' => e = .returned (.int .i64 (1 + 4 * n)) ∧ Gp w' B v n (mk4 1) ∧ Below B w w' := by
  rcases h with ⟨rfl, rfl⟩ | ⟨g, cap, rfl, hg, hr⟩
  · refine (mark4_nil none 0 1 w).mono ?_
    rintro e w' ⟨rfl, rfl⟩
    exact ⟨rfl, Or.inl ⟨rfl, rfl⟩, Below.refl _ _⟩
  · refine (mark4_any g n cap 1 f w hr (by omega) (by omega) (by omega)).mono ?_
    rintro e w' ⟨rfl, hr', hgr⟩
    exact ⟨rfl, Or.inr ⟨g, cap, rfl, hg, hr'⟩, ⟨hgr.os, hgr.tape, hgr.output, hgr.size, fun i hi => hgr.block i (Nat.lt_of_lt_of_le hi hB) (by intro e; injection e with e; omega)⟩⟩
theorem held_gp {w : World} {B n : Nat} {v : Value} (h : Gp w B v n (mk4 1)) (hn : n ≤ 48) :
    Calls Try.prog 27 #[v, .int .i64 1] w fun e w' => e = .returned (.int .i64 (1 + 4 * n)) ∧ w = w' := by
  rcases h with ⟨rfl, rfl⟩ | ⟨g, cap, rfl, hg, hr⟩
  · exact held4_nil none 0 1 w
  · exact held4_any g n cap 1 w hr (by omega) (by omega) (by omega)

theorem lpL_len (size many lo hi : Int) : (lpL size many lo hi).length ≤ 48 := by
  unfold lpL
  split
  · next h =>
    have h2 := spanOkB_iff.1 h.2
    have := prS_len (size := size) (many := many) (lo := lo) (hi - lo).toNat
    unfold prts; omega
  · simp

set_option maxRecDepth 100000 in
set_option maxHeartbeats 2000000 in
theorem walk (lo hi a b : Int) (w : World) :
    Calls Try.prog 7 #[.agg #[.int .i64 lo, .int .i64 hi], .agg #[.int .i64 a, .int .i64 b]] w fun e w' => e = .returned (.bool true) ∧ Below w.heap.size w w' := by
  obtain ⟨W, hW⟩ : ∃ W, (w.alloc (.cells #[.int .i64 lo, .int .i64 hi] 41)).alloc (.cells #[.int .i64 a, .int .i64 b] 46) = W := ⟨_, rfl⟩
  have k : Box2 W w.heap.size lo hi := by
    rw [← hW]; exact (new_box w lo hi 41).keep ((Below.refl _ _).alloc (Nat.le_refl _) _)
  have m : Box2 W (w.heap.size + 1) a b := by
    rw [← hW]; simpa using new_box (w.alloc (.cells #[.int .i64 lo, .int .i64 hi] 41)) a b 46
  have hal : Below w.heap.size w W := by rw [← hW]; exact ((Below.refl _ _).alloc (Nat.le_refl _) _).alloc (by simp) _
  obtain ⟨L, hL⟩ : ∃ L, lpL lo hi a b = L := ⟨_, rfl⟩
  have hlen : L.length ≤ 48 := by rw [← hL]; exact lpL_len _ _ _ _
  have H1 : Hid (∀ X, Calls Try.prog 23 #[.agg #[.int .i64 lo, .int .i64 hi], .agg #[.int .i64 a, .int .i64 b]] X (RgP X L)) := fun X => by rw [← hL]; exact specLayParts_any lo hi a b X
  have H2 : Hid (∀ X, Calls Try.prog 17 #[.agg #[.int .i64 lo, .int .i64 hi], .agg #[.int .i64 a, .int .i64 b]] X (RgP X L)) := fun X => by rw [← hL]; exact implLayParts_any lo hi a b X
  have HK := Lib.hid k
  have HM := Lib.hid m
  have HAL := Lib.hid hal
  clear hL
  obtain ⟨x1, x2, -, -⟩ := id k
  obtain ⟨y1, y2, -, -⟩ := id m
  subst hW
  clear k m hal
  go_enter Try.func7, Try.ntmps7
  go_wp2_with fail
  generalize (w.alloc (.cells #[.int .i64 lo, .int .i64 hi] 41)).alloc (.cells #[.int .i64 a, .int .i64 b] 46) = W at *
  go_region_held3 (fun w' => w'.cell? ⟨w.heap.size, 0, none⟩ = some (.int .i64 lo) ∧ w'.cell? ⟨w.heap.size, 1, none⟩ = some (.int .i64 hi) ∧ w'.cell? ⟨w.heap.size + 1, 0, none⟩ = some (.int .i64 a) ∧ w'.cell? ⟨w.heap.size + 1, 1, none⟩ = some (.int .i64 b))
    (refine ⟨?_, ?_, ?_, ?_⟩ <;> first | (go_keep; done) | (refine cell_keep hb ?_; first | (go_keep; done) | (go_simp; done)))
    (first
      | (go_at_call 20; refine (toLay_any lo hi _).mono ?_; rintro e w' ⟨rfl, hb⟩; have hbW := (Below.drew (Below.refl _ _)).trans hb)
      | (go_at_call 24; refine (toSpan_any a b _).mono ?_; rintro e w' ⟨rfl, hb⟩; have hbW2 := hbW.trans (hb.mono hbW.size))
      | (go_at_call 23; refine (H1.out _).mono ?_; rintro e w' ⟨v0, rfl, ho, hb⟩; have HO := ho; clear ho; have hbW3 := hbW2.trans (hb.mono hbW2.size); have hbs := hbW2.size))
  have E3 : Below W.heap.size W w' := hbW3.mono (by simp)
  have HV := Lib.hid (own_pts HO.out)
  generalize w' = w3 at *
  clear x1 x2 y1 y2 HO hbW hbW2 hbW3 hbs hb
  obtain ⟨x1, x2, -, -⟩ := HK.out.keep E3
  obtain ⟨y1, y2, -, -⟩ := HM.out.keep E3
  go_wp2_with fail
  go_region_held3 (fun w' => w'.cell? ⟨w.heap.size, 0, none⟩ = some (.int .i64 lo) ∧ w'.cell? ⟨w.heap.size, 1, none⟩ = some (.int .i64 hi) ∧ w'.cell? ⟨w.heap.size + 1, 0, none⟩ = some (.int .i64 a) ∧ w'.cell? ⟨w.heap.size + 1, 1, none⟩ = some (.int .i64 b))
    (refine ⟨?_, ?_, ?_, ?_⟩ <;> first | (go_keep; done) | (refine cell_keep hb ?_; first | (go_keep; done) | (go_simp; done)))
    (first
      | (go_at_call 20; refine (toLay_any lo hi _).mono ?_; rintro e w' ⟨rfl, hb⟩; have hbW := (Below.drew (Below.refl _ _)).trans hb)
      | (go_at_call 24; refine (toSpan_any a b _).mono ?_; rintro e w' ⟨rfl, hb⟩; have hbW2 := hbW.trans (hb.mono hbW.size))
      | (go_at_call 17; refine (H2.out _).mono ?_; rintro e w' ⟨v1, rfl, ho, hb⟩; have HO := ho; clear ho; have hbW3 := hbW2.trans (hb.mono hbW2.size); have hbs := hbW2.size))
  have F6 : Below w3.heap.size w3 w' := hbW3.mono (by simp)
  have HG := Lib.hid (Gp.of_own HO.out)
  have HP := Lib.hid (own_pts HO.out)
  have hs35 : w3.heap.size ≤ _ := hbs
  have hs56 := hb.size
  generalize w' = w6 at *
  clear x1 x2 y1 y2 HO hbW hbW2 hbW3 hbs hb
  go_wp2_with fail
  refine (eqPartS_same v1 v0 L _ HP.out (HV.out.keep F6)).mono ?_; rintro e w7 ⟨rfl, hb7⟩
  have F7 := F6.trans (hb7.mono F6.size)
  have HG7 := Lib.hid (HG.out.keep hb7)
  have hs67 := hb7.size
  clear hb7 F6 HG HP
  go_wp2_with fail
  refine (mark_gp HG7.out hlen (by omega)).mono ?_; rintro e w8 ⟨rfl, hg8, hb8⟩
  have HG8 := Lib.hid hg8
  have F8 := F7.trans (hb8.mono hs35)
  clear hg8 hb8 F7 HG7
  go_wp2_with fail
  refine (held_gp HG8.out hlen).mono ?_; rintro e w9 ⟨rfl, rfl⟩
  have E8 := E3.trans (F8.mono E3.size)
  obtain ⟨x1, x2, -, -⟩ := HK.out.keep E8
  obtain ⟨y1, y2, -, -⟩ := HM.out.keep E8
  go_wp2_with fail
  go_region_held3 (fun w' => w'.cell? ⟨w.heap.size, 0, none⟩ = some (.int .i64 lo) ∧ w'.cell? ⟨w.heap.size, 1, none⟩ = some (.int .i64 hi) ∧ w'.cell? ⟨w.heap.size + 1, 0, none⟩ = some (.int .i64 a) ∧ w'.cell? ⟨w.heap.size + 1, 1, none⟩ = some (.int .i64 b))
    (refine ⟨?_, ?_, ?_, ?_⟩ <;> first | (go_keep; done) | (refine cell_keep hb ?_; first | (go_keep; done) | (go_simp; done)))
    (first
      | (go_at_call 20; refine (toLay_any lo hi _).mono ?_; rintro e w' ⟨rfl, hb⟩; have hbW := (Below.drew (Below.refl _ _)).trans hb)
      | (go_at_call 24; refine (toSpan_any a b _).mono ?_; rintro e w' ⟨rfl, hb⟩; have hbW2 := hbW.trans (hb.mono hbW.size))
      | (go_at_call 17; refine (H2.out _).mono ?_; rintro e w' ⟨v2, rfl, ho, hb⟩; have HO := ho; clear ho; have hbW3 := hbW2.trans (hb.mono hbW2.size); have hbs := hbW2.size))
  have G12 : Below w8.heap.size w8 w' := hbW3.mono (by simp)
  have HP := Lib.hid (own_pts HO.out)
  have F12 := F8.trans (G12.mono F8.size)
  generalize w' = w12 at *
  clear x1 x2 y1 y2 HO hbW hbW2 hbW3 hbs hb
  go_wp2_with fail
  refine (eqPartS_same v2 v0 L _ HP.out (HV.out.keep F12)).mono ?_; rintro e w13 ⟨rfl, hb13⟩
  have G13 := G12.trans (hb13.mono G12.size)
  have E13 := E8.trans (G13.mono E8.size)
  clear hb13 G12 HP F12
  go_wp2_with fail
  refine (held_gp (HG8.out.keep G13) hlen).mono ?_; rintro e w14 ⟨rfl, rfl⟩
  go_wp2
  go_ret
  exact ⟨rfl, HAL.out.trans (E13.mono HAL.out.size)⟩

end Go.Proofs.Yteglfdcoeogilab.exLayParts
