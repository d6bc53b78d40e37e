/-
  laws.FnExactLayOf returns true at every layout and text: both sides return the same list, in memory of its own. No condition.
-/
import Derived.Test.YteglfdcoeogilabMarkS
import Derived.Test.YteglfdcoeogilabImplLof
import Derived.Test.YteglfdcoeogilabLayFn
import Derived.Deep.RegionHeld3
namespace Go.Proofs.Yteglfdcoeogilab.exLayOf
open Go.RowKit

/-- A row of one's own, or none. -/
def Gs (w : World) (B : Nat) (v : Value) (n : Nat) (f : Nat → Value) : Prop :=
  (v = .slice none 0 0 ∧ n = 0) ∨ ∃ g cap, v = .slice (some ⟨g, 0, none⟩) n cap ∧ B ≤ g ∧ Row1 w g n f

theorem Gs.of_own {w : World} {B n : Nat} {v : Value} {T : TypeId} {xs : List Value} (h : w.ownsRow B T 1 v n xs) : Gs w B v n (fun i => xs.getD i (.bool false)) := by
  rcases h.2 with h1 | ⟨g, cap, cur, rfl, hb, _⟩
  · exact Or.inl h1
  · exact Or.inr ⟨g, cap, rfl, hb, own_row1 h⟩
theorem Gs.keep {w w1 : World} {B : Nat} {v : Value} {n : Nat} {f : Nat → Value} (h : Gs w B v n f) (hb : Below w.heap.size w w1) : Gs w1 B v n f :=
  h.imp id fun ⟨g, cap, h1, h2, h3⟩ => ⟨g, cap, h1, h2, h3.keep hb⟩

theorem mark_gs {w : World} {B n : Nat} {v : Value} {f : Nat → Value} (h : Gs w B v n f) (hn : n ≤ 48) (hB : B ≤ w.heap.size) :
    Calls Try.prog 30 #[v, .int .i64 1] w fun e w' => e = .returned (.int .i64 (1 + (n : Int))) ∧ Gs w' B v n (mkS 1) ∧ Below B w w' := by
  rcases h with ⟨rfl, rfl⟩ | ⟨g, cap, rfl, hg, hr⟩
  · refine (markS_nil none 0 1 w).mono ?_
    rintro e w' ⟨rfl, rfl⟩
    exact ⟨rfl, Or.inl ⟨rfl, rfl⟩, Below.refl _ _⟩
  · refine (markS_any B g n cap 1 f w hr hg hB (by omega) (by omega) (by omega)).mono ?_
    rintro e w' ⟨rfl, hr', hgr⟩
    exact ⟨rfl, Or.inr ⟨g, cap, rfl, hg, hr'⟩, hgr⟩
theorem held_gs {w : World} {B n : Nat} {v : Value} (h : Gs w B v n (mkS 1)) (hn : n ≤ 48) :
    Calls Try.prog 31 #[v, .int .i64 1] w fun e w' => e = .returned (.int .i64 (1 + (n : Int))) ∧ Below w.heap.size w w' := by
  rcases h with ⟨rfl, rfl⟩ | ⟨g, cap, rfl, hg, hr⟩
  · exact (heldS_nil none 0 1 w).mono fun e w' ⟨he, hw⟩ => ⟨he, hw ▸ Below.refl _ _⟩
  · exact heldS_any g n cap 1 w hr (by omega) (by omega) (by omega)

theorem loL_len3 (size many : Int) (l : List UInt8) : (loL size many l).length ≤ 3 := by
  unfold loL
  split
  · next h => have := layOkB_iff.1 h.1; simp; omega
  · simp

set_option maxRecDepth 100000 in
set_option maxHeartbeats 4000000 in
theorem walk (lo hi : Int) (s : ByteArray) (w : World) (h : s.size ≤ maxLen) :
    Calls Try.prog 8 #[.agg #[.int .i64 lo, .int .i64 hi], .string s] w fun e w' => e = .returned (.bool true) ∧ Below w.heap.size w w' := by
  obtain ⟨l, rfl, hl⟩ := mkB_of s
  have zz : (mkB l).size = l.length := mkB_size l
  have zh : (mkB l).size ≤ 9223372036854775807 := h
  have zi : l.length ≤ 9223372036854775807 := by omega
  clear h hl zh
  obtain ⟨W, hW⟩ : ∃ W, w.alloc (.cells #[.int .i64 lo, .int .i64 hi] 41) = W := ⟨_, rfl⟩
  have k : Box2 W w.heap.size lo hi := by rw [← hW]; exact new_box w lo hi 41
  have hal : Below w.heap.size w W := by rw [← hW]; exact (Below.refl _ _).alloc (Nat.le_refl _) _
  by_cases hL : l.length ≤ 1048576
  · obtain ⟨L, hLL⟩ : ∃ L, loL lo hi l = L := ⟨_, rfl⟩
    have hlen : L.length ≤ 48 := by rw [← hLL]; have := loL_len3 lo hi l; omega
    have H1 : Hid (∀ X, Calls Try.prog 28 #[.agg #[.int .i64 lo, .int .i64 hi], .string (mkB l)] X (RgS X L)) := fun X => by rw [← hLL]; exact specLayOf_any lo hi l (by omega) X
    have H2 : Hid (∀ X, Calls Try.prog 18 #[.agg #[.int .i64 lo, .int .i64 hi], .string (mkB l)] X (RgS X L)) := fun X => by rw [← hLL]; exact implLayOf_any lo hi l (by omega) X
    have HK := Lib.hid k
    have HAL := Lib.hid hal
    clear hLL
    obtain ⟨x1, x2, -, -⟩ := id k
    subst hW
    clear k hal
    go_enter Try.func8, Try.ntmps8
    go_wp2_with fail
    generalize w.alloc (.cells #[.int .i64 lo, .int .i64 hi] 41) = W at *
    refine (toLay_any lo hi _).mono ?_; rintro e w' ⟨rfl, hbW⟩
    go_wp2_with fail
    refine (H1.out _).mono ?_; rintro e w'' ⟨v0, rfl, HO, hb⟩
    have hbW3 := hbW.trans (hb.mono hbW.size)
    have hbs := hbW.size
    have E3 : Below W.heap.size W w'' := hbW3
    have HV := Lib.hid (own_strs (n := L.length) rfl HO.out)
    generalize w'' = w3 at *
    clear x1 x2 HO hbW hbW3 hbs hb
    obtain ⟨x1, x2, -, -⟩ := HK.out.keep E3
    go_wp2_with fail
    refine (toLay_any lo hi _).mono ?_; rintro e w' ⟨rfl, hbW⟩
    go_wp2_with fail
    refine (H2.out _).mono ?_; rintro e w'' ⟨v1, rfl, HO, hb⟩
    have hbW3 := hbW.trans (hb.mono hbW.size)
    have hbs := hbW.size
    have F6 : Below w3.heap.size w3 w'' := hbW3
    have HG := Lib.hid (Gs.of_own HO.out)
    have HP := Lib.hid (own_strs (n := L.length) rfl HO.out)
    have hs35 : w3.heap.size ≤ _ := hbs
    have hs56 := hb.size
    generalize w'' = w6 at *
    clear x1 x2 HO hbW hbW3 hbs hb
    go_wp2_with fail
    refine (eqStringS_same v1 v0 L.length (fun i => L.getD i []) _ HP.out (HV.out.keep F6)).mono ?_; rintro e w7 ⟨rfl, hb7⟩
    have F7 := F6.trans (hb7.mono F6.size)
    have HG7 := Lib.hid (HG.out.keep hb7)
    have hs67 := hb7.size
    clear hb7 F6 HG HP
    go_wp2_with fail
    refine (mark_gs HG7.out hlen (by omega)).mono ?_; rintro e w8 ⟨rfl, hg8, hb8⟩
    have HG8 := Lib.hid hg8
    have F8 := F7.trans (hb8.mono hs35)
    clear hg8 hb8 F7 HG7
    go_wp2_with fail
    refine (held_gs HG8.out hlen).mono ?_; rintro e w9 ⟨rfl, hb9⟩
    have HG9 := Lib.hid (HG8.out.keep hb9)
    have F9 := F8.trans (hb9.mono F8.size)
    have E9 := E3.trans (F9.mono E3.size)
    clear hb9 HG8 F8
    obtain ⟨x1, x2, -, -⟩ := HK.out.keep E9
    go_wp2_with fail
    refine (toLay_any lo hi _).mono ?_; rintro e w' ⟨rfl, hbW⟩
    go_wp2_with fail
    refine (H2.out _).mono ?_; rintro e w'' ⟨v2, rfl, HO, hb⟩
    have hbW3 := hbW.trans (hb.mono hbW.size)
    have hbs := hbW.size
    have G12 : Below w9.heap.size w9 w'' := hbW3
    have HP := Lib.hid (own_strs (n := L.length) rfl HO.out)
    have F12 := F9.trans (G12.mono F9.size)
    generalize w'' = w12 at *
    clear x1 x2 HO hbW hbW3 hbs hb
    go_wp2_with fail
    refine (eqStringS_same v2 v0 L.length (fun i => L.getD i []) _ HP.out (HV.out.keep F12)).mono ?_; rintro e w13 ⟨rfl, hb13⟩
    have G13 := G12.trans (hb13.mono G12.size)
    have E13 := E9.trans (G13.mono E9.size)
    clear hb13 G12 HP F12
    go_wp2_with fail
    refine (held_gs (HG9.out.keep G13) hlen).mono ?_; rintro e w14 ⟨rfl, hb14⟩
    have E14 := E13.trans (hb14.mono E13.size)
    go_wp2
    go_ret
    exact ⟨rfl, HAL.out.trans (E14.mono HAL.out.size)⟩
  · subst hW
    go_enter Try.func8, Try.ntmps8
    go_wp2
    go_ret
    exact ⟨rfl, hal⟩

end Go.Proofs.Yteglfdcoeogilab.exLayOf
