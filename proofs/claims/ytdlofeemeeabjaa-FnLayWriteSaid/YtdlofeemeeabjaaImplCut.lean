/-
  impl.TextCut: what it returns at every text and number. No condition but the lengths'.
-/
import Derived.Test.YtdlofeemeeabjaaEdited
namespace Go.Proofs.Ytdlofeemeeabjaa
open Go.RowKit Go.Lib

def cutF (n : Int) (L : List UInt8) : Option (List UInt8) := if 0 ≤ n ∧ n ≤ 48 then some (cutL L n.toNat) else none

set_option maxHeartbeats 1000000 in
theorem cut_edOk (w : World) (b : Nat) (n : Int) (hc : w.cell? ⟨b, 0, none⟩ = some (.int .i64 n)) : EdOk w 68 b (cutF n) := by
  intro W v L hb hS hT
  have c0 := cell_keep hb hc
  refine ⟨fun L' h => ?_, fun h => ?_⟩
  · by_cases h2 : 0 ≤ n ∧ n ≤ 48
    · unfold cutF at h
      rw [if_pos h2] at h
      obtain rfl : cutL L n.toNat = L' := by simpa using h
      obtain ⟨h2, h3⟩ := h2
      obtain ⟨m, rfl⟩ : ∃ m : Nat, n = m := ⟨n.toNat, by omega⟩
      rw [Int.toNat_natCast]
      refine ⟨tokB_cutL hT (by omega), ?_⟩
      have HC := Lib.hid (sized_any v L m W hS (by omega))
      have hcl := cutL_len L m
      have HCL := Lib.hid hcl
      clear h hT hc hS hb hcl
      go_enter Try.func68, Try.ntmps68
      go_wp2_with fail
      refine HC.out.mono ?_; rintro e w2 ⟨g, rfl, hg, hs, hb2⟩
      go_wp2
      go_ret2
      have := hs.out.sht
      rw [HCL.out] at this
      exact ⟨_, rfl, Lib.hid this, hb2⟩
    · exfalso; unfold cutF at h; rw [if_neg h2] at h; cases h
  · by_cases h2 : 0 ≤ n ∧ n ≤ 48
    · exfalso; unfold cutF at h; rw [if_pos h2] at h; cases h
    · clear h hT hc hS hb
      by_cases h3 : n < 0
      · clear h2
        go_enter Try.func68, Try.ntmps68
        go_wp2
        go_ret2
        exact ⟨rfl, Below.refl _ _⟩
      · have h4 : 48 < n := by omega
        clear h2
        go_enter Try.func68, Try.ntmps68
        go_wp2
        go_ret2
        exact ⟨rfl, Below.refl _ _⟩

set_option maxHeartbeats 1000000 in
theorem cutTo_any (n : Int) (w : World) :
    Calls Try.prog 47 #[.int .i64 n] w fun e w' => e = .returned (.func (.func 68) #[] #[.pointer (some ⟨w.heap.size, 0, none⟩)]) ∧ w' = w.alloc (.cells #[.int .i64 n] 3) := by
  go_enter Try.func47, Try.ntmps47
  go_wp2
  go_ret
  exact ⟨rfl, rfl⟩

theorem cutF_S (n : Int) (l : List UInt8) : edS (fun _ => cutF n) 1 l = tcS l n := by
  unfold edS tcS runE runE cutF
  by_cases h : tokB l = true <;> by_cases h2 : 0 ≤ n ∧ n ≤ 48 <;> simp [h, h2]
theorem cutF_B (n : Int) (l : List UInt8) : edB (fun _ => cutF n) 1 l = tcB l n := by
  unfold edB tcB runE runE cutF
  by_cases h2 : 0 ≤ n ∧ n ≤ 48 <;> simp [h2]

set_option maxHeartbeats 1000000 in
theorem implTextCut_any (l : List UInt8) (n : Int) (hl : l.length ≤ 2000000) (w : World) :
    Calls Try.prog 21 #[.string (mkB l), .int .i64 n] w fun e w' => e = .returned (.tuple #[.string (mkB (tcS l n)), .bool (tcB l n)]) ∧ Below w.heap.size w w' := by
  have hal : Below w.heap.size w (w.alloc (.cells #[.int .i64 n] 3)) := (Below.refl _ _).alloc (Nat.le_refl _) _
  have hc0 : (w.alloc (.cells #[.int .i64 n] 3)).cell? ⟨w.heap.size, 0, none⟩ = some (.int .i64 n) := by go_simp
  have hal2 : Below w.heap.size w ((w.alloc (.cells #[.int .i64 n] 3)).alloc (.cells #[.func (.func 68) #[] #[.pointer (some ⟨w.heap.size, 0, none⟩)]] 77)) := hal.alloc (by simp) _
  have hE : ∀ i, i < 1 → ((w.alloc (.cells #[.int .i64 n] 3)).alloc (.cells #[.func (.func 68) #[] #[.pointer (some ⟨w.heap.size, 0, none⟩)]] 77)).cell? ⟨w.heap.size + 1, i, none⟩ = some (.func (.func 68) #[] #[.pointer (some ⟨w.heap.size, 0, none⟩)]) ∧ EdOk ((w.alloc (.cells #[.int .i64 n] 3)).alloc (.cells #[.func (.func 68) #[] #[.pointer (some ⟨w.heap.size, 0, none⟩)]] 77)) 68 w.heap.size (cutF n) := by
    intro i hi
    obtain rfl : i = 0 := by omega
    exact ⟨by go_simp, cut_edOk _ _ n (cell_keep ((Below.refl _ _).alloc (Nat.le_refl _) _) hc0)⟩
  have HE := Lib.hid hE
  have HA := Lib.hid hal2
  clear hE hc0 hal hal2
  go_enter Try.func21, Try.ntmps21
  go_wp2_with fail
  refine (cutTo_any n _).mono ?_; rintro e w2 ⟨rfl, rfl⟩
  go_wp2_with fail
  refine (edited_any 68 (fun _ => cutF n) (fun _ => w.heap.size) 1 (w.heap.size + 1) 1 l _ (by omega) hl (fun a b W => by kernel_rfl) HE.out).mono ?_; rintro e w3 ⟨rfl, hb3⟩
  go_wp2
  go_ret2
  exact ⟨ret_sb (cutF_S n l) (cutF_B n l), HA.out.trans (hb3.mono HA.out.size)⟩

end Go.Proofs.Ytdlofeemeeabjaa
