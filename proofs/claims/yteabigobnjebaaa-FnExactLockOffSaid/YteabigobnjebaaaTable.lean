/-
  locks.table: the table of holds that ordered lists say.
-/
import Derived.Test.YteabigobnjebaaaOTab
namespace Go.Proofs.Yteabigobnjebaaa
open Go.RowKit

theorem infoHoldT : (Try.prog.info? 78).map (fun i => (i.zero, i.size, i.bytes)) = some (some (.agg #[.slice none 0 0, .slice none 0 0]), 2, 48) := by kernel_rfl

abbrev rowH (Rs : Nat → List RunT) (i : Nat) : HoldT := (lsR 1 (Rs i), lsR 2 (Rs i))
def tabT (Rs : Nat → List RunT) (m : Nat) : List HoldT := (List.range m).map (rowH Rs)
theorem tabT_len (Rs : Nat → List RunT) (m : Nat) : (tabT Rs m).length = m := by unfold tabT; simp
theorem tabT_at (Rs : Nat → List RunT) (m i : Nat) (h : i < m) : (tabT Rs m).getD i hd0 = rowH Rs i := by
  unfold tabT
  rw [List.getD_eq_getElem?_getD, List.getElem?_map, List.getElem?_range h]; rfl

theorem TB.nil (w : World) (F : Nat → HoldT) : TB w w 0 F (fun _ => .slice none 0 0) (fun _ => .slice none 0 0) (.slice none 0 0) :=
  ⟨World.ownsRow_nil .., fun i hi => absurd hi (by omega), ⟨fun i _ hi => absurd hi (by omega), fun i _ hi => absurd hi (by omega)⟩, Below.refl _ _⟩

set_option maxRecDepth 100000 in
set_option maxHeartbeats 4000000 in
theorem table_any (gl cl m : Nat) (gs cs : Nat → Nat) (Rs : Nat → List RunT) (hl : ∀ i, i < m → (Rs i).length ≤ 100) (hm : m ≤ 100) (_hcl : cl ≤ 9223372036854775807) (w : World) (ft : LksAt w gl m gs cs Rs) :
    Calls Try.prog 103 #[.slice (some ⟨gl, 0, none⟩) m cl] w (TbC w (tabT Rs m)) := by
  obtain ⟨i0, hi0, hz0, hz1, hz2⟩ := info_parts infoHoldT
  have HI : Hid (Try.prog.info? 78 = some i0 ∧ i0.zero = some (.agg #[.slice none 0 0, .slice none 0 0]) ∧ i0.size = 2 ∧ i0.bytes = 48) := ⟨hi0, hz0, hz1, hz2⟩
  have HT := Lib.hid ft
  have HL := Lib.hid hl
  clear ft hl hi0 hz0 hz1 hz2
  go_enter Try.func103, Try.ntmps103
  go_wp2
  go_loopg [3, 8] m (fun q s3 s8 wr => ∃ (k : Nat) (vR vS : Nat → Value), q = m - k ∧ k ≤ m ∧ s8 = .int .i64 k ∧ Hid (TB w wr k (rowH Rs) vR vS s3))
  case atStart => exact ⟨0, _, _, rfl, Nat.zero_le _, rfl, Lib.hid (TB.nil w _)⟩
  case round =>
    obtain ⟨k, vR, vS, rfl, hk, rfl, HB⟩ := hrel
    by_cases hlt : k < m
    · have HTk := Lib.hid (HT.out.keep HB.out.bel)
      have c1 := (HTk.out k hlt).1
      have K1 := Lib.hid (olist_any (gs k) (cs k) (Rs k) 1 wr (HTk.out k hlt).2 (by have := HL.out k hlt; omega))
      obtain ⟨a, cp, rfl⟩ := rowForm HB.out.own
      go_wp2_with fail
      refine K1.out.mono ?_; rintro e w1 ⟨x, rfl, hx, hb1⟩
      obtain ⟨ax, cx, rfl⟩ := rowForm hx.out
      have K2 := Lib.hid (olist_any (gs k) (cs k) (Rs k) 2 w1 ((HTk.out k hlt).2.keep hb1) (by have := HL.out k hlt; omega))
      have HX := Lib.hid hx.out
      clear hx K1 c1
      go_wp2_with fail
      refine K2.out.mono ?_; rintro e w2 ⟨y, rfl, hy, hb2⟩
      obtain ⟨ay, cy, rfl⟩ := rowForm hy.out
      have hb12 := hb1.trans (hb2.mono hb1.size)
      have HX2 := Lib.hid (rowBel HX.out hb2)
      have HY2 := Lib.hid hy.out
      have HM : Hid (∀ b, (Value.slice ax (lsR 1 (Rs k)).length cx).ownBlock = some b → b < w1.heap.size) := fun b e => (own_lt HX.out e).2
      have s1 := hb1.size
      have s2 := hb2.size
      have s0 := HB.out.bel.size
      have HO2 := Lib.hid (rowBel HB.out.own hb12)
      clear HX K2 hy
      go_wp2_with (at_builtin; refine wpList_append_lies _ rfl (.tmp 12) (.tmp 18) 36 rfl w.heap.size 78 i0 (.agg #[.slice none 0 0, .slice none 0 0]) 2 48 Try.underlying36 HI.out.1 HI.out.2.1 HI.out.2.2.1 HI.out.2.2.2 rfl (by decide) _ _ _ rfl (HO2.out.alloc _) ⟨w2.heap.size, 0, none⟩ 1 1 [.slice ax (lsR 1 (Rs k)).length cx, .slice ay (lsR 2 (Rs k)).length cy] rfl rfl (twoNew _ _ _ _) (by simp [Value.oneCell']) (by omega) (by unfold maxLen; omega) (by omega) (by simp; omega) (w2.heap.size + 1) (by simp) ?_; intro g' cap' w9 hown' hgrow hat hltg)
      have HB9 := Lib.hid (HB.out.added hb12 HX2.out HY2.out HM.out s1 hown' hgrow)
      clear hown' hgrow hat HX2 HY2 HM HO2 HB HTk
      go_wp2
      go_roundg (m - (k + 1))
      case measure => omega
      case rel => exact ⟨k + 1, _, _, rfl, by omega, by go_num, HB9⟩
    · obtain rfl : k = m := by omega
      obtain ⟨a, cp, hf⟩ := rowForm HB.out.own
      subst hf
      have HR := Lib.hid (TB.tab (T := tabT Rs k) (by rw [tabT_len]; exact HB.out) (fun i hi => by rw [tabT_len] at hi; exact (tabT_at Rs k i hi).symm))
      have HBB := Lib.hid HB.out.bel
      go_wp2
      go_ret
      exact ⟨_, rfl, HR, HBB.out⟩

end Go.Proofs.Yteabigobnjebaaa
