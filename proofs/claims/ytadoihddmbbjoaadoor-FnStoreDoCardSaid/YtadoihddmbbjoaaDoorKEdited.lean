/-
  The program's 'edited' over edits that each meet a contract; cutTo, its closure; impl.TextCut.
-/
import Derived.Test.YtadoihddmbbjoaaDoorKSheet
import Derived.Test.YtadoihddmbbjoaaDoorKSpecLong
import Derived.Laws.IdiomStrings
import Derived.Laws.EntriesVeiled
import Derived.Deep.DeepCutAuto
namespace Go.Proofs.YtadoihddmbbjoaaDoor
open Go.RowKit Go.Lib

/-- A string becomes a sheet. -/
theorem sheet_of (l : List UInt8) (W : World) : ∃ (cap : Nat) (W1 : World), (convert 9 82 (.string (mkB l))).run Tryd.prog W = .ok (.slice (some ⟨W.heap.size, 0, none⟩) l.length cap) W1 ∧
    Sht W1 (.slice (some ⟨W.heap.size, 0, none⟩) l.length cap) l ∧ Below W.heap.size W W1 := by
  have hr := run_bytes_of_string (P := Tryd.prog) W 9 82 5 (mkB l) Tryd.underlying9 Tryd.underlying82 Tryd.underlying5
  rw [mkB_size] at hr
  refine ⟨_, _, hr, ⟨W.heap.size, _, rfl, grownCap_ge _ _ _ _, by simp, fun j hj => ?_⟩, (Below.drew (Below.refl _ _)).alloc (by simp) _⟩
  have h1 : W.drew.heap.size = W.heap.size := rfl
  have := World.cell?_alloc_mark W.drew (bytesRow (mkB l) (grownCap W l.length 0 5)) 5 ((bytesRow (mkB l) (grownCap W l.length 0 5)).size, (bytesRow (mkB l) (grownCap W l.length 0 5)).size + 1) j
  rw [h1] at this
  rw [this, bytesRow_at _ _ _ (by show j < l.toArray.size; simpa using hj)]
  rfl
/-- A sheet becomes a string. -/
theorem sheet_back {W : World} {v : Value} {l : List UInt8} (h : Sht W v l) : (convert 82 9 v).run Tryd.prog W = .ok (.string (mkB l)) W := by
  obtain ⟨g, cap, rfl, hl, hg, hc⟩ := h
  exact run_convert_bytes_back W 82 9 5 ⟨g, 0, none⟩ cap l Tryd.underlying82 Tryd.underlying5 Tryd.underlying9 (fun j hj => by rw [addr_add]; exact hc j hj)

/-- Edits one behind the other. -/
def runE (F : Nat → List UInt8 → Option (List UInt8)) : Nat → List UInt8 → Option (List UInt8)
  | 0, l => some l
  | k + 1, l => (runE F k l).bind (F k)
theorem runE_none {F : Nat → List UInt8 → Option (List UInt8)} {k : Nat} {l : List UInt8} (h : runE F k l = none) : ∀ n, k ≤ n → runE F n l = none := by
  intro n hn
  induction n with
  | zero => obtain rfl : k = 0 := by omega
            exact h
  | succ n ih =>
    by_cases hk : k = n + 1
    · subst hk; exact h
    · show (runE F n l).bind (F n) = none
      rw [ih (by omega)]; rfl
def edS (F : Nat → List UInt8 → Option (List UInt8)) (n : Nat) (l : List UInt8) : List UInt8 := if tokB l = true then (runE F n l).getD l else []
def edB (F : Nat → List UInt8 → Option (List UInt8)) (n : Nat) (l : List UInt8) : Bool := tokB l && (runE F n l).isSome

/-- What an edit leaves. -/
def EdYes (w : World) (L : List UInt8) (e : Ending) (w' : World) : Prop :=
  ∃ v, e = .returned (.tuple #[v, .bool true]) ∧ Hid (Sht w' v L) ∧ Below w.heap.size w w'
def EdNo (w : World) (e : Ending) (w' : World) : Prop :=
  e = .returned (.tuple #[.slice none 0 0, .bool false]) ∧ Below w.heap.size w w'
/-- The edit that captures block b does F. -/
def EdOk (w : World) (K : FuncId) (b : Nat) (F : List UInt8 → Option (List UInt8)) : Prop :=
  ∀ (W : World) (v : Value) (L : List UInt8), Below w.heap.size w W → Sht W v L → tokB L = true →
    (∀ L', F L = some L' → tokB L' = true ∧ Calls Tryd.prog K #[v, .pointer (some ⟨b, 0, none⟩)] W (EdYes W L')) ∧ (F L = none → Calls Tryd.prog K #[v, .pointer (some ⟨b, 0, none⟩)] W (EdNo W))

set_option maxHeartbeats 2000000 in
theorem edited_any (K : FuncId) (F : Nat → List UInt8 → Option (List UInt8)) (pb : Nat → Nat) (n gE capE : Nat) (l : List UInt8) (w : World) (hn : n ≤ 2000000) (hl : l.length ≤ 2000000)
    (hcf : ∀ (a b : Value) (W : World), (callFunc K #[a, b]).run Tryd.prog W = .ok (.enter K #[a, b]) W)
    (hE : ∀ i, i < n → w.cell? ⟨gE, i, none⟩ = some (.func (.func K) #[] #[.pointer (some ⟨pb i, 0, none⟩)]) ∧ EdOk w K (pb i) (F i)) :
    Calls Tryd.prog 47 #[.string (mkB l), .slice (some ⟨gE, 0, none⟩) n capE] w fun e w' => e = .returned (.tuple #[.string (mkB (edS F n l)), .bool (edB F n l)]) ∧ Below w.heap.size w w' := by
  have hT : (mkB l).data.toList = l := rfl
  have hok := implTextOk_any (mkB l) (by rw [mkB_size]; omega) w
  rw [hT] at hok
  have HK := Lib.hid hok
  have HE := Lib.hid hE
  clear hok hT hE
  by_cases h1 : tokB l = true
  · obtain ⟨cap, W1, hconv, hS, hB⟩ := sheet_of l w
    have HS1 := Lib.hid hS
    have HT1 := Lib.hid h1
    have HS : Hid (edS F n l = (runE F n l).getD l) := by show _ = _; unfold edS; rw [if_pos h1]
    have HB : Hid (edB F n l = (runE F n l).isSome) := by show _ = _; unfold edB; rw [h1]; rfl
    clear hS
    go_enter Tryd.func47, Tryd.ntmps47
    go_wp2_with fail
    refine HK.out.mono ?_; rintro e w' ⟨rfl, rfl⟩
    go_wp2
    clear hconv h1 HK
    obtain ⟨fv, hfv⟩ : ∃ fv, fv = Value.slice (some ⟨w.heap.size, 0, none⟩) l.length cap := ⟨_, rfl⟩
    rw [← hfv] at HS1
    simp only [← hfv]
    clear hfv
    go_loopg [7, 20] n (fun g v s20 wr => ∃ (i : Nat) (L : List UInt8), g = n - i ∧ i ≤ n ∧ s20 = .int .i64 i ∧ Hid (runE F i l = some L) ∧ Hid (tokB L = true) ∧ Hid (Sht wr v L) ∧ Below w.heap.size w wr ∧ Hid (Sht wr fv l))
    case atStart => exact ⟨0, l, rfl, Nat.zero_le _, rfl, Lib.hid rfl, HT1, HS1, hB, HS1⟩
    case round =>
      obtain ⟨i, L, rfl, hi, rfl, HR, HTL, HV, hbr, HF⟩ := hrel
      by_cases hlt : i < n
      · have c1 := cell_keep hbr (HE.out i hlt).1
        have HO := (HE.out i hlt).2 wr u7 L hbr HV.out HTL.out
        rcases hf : F i L with _ | L2
        · have e0 : Hid (runE F n l = none) := by
            refine Lib.hid (runE_none (k := i + 1) ?_ n (by omega))
            show (runE F i l).bind (F i) = none
            rw [HR.out]; exact hf
          have hcall := Lib.hid (HO.2 hf)
          clear HO hf
          go_wp2_with fail
          refine hcall.out.mono ?_; rintro e w2 ⟨rfl, hb2⟩
          have hS2 := HF.out.keep hb2
          have hback := sheet_back hS2
          have e1 : Hid (edS F n l = l) := by show _ = _; rw [HS.out, e0.out]; rfl
          have e2 : Hid (edB F n l = false) := by show _ = _; rw [HB.out, e0.out]; rfl
          go_wp2
          go_ret2
          exact ⟨ret_sb e1.out.symm e2.out.symm, hbr.trans (hb2.mono hbr.size)⟩
        · have e0 : Hid (runE F (i + 1) l = some L2) := by
            show (runE F i l).bind (F i) = some L2
            rw [HR.out]; exact hf
          have hcall := Lib.hid (HO.1 L2 hf)
          clear HO hf
          go_wp2_with fail
          refine hcall.out.2.mono ?_; rintro e w2 ⟨v2, rfl, hs2, hb2⟩
          have hF2 := Lib.hid (HF.out.keep hb2)
          go_wp2
          go_roundg (n - (i + 1))
          case measure => omega
          case rel => exact ⟨i + 1, L2, rfl, by omega, by go_num, e0, Lib.hid hcall.out.1, hs2, hbr.trans (hb2.mono hbr.size), hF2⟩
      · obtain rfl : i = n := by omega
        have hback := sheet_back HV.out
        have e1 : Hid (edS F i l = L) := by show _ = _; rw [HS.out, HR.out]; rfl
        have e2 : Hid (edB F i l = true) := by show _ = _; rw [HB.out, HR.out]; rfl
        go_wp2
        go_ret2
        exact ⟨ret_sb e1.out.symm e2.out.symm, hbr⟩
  · replace h1 : tokB l = false := by simpa using h1
    have HS : Hid (edS F n l = []) := by show _ = _; unfold edS; simp [h1]
    have HB : Hid (edB F n l = false) := by show _ = _; unfold edB; simp [h1]
    go_enter Tryd.func47, Tryd.ntmps47
    go_wp2_with fail
    refine HK.out.mono ?_; rintro e w' ⟨rfl, rfl⟩
    go_wp2
    go_ret2
    exact ⟨ret_sb HS.out.symm HB.out.symm, Below.refl _ _⟩

end Go.Proofs.YtadoihddmbbjoaaDoor
