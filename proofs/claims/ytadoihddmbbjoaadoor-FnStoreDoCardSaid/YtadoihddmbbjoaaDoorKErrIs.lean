/-
  errors.Is by its contracts where the target is a sentinel; the four sentinels of the program; codeOf.
-/
import Derived.Test.YtadoihddmbbjoaaDoorChecked
import Derived.WalkKit
import Derived.LaidEql
import Derived.Stop.Asserts
import Derived.RowKitTokens
import Derived.Below
import Derived.Lib.Hide
namespace Go.Proofs.YtadoihddmbbjoaaDoor
open Go.RowKit Go.Extern.Stop Go.Stop Go.Extern

theorem isTypeOf (v : Value) (w : World) : (Extern.ReflectliteType.typeOf #[.iface 128 v]).run Tryd.prog w = .ok (.iface 118 (.agg #[.pointer (some ⟨4, 128, none⟩)])) w := by kernel_rfl
theorem isComparable (w : World) : (callFunc 106 #[.agg #[.pointer (some ⟨4, 128, none⟩)]]).run Tryd.prog w = .ok (.value (.bool true)) w := by kernel_rfl
theorem isMethodComparable (v : Value) (w : World) : (Go.method 270 118 v "Comparable").run Tryd.prog w = .ok (106, v) w := by kernel_rfl
theorem isComp : (Tryd.prog.info? 128).map (·.comparable) = some true := by kernel_rfl
theorem isSize : (Tryd.prog.info? 156).map (·.size) = some 1 := by kernel_rfl
theorem noIsE (v : Value) (xT : TypeId) (w : World) : (Instr.typeAssert (.iface 128 v) xT 120 true).run Tryd.prog w = .ok (.tuple #[.nilIface, .bool false]) w := run_typeAssert_lacksB Tryd.underlying120 (by kernel_rfl) (by kernel_rfl) v xT w
theorem noUnwrapE (v : Value) (xT : TypeId) (w : World) : (Instr.typeAssert (.iface 128 v) xT 123 true).run Tryd.prog w = .ok (.tuple #[.nilIface, .bool false]) w := run_typeAssert_lacksB Tryd.underlying123 (by kernel_rfl) (by kernel_rfl) v xT w
theorem noUnwrapsE (v : Value) (xT : TypeId) (w : World) : (Instr.typeAssert (.iface 128 v) xT 125 true).run Tryd.prog w = .ok (.tuple #[.nilIface, .bool false]) w := run_typeAssert_lacksB Tryd.underlying125 (by kernel_rfl) (by kernel_rfl) v xT w

set_option maxRecDepth 100000 in
set_option maxHeartbeats 2000000 in
theorem is_same (a : Addr) (w : World) :
    Calls Tryd.prog 56 #[.iface 128 (.pointer (some a)), .iface 128 (.pointer (some a))] w fun e w' => e = .returned (.bool true) ∧ w = w' := by
  obtain ⟨i, hi, hcmp⟩ := Option.map_eq_some_iff.1 isComp
  obtain ⟨j, hj, hjs⟩ := Option.map_eq_some_iff.1 isSize
  have h8 := @run_callFunc_extern Tryd.prog 79 _ Extern.ReflectliteType.typeOf Tryd.func79 (by kernel_rfl) (by kernel_rfl) (by kernel_rfl) (by kernel_rfl)
  have tT := isTypeOf
  have cT := isComparable
  have mR := isMethodComparable
  have heq := run_eql_iface_ptr_same (P := Tryd.prog) w a Tryd.underlying62 Tryd.underlying128 hi hcmp hj
  go_enter Tryd.func56, Tryd.ntmps56
  go_wp2
  refine wp_loop_rounds 1 ?_
  rw [rounds_succ]
  go_wp2
  go_ret
  exact ⟨rfl, rfl⟩

set_option maxRecDepth 100000 in
set_option maxHeartbeats 2000000 in
theorem is_nil (b : Addr) (w : World) :
    Calls Tryd.prog 56 #[.nilIface, .iface 128 (.pointer (some b))] w fun e w' => e = .returned (.bool false) ∧ w = w' := by
  have hn := run_eql_iface_nil_left (P := Tryd.prog) w 128 (.pointer (some b)) Tryd.underlying62
  go_enter Tryd.func56, Tryd.ntmps56
  go_wp2
  go_ret
  exact ⟨rfl, rfl⟩

set_option maxRecDepth 100000 in
set_option maxHeartbeats 2000000 in
theorem is_other (a b : Addr) (ca cb : Array Value) (ta tb : TypeId) (w : World) (hne : a ≠ b) (ha : w.heap[a.block]? = some (.cells ca ta (0, 0))) (hb : w.heap[b.block]? = some (.cells cb tb (0, 0))) :
    Calls Tryd.prog 56 #[.iface 128 (.pointer (some a)), .iface 128 (.pointer (some b))] w fun e w' => e = .returned (.bool false) ∧ w = w' := by
  obtain ⟨i, hi, hcmp⟩ := Option.map_eq_some_iff.1 isComp
  obtain ⟨j, hj, hjs⟩ := Option.map_eq_some_iff.1 isSize
  have h8 := @run_callFunc_extern Tryd.prog 79 _ Extern.ReflectliteType.typeOf Tryd.func79 (by kernel_rfl) (by kernel_rfl) (by kernel_rfl) (by kernel_rfl)
  have tT := isTypeOf
  have cT := isComparable
  have mR := isMethodComparable
  have nE := noIsE
  have uE := noUnwrapE
  have vE := noUnwrapsE
  have heq := run_eql_iface_ptr_other (P := Tryd.prog) w Tryd.underlying62 Tryd.underlying128 hi hcmp hj (by rw [hjs]; decide) hne ha hb
  go_enter Tryd.func56, Tryd.ntmps56
  go_wp2
  refine wp_loop_rounds 1 ?_
  rw [rounds_succ]
  go_wp2
  go_ret
  exact ⟨rfl, rfl⟩

/-- What a sentinel's variable holds. -/
abbrev errI (a : Addr) : Value := .iface 128 (.pointer (some a))
def Plain (w : World) (a : Addr) : Prop := ∃ c t, w.heap[a.block]? = some (.cells c t (0, 0))
/-- The four sentinels, each another one. -/
structure Snt (w : World) (a0 a1 a2 a3 : Addr) : Prop where
  c0 : w.cell? ⟨0, 0, none⟩ = some (errI a0)
  c1 : w.cell? ⟨1, 0, none⟩ = some (errI a1)
  c2 : w.cell? ⟨2, 0, none⟩ = some (errI a2)
  c3 : w.cell? ⟨3, 0, none⟩ = some (errI a3)
  p0 : Plain w a0
  p1 : Plain w a1
  p2 : Plain w a2
  p3 : Plain w a3
  n01 : a0 ≠ a1
  n02 : a0 ≠ a2
  n03 : a0 ≠ a3
  n12 : a1 ≠ a2
  n13 : a1 ≠ a3
  n23 : a2 ≠ a3
theorem Plain.keep {w w1 : World} {a : Addr} (h : Plain w a) (hb : Below w.heap.size w w1) : Plain w1 a := by
  obtain ⟨c, t, h⟩ := h
  exact ⟨c, t, (hb.block a.block (Array.getElem?_eq_some_iff.1 h).1).trans h⟩
theorem Snt.keep {w w1 : World} {a0 a1 a2 a3 : Addr} (h : Snt w a0 a1 a2 a3) (hb : Below w.heap.size w w1) : Snt w1 a0 a1 a2 a3 :=
  { h with c0 := (hb.cell (World.block_lt_of_cell? w _ h.c0)).trans h.c0, c1 := (hb.cell (World.block_lt_of_cell? w _ h.c1)).trans h.c1, c2 := (hb.cell (World.block_lt_of_cell? w _ h.c2)).trans h.c2, c3 := (hb.cell (World.block_lt_of_cell? w _ h.c3)).trans h.c3, p0 := h.p0.keep hb, p1 := h.p1.keep hb, p2 := h.p2.keep hb, p3 := h.p3.keep hb }
theorem is_ne (a b : Addr) (w : World) (hne : a ≠ b) (ha : Plain w a) (hb : Plain w b) :
    Calls Tryd.prog 56 #[errI a, errI b] w fun e w' => e = .returned (.bool false) ∧ w = w' := by
  obtain ⟨ca, ta, ha⟩ := ha
  obtain ⟨cb, tb, hb⟩ := hb
  exact is_other a b ca cb ta tb w hne ha hb

/-- The error of a code. -/
def errV (a0 a1 a2 a3 : Addr) (c : Int) : Value := if c = 1 then errI a0 else if c = 2 then errI a1 else if c = 3 then errI a2 else if c = 4 then errI a3 else .nilIface

set_option maxHeartbeats 2000000 in
theorem codeOf_any (a0 a1 a2 a3 : Addr) (c : Int) (w : World) (h : Snt w a0 a1 a2 a3) (hc : 0 ≤ c ∧ c ≤ 4) :
    Calls Tryd.prog 29 #[errV a0 a1 a2 a3 c] w fun e w' => e = .returned (.int .i64 c) ∧ w = w' := by
  have k0 := h.c0
  have k1 := h.c1
  have k2 := h.c2
  have k3 := h.c3
  obtain rfl | rfl | rfl | rfl | rfl : c = 0 ∨ c = 1 ∨ c = 2 ∨ c = 3 ∨ c = 4 := by omega
  · show Calls _ _ #[.nilIface] _ _
    have H := Lib.hid h
    clear h hc
    go_enter Tryd.func29, Tryd.ntmps29
    iterate 4
      go_wp2_with fail
      refine (is_nil _ _).mono ?_; rintro e w' ⟨rfl, rfl⟩
    go_wp2
    go_ret
    exact ⟨rfl, rfl⟩
  · show Calls _ _ #[errI a0] _ _
    have H := Lib.hid h
    clear h hc
    go_enter Tryd.func29, Tryd.ntmps29
    go_wp2_with fail
    refine (is_same _ _).mono ?_; rintro e w' ⟨rfl, rfl⟩
    go_wp2
    go_ret
    exact ⟨rfl, rfl⟩
  · show Calls _ _ #[errI a1] _ _
    have H := Lib.hid h
    clear h hc
    go_enter Tryd.func29, Tryd.ntmps29
    go_wp2_with fail
    refine (is_ne _ _ _ H.out.n01.symm H.out.p1 H.out.p0).mono ?_; rintro e w' ⟨rfl, rfl⟩
    go_wp2_with fail
    refine (is_same _ _).mono ?_; rintro e w' ⟨rfl, rfl⟩
    go_wp2
    go_ret
    exact ⟨rfl, rfl⟩
  · show Calls _ _ #[errI a2] _ _
    have H := Lib.hid h
    clear h hc
    go_enter Tryd.func29, Tryd.ntmps29
    go_wp2_with fail
    refine (is_ne _ _ _ H.out.n02.symm H.out.p2 H.out.p0).mono ?_; rintro e w' ⟨rfl, rfl⟩
    go_wp2_with fail
    refine (is_ne _ _ _ H.out.n12.symm H.out.p2 H.out.p1).mono ?_; rintro e w' ⟨rfl, rfl⟩
    go_wp2_with fail
    refine (is_same _ _).mono ?_; rintro e w' ⟨rfl, rfl⟩
    go_wp2
    go_ret
    exact ⟨rfl, rfl⟩
  · show Calls _ _ #[errI a3] _ _
    have H := Lib.hid h
    clear h hc
    go_enter Tryd.func29, Tryd.ntmps29
    go_wp2_with fail
    refine (is_ne _ _ _ H.out.n03.symm H.out.p3 H.out.p0).mono ?_; rintro e w' ⟨rfl, rfl⟩
    go_wp2_with fail
    refine (is_ne _ _ _ H.out.n13.symm H.out.p3 H.out.p1).mono ?_; rintro e w' ⟨rfl, rfl⟩
    go_wp2_with fail
    refine (is_ne _ _ _ H.out.n23.symm H.out.p3 H.out.p2).mono ?_; rintro e w' ⟨rfl, rfl⟩
    go_wp2_with fail
    refine (is_same _ _).mono ?_; rintro e w' ⟨rfl, rfl⟩
    go_wp2
    go_ret
    exact ⟨rfl, rfl⟩

end Go.Proofs.YtadoihddmbbjoaaDoor
