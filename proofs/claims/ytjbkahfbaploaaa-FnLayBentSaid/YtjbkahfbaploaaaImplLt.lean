/-
  impl.Lay.gather, impl.LayText: so many places of a file, out of its objects; a striped file put together again.
-/
import Derived.Test.YtjbkahfbaploaaaLtInv
import Derived.Test.YtjbkahfbaploaaaPartIterG
import Derived.Test.YtjbkahfbaploaaaPartCollect
import Derived.Test.YtjbkahfbaploaaaRegInvIn
import Derived.Test.YtjbkahfbaploaaaRegCore
import Derived.Test.YtjbkahfbaploaaaSpecLt
import Derived.Test.YtjbkahfbaploaaaRead
import Derived.Test.YtjbkahfbaploaaaConv
import Derived.Test.YtjbkahfbaploaaaSizedNil
import Derived.Sort.LoopGhostIn
namespace Go.Proofs.Ytjbkahfbaploaaa
open Go.RowKit Go.Lib

attribute [local go_sem] Oper.semAt_some

theorem btn_cell {w w1 : World} {b o lo hi : Nat} {v : Value} (hb : Btn lo hi w w1) (hd : b < lo ∨ hi ≤ b) (h : w.cell? ⟨b, o, none⟩ = some v) : w1.cell? ⟨b, o, none⟩ = some v :=
  (World.cell?_of_block (a := ⟨b, o, none⟩) (hb.block b (World.block_lt_of_cell? w _ h) (by omega))).trans h
theorem Box2.btn {w w1 : World} {b lo hi : Nat} {x y : Int} (h : Box2 w b x y) (hb : Btn lo hi w w1) (hd : b < lo ∨ hi ≤ b) : Box2 w1 b x y := by
  have hh := hb.block b (World.block_lt_of_cell? w _ h.1) (by omega)
  obtain ⟨h0, h1, h2, h3⟩ := h
  exact ⟨(World.cell?_of_block (a := ⟨b, 0, none⟩) hh).trans h0, (World.cell?_of_block (a := ⟨b, 1, none⟩) hh).trans h1, (World.frozen?_of_block (a := ⟨b, 0, none⟩) hh).trans h2, (World.frozen?_of_block (a := ⟨b, 1, none⟩) hh).trans h3⟩

set_option maxRecDepth 100000 in
set_option maxHeartbeats 8000000 in
theorem gather_any (size many : Int) (v : Value) (k n : Nat) (S : Nat → List UInt8) (w : World) (h : Vls w v k (sF S)) (hS : ∀ i, i < k → (S i).length ≤ 9000000) (hy : layOkB size many = true) (hzm : many ≤ (k : Int)) (h48 : n ≤ 48) :
    Calls Try.prog 24 #[.agg #[.int .i64 size, .int .i64 many], v, .int .i64 n] w (Nsh w (ltL size many S n) n) := by
  obtain ⟨a, cap, rfl, hcap, hmx, hc⟩ := h
  have HC := Lib.hid hc
  have HS := Lib.hid hS
  have HY := Lib.hid hy
  have HZM := Lib.hid hzm
  clear hc hS hy hzm
  unfold maxLen at hmx
  obtain ⟨W, hW⟩ : ∃ W, (w.alloc (.cells #[.int .i64 size, .int .i64 many] 24)).alloc (.cells #[.slice a k cap] 31) = W := ⟨_, rfl⟩
  have hal : Below w.heap.size w W := by rw [← hW]; exact ((Below.refl _ _).alloc (Nat.le_refl _) _).alloc (by simp) _
  have kl : Box2 W w.heap.size size many := by rw [← hW]; exact (new_box w size many 24).keep ((Below.refl _ _).alloc (Nat.le_refl _) _)
  have ko : W.cell? ⟨w.heap.size + 1, 0, none⟩ = some (.slice a k cap) := by
    rw [← hW]
    simp
  have hsz : w.heap.size + 2 = W.heap.size := by rw [← hW]; simp
  have HBW := Lib.hid hal
  have HKO2 := Lib.hid ko
  have HK2 := Lib.hid kl
  have hws2 : w.heap.size + 1 < W.heap.size := by omega
  clear hal ko hsz kl
  have HSz := Lib.hid (fun W' => sized_nil n W' (by omega))
  refine (callsIn_wide (n := 4)).1 ?_
  refine callsIn_of_wp_marks Try.func24 rfl trivial ?_ rfl
  simp only [Try.ntmps24, List.size_toArray, List.length_cons, List.length_nil, Nat.reduceAdd, Nat.reduceSub, Array.replicate_succ, Array.replicate_zero, List.push_toArray, List.append_toArray, List.nil_append, List.cons_append]
  gi_wp2_with fail
  clear hW
  refine ⟨trivial, (callsIn_wide.2 (HSz.out _)).mono ?_⟩; rintro e w3 ⟨g, rfl, hg, hsh, hb3⟩
  have HK3 := Lib.hid (HK2.out.keep hb3)
  have HKO3 := Lib.hid (cell_keep hb3 HKO2.out)
  have HBW3 := Lib.hid (HBW.out.trans (hb3.mono HBW.out.size))
  have HSH3 := Lib.hid hsh
  have hws3 := Nat.lt_of_lt_of_le hws2 hb3.size
  have hg3 := hsh.out.lt
  obtain ⟨W4, hW4⟩ : ∃ X, w3.alloc (.cells #[.slice (some ⟨g, 0, none⟩) n n] 53) = X := ⟨_, rfl⟩
  have hb4 : Below w3.heap.size w3 W4 := by rw [← hW4]; exact (Below.refl _ _).alloc (Nat.le_refl _) _
  have HX4 : Hid (W4.cell? ⟨w3.heap.size, 0, none⟩ = some (.slice (some ⟨g, 0, none⟩) n n)) := by rw [← hW4]; exact (Boxed.new w3 53 (.slice (some ⟨g, 0, none⟩) n n)).cell
  have hs4 : w3.heap.size + 1 = W4.heap.size := by rw [← hW4]; simp
  have HK4 := Lib.hid (HK3.out.keep hb4)
  have HKO4 := Lib.hid (cell_keep hb4 HKO3.out)
  have HSH4 := Lib.hid (HSH3.out.keep hb4)
  have HBW4 := Lib.hid (HBW3.out.trans (hb4.mono HBW3.out.size))
  have HS4 := Lib.hid hs4
  obtain ⟨k1, k2, -, -⟩ := id HK4.out
  have HPT := Lib.hid (fun W' => parts_any size many 0 n W')
  clear hsh hb3 HBW HKO2 hb4 hs4 HK2
  gi_wp2_with fail
  clear hW4
  refine ⟨trivial, (callsIn_wide.2 (HPT.out _)).mono ?_⟩; rintro e w5 ⟨rfl, hw5⟩
  have hb5 : Below W4.heap.size W4 w5 := by rw [hw5]; exact ((Below.refl _ _).alloc (Nat.le_refl _) _).alloc (by simp) _
  have bL : Box2 w5 W4.heap.size size many := by rw [hw5]; exact (new_box W4 size many 24).keep ((Below.refl _ _).alloc (Nat.le_refl _) _)
  have bS : Box2 w5 (W4.heap.size + 1) 0 n := by
    rw [hw5]
    simpa using new_box (W4.alloc (.cells #[.int .i64 size, .int .i64 many] 24)) 0 n 36
  have hs5 : W4.heap.size + 2 = w5.heap.size := by rw [hw5]; simp
  have hs4 := HS4.out
  have HSH5 := Lib.hid (HSH4.out.keep hb5)
  have HBW5 := Lib.hid (HBW4.out.trans (hb5.mono HBW4.out.size))
  have HX5 := Lib.hid (cell_keep hb5 HX4.out)
  have HKO5 := Lib.hid (cell_keep hb5 HKO4.out)
  have hsg := HSH5.out.lt
  clear hw5 hb5 k1 k2 HPT HSH4 HBW4 HX4 HKO4 HK4 HSH3 HKO3 HK3 HBW3
  gi_wp2_with fail
  refine wpIn_rangeFunc_ownH rfl (by omega) (gf := 54) (lb := #[.pointer (some ⟨W4.heap.size + 1, 0, none⟩), .pointer (some ⟨W4.heap.size, 0, none⟩)]) rfl trivial (enters_of Try.func54 (by kernel_rfl) rfl)
    (parts_stopsG (4 - 1) (by omega) (W4.heap.size + 1) W4.heap.size g w5.heap.size size many 0 n HY.out (Int.le_refl _) (by omega) (by omega) w5 bS bL (by omega) (by omega) (by omega) (by omega)) Kpg.trans (Kpg.put (Nat.le_refl _)) (Below.refl _ _) (fun _ => rfl)
    (fun pre W' => (∃ L, ShtW W' g L ∧ LInv size many S n (pre.map (fun x => x.1)) L) ∧ Kpg g w5.heap.size w5 W')
    (fun _ _ _ => False)
    (OwnFrom.and (shtW_own (fun (pre : List (GPart size many n)) L => LInv size many S n (pre.map (fun x => x.1)) L)) (kpg_from (Nat.le_refl _)))
    (fun _ => fun _ _ _ _ h => h.elim)
    ⟨⟨_, HSH5.out, LInv.start _ _ _ _⟩, Kpg.refl _ _ _⟩
    (fun x a' W' => ∃ Bx, w5.heap.size ≤ Bx ∧ W'.heap[Bx]? = some (.cells #[.int .i64 x.1.1, .int .i64 x.1.2.1, .int .i64 x.1.2.2.1, .int .i64 x.1.2.2.2] 59 (0, 0)) ∧ a' = { tmps := #[.agg #[.int .i64 size, .int .i64 many], .slice a k cap, .int .i64 n, .pointer (some ⟨w.heap.size, 0, none⟩), .pointer (some ⟨w.heap.size + 1, 0, none⟩), undef, .slice none 0 0, .pointer (some ⟨w3.heap.size, 0, none⟩), .pointer (some ⟨Bx, 0, none⟩), .int .i64 n, .slice (some ⟨g, 0, none⟩) n n, .agg #[.int .i64 size, .int .i64 many], .int .i64 n, .agg #[.int .i64 0, .int .i64 n], .func (.func 54) #[] #[.pointer (some ⟨W4.heap.size + 1, 0, none⟩), .pointer (some ⟨W4.heap.size, 0, none⟩)], .agg #[.int .i64 x.1.1, .int .i64 x.1.2.1, .int .i64 x.1.2.2.1, .int .i64 x.1.2.2.2], undef, undef, undef, undef, undef, undef, undef, undef, undef, undef, undef, undef, undef, undef, undef], defers := [] })
    (fun x a' _ X Y row hs hg hr => by
      obtain ⟨Bx, h1, h2, h3⟩ := hs
      refine ⟨Bx, h1, ?_, h3⟩
      refine (hg.block Bx (Array.getElem?_eq_some_iff.1 h2).1 (fun e => ?_)).trans h2
      obtain ⟨_, o, ho, hc⟩ := hr Bx e.symm
      rw [h2] at ho; cases ho; cases hc)
    ?assign ?body ?done ?stop
  case assign =>
    rintro l pre x W' K ⟨⟨L, hsh, hli⟩, hkp⟩ hK
    have hba : Below W'.heap.size W' (W'.alloc (.cells #[.int .i64 x.1.1, .int .i64 x.1.2.1, .int .i64 x.1.2.2.1, .int .i64 x.1.2.2.2] 59)) := (Below.refl _ _).alloc (Nat.le_refl _) _
    clear HSH5 HBW5 HX5 HKO5 bS bL HC HS HZM
    gi_wp2
    exact hK _ _ ((KeepsOthers.alloc _ _).from _) (Kpg.of_below hba) ⟨⟨L, hsh.keep hba, hli⟩, hkp.trans (Kpg.of_below hba)⟩ ⟨W'.heap.size, hkp.size, World.alloc_heap_new W' _, rfl⟩
  case body =>
    rintro l pre xx a' W' hl ⟨r, hr⟩ ⟨⟨L, hsh, hli⟩, hkp⟩ ⟨Bx, hBx, bX, rfl⟩ hlt
    obtain ⟨O, A, E, F, hxx⟩ : ∃ O A E F, xx.1 = (O, A, E, F) := ⟨_, _, _, _, rfl⟩
    obtain ⟨⟨-, gA, gAE, gE, gsz, gF, gg⟩, gF0⟩ := xx.2
    rw [hxx] at bX gA gAE gE gsz gF gg gF0 ⊢
    dsimp only at gA gAE gE gsz gF gg gF0 bX ⊢
    have HXX := Lib.hid hxx
    clear hxx
    have g0 := gg 0 (Int.le_refl _) (by omega)
    rw [Int.add_zero] at g0
    have bd := at_bd (p := F) HY.out gF0
    rw [g0.1] at bd
    have hzm := HZM.out
    obtain ⟨o, rfl⟩ : ∃ o : Nat, O = o := ⟨O.toNat, by omega⟩
    obtain ⟨p, rfl⟩ : ∃ o : Nat, A = o := ⟨A.toNat, by omega⟩
    obtain ⟨q, rfl⟩ : ∃ o : Nat, E = o := ⟨E.toNat, by omega⟩
    obtain ⟨f, rfl⟩ : ∃ o : Nat, F = o := ⟨F.toNat, by omega⟩
    have hok : o < k := by omega
    obtain ⟨hfit, hli'⟩ := hli.step (o := o) (p := p) (q := q) (f := f) (by omega) (by omega) gg
    obtain ⟨b, off, rfl, hcc⟩ := HC.out (by omega)
    have hbw : b < w.heap.size := World.block_lt_of_cell? w _ (hcc 0 (by omega))
    have hw5 := HBW5.out.size
    have hgw : w.heap.size ≤ g := by omega
    have y0 : W'.cell? ⟨w3.heap.size, 0, none⟩ = some (.slice (some ⟨g, 0, none⟩) n n) := hkp.cell (by omega) (by omega) HX5.out
    have y1 : W'.cell? ⟨w.heap.size + 1, 0, none⟩ = some (.slice (some ⟨b, off, none⟩) k cap) := hkp.cell (by omega) (by omega) HKO5.out
    have y2 : W'.cell? ⟨b, off + o, none⟩ = some (.string (mkB (S o))) := hkp.cell (by omega) (by omega) ((HBW5.out.cell (p := ⟨b, off + o, none⟩) hbw).trans (hcc o hok))
    have y3 : W'.cell? ⟨Bx, 0, none⟩ = some (.int .i64 (o : Int)) := by simp [World.cell?, bX]
    have y4 : W'.cell? ⟨Bx, 1, none⟩ = some (.int .i64 (p : Int)) := by simp [World.cell?, bX]
    have y5 : W'.cell? ⟨Bx, 2, none⟩ = some (.int .i64 (q : Int)) := by simp [World.cell?, bX]
    have y6 : W'.cell? ⟨Bx, 3, none⟩ = some (.int .i64 (f : Int)) := by simp [World.cell?, bX]
    have hfn : f + (q - p) ≤ n := by omega
    have hpq : p < q := by omega
    have hlen := hli.len
    have HSO := HS.out o hok
    have hls := hli'
    have hdl := rdL_len (S o) p q
    have hgW := hsh.lt
    have hkz := hkp.size
    clear HC HZM HY HSH5 HBW5 HX5 HKO5 bS bL hli hcc hbw gg g0 bd hzm bX HS4 hws2 hws3 gA gAE gE gsz gF gF0 HS
    obtain ⟨c, hc⟩ : ∃ c : Nat → Value, c = fun i => (#[.agg #[.int .i64 size, .int .i64 many], .slice (some ⟨b, off, none⟩) k cap, .int .i64 n, .pointer (some ⟨w.heap.size, 0, none⟩), .pointer (some ⟨w.heap.size + 1, 0, none⟩), undef, .slice none 0 0, .pointer (some ⟨w3.heap.size, 0, none⟩), .pointer (some ⟨Bx, 0, none⟩), .int .i64 n, .slice (some ⟨g, 0, none⟩) n n, .agg #[.int .i64 size, .int .i64 many], .int .i64 n, .agg #[.int .i64 0, .int .i64 n], .func (.func 54) #[] #[.pointer (some ⟨W4.heap.size + 1, 0, none⟩), .pointer (some ⟨W4.heap.size, 0, none⟩)], .agg #[.int .i64 (o : Int), .int .i64 (p : Int), .int .i64 (q : Int), .int .i64 (f : Int)]] : Array Value).getD i undef := ⟨_, rfl⟩
    obtain ⟨V, hV⟩ : ∃ V : Nat → Value, V = fun i => (#[.slice (some ⟨g, 0, none⟩) n n, .pointer (some ⟨Bx, 3, none⟩), .int .i64 (f : Int), .slice (some ⟨g, f, none⟩) (n - f) (n - f), .slice (some ⟨b, off, none⟩) k cap, .pointer (some ⟨Bx, 0, none⟩), .int .i64 (o : Int), .pointer (some ⟨b, off + o, none⟩), .string (mkB (S o)), undef, .pointer (some ⟨Bx, 1, none⟩), .agg #[.int .i64 (p : Int), .int .i64 (q : Int)], .string (mkB (rdL (S o) p q))] : Array Value).getD i undef := ⟨_, rfl⟩
    have c3 : c 4 = .pointer (some ⟨w.heap.size + 1, 0, none⟩) := by rw [hc]; rfl
    have c10 : c 7 = .pointer (some ⟨w3.heap.size, 0, none⟩) := by rw [hc]; rfl
    have c11 : c 8 = .pointer (some ⟨Bx, 0, none⟩) := by rw [hc]; rfl
    have V0 : V 0 = .slice (some ⟨g, 0, none⟩) n n := by rw [hV]; rfl
    have V1 : V 1 = .pointer (some ⟨Bx, 3, none⟩) := by rw [hV]; rfl
    have V2 : V 2 = .int .i64 (f : Int) := by rw [hV]; rfl
    have V3 : V 3 = .slice (some ⟨g, f, none⟩) (n - f) (n - f) := by rw [hV]; rfl
    have V4 : V 4 = .slice (some ⟨b, off, none⟩) k cap := by rw [hV]; rfl
    have V5 : V 5 = .pointer (some ⟨Bx, 0, none⟩) := by rw [hV]; rfl
    have V6 : V 6 = .int .i64 (o : Int) := by rw [hV]; rfl
    have V7 : V 7 = .pointer (some ⟨b, off + o, none⟩) := by rw [hV]; rfl
    have V8 : V 8 = .string (mkB (S o)) := by rw [hV]; rfl
    have V10 : V 10 = .pointer (some ⟨Bx, 1, none⟩) := by rw [hV]; rfl
    have V11 : V 11 = .agg #[.int .i64 (p : Int), .int .i64 (q : Int)] := by rw [hV]; rfl
    have V12 : V 12 = .string (mkB (rdL (S o) p q)) := by rw [hV]; rfl
    clear hV
    gi_wp2_with fail
    refine wpIn_region_inv (by kernel_rfl) (by kernel_rfl) (by kernel_rfl) (RgPost V W' (S o) g (splice L f (rdL (S o) p q)) c) ?_ ?_ ?_
    · exact ⟨fun _ => undef, by rw [hc]; rfl, .inl ⟨rfl, (Below.refl _ _).drew, fun j _ _ h => (by cases h), fun h => (by cases h), fun j m _ h => (by cases h)⟩⟩
    · rintro Lq a2 w' i oi ⟨x, rfl, hI⟩ ho hl hall
      have hi : i < 14 := (Array.getElem?_eq_some_iff.1 ho).1
      have hR : Rg V W' (S o) Lq x w' := by
        rcases hI with hI | ⟨h14, -⟩
        · exact hI
        · rw [h14 i hi] at hl; cases hl
      clear hI hc
      have z0 := cell_keep hR.bel y0
      have z1 := cell_keep hR.bel y1
      have z2 := cell_keep hR.bel y2
      have z3 := cell_keep hR.bel y3
      have z4 := cell_keep hR.bel y4
      have z5 := cell_keep hR.bel y5
      have z6 := cell_keep hR.bel y6
      clear y0 y1 y2 y3 y4 y5 y6
      obtain rfl | rfl | rfl | rfl | rfl | rfl | rfl | rfl | rfl | rfl | rfl | rfl | rfl | rfl : i = 0 ∨ i = 1 ∨ i = 2 ∨ i = 3 ∨ i = 4 ∨ i = 5 ∨ i = 6 ∨ i = 7 ∨ i = 8 ∨ i = 9 ∨ i = 10 ∨ i = 11 ∨ i = 12 ∨ i = 13 := by omega
      · obtain rfl := Option.some.inj ho
        have hd : ∀ m ∈ depL 0, Lq m = true := by
          intro m hm; cases hm
        refine wpIn_value (v := .slice (some ⟨g, 0, none⟩) n n) (w' := w') (fun c h => by cases h) ?_ ⟨upd x 0 _, rfl, .inl (hR.pure (by omega) (by omega) V0.symm hd)⟩
        unfold FrL
        go_simp
      · obtain rfl := Option.some.inj ho
        have hd : ∀ m ∈ depL 1, Lq m = true := by
          intro m hm; cases hm
        refine wpIn_value (v := .pointer (some ⟨Bx, 3, none⟩)) (w' := w') (fun c h => by cases h) ?_ ⟨upd x 1 _, rfl, .inl (hR.pure (by omega) (by omega) V1.symm hd)⟩
        unfold FrL
        go_simp
      · obtain rfl := Option.some.inj ho
        have l1 := hall _ (Array.mem_of_getElem? (i := 0) rfl) rfl
        have e1 := (hR.val 1 (by omega) (by omega) l1).trans V1
        have hd : ∀ m ∈ depL 2, Lq m = true := by
          intro m hm
          obtain rfl := List.mem_singleton.1 hm
          exact l1
        clear l1
        refine wpIn_value (v := .int .i64 (f : Int)) (w' := w') (fun c h => by cases h) ?_ ⟨upd x 2 _, rfl, .inl (hR.pure (by omega) (by omega) V2.symm hd)⟩
        unfold FrL
        go_simp
      · obtain rfl := Option.some.inj ho
        have l0 := hall _ (Array.mem_of_getElem? (i := 0) rfl) rfl
        have e0 := (hR.val 0 (by omega) (by omega) l0).trans V0
        have l2 := hall _ (Array.mem_of_getElem? (i := 1) rfl) rfl
        have e2 := (hR.val 2 (by omega) (by omega) l2).trans V2
        have hd : ∀ m ∈ depL 3, Lq m = true := by
          intro m hm
          rcases List.mem_cons.1 hm with rfl | hm
          · exact l0
          · obtain rfl := List.mem_singleton.1 hm
            exact l2
        clear l0 l2
        refine wpIn_value (v := .slice (some ⟨g, f, none⟩) (n - f) (n - f)) (w' := w') (fun c h => by cases h) ?_ ⟨upd x 3 _, rfl, .inl (hR.pure (by omega) (by omega) V3.symm hd)⟩
        unfold FrL
        go_simp
        rw [if_pos (by omega), if_neg (by omega)]
      · obtain rfl := Option.some.inj ho
        have hd : ∀ m ∈ depL 4, Lq m = true := by
          intro m hm; cases hm
        refine wpIn_value (v := .slice (some ⟨b, off, none⟩) k cap) (w' := w') (fun c h => by cases h) ?_ ⟨upd x 4 _, rfl, .inl (hR.pure (by omega) (by omega) V4.symm hd)⟩
        unfold FrL
        go_simp
      · obtain rfl := Option.some.inj ho
        have hd : ∀ m ∈ depL 5, Lq m = true := by
          intro m hm; cases hm
        refine wpIn_value (v := .pointer (some ⟨Bx, 0, none⟩)) (w' := w') (fun c h => by cases h) ?_ ⟨upd x 5 _, rfl, .inl (hR.pure (by omega) (by omega) V5.symm hd)⟩
        unfold FrL
        go_simp
      · obtain rfl := Option.some.inj ho
        have l5 := hall _ (Array.mem_of_getElem? (i := 0) rfl) rfl
        have e5 := (hR.val 5 (by omega) (by omega) l5).trans V5
        have hd : ∀ m ∈ depL 6, Lq m = true := by
          intro m hm
          obtain rfl := List.mem_singleton.1 hm
          exact l5
        clear l5
        refine wpIn_value (v := .int .i64 (o : Int)) (w' := w') (fun c h => by cases h) ?_ ⟨upd x 6 _, rfl, .inl (hR.pure (by omega) (by omega) V6.symm hd)⟩
        unfold FrL
        go_simp
      · obtain rfl := Option.some.inj ho
        have l4 := hall _ (Array.mem_of_getElem? (i := 0) rfl) rfl
        have e4 := (hR.val 4 (by omega) (by omega) l4).trans V4
        have l6 := hall _ (Array.mem_of_getElem? (i := 1) rfl) rfl
        have e6 := (hR.val 6 (by omega) (by omega) l6).trans V6
        have hd : ∀ m ∈ depL 7, Lq m = true := by
          intro m hm
          rcases List.mem_cons.1 hm with rfl | hm
          · exact l4
          · obtain rfl := List.mem_singleton.1 hm
            exact l6
        clear l4 l6
        refine wpIn_value (v := .pointer (some ⟨b, off + o, none⟩)) (w' := w') (fun c h => by cases h) ?_ ⟨upd x 7 _, rfl, .inl (hR.pure (by omega) (by omega) V7.symm hd)⟩
        unfold FrL
        go_simp
      · obtain rfl := Option.some.inj ho
        have l7 := hall _ (Array.mem_of_getElem? (i := 0) rfl) rfl
        have e7 := (hR.val 7 (by omega) (by omega) l7).trans V7
        have hd : ∀ m ∈ depL 8, Lq m = true := by
          intro m hm
          obtain rfl := List.mem_singleton.1 hm
          exact l7
        clear l7
        refine wpIn_value (v := .string (mkB (S o))) (w' := w') (fun c h => by cases h) ?_ ⟨upd x 8 _, rfl, .inl (hR.pure (by omega) (by omega) V8.symm hd)⟩
        unfold FrL
        go_simp
      · obtain rfl := Option.some.inj ho
        have l8 := hall _ (Array.mem_of_getElem? (i := 0) rfl) rfl
        have e8 := (hR.val 8 (by omega) (by omega) l8).trans V8
        have hd : ∀ m ∈ depL 9, Lq m = true := by
          intro m hm
          obtain rfl := List.mem_singleton.1 hm
          exact l8
        clear l8
        obtain ⟨cp, W1, hrun, hst, hbb⟩ := sheet_of' (S o) w'
        refine wpIn_value (v := .slice (some ⟨w'.heap.size, 0, none⟩) (S o).length cp) (w' := W1) (fun c h => by cases h) ?_ ⟨upd x 9 _, rfl, .inl (hR.conv hst hd hbb)⟩
        unfold FrL
        go_simp
      · obtain rfl := Option.some.inj ho
        have hd : ∀ m ∈ depL 10, Lq m = true := by
          intro m hm; cases hm
        refine wpIn_value (v := .pointer (some ⟨Bx, 1, none⟩)) (w' := w') (fun c h => by cases h) ?_ ⟨upd x 10 _, rfl, .inl (hR.pure (by omega) (by omega) V10.symm hd)⟩
        unfold FrL
        go_simp
      · obtain rfl := Option.some.inj ho
        have l10 := hall _ (Array.mem_of_getElem? (i := 0) rfl) rfl
        have e10 := (hR.val 10 (by omega) (by omega) l10).trans V10
        have hd : ∀ m ∈ depL 11, Lq m = true := by
          intro m hm
          obtain rfl := List.mem_singleton.1 hm
          exact l10
        clear l10
        refine wpIn_value (v := .agg #[.int .i64 (p : Int), .int .i64 (q : Int)]) (w' := w') (fun c h => by cases h) ?_ ⟨upd x 11 _, rfl, .inl (hR.pure (by omega) (by omega) V11.symm hd)⟩
        unfold FrL
        go_simp
      · obtain rfl := Option.some.inj ho
        have l9 := hall _ (Array.mem_of_getElem? (i := 0) rfl) rfl
        have e9 := hR.sht l9
        have l11 := hall _ (Array.mem_of_getElem? (i := 1) rfl) rfl
        have e11 := (hR.val 11 (by omega) (by omega) l11).trans V11
        have hd : ∀ m ∈ depL 12, Lq m = true := by
          intro m hm
          rcases List.mem_cons.1 hm with rfl | hm
          · exact l9
          · obtain rfl := List.mem_singleton.1 hm
            exact l11
        clear l9 l11
        refine wpIn_enter 49 #[x 9, .agg #[.int .i64 (p : Int), .int .i64 (q : Int)]] (fun c h => by cases h) ?_ ((read_any _ _ p q hpq w' e9).mono fun e w2 ⟨he, hb⟩ => ⟨_, he, upd x 12 _, rfl, .inl (hR.call (by omega) (by omega) V12.symm hd hb)⟩)
        unfold FrL
        go_simp
      · obtain rfl := Option.some.inj ho
        have l3 := hall _ (Array.mem_of_getElem? (i := 0) rfl) rfl
        have e3 := (hR.val 3 (by omega) (by omega) l3).trans V3
        have l12 := hall _ (Array.mem_of_getElem? (i := 1) rfl) rfl
        have e12 := (hR.val 12 (by omega) (by omega) l12).trans V12
        have hgw := hsh.keep hR.bel
        have hrun := run_copy_row_string (P := Try.prog) w' 53 9 3 5 g f (n - f) (n - f) (mkB (rdL (S o) p q)) (byteCells L).toArray 5 Try.underlying53 (by kernel_rfl) hgw (by rw [mkB_size]; omega) (by rw [mkB_size]; simp [byteCells_length]; omega)
        have hT : (mkB (rdL (S o) p q)).data.toList = rdL (S o) p q := rfl
        rw [mkB_size, hT] at hrun
        have hx : (FrL c x).eval (.tmp 19) = .slice (some ⟨g, f, none⟩) (n - f) (n - f) := e3
        have hy : (FrL c x).eval (.tmp 28) = .string (mkB (rdL (S o) p q)) := e12
        have l9 := hR.clo 12 9 (by simp [depL]) l12
        have l11 := hR.clo 12 11 (by simp [depL]) l12
        have l8 := hR.clo 9 8 (by simp [depL]) l9
        have l7 := hR.clo 8 7 (by simp [depL]) l8
        have l4 := hR.clo 7 4 (by simp [depL]) l7
        have l6 := hR.clo 7 6 (by simp [depL]) l7
        have l5 := hR.clo 6 5 (by simp [depL]) l6
        have l10 := hR.clo 11 10 (by simp [depL]) l11
        have l0 := hR.clo 3 0 (by simp [depL]) l3
        have l2 := hR.clo 3 2 (by simp [depL]) l3
        have l1 := hR.clo 2 1 (by simp [depL]) l2
        have hsp := byteCells_splice L (rdL (S o) p q) f
        refine wpIn_value (v := goInt (rdL (S o) p q).length) (w' := w'.setRow g (byteCells (splice L f (rdL (S o) p q))).toArray) (fun c h => by cases h) (by simp [execOp, resolve, invoke, builtin, hx, hy, hrun, Result.andThen]; rw [← hsp]; unfold splice; simp [byteCells_length]) ⟨upd x 13 _, rfl, .inr ⟨fun j hj => ?_, w', hR.bel, setRow_btnV _ _ _, ?_⟩⟩
        · obtain rfl | rfl | rfl | rfl | rfl | rfl | rfl | rfl | rfl | rfl | rfl | rfl | rfl | rfl : j = 0 ∨ j = 1 ∨ j = 2 ∨ j = 3 ∨ j = 4 ∨ j = 5 ∨ j = 6 ∨ j = 7 ∨ j = 8 ∨ j = 9 ∨ j = 10 ∨ j = 11 ∨ j = 12 ∨ j = 13 := by omega
          all_goals first | rfl | (show lset Lq 13 _ = true; rw [lset_ne (by omega)]; assumption)
        · unfold ShtW
          exact setRow_heap w' g _ _ _ _ hgw
    · rintro Lq a2 w' ⟨x, rfl, hI⟩ hall
      obtain ⟨w0, hb0, hbt, hsh'⟩ : ∃ w0, Below W'.heap.size W' w0 ∧ Btn g (g + 1) w0 w' ∧ ShtW w' g (splice L f (rdL (S o) p q)) := by
        rcases hI with hR | ⟨-, hI⟩
        · have := hR.l13; rw [hall 13 (by decide)] at this; cases this
        · exact hI
      have hsame : ∀ i, i < W'.heap.size → i ≠ g → w'.heap[i]? = W'.heap[i]? := fun i hi hne => (hbt.block i (Nat.lt_of_lt_of_le hi hb0.size) (by omega)).trans (hb0.block i hi)
      have hszz := Nat.le_trans hb0.size hbt.size
      gi_wp2
      refine ⟨⟨hszz, fun i o' hB hk _ => (hsame i (Array.getElem?_eq_some_iff.1 hk).1 (by omega)).trans hk⟩, ⟨hbt.os.trans hb0.os, hbt.tape.trans hb0.tape, hbt.output.trans hb0.output, hszz, fun i hi _ hne => hsame i hi hne⟩, ⟨_, hsh', ?_⟩, hkp.trans ⟨hbt.os.trans hb0.os, hbt.tape.trans hb0.tape, hbt.output.trans hb0.output, hszz, fun i hi _ hne => hsame i hi hne⟩⟩
      rw [List.map_append, List.map_singleton, HXX.out]
      exact hli'
  case done =>
    rintro D ys W' hD hys ⟨⟨L, hsh, hli⟩, hkp⟩ hK
    have hL := hli.end hys HY.out (by omega)
    have hlen := hli.len
    have y0 : W'.cell? ⟨w3.heap.size, 0, none⟩ = some (.slice (some ⟨g, 0, none⟩) n n) := hkp.cell (by omega) (by omega) HX5.out
    have hws5 := HBW5.out.size
    have hbe := HBW5.out.trans (hkp.below (n := w.heap.size) (by omega) hws5 hws5)
    have hgl := hsh.lt
    have HSS := Lib.hid hsh
    have hgw : w.heap.size ≤ g := by omega
    clear HC HZM HY HSH5 HBW5 HX5 HKO5 bS bL hli hkp HS hsh
    gi_wp2
    refine ⟨by simp, .inl ⟨_, _, rfl, run_takeDeferred hK, ?_⟩⟩
    subst hL
    have hne : g ≠ D := fun e => by
      subst e
      have h := HSS.out
      unfold ShtW at h
      rw [hK] at h
      cases h
    refine ⟨.slice (some ⟨g, 0, none⟩) n n, ?_, ⟨g, rfl, hgw, ?_, hbe.trans (belowK_b (w := w) (Nat.le_refl _) W' D _ _ (by omega) hK rfl rfl)⟩⟩
    · simp [results, Try.f24, go_sem]
    · have h := HSS.out
      unfold ShtW at h
      refine Lib.hid ?_
      unfold ShtW
      exact (World.putObj_heap_other (by omega)).trans h
  case stop =>
    rintro D c pre W' hD hpre h hK
    exact h.elim

/-- The row of the lengths, k of them set. -/
abbrev lenF (S : Nat → List UInt8) (k : Nat) : Nat → Value := fun i => if i < k then .int .i64 (lens S i) else .int .i64 0

set_option maxRecDepth 100000 in
set_option maxHeartbeats 8000000 in
theorem implLayText_any (size many : Int) (v : Value) (z : Nat) (S : Nat → List UInt8) (w : World) (h : Vls w v z (sF S)) (hS : ∀ i, i < z → (S i).length ≤ 9000000) (hz : z ≤ 1048576) :
    Calls Try.prog 9 #[.agg #[.int .i64 size, .int .i64 many], v] w fun e w' => e = .returned (.tuple #[.string (mkB (ltS size many S z)), .bool (ltB size many S z)]) ∧ Below w.heap.size w w' := by
  have HVL := Lib.hid h
  obtain ⟨a, cap, rfl, hcap, hmx, hc⟩ := h
  have HC := Lib.hid hc
  have HS := Lib.hid hS
  clear hc hS
  unfold maxLen at hmx
  obtain ⟨i0, hi, hz0, hz1, hz2⟩ := info_parts infoInt
  have hmk := fun w => run_make_row1 (P := Try.prog) 39 3 i0 (.int .i64 0) Try.underlying39 hi hz0 .i64 .i64 z z (Nat.le_refl _) (by rw [hz2]; omega) (by omega) w
  rw [hz1, Nat.mul_one] at hmk
  clear hi hz0 hz1 hz2
  obtain ⟨W, hW⟩ : ∃ W, w.alloc (.cells #[.int .i64 size, .int .i64 many] 24) = W := ⟨_, rfl⟩
  have hal : Below w.heap.size w W := by rw [← hW]; exact (Below.refl _ _).alloc (Nat.le_refl _) _
  have kl : Box2 W w.heap.size size many := by rw [← hW]; exact new_box w size many 24
  have hsz : w.heap.size + 1 = W.heap.size := by rw [← hW]; simp
  obtain ⟨W3, hW3⟩ : ∃ X, W.alloc (.cells (madeCells #[.int .i64 0] z) 3) = X := ⟨_, rfl⟩
  have hm3 : Below W.heap.size W W3 := by rw [← hW3]; exact (Below.refl _ _).alloc (Nat.le_refl _) _
  have hr3 : Row1 W3 W.heap.size z (lenF S 0) := by rw [← hW3]; exact (Row1.made W z (.int .i64 0) 3).congr (fun i _ => by simp)
  have HAL := Lib.hid (hal.trans (hm3.mono hal.size))
  have HKL := Lib.hid (kl.keep hm3)
  have HSZ := Lib.hid hsz
  have HR3 := Lib.hid hr3
  have HS3 : Hid (W.heap.size + 1 = W3.heap.size) := by show _ = _; rw [← hW3]; simp
  clear hal kl hsz hr3 hm3
  go_enter Try.func9, Try.ntmps9
  go_wp2_with fail
  clear hW hW3
  go_loopg [15] z (fun q s17 wr => ∃ k : Nat, q = z - k ∧ k ≤ z ∧ s17 = .int .i64 k ∧ Hid (Row1 wr W.heap.size z (lenF S k)) ∧ Hid (∀ i, i < k → tokB (S i) = true) ∧ Btn W.heap.size (W.heap.size + 1) W3 wr)
  case atStart => exact ⟨0, rfl, Nat.zero_le _, rfl, HR3, Lib.hid (fun i h => absurd h (by omega)), Btn.refl _ _ _⟩
  case round =>
    obtain ⟨k, rfl, hk, rfl, HR, HT, hbt⟩ := hrel
    have hs3 := HS3.out
    have hsw := HSZ.out
    have bw : Below w.heap.size w wr := HAL.out.trans (hbt.below (by omega) HAL.out.size)
    by_cases hlt : k < z
    · obtain ⟨b, off, rfl, hcc⟩ := HC.out (by omega)
      have c1 : wr.cell? ⟨b, off + k, none⟩ = some (.string (mkB (S k))) := cell_keep bw (hcc k hlt)
      obtain ⟨r0, r1⟩ := HR.out k hlt
      have hl := HS.out k hlt
      have htk := fun W' => implTextOk_any (mkB (S k)) (by rw [mkB_size]; omega) W'
      rw [mkB_toList] at htk
      have zz : (mkB (S k)).size = (S k).length := mkB_size _
      clear hcc
      by_cases ht : tokB (S k) = true
      · rw [ht] at htk
        have HTK := Lib.hid htk
        have HT1 : Hid (∀ i, i < k + 1 → tokB (S i) = true) := fun i hi => by
          by_cases e : i = k
          · subst e; exact ht
          · exact HT.out i (by omega)
        have HR1 : Hid (Row1 (wr.setCell ⟨W.heap.size, k, none⟩ (.int .i64 ((S k).length : Int))) W.heap.size z (lenF S (k + 1))) := by
          show Row1 _ _ _ _
          refine (HR.out.set (k := k) hlt).congr fun i hi => ?_
          by_cases e : i = k
          · subst e; rw [if_pos rfl]; simp [lenF, lens]
          · rw [if_neg e]
            by_cases e2 : i < k
            · simp [lenF, e2, show i < k + 1 by omega]
            · simp [lenF, e2, show ¬ i < k + 1 by omega]
        have hbt1 := hbt.trans (btn_set wr W.heap.size k (.int .i64 ((S k).length : Int)))
        clear htk ht HT HR hs3 hsw
        generalize S k = D at *
        go_wp2_with fail
        refine (HTK.out _).mono ?_; rintro e w1 ⟨rfl, rfl⟩
        go_wp2
        go_roundg (z - (k + 1))
        case measure => omega
        case rel => exact ⟨k + 1, rfl, by omega, by go_num, HR1, HT1, hbt1⟩
      · replace ht : tokB (S k) = false := by simpa using ht
        rw [ht] at htk
        have HTK := Lib.hid htk
        have hbad : ltB size many S z = false := ltB_bad hlt ht
        have HB := Lib.hid hbad
        have HSn := Lib.hid (ltS_no hbad)
        clear htk ht HT hbad HR r0 r1 hs3 hsw
        generalize S k = D at *
        go_wp2_with fail
        refine (HTK.out _).mono ?_; rintro e w1 ⟨rfl, rfl⟩
        go_wp2
        exact bodyPost_ret (v := .tuple #[.string ⟨#[]⟩, .bool false]) (by simp [results, Try.results9, go_sem]) rfl ⟨ret_sb HSn.out.symm HB.out.symm, bw⟩
    · obtain rfl : k = z := by omega
      have hv : Vls wr (.slice (some ⟨W.heap.size, 0, none⟩) k k) k (ints (lens S)) := (HR.out.congr (g := ints (lens S)) (fun i hi => by simp [lenF, hi])).vls (Nat.le_refl _) (by unfold maxLen; omega)
      have HL := Lib.hid (fun W' h' => implLayLong_any size many (.slice (some ⟨W.heap.size, 0, none⟩) k k) k (lens S) W' h')
      have HV := Lib.hid hv
      have hkk := ltK_all HT.out
      have k1 := HKL.out.btn hbt (by omega)
      have HK1 := Lib.hid k1
      clear hv HR HT hbt HR3 hmk hs3 hsw HKL
      obtain ⟨x1, x2, -, -⟩ := id k1
      go_wp2_with fail
      refine (HL.out _ HV.out).mono ?_; rintro e w2 ⟨rfl, hb2⟩
      have HK2 := Lib.hid (HK1.out.keep hb2)
      clear x1 x2 k1
      have HBW := Lib.hid (bw.trans (hb2.mono bw.size))
      clear HV HL hb2 bw HK1
      by_cases hneg : ltN size many S k < 0
      · have HB := Lib.hid (ltB_neg hneg)
        have HSn := Lib.hid (ltS_no HB.out)
        have hneg2 : llF size many k (lens S) < 0 := hneg
        clear hneg hkk
        generalize llF size many k (lens S) = n at *
        go_wp2
        exact bodyPost_ret (v := .tuple #[.string ⟨#[]⟩, .bool false]) (by simp [results, Try.results9, go_sem]) rfl ⟨ret_sb HSn.out.symm HB.out.symm, HBW.out⟩
      · have hpos : 0 ≤ ltN size many S k := by omega
        obtain ⟨hy, hzm, h48⟩ := ltN_form hpos
        have hok := ltB_ok hkk hpos
        have HB := Lib.hid hok
        have HSy := Lib.hid (ltS_yes hok)
        have HY := Lib.hid hy
        have hll : llF size many k (lens S) = ltN size many S k := rfl
        rw [hll]
        obtain ⟨n, hn⟩ : ∃ n : Nat, ltN size many S k = n := ⟨(ltN size many S k).toNat, by omega⟩
        rw [hn, Int.toNat_natCast] at HSy
        rw [hn] at h48 ⊢
        have HGa := Lib.hid (gather_any size many _ k n S w2 (HVL.out.keep HBW.out) HS.out hy (by omega) (by omega))
        clear hneg hpos hll hn hkk hok hy hzm HVL HC HS
        obtain ⟨x1, x2, -, -⟩ := id HK2.out
        go_wp2_with fail
        clear x1 x2
        refine HGa.out.mono ?_; rintro e w3 ⟨g, rfl, hg, hsh, hb3⟩
        have hlen := ltL_len size many S n
        obtain ⟨L, hL⟩ : ∃ L, ltL size many S n = L := ⟨_, rfl⟩
        rw [hL] at hsh hlen HSy
        have hconv : (convert 53 9 (.slice (some ⟨g, 0, none⟩) n n)).run Try.prog w3 = .ok (.string (mkB L)) w3 := by
          have := run_convert_bytes_back w3 53 9 5 ⟨g, 0, none⟩ n L Try.underlying53 Try.underlying5 Try.underlying9 (fun j hj => by
            rw [addr_add]; exact hsh.out.cell j hj)
          rw [hlen] at this
          exact this
        have HE := Lib.hid (HBW.out.trans (hb3.mono HBW.out.size))
        clear hb3 hsh hL hg HGa HBW
        go_wp2
        exact bodyPost_ret (v := .tuple #[.string (mkB L), .bool true]) (by simp [results, Try.results9, go_sem]) rfl ⟨ret_sb HSy.out.symm HB.out.symm, HE.out⟩

end Go.Proofs.Ytjbkahfbaploaaa
