/-
  The model's l5Req: whether a request can be one of any store.
-/
import Derived.Test.YtadoihddmbbjoaaDoorKStoFenB
import Derived.Test.YtadoihddmbbjoaaDoorKDoMath
import Derived.Test.YtadoihddmbbjoaaDoorKSpecWrite
namespace Go.Proofs.YtadoihddmbbjoaaDoor
open Go.RowKit

/-- A request as a value. -/
abbrev rqA (q : ReqT) : Array Value := #[.int .i64 q.who, .int .i64 q.ep, .int .i64 q.num, .int .i64 q.obj, .int .i64 q.pos, .string (mkB q.data)]
/-- A box that holds a request. -/
def Box6 (w : World) (b : Nat) (q : ReqT) : Prop :=
  w.cell? ⟨b, 0, none⟩ = some (.int .i64 q.who) ∧ w.cell? ⟨b, 1, none⟩ = some (.int .i64 q.ep) ∧ w.cell? ⟨b, 2, none⟩ = some (.int .i64 q.num) ∧ w.cell? ⟨b, 3, none⟩ = some (.int .i64 q.obj) ∧ w.cell? ⟨b, 4, none⟩ = some (.int .i64 q.pos) ∧ w.cell? ⟨b, 5, none⟩ = some (.string (mkB q.data))
theorem Box6.same {w w1 : World} {b : Nat} {q : ReqT} (h : Box6 w b q) (hh : w1.heap[b]? = w.heap[b]?) : Box6 w1 b q :=
  ⟨(World.cell?_of_block (a := ⟨b, 0, none⟩) hh).trans h.1, (World.cell?_of_block (a := ⟨b, 1, none⟩) hh).trans h.2.1, (World.cell?_of_block (a := ⟨b, 2, none⟩) hh).trans h.2.2.1, (World.cell?_of_block (a := ⟨b, 3, none⟩) hh).trans h.2.2.2.1, (World.cell?_of_block (a := ⟨b, 4, none⟩) hh).trans h.2.2.2.2.1, (World.cell?_of_block (a := ⟨b, 5, none⟩) hh).trans h.2.2.2.2.2⟩
theorem Box6.keep {w w1 : World} {b : Nat} {q : ReqT} (h : Box6 w b q) (hb : Below w.heap.size w w1) : Box6 w1 b q := h.same (hb.block b (World.block_lt_of_cell? w _ h.1))
theorem Box6.btn {w w1 : World} {b lo hi : Nat} {q : ReqT} (h : Box6 w b q) (hb : Btn lo hi w w1) (hd : b < lo ∨ hi ≤ b) : Box6 w1 b q := h.same (hb.block b (World.block_lt_of_cell? w _ h.1) (by omega))
theorem new_box6 (w : World) (q : ReqT) (T : TypeId) : Box6 (w.alloc (.cells (rqA q) T)) w.heap.size q := ⟨by go_simp, by go_simp, by go_simp, by go_simp, by go_simp, by go_simp⟩

theorem rqB_no {who ep num obj pos : Int} {data : List UInt8} (h : cliB who = false ∨ ep < 0 ∨ 100 < ep ∨ num < 1 ∨ 1000 < num ∨ obj < 0 ∨ 3 ≤ obj ∨ pos < 0 ∨ 48 < pos ∨ tokB data = false ∨ data = [] ∨ 48 < pos + data.length) : rqB ⟨who, ep, num, obj, pos, data⟩ = false := by
  cases hq : rqB ⟨who, ep, num, obj, pos, data⟩ with
  | false => rfl
  | true =>
    exfalso
    obtain ⟨⟨a1, a2⟩, ⟨b1, b2⟩, ⟨n1, n2⟩, ⟨o1, o2⟩, hw⟩ := rqB_iff.1 hq
    obtain ⟨p1, p2, p3, p4⟩ := wokB_iff.1 hw
    dsimp only at *
    have hc : cliB who = true := decide_eq_true ⟨a1, a2⟩
    rcases h with h | h | h | h | h | h | h | h | h | h | h | h
    · rw [hc] at h; cases h
    · omega
    · omega
    · omega
    · omega
    · omega
    · omega
    · omega
    · omega
    · rw [p3] at h; cases h
    · exact p2 h
    · omega
theorem rqB_yes {who ep num obj pos : Int} {data : List UInt8} (h0 : cliB who = true) (h1 : ¬ ep < 0) (h2 : ¬ 100 < ep) (h3 : ¬ num < 1) (h4 : ¬ 1000 < num) (h5 : ¬ obj < 0) (h6 : ¬ 3 ≤ obj) (h7 : ¬ pos < 0) (h8 : ¬ 48 < pos) (h9 : tokB data = true) (ha : ¬ data = []) (hb : ¬ 48 < pos + data.length) : rqB ⟨who, ep, num, obj, pos, data⟩ = true :=
  rqB_iff.2 ⟨of_decide_eq_true h0, ⟨by dsimp only; omega, by dsimp only; omega⟩, ⟨by dsimp only; omega, by dsimp only; omega⟩, ⟨by dsimp only; omega, by dsimp only; omega⟩, wokB_iff.2 ⟨by dsimp only; omega, ha, h9, by dsimp only; omega⟩⟩

set_option maxRecDepth 100000 in
set_option maxHeartbeats 8000000 in
theorem l5Req_any (q : ReqT) (hd : q.data.length ≤ 9000000) (w : World) :
    Calls Tryd.prog 53 #[.agg (rqA q)] w fun e w' => e = .returned (.bool (rqB q)) ∧ Below w.heap.size w w' := by
  obtain ⟨who, ep, num, obj, pos, data⟩ := q
  obtain ⟨W, hW⟩ : ∃ W, w.alloc (.cells (rqA ⟨who, ep, num, obj, pos, data⟩) 34) = W := ⟨_, rfl⟩
  have hal : Below w.heap.size w W := by rw [← hW]; exact (Below.refl _ _).alloc (Nat.le_refl _) _
  have B0 : Box6 W w.heap.size ⟨who, ep, num, obj, pos, data⟩ := by rw [← hW]; exact new_box6 w _ _
  have E_0 := Lib.hid hal
  have b_0 := Lib.hid B0
  have KW := Lib.hid (fun w => l4WhoV_any who w)
  have htk := fun W => specTextOk_any (mkB data) (by rw [mkB_size]; dsimp only at hd; omega) W
  have ht0 : (mkB data).data.toList = data := rfl
  rw [ht0] at htk
  have KT := Lib.hid htk
  have zd : (mkB data).size = data.length := mkB_size data
  dsimp only at hd ⊢
  clear hal B0 htk ht0
  by_cases c1 : cliB who = true
  · rw [c1] at KW
    by_cases c2 : ep < 0
    · have g1 : decide (ep < 0) = true := by simp; omega
      have h := c2
      have hq : rqB ⟨who, ep, num, obj, pos, data⟩ = false := rqB_no (.inr (.inl h))
      rw [hq]
      go_enter Tryd.func53, Tryd.ntmps53
      obtain ⟨x0, x1, x2, x3, x4, x5⟩ := b_0.out
      go_wp2_with fail
      clear hW
      refine (KW.out _).mono ?_; rintro e w1 ⟨rfl, hb⟩
      have b_1 := Lib.hid (b_0.out.keep hb)
      have E_1 := Lib.hid (E_0.out.trans (hb.mono E_0.out.size))
      clear x0 x1 x2 x3 x4 x5 hb b_0 E_0
      obtain ⟨x0, x1, x2, x3, x4, x5⟩ := b_1.out
      go_wp2
      go_ret
      exact ⟨rfl, E_1.out⟩
    · have g1 : decide (ep < 0) = false := by simp; omega
      by_cases c3 : 100 < ep
      · have g2 : decide (100 < ep) = true := by simp; omega
        have h := c3
        have hq : rqB ⟨who, ep, num, obj, pos, data⟩ = false := rqB_no (.inr (.inr (.inl h)))
        rw [hq]
        go_enter Tryd.func53, Tryd.ntmps53
        obtain ⟨x0, x1, x2, x3, x4, x5⟩ := b_0.out
        go_wp2_with fail
        clear hW
        refine (KW.out _).mono ?_; rintro e w1 ⟨rfl, hb⟩
        have b_1 := Lib.hid (b_0.out.keep hb)
        have E_1 := Lib.hid (E_0.out.trans (hb.mono E_0.out.size))
        clear x0 x1 x2 x3 x4 x5 hb b_0 E_0
        obtain ⟨x0, x1, x2, x3, x4, x5⟩ := b_1.out
        go_wp2
        go_ret
        exact ⟨rfl, E_1.out⟩
      · have g2 : decide (100 < ep) = false := by simp; omega
        by_cases c4 : num < 1
        · have g3 : decide (num < 1) = true := by simp; omega
          have h := c4
          have hq : rqB ⟨who, ep, num, obj, pos, data⟩ = false := rqB_no (.inr (.inr (.inr (.inl h))))
          rw [hq]
          go_enter Tryd.func53, Tryd.ntmps53
          obtain ⟨x0, x1, x2, x3, x4, x5⟩ := b_0.out
          go_wp2_with fail
          clear hW
          refine (KW.out _).mono ?_; rintro e w1 ⟨rfl, hb⟩
          have b_1 := Lib.hid (b_0.out.keep hb)
          have E_1 := Lib.hid (E_0.out.trans (hb.mono E_0.out.size))
          clear x0 x1 x2 x3 x4 x5 hb b_0 E_0
          obtain ⟨x0, x1, x2, x3, x4, x5⟩ := b_1.out
          go_wp2
          go_ret
          exact ⟨rfl, E_1.out⟩
        · have g3 : decide (num < 1) = false := by simp; omega
          by_cases c5 : 1000 < num
          · have g4 : decide (1000 < num) = true := by simp; omega
            have h := c5
            have hq : rqB ⟨who, ep, num, obj, pos, data⟩ = false := rqB_no (.inr (.inr (.inr (.inr (.inl h)))))
            rw [hq]
            go_enter Tryd.func53, Tryd.ntmps53
            obtain ⟨x0, x1, x2, x3, x4, x5⟩ := b_0.out
            go_wp2_with fail
            clear hW
            refine (KW.out _).mono ?_; rintro e w1 ⟨rfl, hb⟩
            have b_1 := Lib.hid (b_0.out.keep hb)
            have E_1 := Lib.hid (E_0.out.trans (hb.mono E_0.out.size))
            clear x0 x1 x2 x3 x4 x5 hb b_0 E_0
            obtain ⟨x0, x1, x2, x3, x4, x5⟩ := b_1.out
            go_wp2
            go_ret
            exact ⟨rfl, E_1.out⟩
          · have g4 : decide (1000 < num) = false := by simp; omega
            by_cases c6 : obj < 0
            · have g5 : decide (obj < 0) = true := by simp; omega
              have h := c6
              have hq : rqB ⟨who, ep, num, obj, pos, data⟩ = false := rqB_no (.inr (.inr (.inr (.inr (.inr (.inl h))))))
              rw [hq]
              go_enter Tryd.func53, Tryd.ntmps53
              obtain ⟨x0, x1, x2, x3, x4, x5⟩ := b_0.out
              go_wp2_with fail
              clear hW
              refine (KW.out _).mono ?_; rintro e w1 ⟨rfl, hb⟩
              have b_1 := Lib.hid (b_0.out.keep hb)
              have E_1 := Lib.hid (E_0.out.trans (hb.mono E_0.out.size))
              clear x0 x1 x2 x3 x4 x5 hb b_0 E_0
              obtain ⟨x0, x1, x2, x3, x4, x5⟩ := b_1.out
              go_wp2
              go_ret
              exact ⟨rfl, E_1.out⟩
            · have g5 : decide (obj < 0) = false := by simp; omega
              by_cases c7 : 3 ≤ obj
              · have g6 : decide (3 ≤ obj) = true := by simp; omega
                have h := c7
                have hq : rqB ⟨who, ep, num, obj, pos, data⟩ = false := rqB_no (.inr (.inr (.inr (.inr (.inr (.inr (.inl h)))))))
                rw [hq]
                go_enter Tryd.func53, Tryd.ntmps53
                obtain ⟨x0, x1, x2, x3, x4, x5⟩ := b_0.out
                go_wp2_with fail
                clear hW
                refine (KW.out _).mono ?_; rintro e w1 ⟨rfl, hb⟩
                have b_1 := Lib.hid (b_0.out.keep hb)
                have E_1 := Lib.hid (E_0.out.trans (hb.mono E_0.out.size))
                clear x0 x1 x2 x3 x4 x5 hb b_0 E_0
                obtain ⟨x0, x1, x2, x3, x4, x5⟩ := b_1.out
                go_wp2
                go_ret
                exact ⟨rfl, E_1.out⟩
              · have g6 : decide (3 ≤ obj) = false := by simp; omega
                by_cases c8 : pos < 0
                · have g7 : decide (0 ≤ pos) = false := by simp; omega
                  have h := c8
                  have hq : rqB ⟨who, ep, num, obj, pos, data⟩ = false := rqB_no (.inr (.inr (.inr (.inr (.inr (.inr (.inr (.inl h))))))))
                  rw [hq]
                  go_enter Tryd.func53, Tryd.ntmps53
                  obtain ⟨x0, x1, x2, x3, x4, x5⟩ := b_0.out
                  go_wp2_with fail
                  clear hW
                  refine (KW.out _).mono ?_; rintro e w1 ⟨rfl, hb⟩
                  have b_1 := Lib.hid (b_0.out.keep hb)
                  have E_1 := Lib.hid (E_0.out.trans (hb.mono E_0.out.size))
                  clear x0 x1 x2 x3 x4 x5 hb b_0 E_0
                  obtain ⟨x0, x1, x2, x3, x4, x5⟩ := b_1.out
                  go_wp2
                  go_ret
                  exact ⟨rfl, E_1.out⟩
                · have g7 : decide (0 ≤ pos) = true := by simp; omega
                  by_cases c9 : 48 < pos
                  · have g8 : decide (pos ≤ 48) = false := by simp; omega
                    have h := c9
                    have hq : rqB ⟨who, ep, num, obj, pos, data⟩ = false := rqB_no (.inr (.inr (.inr (.inr (.inr (.inr (.inr (.inr (.inl h)))))))))
                    rw [hq]
                    go_enter Tryd.func53, Tryd.ntmps53
                    obtain ⟨x0, x1, x2, x3, x4, x5⟩ := b_0.out
                    go_wp2_with fail
                    clear hW
                    refine (KW.out _).mono ?_; rintro e w1 ⟨rfl, hb⟩
                    have b_1 := Lib.hid (b_0.out.keep hb)
                    have E_1 := Lib.hid (E_0.out.trans (hb.mono E_0.out.size))
                    clear x0 x1 x2 x3 x4 x5 hb b_0 E_0
                    obtain ⟨x0, x1, x2, x3, x4, x5⟩ := b_1.out
                    go_wp2
                    go_ret
                    exact ⟨rfl, E_1.out⟩
                  · have g8 : decide (pos ≤ 48) = true := by simp; omega
                    by_cases ca : tokB data = true
                    · rw [ca] at KT
                      by_cases cb : data = []
                      · have q1 : ((mkB data).toList == []) = true := by rw [mkB_toList']; simpa using cb
                        have q2 : ((mkB data).toList != []) = false := by rw [mkB_toList']; simpa using cb
                        have h := cb
                        have hq : rqB ⟨who, ep, num, obj, pos, data⟩ = false := rqB_no (.inr (.inr (.inr (.inr (.inr (.inr (.inr (.inr (.inr (.inr (.inl h)))))))))))
                        rw [hq]
                        clear h hq cb
                        go_enter Tryd.func53, Tryd.ntmps53
                        obtain ⟨x0, x1, x2, x3, x4, x5⟩ := b_0.out
                        go_wp2_with fail
                        clear hW
                        refine (KW.out _).mono ?_; rintro e w1 ⟨rfl, hb⟩
                        have b_1 := Lib.hid (b_0.out.keep hb)
                        have E_1 := Lib.hid (E_0.out.trans (hb.mono E_0.out.size))
                        clear x0 x1 x2 x3 x4 x5 hb b_0 E_0
                        obtain ⟨x0, x1, x2, x3, x4, x5⟩ := b_1.out
                        go_wp2_with fail
                        refine (KT.out _).mono ?_; rintro e w2 ⟨rfl, rfl⟩
                        go_wp2
                        go_ret
                        exact ⟨rfl, E_1.out⟩
                      · have q1 : ((mkB data).toList == []) = false := by rw [mkB_toList']; simpa using cb
                        have q2 : ((mkB data).toList != []) = true := by rw [mkB_toList']; simpa using cb
                        by_cases cc : 48 < pos + data.length
                        · have g11 : decide (pos + (data.length : Int) ≤ 48) = false := by simp; omega
                          have h := cc
                          have j1 : IntKind.i64.wrap (pos + (data.length : Int)) = pos + (data.length : Int) := IntWalk.i64_in _ (by omega)
                          have hq : rqB ⟨who, ep, num, obj, pos, data⟩ = false := rqB_no (.inr (.inr (.inr (.inr (.inr (.inr (.inr (.inr (.inr (.inr (.inr (h))))))))))))
                          rw [hq]
                          go_enter Tryd.func53, Tryd.ntmps53
                          obtain ⟨x0, x1, x2, x3, x4, x5⟩ := b_0.out
                          go_wp2_with fail
                          clear hW
                          refine (KW.out _).mono ?_; rintro e w1 ⟨rfl, hb⟩
                          have b_1 := Lib.hid (b_0.out.keep hb)
                          have E_1 := Lib.hid (E_0.out.trans (hb.mono E_0.out.size))
                          clear x0 x1 x2 x3 x4 x5 hb b_0 E_0
                          obtain ⟨x0, x1, x2, x3, x4, x5⟩ := b_1.out
                          go_wp2_with fail
                          refine (KT.out _).mono ?_; rintro e w2 ⟨rfl, rfl⟩
                          go_wp2
                          go_ret
                          exact ⟨rfl, E_1.out⟩
                        · have g11 : decide (pos + (data.length : Int) ≤ 48) = true := by simp; omega
                          have j1 : IntKind.i64.wrap (pos + (data.length : Int)) = pos + (data.length : Int) := IntWalk.i64_in _ (by omega)
                          have hq : rqB ⟨who, ep, num, obj, pos, data⟩ = true := rqB_yes c1 c2 c3 c4 c5 c6 c7 c8 c9 ca cb cc
                          rw [hq]
                          go_enter Tryd.func53, Tryd.ntmps53
                          obtain ⟨x0, x1, x2, x3, x4, x5⟩ := b_0.out
                          go_wp2_with fail
                          clear hW
                          refine (KW.out _).mono ?_; rintro e w1 ⟨rfl, hb⟩
                          have b_1 := Lib.hid (b_0.out.keep hb)
                          have E_1 := Lib.hid (E_0.out.trans (hb.mono E_0.out.size))
                          clear x0 x1 x2 x3 x4 x5 hb b_0 E_0
                          obtain ⟨x0, x1, x2, x3, x4, x5⟩ := b_1.out
                          go_wp2_with fail
                          refine (KT.out _).mono ?_; rintro e w2 ⟨rfl, rfl⟩
                          go_wp2
                          go_ret
                          exact ⟨rfl, E_1.out⟩
                    · have h : tokB data = false := by simpa using ca
                      rw [h] at KT
                      have hq : rqB ⟨who, ep, num, obj, pos, data⟩ = false := rqB_no (.inr (.inr (.inr (.inr (.inr (.inr (.inr (.inr (.inr (.inl h))))))))))
                      rw [hq]
                      go_enter Tryd.func53, Tryd.ntmps53
                      obtain ⟨x0, x1, x2, x3, x4, x5⟩ := b_0.out
                      go_wp2_with fail
                      clear hW
                      refine (KW.out _).mono ?_; rintro e w1 ⟨rfl, hb⟩
                      have b_1 := Lib.hid (b_0.out.keep hb)
                      have E_1 := Lib.hid (E_0.out.trans (hb.mono E_0.out.size))
                      clear x0 x1 x2 x3 x4 x5 hb b_0 E_0
                      obtain ⟨x0, x1, x2, x3, x4, x5⟩ := b_1.out
                      go_wp2_with fail
                      refine (KT.out _).mono ?_; rintro e w2 ⟨rfl, rfl⟩
                      go_wp2
                      go_ret
                      exact ⟨rfl, E_1.out⟩
  · have h : cliB who = false := by simpa using c1
    rw [h] at KW
    have hq : rqB ⟨who, ep, num, obj, pos, data⟩ = false := rqB_no (.inl h)
    rw [hq]
    go_enter Tryd.func53, Tryd.ntmps53
    obtain ⟨x0, x1, x2, x3, x4, x5⟩ := b_0.out
    go_wp2_with fail
    clear hW
    refine (KW.out _).mono ?_; rintro e w1 ⟨rfl, hb⟩
    have b_1 := Lib.hid (b_0.out.keep hb)
    have E_1 := Lib.hid (E_0.out.trans (hb.mono E_0.out.size))
    clear x0 x1 x2 x3 x4 x5 hb b_0 E_0
    obtain ⟨x0, x1, x2, x3, x4, x5⟩ := b_1.out
    go_wp2
    go_ret
    exact ⟨rfl, E_1.out⟩

end Go.Proofs.YtadoihddmbbjoaaDoor
