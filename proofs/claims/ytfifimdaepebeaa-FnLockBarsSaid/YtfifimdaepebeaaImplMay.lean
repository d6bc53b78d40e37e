/-
  LockMay of the program.
-/
import Derived.Test.YtfifimdaepebeaaLocksOf
import Derived.Deep.RegionHeld3
namespace Go.Proofs.Ytfifimdaepebeaa
open Go.RowKit

attribute [local go_sem] Oper.semAt_some

def whoB (who : Int) : Bool := decide (0 ≤ who ∧ who < 3)
theorem whoB_iff {who : Int} : whoB who = true ↔ 0 ≤ who ∧ who < 3 := by unfold whoB; simp
def wantOf (b : Bool) : Int := if b = true then 2 else 1

set_option maxHeartbeats 400000 in
theorem clientOk_any (who : Int) (w : World) : Calls Try.prog 59 #[.int .i64 who] w fun e w' => e = .returned (.bool (whoB who)) ∧ w = w' := by
  by_cases h1 : 0 ≤ who <;> by_cases h2 : who < 3
  all_goals
    go_enter Try.func59, Try.ntmps59
    go_wp2
    go_ret
    exact ⟨ret_bool (by unfold whoB; simp [h1, h2]), rfl⟩

set_option maxHeartbeats 400000 in
theorem modeOf_any (b : Bool) (w : World) : Calls Try.prog 44 #[.bool b] w fun e w' => e = .returned (.int .i64 (wantOf b)) ∧ w = w' := by
  cases b
  all_goals
    go_enter Try.func44, Try.ntmps44
    go_wp2
    go_ret
    exact ⟨rfl, rfl⟩

/-- May one do something everywhere in a range? -/
def mayN (h : HoldT) (wr : Bool) (lo : Int) : Nat → Bool
  | 0 => true
  | n + 1 => (inB h.2 lo || (!wr && inB h.1 lo)) && mayN h wr (lo + 1) n
def mayB (T : List HoldT) (who : Int) (wr : Bool) (lo hi : Int) : Bool := lockOkB T && (whoB who && (spanOkB lo hi && mayN (T.getD who.toNat hd0) wr lo (hi - lo).toNat))

theorem mayN_iff (h : HoldT) (wr : Bool) : ∀ (n : Nat) (lo : Int), mayN h wr lo n = true ↔ ∀ i : Int, lo ≤ i → i < lo + n → (inB h.2 i || (!wr && inB h.1 i)) = true
  | 0, lo => by
    simp only [mayN, true_iff]
    intro i h1 h2; omega
  | n + 1, lo => by
    simp only [mayN, Bool.and_eq_true, mayN_iff h wr n (lo + 1)]
    constructor
    · rintro ⟨h0, hh⟩ i h1 h2
      by_cases e : i = lo
      · subst e; exact h0
      · exact hh i (by omega) (by omega)
    · intro hh
      exact ⟨hh lo (by omega) (by omega), fun i h1 h2 => hh i (by omega) (by omega)⟩

theorem may_pos {h : HoldT} {wr : Bool} {i : Int} : (inB h.2 i || (!wr && inB h.1 i)) = true ↔ ¬ (mfn h i < wantOf wr) := by
  unfold mfn wantOf
  cases inB h.2 i <;> cases inB h.1 i <;> cases wr <;> simp

def lessB (l : List Int) (want : Int) : Bool := l.any fun m => decide (m < want)
theorem lessB_no {l : List Int} {want : Int} (h : ∀ x ∈ l, ¬ x < want) : lessB l want = false := by
  unfold lessB; rw [List.any_eq_false]; intro x hx; simpa using h x hx
theorem lessB_yes {l p : List Int} {want : Int} (hp : p <+: l) (h : ∃ x ∈ p, x < want) : lessB l want = true := by
  obtain ⟨x, hx, hb⟩ := h
  unfold lessB; rw [List.any_eq_true]
  exact ⟨x, hp.subset hx, by simpa using hb⟩
theorem may_less {R : List RunT} {h : HoldT} (hm : Modes R (mfn h)) {wr : Bool} {lo hi : Int} (hs : spanOkB lo hi = true) : mayN h wr lo (hi - lo).toNat = !lessB (vsR lo hi R) (wantOf wr) := by
  have hs' := spanOkB_iff.1 hs
  have e : lessB (vsR lo hi R) (wantOf wr) = R.any fun r => mtgB lo hi r && decide (r.2.2 < wantOf wr) := by
    unfold lessB vsR
    rw [List.any_map, List.any_filter]; rfl
  have k := any_pos (fun x => decide (x < wantOf wr)) lo hi hs'.2.1 R 0 48 hm.1 (by omega) (by omega)
  rw [← e] at k
  cases hl : lessB (vsR lo hi R) (wantOf wr) with
  | true =>
    rw [Bool.not_true, Bool.eq_false_iff]
    intro c
    obtain ⟨i, h0, h1, h2, h3, h4⟩ := k.1 hl
    have := may_pos.1 ((mayN_iff h wr _ lo).1 c i h2 (by omega))
    rw [hm.2 i h0 h1] at h4
    exact this (by simpa using h4)
  | false =>
    rw [Bool.not_false, mayN_iff]
    intro i h1 h2
    rw [may_pos]
    intro c
    have : lessB (vsR lo hi R) (wantOf wr) = true := k.2 ⟨i, by omega, by omega, h1, by omega, by rw [hm.2 i (by omega) (by omega)]; simpa using c⟩
    rw [hl] at this; cases this

def MyP (w : World) (q : Bool) (e : Ending) (w' : World) : Prop := e = .returned (.bool q) ∧ Below w.heap.size w w'

set_option maxRecDepth 100000 in
set_option maxHeartbeats 8000000 in
theorem implLockMay_any (v : Value) (T : List HoldT) (who : Int) (wr : Bool) (lo hi : Int) (w : World) (h : Hds w v T) :
    Calls Try.prog 20 #[v, .int .i64 who, .bool wr, .agg #[.int .i64 lo, .int .i64 hi]] w fun e w' => e = .returned (.bool (mayB T who wr lo hi)) ∧ Below w.heap.size w w' := by
  refine (callsIn_wide (n := 4)).1 ?_
  refine callsIn_of_wp_marks Try.func20 rfl trivial ?_ rfl
  simp only [Try.ntmps20, List.size_toArray, List.length_cons, List.length_nil, Nat.reduceAdd, Nat.reduceSub, Array.replicate_succ, Array.replicate_zero, List.push_toArray, List.append_toArray, List.nil_append, List.cons_append]
  obtain ⟨W0, hW0⟩ : ∃ W0, ((w.alloc (.cells #[.bool wr] 4)).alloc (.cells #[.int .i64 lo, .int .i64 hi] 25)).alloc (.cells #[.bool false] 4) = W0 := ⟨_, rfl⟩
  have hB0 : Below w.heap.size w W0 := by rw [← hW0]; exact (((Below.refl _ w).alloc (Nat.le_refl _) _).alloc (by simp) _).alloc (by simp; omega) _
  have hsz : W0.heap.size = w.heap.size + 3 := by rw [← hW0]; simp
  have bW : Boxed W0 w.heap.size 4 (.bool wr) := by rw [← hW0]; exact ((Boxed.new w 4 (.bool wr)).alloc _).alloc _
  have bS : Box2 W0 (w.heap.size + 1) lo hi := by
    rw [← hW0]
    have := (new_box (w.alloc (.cells #[.bool wr] 4)) lo hi 25).keep ((Below.refl _ _).alloc (Nat.le_refl _) (.cells #[.bool false] 4))
    simpa using this
  have bR : Boxed W0 (w.heap.size + 1 + 1) 4 (.bool false) := by
    rw [← hW0]
    have := Boxed.new ((w.alloc (.cells #[.bool wr] 4)).alloc (.cells #[.int .i64 lo, .int .i64 hi] 25)) 4 (.bool false)
    simpa using this
  have K := Lib.hid (locksOf_any v T W0 (h.keep hB0))
  have HBW := Lib.hid bW
  have HBS := Lib.hid bS
  have HBR := Lib.hid bR
  have HB0 := Lib.hid hB0
  clear h bW bS bR hB0
  by_cases hq0 : lockOkB T = true
  · by_cases hq1 : whoB who = true
    · by_cases hq2 : spanOkB lo hi = true
      · obtain ⟨w01, w02⟩ := whoB_iff.1 hq1
        obtain ⟨k, rfl⟩ : ∃ k : Nat, who = (k : Int) := ⟨who.toNat, by omega⟩
        have hk : k < 3 := by omega
        have HE : Hid (mayB T (k : Int) wr lo hi = mayN (T.getD k hd0) wr lo (hi - lo).toNat) := by show _ = _; unfold mayB; rw [hq0, hq1, hq2]; rfl
        have HQ2 := Lib.hid hq2
        have C1 := Lib.hid (fun W => clientOk_any (k : Int) W)
        have C2 := Lib.hid (fun W => implSpanOk_any lo hi W)
        rw [hq1] at C1
        rw [hq2] at C2
        have HQ0 := Lib.hid hq0
        clear hq0 hq1 hq2
        gi_wp2_with fail
        clear hW0
        refine ⟨trivial, (callsIn_wide.2 K.out).mono ?_⟩; rintro e w1 hp
        unfold LkPost at hp
        rw [if_pos HQ0.out] at hp
        obtain ⟨vl', gs, cs, Rs, rfl, hown, hN, hb1⟩ := hp
        obtain ⟨gl, cl, rfl, hgl, hcl1, hcl2, hglt, hcc⟩ := own_cell1 hown (by omega)
        have HL := Lib.hid (LkYes.lks hcc hN)
        have HM := Lib.hid ((hN k hk).2.2.1)
        have hgk := (hN k hk).1.lt
        clear hown hN hcc K HQ0
        gi_wp2_with fail
        refine ⟨trivial, (callsIn_wide.2 (C1.out _)).mono ?_⟩; rintro e w' ⟨rfl, rfl⟩
        obtain ⟨s1, s2, -, -⟩ := HBS.out.keep hb1
        gi_wp2_with fail
        refine ⟨trivial, (callsIn_wide.2 (C2.out _)).mono ?_⟩; rintro e w2 ⟨rfl, hb2⟩
        have hb12 := hb1.trans (hb2.mono hb1.size)
        clear s1 s2
        obtain ⟨s1, s2, s3, s4⟩ := HBS.out.keep hb12
        have c1 := ((HL.out.keep hb2) k hk).1
        have hs2 := hb2.size
        gi_wp2_with fail
        refine wpIn_wide.2 ?_
        go_region_held3 (fun w' => w'.cell? ⟨gl, k, none⟩ = some (.slice (some ⟨gs k, 0, none⟩) (Rs k).length (cs k)) ∧ w'.cell? ⟨w.heap.size + 1, 0, none⟩ = some (.int .i64 lo) ∧ w'.cell? ⟨w.heap.size + 1, 1, none⟩ = some (.int .i64 hi))
          (go_keep)
          (first | (go_at_call 61; refine (values_any _ lo hi _ ⟨_, _, _, rfl⟩).mono ?_; rintro e w' ⟨rfl, rfl⟩))
        gi_wp2_with fail
        obtain ⟨w3, hw3⟩ : ∃ w3, ((w2.alloc (.cells #[.slice (some ⟨gs k, 0, none⟩) (Rs k).length (cs k)] 74)).alloc (.cells #[.int .i64 lo, .int .i64 hi] 25)).drew = w3 := ⟨_, rfl⟩
        have hB3 : Below w2.heap.size w2 w3 := by rw [← hw3]; exact (((Below.refl _ w2).alloc (Nat.le_refl _) _).alloc (by simp) _).drew
        have hz3 : w3.heap.size = w2.heap.size + 2 := by rw [← hw3]; show (World.alloc _ _).heap.size = _; simp
        have bO : w3.cell? ⟨w2.heap.size, 0, none⟩ = some (.slice (some ⟨gs k, 0, none⟩) (Rs k).length (cs k)) := by
          rw [← hw3]
          exact ((Boxed.new w2 74 (.slice (some ⟨gs k, 0, none⟩) (Rs k).length (cs k))).alloc _).cell
        have bS3 : Box2 w3 (w2.heap.size + 1) lo hi := by
          rw [← hw3]
          have := new_box (w2.alloc (.cells #[.slice (some ⟨gs k, 0, none⟩) (Rs k).length (cs k)] 74)) lo hi 25
          rw [World.size_alloc] at this
          exact this
        have hO3 := ((HL.out.keep hb2) k hk).2.keep hB3
        have hB13 := hb12.trans (hB3.mono hb12.size)
        have hB03 := HB0.out.trans (hB13.mono HB0.out.size)
        have bW3 : Boxed w3 w.heap.size 4 (.bool wr) := (hB13.block _ (by omega)).trans HBW.out
        have bR3 : Boxed w3 (w.heap.size + 1 + 1) 4 (.bool false) := (hB13.block _ (by omega)).trans HBR.out
        have hz0 := hB03.size
        have hz13 := hB13.size
        simp only [hw3]
        clear hw3 c1 s1 s2 s3 s4
        refine wpIn_rangeFunc_ownH rfl (by omega) (gf := 83) (lb := #[.pointer (some ⟨w2.heap.size, 0, none⟩), .pointer (some ⟨w2.heap.size + 1, 0, none⟩)]) rfl trivial (enters_of Try.func83 (by kernel_rfl) rfl)
          (vals_stops (4 - 1) (by omega) w2.heap.size (w2.heap.size + 1) (gs k) (cs k) w3.heap.size (Rs k) lo hi (by have := HM.out.len; omega) w3 bO bS3 hO3 (by omega) (by omega) (by omega)) belowK_t (belowK_b (Nat.le_refl _)) (Below.refl _ _) (fun _ => rfl)
          (fun pre W => (∀ x ∈ pre, ¬ x < wantOf wr) ∧ Below w3.heap.size w3 W)
          (fun c pre W => ((c = .ret ∧ ∃ x ∈ pre, x < wantOf wr) ∧ Boxed W (w.heap.size + 1 + 1) 4 (.bool false)) ∧ Below w.heap.size w W)
          (OwnFrom.and (ownFrom_pure _ _) (ownFrom_below (Nat.le_refl _) (Nat.le_refl _)))
          (fun c => OwnFrom.and (OwnFrom.and (ownFrom_pure _ _) (Own.from (boxed_own _ _ _) _)) (ownFrom_below (Nat.le_refl _) (by omega)))
          ⟨fun _ h => (by cases h), Below.refl _ _⟩
          (fun x a' _ => a' = { tmps := #[v, .int .i64 k, .bool wr, .agg #[.int .i64 lo, .int .i64 hi], undef, undef, .pointer (some ⟨w.heap.size, 0, none⟩), .pointer (some ⟨w.heap.size + 1, 0, none⟩), .pointer (some ⟨w.heap.size + 1 + 1, 0, none⟩), .slice (some ⟨gl, 0, none⟩) 3 cl, .bool true, .int .i64 x, .tuple #[.slice (some ⟨gl, 0, none⟩) 3 cl, .bool true], v, .tuple #[.slice (some ⟨gl, 0, none⟩) 3 cl, .bool true], .slice (some ⟨gl, 0, none⟩) 3 cl, .bool true, .bool true, .bool false, .bool false, .int .i64 k, .bool true, .bool false, .bool false, .bool false, .agg #[.int .i64 lo, .int .i64 hi], .bool true, .bool false, .bool false, .slice (some ⟨gl, 0, none⟩) 3 cl, .int .i64 k, .pointer (some ⟨gl, k, none⟩), .slice (some ⟨gs k, 0, none⟩) (Rs k).length (cs k), .agg #[.int .i64 lo, .int .i64 hi], .func (.func 83) #[] #[.pointer (some ⟨w2.heap.size, 0, none⟩), .pointer (some ⟨w2.heap.size + 1, 0, none⟩)], .int .i64 x, undef, undef, undef, undef], defers := [] })
          (fun x a' _ X Y row hs hg hr => hs)
          ?assign ?body ?done ?stop
        case assign =>
          rintro l pre x W K hI hK
          gi_wp2
          exact hK _ _ ((KeepsOthers.refl _).from _) (Below.refl _ W) hI rfl
        case body =>
          rintro l pre x a' W hl' hr ⟨hP, hBx⟩ rfl hlt
          have cW := (show Boxed W w.heap.size 4 (.bool wr) from (hBx.block _ (by omega)).trans bW3).cell
          have bRx : Boxed W (w.heap.size + 1 + 1) 4 (.bool false) := (hBx.block _ (by omega)).trans bR3
          have cR := bRx.cell
          have fR := bRx.frozen
          have hBB := hB03.trans (hBx.mono hB03.size)
          have KM := Lib.hid (modeOf_any wr W)
          have HPP := Lib.hid hP
          clear hP
          generalize wantOf wr = wt at *
          by_cases hq : x < wt
          · have HQ := Lib.hid hq
            gi_wp2_with fail
            refine ⟨trivial, (callsIn_wide.2 KM.out).mono ?_⟩; rintro e w' ⟨rfl, rfl⟩
            gi_wp2
            exact ⟨(KeepsOthers.setCell _ _ _).from _, ⟨⟨rfl, x, by simp, HQ.out⟩, bRx.set _⟩, hBB.setCell (p := ⟨w.heap.size + 1 + 1, 0, none⟩) (by show w.heap.size ≤ w.heap.size + 1 + 1; omega) _⟩
          · have HQ := Lib.hid hq
            gi_wp2_with fail
            refine ⟨trivial, (callsIn_wide.2 KM.out).mono ?_⟩; rintro e w' ⟨rfl, rfl⟩
            gi_wp2
            refine ⟨(KeepsOthers.refl _).from _, Below.refl _ _, fun y hy => ?_, hz3 ▸ hBx⟩
            rcases List.mem_append.1 hy with hy | hy
            · exact HPP.out y hy
            · obtain rfl : y = x := by simpa using hy
              exact HQ.out
        case done =>
          rintro D ys W hD rfl ⟨hP, hBx⟩ hK
          have bRx : Boxed W (w.heap.size + 1 + 1) 4 (.bool false) := (hBx.block _ (by omega)).trans bR3
          have cR := bRx.cell
          have fR := bRx.frozen
          have hBB := hB03.trans (hBx.mono hB03.size)
          have HF : Hid (mayB T (k : Int) wr lo hi = true) := by show _ = _; rw [HE.out, may_less HM.out HQ2.out, lessB_no hP]; rfl
          clear hP
          gi_wp2
          have hK' := (KeepsOthers.setCell W ⟨w.heap.size + 1 + 1, 0, none⟩ (.bool true)).same D _ hK rfl
          refine ⟨by simp, .inl ⟨_, _, rfl, run_takeDeferred hK', ?_⟩⟩
          have hc5 := cell_kept (bRx.set (.bool true)).cell (grownBy_putObj' _ D (.deferred none)) (fun r e => by cases e; exact ⟨_, hK', rfl⟩)
          refine ⟨.bool true, ?_, ⟨by rw [HF.out], (hBB.setCell (p := ⟨w.heap.size + 1 + 1, 0, none⟩) (by show w.heap.size ≤ w.heap.size + 1 + 1; omega) _).trans (belowK_b (w := w3) (by omega) _ D _ _ hD hK' rfl rfl)⟩⟩
          simp [results, Try.f20, go_sem, hc5]
        case stop =>
          rintro D c pre W hD hpre ⟨⟨⟨rfl, hx⟩, bRx⟩, hBB⟩ hK
          have HF : Hid (mayB T (k : Int) wr lo hi = false) := by show _ = _; rw [HE.out, may_less HM.out HQ2.out, lessB_yes hpre hx]; rfl
          clear hx
          gi_wp2
          refine ⟨by simp, .inl ⟨_, _, rfl, run_takeDeferred hK, ?_⟩⟩
          have hc5 := cell_kept bRx.cell (grownBy_putObj' _ D (.deferred none)) (fun r e => by cases e; exact ⟨_, hK, rfl⟩)
          refine ⟨.bool false, ?_, ⟨by rw [HF.out], hBB.trans (belowK_b (w := w3) (by omega) W D _ _ hD hK rfl rfl)⟩⟩
          simp [results, Try.f20, go_sem, hc5]
      · replace hq2 : spanOkB lo hi = false := by simpa using hq2
        have HF : Hid (mayB T who wr lo hi = false) := by show _ = _; unfold mayB; rw [hq2]; simp
        have C1 := Lib.hid (fun W => clientOk_any who W)
        have C2 := Lib.hid (fun W => implSpanOk_any lo hi W)
        rw [hq1] at C1
        rw [hq2] at C2
        have HQ0 := Lib.hid hq0
        clear hq0 hq1 hq2
        gi_wp2_with fail
        clear hW0
        refine ⟨trivial, (callsIn_wide.2 K.out).mono ?_⟩; rintro e w1 hp
        unfold LkPost at hp
        rw [if_pos HQ0.out] at hp
        obtain ⟨vl', gs, cs, Rs, rfl, -, -, hb1⟩ := hp
        clear K HQ0
        gi_wp2_with fail
        refine ⟨trivial, (callsIn_wide.2 (C1.out _)).mono ?_⟩; rintro e w' ⟨rfl, rfl⟩
        obtain ⟨s1, s2, -, -⟩ := HBS.out.keep hb1
        gi_wp2_with fail
        refine ⟨trivial, (callsIn_wide.2 (C2.out _)).mono ?_⟩; rintro e w2 ⟨rfl, hb2⟩
        have hb12 := hb1.trans (hb2.mono hb1.size)
        have bRx : Boxed w2 (w.heap.size + 1 + 1) 4 (.bool false) := (hb12.block _ (by omega)).trans HBR.out
        have cR := bRx.cell
        have fR := bRx.frozen
        have hBB := HB0.out.trans (hb12.mono HB0.out.size)
        clear s1 s2
        gi_wp2
        have hc5 := (bRx.set (.bool false)).cell
        refine ⟨.bool false, ?_, ⟨by rw [HF.out], hBB.setCell (p := ⟨w.heap.size + 1 + 1, 0, none⟩) (by show w.heap.size ≤ w.heap.size + 1 + 1; omega) _⟩⟩
        simp [results, Try.f20, go_sem, hc5]
    · replace hq1 : whoB who = false := by simpa using hq1
      have HF : Hid (mayB T who wr lo hi = false) := by show _ = _; unfold mayB; rw [hq1]; simp
      have C1 := Lib.hid (fun W => clientOk_any who W)
      rw [hq1] at C1
      have HQ0 := Lib.hid hq0
      clear hq0 hq1
      gi_wp2_with fail
      clear hW0
      refine ⟨trivial, (callsIn_wide.2 K.out).mono ?_⟩; rintro e w1 hp
      unfold LkPost at hp
      rw [if_pos HQ0.out] at hp
      obtain ⟨vl', gs, cs, Rs, rfl, -, -, hb1⟩ := hp
      clear K HQ0
      gi_wp2_with fail
      refine ⟨trivial, (callsIn_wide.2 (C1.out _)).mono ?_⟩; rintro e w' ⟨rfl, rfl⟩
      have bRx : Boxed w1 (w.heap.size + 1 + 1) 4 (.bool false) := (hb1.block _ (by omega)).trans HBR.out
      have cR := bRx.cell
      have fR := bRx.frozen
      have hBB := HB0.out.trans (hb1.mono HB0.out.size)
      gi_wp2_with fail
      repeat ((first | refine ⟨trivial, ?_⟩ | refine ⟨(fun f h => by cases h), ?_⟩); gi_wp2_with fail)
      gi_wp2
      have hc5 := (bRx.set (.bool false)).cell
      refine ⟨.bool false, ?_, ⟨by rw [HF.out], hBB.setCell (p := ⟨w.heap.size + 1 + 1, 0, none⟩) (by show w.heap.size ≤ w.heap.size + 1 + 1; omega) _⟩⟩
      simp [results, Try.f20, go_sem, hc5]
  · have HQ0 : Hid (lockOkB T = false) := by show _ = _; simpa using hq0
    have HF : Hid (mayB T who wr lo hi = false) := by show _ = _; unfold mayB; rw [HQ0.out]; rfl
    clear hq0
    gi_wp2_with fail
    clear hW0
    refine ⟨trivial, (callsIn_wide.2 K.out).mono ?_⟩; rintro e w1 hp
    unfold LkPost at hp
    rw [if_neg (by rw [HQ0.out]; simp)] at hp
    obtain ⟨rfl, hb1⟩ := hp
    clear K HQ0
    have bRx : Boxed w1 (w.heap.size + 1 + 1) 4 (.bool false) := (hb1.block _ (by omega)).trans HBR.out
    have cR := bRx.cell
    have fR := bRx.frozen
    have hBB := HB0.out.trans (hb1.mono HB0.out.size)
    gi_wp2_with fail
    repeat ((first | refine ⟨trivial, ?_⟩ | refine ⟨(fun f h => by cases h), ?_⟩); gi_wp2_with fail)
    gi_wp2
    have hc5 := (bRx.set (.bool false)).cell
    refine ⟨.bool false, ?_, ⟨by rw [HF.out], hBB.setCell (p := ⟨w.heap.size + 1 + 1, 0, none⟩) (by show w.heap.size ≤ w.heap.size + 1 + 1; omega) _⟩⟩
    simp [results, Try.f20, go_sem, hc5]

end Go.Proofs.Ytfifimdaepebeaa
