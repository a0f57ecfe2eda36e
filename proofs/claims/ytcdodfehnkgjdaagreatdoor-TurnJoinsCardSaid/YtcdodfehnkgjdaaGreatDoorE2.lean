/- Contracts of sweep.within and runs: the runs of a set within a span, as an iterator. -/
import Derived.Test.YtcdodfehnkgjdaaGreatDoorE1
import Derived.Deep.RegionWith
namespace Go.Proofs.YtcdodfehnkgjdaaGreatDoor
open Go.RowKit

set_option maxHeartbeats 400000 in
theorem within_any (A : Option Addr) (n c : Nat) (lo hi : Int) (w : World) :
    Calls Tryz.prog 75 #[.agg #[.slice A n c], sv2 lo hi] w fun e w' => e = .returned (.func (.func 84) #[] #[.pointer (some ⟨w.heap.size + 1, 0, none⟩), .pointer (some ⟨w.heap.size, 0, none⟩)]) ∧
      w' = (w.alloc (.cells #[.slice A n c] 124)).alloc (.cells #[.int .i64 lo, .int .i64 hi] 45) := by
  go_enter Tryz.func75, Tryz.ntmps75
  go_wp2_with fail
  go_ret
  exact ⟨rfl, rfl⟩

set_option maxHeartbeats 400000 in
theorem runs_any (A : Option Addr) (n c : Nat) (A' : Option Addr) (n' c' : Nat) (lo hi : Int) (w : World) :
    Calls Tryz.prog 55 #[.agg #[.slice A n c, .slice A' n' c'], sv2 lo hi] w fun e w' => e = .returned (.func (.func 73) #[] #[.pointer (some ⟨w.heap.size, 0, none⟩), .pointer (some ⟨w.heap.size + 1, 0, none⟩)]) ∧
      w' = (w.alloc (.cells #[.slice A n c, .slice A' n' c'] 25)).alloc (.cells #[.int .i64 lo, .int .i64 hi] 45) := by
  go_enter Tryz.func55, Tryz.ntmps55
  go_wp2_with fail
  go_ret
  exact ⟨rfl, rfl⟩

/-- Two blocks of two cells each. -/
abbrev FourC (gs gx : Nat) (a b c d : Value) (W : World) : Prop :=
  W.cell? ⟨gs, 0, none⟩ = some a ∧ W.cell? ⟨gs, 1, none⟩ = some b ∧ W.cell? ⟨gx, 0, none⟩ = some c ∧ W.cell? ⟨gx, 1, none⟩ = some d
def FourD (gs gx : Nat) (a b c d : Value) (W : World) : Prop := FourC gs gx a b c d W
theorem FourD.out {gs gx : Nat} {a b c d : Value} {W : World} (h : FourD gs gx a b c d W) : FourC gs gx a b c d W := h
theorem FourD.below {gs gx B : Nat} {a b c d : Value} {W W' : World} (h : FourD gs gx a b c d W) (hb : Below B W W') (hB : W.heap.size ≤ B) : FourD gs gx a b c d W' := by
  obtain ⟨h1, h2, h3, h4⟩ := h.out
  exact ⟨(hb.cell (p := ⟨gs, 0, none⟩) (Nat.lt_of_lt_of_le (World.block_lt_of_cell? _ _ h1) hB)).trans h1, (hb.cell (p := ⟨gs, 1, none⟩) (Nat.lt_of_lt_of_le (World.block_lt_of_cell? _ _ h2) hB)).trans h2,
    (hb.cell (p := ⟨gx, 0, none⟩) (Nat.lt_of_lt_of_le (World.block_lt_of_cell? _ _ h3) hB)).trans h3, (hb.cell (p := ⟨gx, 1, none⟩) (Nat.lt_of_lt_of_le (World.block_lt_of_cell? _ _ h4) hB)).trans h4⟩
theorem FourD.drew {gs gx : Nat} {a b c d : Value} {W : World} (h : FourD gs gx a b c d W) : FourD gs gx a b c d W.drew := h

/-- The runs that have come when a loop over a set's runs stops. -/
def SomeRuns (xs : List Lot) (lo hi : Int) (p : List S2) : Prop := ∃ k : Nat, lo + k ≤ hi + 1 ∧ p = spn (setB xs) lo k
def AllRuns (xs : List Lot) (lo hi : Int) (p : List S2) : Prop := p = spn (setB xs) lo (hi + 1 - lo).toNat

/-- The loop's own rounds, by the runs that have come. -/
theorem roundsOf {l : Nat} {xs : List Lot} {lo hi : Int} {J Jx : List Nat → List S2 → World → Prop}
    (hY : ∀ O pre x W1, J O pre W1 → SomeRuns xs lo hi (pre ++ [x]) → YieldAt Fence.wide 2 Tryz.prog l #[sv2 x.1 x.2] W1 fun e W' =>
      (e = .returned (.bool true) ∧ J O (pre ++ [x]) W' ∧ Keeps O W1 W') ∨ (e = .returned (.bool false) ∧ Jx O (pre ++ [x]) W')) : RoundsOf l xs lo hi J Jx := by
  intro O k k' a b W1 _ _ _ hk he hj
  have := hY O _ (a, b) W1 hj ⟨k', hk, he.symm⟩
  rw [← he] at this
  exact this

theorem runs_core (l : Nat) (bs : List Nat) (xs : List Lot) (A : Option Addr) (c : Nat) (lo hi : Int) (J Jx : List Nat → List S2 → World → Prop) (W w1 : World)
    (hok : ∀ x ∈ xs, x.ok) (hn : xs.length ≤ 64) (hfr : Fresh W.heap.size bs xs w1) (hpt : Ptrs bs A w1) (hb : Below W.heap.size W w1) (hg : ∀ g, A = some ⟨g, 0, none⟩ → W.heap.size ≤ g ∧ g < w1.heap.size)
    (h0 : J [] [] W) (hJ : ∀ O O' s W1 W2, J O s W1 → GrownL O W1 W2 → Claims O O' W1 W2 → J O' s W2) (hY : RoundsOf l xs lo hi J Jx)
    (h2 : 0 ≤ lo) (h3 : lo ≤ hi + 1) (h4 : hi ≤ 1048576) :
    Calls Tryz.prog 84 #[.func (.yield l) #[] #[], .pointer (some ⟨w1.heap.size + 1, 0, none⟩), .pointer (some ⟨w1.heap.size, 0, none⟩)]
      ((w1.alloc (.cells #[.slice A bs.length c] 124)).alloc (.cells #[.int .i64 lo, .int .i64 hi] 45)) (SeqPost (AllRuns xs lo hi) (SomeRuns xs lo hi) J Jx) := by
  obtain ⟨gl, hgl1, hgl2⟩ : ∃ gl : List Nat, (∀ g, A = some ⟨g, 0, none⟩ → g ∈ gl) ∧ ∀ g ∈ gl, W.heap.size ≤ g ∧ g < w1.heap.size := by
    by_cases h : ∃ g, A = some ⟨g, 0, none⟩
    · obtain ⟨g, e⟩ := h
      exact ⟨[g], (fun g' e' => by rw [e] at e'; simp at e'; simp [e']), (fun g' h' => by simp at h'; subst h'; exact hg g' e)⟩
    · exact ⟨[], (fun g e => absurd ⟨g, e⟩ h), (fun g h' => by cases h')⟩
  have hsz := hb.size
  have hB2 := below_two w1 (.cells #[.slice A bs.length c] 124) (.cells #[.int .i64 lo, .int .i64 hi] 45)
  have hbs := hfr.2.2.1
  have hlen := hfr.1
  have hj1 : J ((w1.heap.size + 1) :: w1.heap.size :: (gl ++ bs)) [] ((w1.alloc (.cells #[.slice A bs.length c] 124)).alloc (.cells #[.int .i64 lo, .int .i64 hi] 45)) := by
    refine hJ [] _ [] W _ h0 (GrownL.of_below (hb.trans (hB2.mono hb.size))) ?_
    intro o ho
    right
    rcases List.mem_cons.1 ho with rfl | ho
    · exact ⟨by omega, by simp⟩
    rcases List.mem_cons.1 ho with rfl | ho
    · exact ⟨by omega, by simp; omega⟩
    rcases List.mem_append.1 ho with ho | ho
    · have := hgl2 o ho; exact ⟨this.1, by simp; omega⟩
    · have := hbs o ho; exact ⟨this.1, by simp; omega⟩
  refine (within1_any l bs xs A c (w1.heap.size + 1) w1.heap.size 0 lo hi _ J Jx _ hok (fun b hb => by simp [hb]) (by simp) (by simp) (fun hm => by have := (hbs _ hm).2; omega) (fun hm => by have := (hbs _ hm).2; omega) (fun g e => by simp [hgl1 g e]) hJ hY (hfr.lanes.grown hB2) (hpt.grown (GrownL.of_below hB2)) h2 h2 h3 h4 (by omega) ?_ ?_ ?_ hj1).mono ?_
  · simp [go_sem]
  · simp [go_sem]
  · simp [go_sem]
  · rintro e w5 ⟨hv, ⟨O, q, _, hj, _⟩ | ⟨O, k, hk, hj⟩⟩
    · exact ⟨hv, .inl ⟨O, _, rfl, hj⟩⟩
    · exact ⟨hv, .inr ⟨O, _, ⟨k, hk, rfl⟩, hj⟩⟩

set_option maxHeartbeats 4000000 in
set_option maxRecDepth 1000000 in
theorem runs_seq (gs gx : Nat) (A : Option Addr) (n c : Nat) (A' : Option Addr) (n' c' : Nat) (ts : List T3) (ss : List S2) (lo hi : Int) (w0 : World)
    (hok : AllOk ts ss) (k1 : ts.length ≤ 24) (k2 : ss.length ≤ 40) (hrm : RM w0.heap.size (.agg #[.slice A n c, .slice A' n' c']) ts ss w0)
    (hs0 : w0.cell? ⟨gs, 0, none⟩ = some (.slice A n c)) (hs1 : w0.cell? ⟨gs, 1, none⟩ = some (.slice A' n' c'))
    (hx0 : w0.cell? ⟨gx, 0, none⟩ = some (.int .i64 lo)) (hx1 : w0.cell? ⟨gx, 1, none⟩ = some (.int .i64 hi))
    (h2 : 0 ≤ lo) (h3 : lo ≤ hi + 1) (h4 : hi ≤ 1048576) :
    SeqO Tryz.prog 73 #[.pointer (some ⟨gs, 0, none⟩), .pointer (some ⟨gx, 0, none⟩)] (fun x : S2 => #[sv2 x.1 x.2]) (AllRuns (lotsOf ts ss) lo hi) (SomeRuns (lotsOf ts ss) lo hi) w0 := by
  intro l J Jx W hW h0 hJ hJx hY
  have HOK := Lib.hid (lotsOf_ok hok)
  have HN : Hid ((lotsOf ts ss).length ≤ 64) := Lib.hid (by simp [lotsOf]; omega)
  have C := Lib.hid fun (W' : World) (hb : Below W.heap.size W W') => sweepOf_any (.agg #[.slice A n c, .slice A' n' c']) ts ss W' (hrm.up (Nat.le_trans hW.size hb.size) (hW.trans (hb.mono hW.size))) k1 k2
  have F0 : FourD gs gx (.slice A n c) (.slice A' n' c') (.int .i64 lo) (.int .i64 hi) W := FourD.below (W := w0) ⟨hs0, hs1, hx0, hx1⟩ hW (Nat.le_refl _)
  have F0' := Lib.hid F0
  obtain ⟨y0, y1, z0, z1⟩ := F0
  have hlx : gx < W.heap.size := World.block_lt_of_cell? _ _ z0
  have HY := Lib.hid hY
  have HJ := Lib.hid hJ
  have H0 := Lib.hid h0
  clear hY hJ hJx h0 hs0 hs1 hx0 hx1 hrm hok
  go_enter Tryz.func73, Tryz.ntmps73
  go_wp2_with fail
  go_region_with (first
      | (go_at_call 74; refine (C.out _ (Below.refl _ _).drew).mono ?_; rintro e w1 ⟨bs, A1, c1, rfl, hfr, hpt, hb1, hg1⟩; have F1 := F0'.out.drew.below hb1 (Nat.le_refl _); have F1' := Lib.hid F1; obtain ⟨y0', y1', z0', z1'⟩ := F1; have HFR := Lib.hid hfr; have HPT := Lib.hid hpt; have HB1 := Lib.hid ((Below.refl _ W).drew.trans hb1); have HG1 := Lib.hid hg1; clear hfr hpt hb1 hg1)
      | (go_at_call 75; refine (within_any _ _ _ _ _ _).mono ?_; rintro e w2 ⟨rfl, rfl⟩)
      | (go_loud (refine (runs_core l bs (lotsOf ts ss) A1 c1 lo hi J Jx W w1 HOK.out HN.out HFR.out HPT.out HB1.out HG1.out H0.out HJ.out (roundsOf HY.out) h2 h3 h4).mono ?_; rintro e w5 h5; have H5 := Lib.hid h5; obtain ⟨⟨ve, rfl⟩, -⟩ := h5)))
  all_goals (refine bodyPost_ret (results_none rfl _ _ _) rfl ?_; obtain ⟨-, h6⟩ := H5.out; exact ⟨⟨_, rfl⟩, h6⟩)
end Go.Proofs.YtcdodfehnkgjdaaGreatDoor
