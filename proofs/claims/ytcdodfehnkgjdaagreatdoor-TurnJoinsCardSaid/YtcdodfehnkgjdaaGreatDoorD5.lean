/- Contract of sweep.next: the first run of the set within a span. -/
import Derived.Test.YtcdodfehnkgjdaaGreatDoorD4
import Derived.Test.YtcdodfehnkgjdaaGreatDoorMM
namespace Go.Proofs.YtcdodfehnkgjdaaGreatDoor
open Go.RowKit

/-- Where the sweep stands behind it. -/
def NextPost (bs : List Nat) (xs : List Lot) (lo hi : Int) (w : World) (e : Ending) (w' : World) : Prop :=
  ∃ a b q, RunIs (fun m => ∃ x ∈ xs, x.has m) lo hi a b ∧ lo ≤ q ∧ q ≤ b + 1 ∧ q ≤ max lo hi ∧ e = .returned (sv2 a b) ∧ Lanes bs xs q w' ∧ GrownL bs w w'

theorem foldl_mn_le (l : List Int) : ∀ (s : Int), l.foldl mn s ≤ s ∧ (∀ x ∈ l, l.foldl mn s ≤ x) ∧ (l.foldl mn s = s ∨ l.foldl mn s ∈ l) := by
  induction l with
  | nil => intro s; exact ⟨Int.le_refl _, by simp, .inl rfl⟩
  | cons y l ih =>
    intro s
    obtain ⟨h1, h2, h3⟩ := ih (mn s y)
    have hm : mn s y ≤ s ∧ mn s y ≤ y ∧ (mn s y = s ∨ mn s y = y) := by unfold mn; split <;> omega
    simp only [List.foldl_cons]
    refine ⟨by omega, ?_, ?_⟩
    · intro x hx
      rcases List.mem_cons.1 hx with rfl | hx
      · omega
      · exact h2 x hx
    · rcases h3 with h3 | h3
      · rcases hm.2.2 with e | e
        · exact .inl (h3.trans e)
        · exact .inr (by rw [h3, e]; exact List.mem_cons_self ..)
      · exact .inr (List.mem_cons_of_mem _ h3)

/-- What the least over lanes says of the set. -/
theorem leastLo_spec {xs : List Lot} (hok : ∀ x ∈ xs, x.ok) {n : Int} (hn : n ≤ 1048577) :
    n ≤ leastLo xs n ∧ (∀ m, n ≤ m → m < leastLo xs n → m ≤ 1048576 → ¬ ∃ x ∈ xs, x.has m) ∧ (leastLo xs n ≤ 1048576 → ∃ x ∈ xs, x.has (leastLo xs n)) := by
  unfold leastLo
  obtain ⟨h1, h2, h3⟩ := foldl_mn_le (xs.map fun x => mx (x.lo n) n) 1099511627776
  generalize (xs.map fun x => mx (x.lo n) n).foldl mn 1099511627776 = M at *
  have hge : n ≤ M := by
    rcases h3 with e | e
    · omega
    · obtain ⟨x, _, rfl⟩ := List.mem_map.1 e
      unfold mx; split <;> omega
  refine ⟨hge, ?_, ?_⟩
  · rintro m m0 m1 m2 ⟨x, hx, hh⟩
    have := h2 _ (List.mem_map.2 ⟨x, hx, rfl⟩)
    have s := (Lot.spec (hok x hx) n hn).2.1 m m0
    unfold mx at this
    split at this
    · omega
    · exact s (by omega) m2 hh
  · intro hM
    rcases h3 with e | e
    · omega
    · obtain ⟨x, hx, hxe⟩ := List.mem_map.1 e
      obtain ⟨s0, s1, s2⟩ := Lot.spec (hok x hx) n hn
      have s : mx (x.lo n) n = M := hxe
      unfold mx at s
      refine ⟨x, hx, s2 M ?_ ?_ hM⟩
      · split at s <;> omega
      · split at s
        · omega
        · rename_i c
          -- the run begins at M, and does not end ahead of it
          obtain ⟨k, a, b, c'⟩ := x
          have ho := hok _ hx
          cases k
          · simp only [Lot.lo, Lot.hi, sFrom, sFromHi, Lot.ok, SOk, Bool.false_eq_true, if_false] at *
            split at s <;> split <;> omega
          · simp only [Lot.lo, Lot.hi, Lot.ok, TOk, if_true] at *
            omega

theorem not_mem_of_lanes {bs : List Nat} {xs : List Lot} {P : Int} {w : World} (h : Lanes bs xs P w) {g : Nat} (hg : w.heap.size ≤ g) : g ∉ bs := by
  intro hm
  obtain ⟨k, hk⟩ := List.mem_iff_getElem?.1 hm
  have hkb := (List.getElem?_eq_some_iff.1 hk).1
  obtain ⟨lo, hi, l1, _⟩ := h.2.2 k _ (xs[k]'(by have := h.1; omega)) hk (List.getElem?_eq_getElem (by have := h.1; omega))
  have := l1.lt
  omega

theorem Lanes.far {bs : List Nat} {xs : List Lot} {n : Int} {w : World} (h : Lanes bs xs n w) {g i : Nat} (hg : g ∉ bs) (v : Value) : Lanes bs xs n (w.setCell ⟨g, i, none⟩ v) :=
  ⟨h.1, h.2.1, fun k b x h1 h2 => by
    obtain ⟨lo, hi, l1, l2⟩ := h.2.2 k b x h1 h2
    exact ⟨lo, hi, l1.same (Below.heap_setCell w ⟨g, i, none⟩ v b (fun e => hg (by have e' : b = g := e; rw [← e']; exact List.mem_of_getElem? h1))), l2⟩⟩
theorem GrownL.far {bs : List Nat} {w w' : World} (h : GrownL bs w w') {g i : Nat} (hg : w.heap.size ≤ g) (v : Value) : GrownL bs w (w'.setCell ⟨g, i, none⟩ v) :=
  ⟨h.os, h.tape, h.output, by simpa [go_sem] using h.size, fun k hk hn => (Below.heap_setCell w' ⟨g, i, none⟩ v k (by show k ≠ g; omega)).trans (h.block k hk hn)⟩
theorem GrownL.drew' {bs : List Nat} {w w' : World} (h : GrownL bs w w') : GrownL bs w w'.drew := ⟨h.os, h.tape, h.output, h.size, h.block⟩
theorem Lanes.drew' {bs : List Nat} {xs : List Lot} {n : Int} {w : World} (h : Lanes bs xs n w) : Lanes bs xs n w.drew := h

/-- The blocks that sweep.next makes first, and reads. -/
abbrev NX (w : World) (A : Option Addr) (n c : Nat) (lo hi : Int) (W : World) : Prop :=
  W.cell? ⟨w.heap.size, 0, none⟩ = some (.slice A n c) ∧ W.cell? ⟨w.heap.size + 1, 0, none⟩ = some (.int .i64 lo) ∧ W.cell? ⟨w.heap.size + 1, 1, none⟩ = some (.int .i64 hi)
def NXd (w : World) (A : Option Addr) (n c : Nat) (lo hi : Int) (W : World) : Prop := NX w A n c lo hi W
theorem NXd.out {w W : World} {A : Option Addr} {n c : Nat} {lo hi : Int} (h : NXd w A n c lo hi W) : NX w A n c lo hi W := h
theorem NXd.far {w W : World} {A : Option Addr} {n c : Nat} {lo hi : Int} (h : NXd w A n c lo hi W) {i : Nat} (v : Value) : NXd w A n c lo hi (W.setCell ⟨w.heap.size + 1 + 1, i, none⟩ v) := by
  obtain ⟨a, b, d⟩ := h.out
  refine ⟨?_, ?_, ?_⟩
  · exact (World.cell?_setCell_other W _ _ v (fun e => by have := congrArg Addr.block e; simp at this; omega)).trans a
  · exact (World.cell?_setCell_other W _ _ v (fun e => by have := congrArg Addr.block e; simp at this)).trans b
  · exact (World.cell?_setCell_other W _ _ v (fun e => by have := congrArg Addr.block e; simp at this)).trans d

set_option maxHeartbeats 4000000 in
set_option maxRecDepth 100000 in
theorem sweepNext_any (bs : List Nat) (xs : List Lot) (A : Option Addr) (c : Nat) (P lo hi : Int) (w : World) (hok : ∀ x ∈ xs, x.ok) (h : Lanes bs xs P w) (hp : Ptrs bs A w) (h1 : P ≤ lo) (h2 : 0 ≤ lo) (h3 : lo ≤ 1048577) (h4 : hi ≤ 1048576) (hlen : bs.length ≤ 100) :
    Calls Tryz.prog 85 #[.agg #[.slice A bs.length c], sv2 lo hi] w (NextPost bs xs lo hi w) := by
  have LS := Lib.hid (leastLo_spec hok h3)
  have hB3 : Below w.heap.size w (((w.alloc (.cells #[.slice A bs.length c] 124)).alloc (.cells #[.int .i64 lo, .int .i64 hi] 45)).alloc (.cells #[.int .i64 0, .int .i64 0] 45)) :=
    (((Below.refl _ _).alloc (Nat.le_refl _) _).alloc (by simp) _).alloc (by simp; omega) _
  have G0 := GrownL.of_below (bs := bs) hB3
  have C := Lib.hid (leastLane_any bs xs A c (w.heap.size + 1) P lo _ hok (h.grown hB3) (hp.grown G0) h1 h2 h3 (by simp [go_sem]) (not_mem_of_lanes h (by omega)) hlen)
  have HNB := Lib.hid fun g hg => not_mem_of_lanes h (g := g) hg
  have HP := Lib.hid hp
  have HOK := Lib.hid hok
  have HG0 := Lib.hid G0
  clear h hp hok hB3 G0 h1
  generalize leastLo xs lo = M at *
  go_enter Tryz.func85, Tryz.ntmps85
  go_wp2_with fail
  refine C.out.mono ?_
  rintro e w1 ⟨rfl, hl1, g1⟩
  have HL1 := Lib.hid hl1
  have G1 := Lib.hid (HG0.out.trans g1)
  have k0 := g1.cell (p := ⟨w.heap.size, 0, none⟩) (v := .slice A bs.length c) (by simp [go_sem]) (HNB.out _ (Nat.le_refl _))
  have k1 := g1.cell (p := ⟨w.heap.size + 1, 0, none⟩) (v := .int .i64 lo) (by simp [go_sem]) (HNB.out _ (by simp))
  have k2 := g1.cell (p := ⟨w.heap.size + 1, 1, none⟩) (v := .int .i64 hi) (by simp [go_sem]) (HNB.out _ (by simp))
  have k3 := g1.cell (p := ⟨w.heap.size + 2, 0, none⟩) (v := .int .i64 0) (by simp [go_sem]) (HNB.out _ (by simp))
  have k4 := g1.cell (p := ⟨w.heap.size + 2, 1, none⟩) (v := .int .i64 0) (by simp [go_sem]) (HNB.out _ (by simp))
  have fz : ∀ i, w1.frozen? ⟨w.heap.size + 2, i, none⟩ = false := fun i => (World.frozen?_of_block (a := ⟨w.heap.size + 2, i, none⟩) (g1.block _ (by simp) (HNB.out _ (Nat.le_add_right _ 2)))).trans (by simp [go_sem])
  have z1 : w.heap.size + 2 < w1.heap.size := by have := g1.size; simp at this; omega
  have f0 := fz 0
  have f1 := fz 1
  clear fz hl1 g1 C
  have T3 : Two (w.heap.size + 2) (.int .i64 0) (.int .i64 0) w1 := ⟨k3, k4, z1⟩
  by_cases cM : hi < M
  · have HR : Hid (RunIs (fun m => ∃ x ∈ xs, x.has m) lo hi 1099511627776 1099511627776) := Lib.hid (.inl ⟨rfl, rfl, fun m m0 m1 => LS.out.2.1 m m0 (by omega) (by omega)⟩)
    obtain ⟨q3, q4, _⟩ := Two.set T3 (.int .i64 1099511627776) (.int .i64 1099511627776)
    go_wp2_with fail
    refine bodyPost_ret (v := sv2 1099511627776 1099511627776) (by simp [results, Tryz.results85, go_sem, q3, q4]) rfl ⟨_, _, lo, HR.out, by omega, by omega, by omega, rfl, ?_, ?_⟩
    · exact (HL1.out.far (HNB.out _ (by omega)) _).far (HNB.out _ (by omega)) _
    · exact (G1.out.far (by omega) _).far (by omega) _
  · obtain ⟨l0, l1, l2⟩ := LS.out
    have C2 := Lib.hid fun W hl hp => gap_any bs xs A c lo M hi W HOK.out hl hp l0 (by omega) (by omega) h4 hlen
    have HP1 := Lib.hid (HP.out.grown G1.out)
    have S0 : NXd w A bs.length c lo hi w1.drew := ⟨k0, k1, k2⟩
    have L1 := Lib.hid l1
    have L2 := Lib.hid l2
    clear l1 l2
    go_wp2_with fail
    go_region_held3 (NX w A bs.length c lo hi) ((refine NXd.out ?_; with_reducible (first | exact S4 | exact S0 | exact NXd.far (NXd.far S4 _) _))) (first | (go_at_call 105; refine (C2.out w1.drew HL1.out (HP1.out.grown (GrownL.refl _ _).drew')).mono ?_; rintro e w4 ⟨r, q, hr, hq1, hq2, hq3, rfl, hl4, g4⟩; have S4 : NXd w A bs.length c lo hi w4 := ⟨g4.cell k0 (HNB.out _ (Nat.le_refl _)), g4.cell k1 (HNB.out _ (by simp)), g4.cell k2 (HNB.out _ (by simp))⟩; have m3 := g4.cell k3 (HNB.out _ (by simp)); have m4 := g4.cell k4 (HNB.out _ (by simp)); have e0 := (World.frozen?_of_block (a := ⟨w.heap.size + 2, 0, none⟩) (g4.block _ z1 (HNB.out _ (Nat.le_add_right _ 2)))).trans f0; have e1 := (World.frozen?_of_block (a := ⟨w.heap.size + 2, 1, none⟩) (g4.block _ z1 (HNB.out _ (Nat.le_add_right _ 2)))).trans f1; have W1 : IntKind.i64.wrap (r - 1) = r - 1 := IntWalk.i64_in _ (by have := hr.1; have := hr.2.1; omega); have HR := Lib.hid hr; have HQ3 := Lib.hid hq3; have HL4 := Lib.hid hl4; have G4 := Lib.hid g4; clear hr hq3 hl4 g4))
    have hB : ∃ B, (if hi < r - 1 then hi else r - 1) = B ∧ ((B = hi ∧ hi < r - 1) ∨ (B = r - 1 ∧ r - 1 ≤ hi)) := by
      by_cases cr : hi < r - 1
      · exact ⟨hi, if_pos cr, .inl ⟨rfl, cr⟩⟩
      · exact ⟨r - 1, if_neg cr, .inr ⟨rfl, by omega⟩⟩
    obtain ⟨B, hBe, hB⟩ := hB
    rw [hBe]
    obtain ⟨p1, p2, p3, p4⟩ := HR.out
    have hr1 : M < r := by
      have : r ≠ M := by
        rintro rfl
        rcases p4 with p4 | p4
        · omega
        · obtain ⟨x, hx, hh⟩ := L2.out (by omega)
          exact p4 x hx hh
      omega
    have HRun : Hid (RunIs (fun m => ∃ x ∈ xs, x.has m) lo hi M B) := Lib.hid (.inr ⟨l0, by omega, by omega, fun m m0 m1 => L1.out m m0 m1 (by omega), fun m m0 m1 => p3 m m0 (by omega) (by omega), by
      rcases hB with ⟨rfl, _⟩ | ⟨rfl, hb2⟩
      · exact .inl rfl
      · rcases p4 with p4 | p4
        · exact .inl (by omega)
        · refine .inr ?_
          rintro ⟨x, hx, hh⟩
          exact p4 x hx (by rwa [show r - 1 + 1 = r by omega] at hh)⟩)
    have hq4 : q ≤ hi ∧ q ≤ B + 1 := by have := HQ3.out; omega
    have z4 : w.heap.size + 2 < w4.heap.size := by have := G4.out.size; simp at this; omega
    obtain ⟨q5, q6, _⟩ := Two.set (b := w.heap.size + 2) (W := w4) ⟨m3, m4, z4⟩ (.int .i64 M) (.int .i64 B)
    have GG := Lib.hid (G1.out.trans ((GrownL.refl bs w1).drew'.trans G4.out))
    clear hBe W1 p3 p4
    go_wp2_with fail
    refine bodyPost_ret (v := sv2 M B) (by simp [results, Tryz.results85, go_sem, q5, q6]) rfl ⟨M, B, q, HRun.out, by omega, by omega, by omega, rfl, ?_, ?_⟩
    · exact (HL4.out.far (HNB.out _ (by omega)) _).far (HNB.out _ (by omega)) _
    · exact (GG.out.far (by omega) _).far (by omega) _
end Go.Proofs.YtcdodfehnkgjdaaGreatDoor
