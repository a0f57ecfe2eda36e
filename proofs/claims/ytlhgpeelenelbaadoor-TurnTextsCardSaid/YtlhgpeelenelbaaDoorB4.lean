/- Contracts of Part, of the package and of the specification. -/
import Derived.Test.YtlhgpeelenelbaaDoorB1
namespace Go.Proofs.YtlhgpeelenelbaaDoor
open Go.RowKit

/-- A turn lies in the block that was new at w, a result in the next one. -/
abbrev SP (w : World) (p f l : Int) (W : World) : Prop :=
    W.cell? ⟨w.heap.size, 0, none⟩ = some (.int .i64 p) ∧ W.cell? ⟨w.heap.size, 1, none⟩ = some (.int .i64 f) ∧ W.cell? ⟨w.heap.size, 2, none⟩ = some (.int .i64 l)

def Three (b : Nat) (x y z : Value) (W : World) : Prop := W.cell? ⟨b, 0, none⟩ = some x ∧ W.cell? ⟨b, 1, none⟩ = some y ∧ W.cell? ⟨b, 2, none⟩ = some z
theorem Three.set {b : Nat} {x y z : Value} {W : World} (h : Three b x y z W) (x' y' z' : Value) :
    Three b x' y' z' (((W.setCell ⟨b, 0, none⟩ x').setCell ⟨b, 1, none⟩ y').setCell ⟨b, 2, none⟩ z') := by
  have n01 : (⟨b, 0, none⟩ : Addr) ≠ ⟨b, 1, none⟩ := by intro e; cases e
  have n02 : (⟨b, 0, none⟩ : Addr) ≠ ⟨b, 2, none⟩ := by intro e; cases e
  have n12 : (⟨b, 1, none⟩ : Addr) ≠ ⟨b, 2, none⟩ := by intro e; cases e
  refine ⟨?_, ?_, ?_⟩
  · rw [World.cell?_setCell_other _ _ _ _ n02.symm, World.cell?_setCell_other _ _ _ _ n01.symm]
    exact World.cell?_setCell_same' _ _ _ (by rw [h.1]; rfl)
  · rw [World.cell?_setCell_other _ _ _ _ n12.symm]
    exact World.cell?_setCell_same' _ _ _ (by rw [World.cell?_setCell_other _ _ _ _ n01, h.2.1]; rfl)
  · exact World.cell?_setCell_same' _ _ _ (by rw [World.cell?_setCell_other _ _ _ _ n12, World.cell?_setCell_other _ _ _ _ n02, h.2.2]; rfl)
theorem Three.off {b g : Nat} {x y z : Value} {W : World} (h : Three b x y z W) (hg : b ≠ g) (x' y' z' : Value) :
    Three b x y z (((W.setCell ⟨g, 0, none⟩ x').setCell ⟨g, 1, none⟩ y').setCell ⟨g, 2, none⟩ z') := by
  have n : ∀ i j, (⟨b, i, none⟩ : Addr) ≠ ⟨g, j, none⟩ := fun i j e => hg (by cases e; rfl)
  refine ⟨?_, ?_, ?_⟩
  · rw [World.cell?_setCell_other _ _ _ _ (n _ _).symm, World.cell?_setCell_other _ _ _ _ (n _ _).symm, World.cell?_setCell_other _ _ _ _ (n _ _).symm]; exact h.1
  · rw [World.cell?_setCell_other _ _ _ _ (n _ _).symm, World.cell?_setCell_other _ _ _ _ (n _ _).symm, World.cell?_setCell_other _ _ _ _ (n _ _).symm]; exact h.2.1
  · rw [World.cell?_setCell_other _ _ _ _ (n _ _).symm, World.cell?_setCell_other _ _ _ _ (n _ _).symm, World.cell?_setCell_other _ _ _ _ (n _ _).symm]; exact h.2.2

def partOk (l fr lg : Int) : Prop := 0 ≤ fr ∧ 1 ≤ lg ∧ lg ≤ l ∧ fr ≤ l - lg

set_option maxHeartbeats 2000000 in
theorem part_ok (p f l fr lg : Int) (w : World) (h : TOk p f l) (hp : partOk l fr lg) :
    Calls Tryd.prog 33 #[tv p f l, .int .i64 fr, .int .i64 lg] w fun e w' => e = .returned (.tuple #[tv p ((f + fr) % p) lg, .int .i64 0]) ∧ Below w.heap.size w w' := by
  obtain ⟨a1, a2, a3, a4, a5, a6⟩ := id h
  obtain ⟨p1, p2, p3, p4⟩ := hp
  have C := Lib.hid fun w => checkTurn_ok p f l w h
  have hz : (p == 0) = false := beq_eq_false_iff_ne.2 (by omega)
  have e1 : 0 ≤ (f + fr) % p := Int.emod_nonneg _ (by omega)
  have W1 : IntKind.i64.wrap (f + fr) = f + fr := IntWalk.i64_in _ (by omega)
  have e2 : (0 : Int) ≤ f + fr := by omega
  have hz2 : ¬ p = 0 := by omega
  have e3 : (f + fr) % p < p := Int.emod_lt_of_pos _ (by omega)
  have W2 : (f + fr).tmod p = (f + fr) % p := Int.tmod_eq_emod_of_nonneg e2
  have W3 : IntKind.i64.wrap ((f + fr) % p) = (f + fr) % p := IntWalk.i64_in _ (by omega)
  go_enter Tryd.func33, Tryd.ntmps33
  go_wp2_with fail
  refine (C.out _).mono ?_
  rintro e w1 ⟨rfl, h1⟩
  obtain ⟨hc, hf⟩ := bcell h1
  have hz1 : w.heap.size + 1 < w1.heap.size := by have := h1.size; simp at this; omega
  have hz0 : w.heap.size < w1.heap.size := by omega
  have T0 : Three w.heap.size (.int .i64 p) (.int .i64 f) (.int .i64 l) w1 := ⟨by rw [hc _ _ (by simp [go_sem])]; simp [go_sem], by rw [hc _ _ (by simp [go_sem])]; simp [go_sem], by rw [hc _ _ (by simp [go_sem])]; simp [go_sem]⟩
  have T1 : Three (w.heap.size + 1) (.int .i64 0) (.int .i64 0) (.int .i64 0) w1 := ⟨by rw [hc _ _ (by simp [go_sem])]; simp [go_sem], by rw [hc _ _ (by simp [go_sem])]; simp [go_sem], by rw [hc _ _ (by simp [go_sem])]; simp [go_sem]⟩
  have f0 : w1.frozen? ⟨w.heap.size + 1, 0, none⟩ = false := by rw [hf _ _ (by simp [go_sem])]; simp [go_sem]
  have T0' := Lib.hid T0
  have T1' := Lib.hid T1
  have B1 := Lib.hid (((((Below.refl w.heap.size w).alloc (Nat.le_refl _) (.cells #[.int .i64 p, .int .i64 f, .int .i64 l] 27)).alloc (by simp) (.cells #[.int .i64 0, .int .i64 0, .int .i64 0] 27))).trans (h1.mono (by simp; omega)))
  clear h1
  go_wp2_with fail
  go_region_held3 (SP w p f l) ((first | exact T0'.out | exact Three.off T0'.out (by omega) _ _ _)) (fail)
  go_wp2_with fail
  have T2 := Three.set T1'.out (.int .i64 p) (.int .i64 ((f + fr) % p)) (.int .i64 lg)
  obtain ⟨q0, q1, q2⟩ := T2
  refine bodyPost_ret (v := .tuple #[tv p ((f + fr) % p) lg, .int .i64 0]) (by simp [results, Tryd.results33, go_sem, q0, q1, q2]) rfl ⟨rfl, ?_⟩
  exact (((B1.out.setCell (p := ⟨w.heap.size + 1, 0, none⟩) (Nat.le_succ _) _).setCell (p := ⟨w.heap.size + 1, 1, none⟩) (Nat.le_succ _) _).setCell (p := ⟨w.heap.size + 1, 2, none⟩) (Nat.le_succ _) _).drew

theorem not_part {l fr lg : Int} (h : ¬ partOk l fr lg) : fr < 0 ∨ (0 ≤ fr ∧ lg < 1) ∨ (0 ≤ fr ∧ 1 ≤ lg ∧ l < lg) ∨ (0 ≤ fr ∧ 1 ≤ lg ∧ lg ≤ l ∧ l - lg < fr) := by
  unfold partOk at h; omega

set_option maxHeartbeats 4000000 in
theorem part_bad (p f l fr lg : Int) (w : World) (h : ¬ (TOk p f l ∧ partOk l fr lg)) :
    Calls Tryd.prog 33 #[tv p f l, .int .i64 fr, .int .i64 lg] w fun e w' => e = .returned (.tuple #[tv 0 0 0, .int .i64 1]) ∧ Below w.heap.size w w' := by
  have key : ∀ (w1 : World) (hb : Below ((w.alloc (.cells #[.int .i64 p, .int .i64 f, .int .i64 l] 27)).alloc (.cells #[.int .i64 0, .int .i64 0, .int .i64 0] 27)).heap.size ((w.alloc (.cells #[.int .i64 p, .int .i64 f, .int .i64 l] 27)).alloc (.cells #[.int .i64 0, .int .i64 0, .int .i64 0] 27)) w1),
      Three w.heap.size (.int .i64 p) (.int .i64 f) (.int .i64 l) w1 ∧ Three (w.heap.size + 1) (.int .i64 0) (.int .i64 0) (.int .i64 0) w1 ∧ w1.frozen? ⟨w.heap.size + 1, 0, none⟩ = false ∧ w1.frozen? ⟨w.heap.size + 1, 1, none⟩ = false ∧ w1.frozen? ⟨w.heap.size + 1, 2, none⟩ = false ∧ Below w.heap.size w w1 := by
    intro w1 hb
    obtain ⟨hc, hf⟩ := bcell hb
    refine ⟨⟨by rw [hc _ _ (by simp [go_sem])]; simp [go_sem], by rw [hc _ _ (by simp [go_sem])]; simp [go_sem], by rw [hc _ _ (by simp [go_sem])]; simp [go_sem]⟩, ⟨by rw [hc _ _ (by simp [go_sem])]; simp [go_sem], by rw [hc _ _ (by simp [go_sem])]; simp [go_sem], by rw [hc _ _ (by simp [go_sem])]; simp [go_sem]⟩, by rw [hf _ _ (by simp [go_sem])]; simp [go_sem], by rw [hf _ _ (by simp [go_sem])]; simp [go_sem], by rw [hf _ _ (by simp [go_sem])]; simp [go_sem], ?_⟩
    exact ((((Below.refl w.heap.size w).alloc (Nat.le_refl _) _).alloc (by simp) _)).trans (hb.mono (by simp; omega))
  have Key := Lib.hid key
  clear key
  by_cases ht : TOk p f l
  · have hp : ¬ partOk l fr lg := fun c => h ⟨ht, c⟩
    have C := Lib.hid fun w => checkTurn_ok p f l w ht
    obtain ⟨a1, a2, a3, a4, a5, a6⟩ := ht
    rcases not_part hp with h1 | ⟨h1, h2⟩ | ⟨h1, h2, h3⟩ | ⟨h1, h2, h3, h4⟩ <;> clear h hp
    all_goals
      go_enter Tryd.func33, Tryd.ntmps33
      go_wp2_with fail
      refine (C.out _).mono ?_
      rintro e w1 ⟨rfl, hb⟩
      obtain ⟨⟨k0, k1, k2⟩, T1, f0, f1, f2, B1⟩ := Key.out w1 hb
      have T1' := Lib.hid T1
      have B1' := Lib.hid B1
      obtain ⟨m0, m1, m2⟩ := T1
      clear B1 hb
      go_wp2_with fail
      obtain ⟨q0, q1, q2⟩ := Three.set T1'.out (.int .i64 0) (.int .i64 0) (.int .i64 0)
      refine bodyPost_ret (v := .tuple #[tv 0 0 0, .int .i64 1]) (by simp [results, Tryd.results33, go_sem, q0, q1, q2]) rfl ⟨rfl, ?_⟩
      exact (((B1'.out.setCell (p := ⟨w.heap.size + 1, 0, none⟩) (Nat.le_succ _) _).setCell (p := ⟨w.heap.size + 1, 1, none⟩) (Nat.le_succ _) _).setCell (p := ⟨w.heap.size + 1, 2, none⟩) (Nat.le_succ _) _)
  · have C := Lib.hid fun w => checkTurn_bad p f l w ht
    clear h ht
    go_enter Tryd.func33, Tryd.ntmps33
    go_wp2_with fail
    refine (C.out _).mono ?_
    rintro e w1 ⟨rfl, hb⟩
    obtain ⟨⟨k0, k1, k2⟩, T1, f0, f1, f2, B1⟩ := Key.out w1 hb
    have T1' := Lib.hid T1
    have B1' := Lib.hid B1
    obtain ⟨m0, m1, m2⟩ := T1
    clear B1 hb
    go_wp2_with fail
    obtain ⟨q0, q1, q2⟩ := Three.set T1'.out (.int .i64 0) (.int .i64 0) (.int .i64 0)
    refine bodyPost_ret (v := .tuple #[tv 0 0 0, .int .i64 1]) (by simp [results, Tryd.results33, go_sem, q0, q1, q2]) rfl ⟨rfl, ?_⟩
    exact (((B1'.out.setCell (p := ⟨w.heap.size + 1, 0, none⟩) (Nat.le_succ _) _).setCell (p := ⟨w.heap.size + 1, 1, none⟩) (Nat.le_succ _) _).setCell (p := ⟨w.heap.size + 1, 2, none⟩) (Nat.le_succ _) _)
set_option maxHeartbeats 2000000 in
theorem rpart_ok (p f l fr lg : Int) (w : World) (h : TOk p f l) (hp : partOk l fr lg) :
    Calls Tryd.prog 34 #[tv p f l, .int .i64 fr, .int .i64 lg] w fun e w' => e = .returned (.tuple #[tv p ((f + fr) % p) lg, .int .i64 0]) ∧ Below w.heap.size w w' := by
  obtain ⟨a1, a2, a3, a4, a5, a6⟩ := id h
  obtain ⟨p1, p2, p3, p4⟩ := hp
  have C := Lib.hid fun w => valid_ok p f l w h
  have hz : (p == 0) = false := beq_eq_false_iff_ne.2 (by omega)
  have e1 : 0 ≤ (f + fr) % p := Int.emod_nonneg _ (by omega)
  have W1 : IntKind.i64.wrap (f + fr) = f + fr := IntWalk.i64_in _ (by omega)
  have e2 : (0 : Int) ≤ f + fr := by omega
  have hz2 : ¬ p = 0 := by omega
  have e3 : (f + fr) % p < p := Int.emod_lt_of_pos _ (by omega)
  have W2 : (f + fr).tmod p = (f + fr) % p := Int.tmod_eq_emod_of_nonneg e2
  have W3 : IntKind.i64.wrap ((f + fr) % p) = (f + fr) % p := IntWalk.i64_in _ (by omega)
  go_enter Tryd.func34, Tryd.ntmps34
  go_wp2_with fail
  refine (C.out _).mono ?_
  rintro e w1 ⟨rfl, h1⟩
  obtain ⟨hc, hf⟩ := bcell h1
  have hz1 : w.heap.size + 1 < w1.heap.size := by have := h1.size; simp at this; omega
  have hz0 : w.heap.size < w1.heap.size := by omega
  have T0 : Three w.heap.size (.int .i64 p) (.int .i64 f) (.int .i64 l) w1 := ⟨by rw [hc _ _ (by simp [go_sem])]; simp [go_sem], by rw [hc _ _ (by simp [go_sem])]; simp [go_sem], by rw [hc _ _ (by simp [go_sem])]; simp [go_sem]⟩
  have T1 : Three (w.heap.size + 1) (.int .i64 0) (.int .i64 0) (.int .i64 0) w1 := ⟨by rw [hc _ _ (by simp [go_sem])]; simp [go_sem], by rw [hc _ _ (by simp [go_sem])]; simp [go_sem], by rw [hc _ _ (by simp [go_sem])]; simp [go_sem]⟩
  have f0 : w1.frozen? ⟨w.heap.size + 1, 0, none⟩ = false := by rw [hf _ _ (by simp [go_sem])]; simp [go_sem]
  have T0' := Lib.hid T0
  have T1' := Lib.hid T1
  have B1 := Lib.hid (((((Below.refl w.heap.size w).alloc (Nat.le_refl _) (.cells #[.int .i64 p, .int .i64 f, .int .i64 l] 27)).alloc (by simp) (.cells #[.int .i64 0, .int .i64 0, .int .i64 0] 27))).trans (h1.mono (by simp; omega)))
  clear h1
  go_wp2_with fail
  go_region_held3 (SP w p f l) ((first | exact T0'.out | exact Three.off T0'.out (by omega) _ _ _)) (first | (go_at_call 90; refine (rmod_any (f + fr) p _ (by omega) (by omega) (by omega) (by omega)).mono ?_; rintro e w' ⟨rfl, rfl⟩))
  go_wp2_with fail
  have T2 := Three.set T1'.out (.int .i64 p) (.int .i64 ((f + fr) % p)) (.int .i64 lg)
  obtain ⟨q0, q1, q2⟩ := T2
  refine bodyPost_ret (v := .tuple #[tv p ((f + fr) % p) lg, .int .i64 0]) (by simp [results, Tryd.results34, go_sem, q0, q1, q2]) rfl ⟨rfl, ?_⟩
  exact (((B1.out.setCell (p := ⟨w.heap.size + 1, 0, none⟩) (Nat.le_succ _) _).setCell (p := ⟨w.heap.size + 1, 1, none⟩) (Nat.le_succ _) _).setCell (p := ⟨w.heap.size + 1, 2, none⟩) (Nat.le_succ _) _).drew

theorem not_partr {l fr lg : Int} (h : ¬ partOk l fr lg) : fr < 0 ∨ (0 ≤ fr ∧ lg < 1) ∨ (0 ≤ fr ∧ 1 ≤ lg ∧ l < fr) ∨ (0 ≤ fr ∧ 1 ≤ lg ∧ fr ≤ l ∧ l - fr < lg) := by
  unfold partOk at h; omega

set_option maxHeartbeats 4000000 in
theorem rpart_bad (p f l fr lg : Int) (w : World) (h : ¬ (TOk p f l ∧ partOk l fr lg)) :
    Calls Tryd.prog 34 #[tv p f l, .int .i64 fr, .int .i64 lg] w fun e w' => e = .returned (.tuple #[tv 0 0 0, .int .i64 1]) ∧ Below w.heap.size w w' := by
  have key : ∀ (w1 : World) (hb : Below ((w.alloc (.cells #[.int .i64 p, .int .i64 f, .int .i64 l] 27)).alloc (.cells #[.int .i64 0, .int .i64 0, .int .i64 0] 27)).heap.size ((w.alloc (.cells #[.int .i64 p, .int .i64 f, .int .i64 l] 27)).alloc (.cells #[.int .i64 0, .int .i64 0, .int .i64 0] 27)) w1),
      Three w.heap.size (.int .i64 p) (.int .i64 f) (.int .i64 l) w1 ∧ Three (w.heap.size + 1) (.int .i64 0) (.int .i64 0) (.int .i64 0) w1 ∧ w1.frozen? ⟨w.heap.size + 1, 0, none⟩ = false ∧ w1.frozen? ⟨w.heap.size + 1, 1, none⟩ = false ∧ w1.frozen? ⟨w.heap.size + 1, 2, none⟩ = false ∧ Below w.heap.size w w1 := by
    intro w1 hb
    obtain ⟨hc, hf⟩ := bcell hb
    refine ⟨⟨by rw [hc _ _ (by simp [go_sem])]; simp [go_sem], by rw [hc _ _ (by simp [go_sem])]; simp [go_sem], by rw [hc _ _ (by simp [go_sem])]; simp [go_sem]⟩, ⟨by rw [hc _ _ (by simp [go_sem])]; simp [go_sem], by rw [hc _ _ (by simp [go_sem])]; simp [go_sem], by rw [hc _ _ (by simp [go_sem])]; simp [go_sem]⟩, by rw [hf _ _ (by simp [go_sem])]; simp [go_sem], by rw [hf _ _ (by simp [go_sem])]; simp [go_sem], by rw [hf _ _ (by simp [go_sem])]; simp [go_sem], ?_⟩
    exact ((((Below.refl w.heap.size w).alloc (Nat.le_refl _) _).alloc (by simp) _)).trans (hb.mono (by simp; omega))
  have Key := Lib.hid key
  clear key
  by_cases ht : TOk p f l
  · have hp : ¬ partOk l fr lg := fun c => h ⟨ht, c⟩
    have C := Lib.hid fun w => valid_ok p f l w ht
    obtain ⟨a1, a2, a3, a4, a5, a6⟩ := ht
    rcases not_partr hp with h1 | ⟨h1, h2⟩ | ⟨h1, h2, h3⟩ | ⟨h1, h2, h3, h4⟩ <;> clear h hp
    all_goals
      go_enter Tryd.func34, Tryd.ntmps34
      go_wp2_with fail
      refine (C.out _).mono ?_
      rintro e w1 ⟨rfl, hb⟩
      obtain ⟨⟨k0, k1, k2⟩, T1, f0, f1, f2, B1⟩ := Key.out w1 hb
      have T1' := Lib.hid T1
      have B1' := Lib.hid B1
      obtain ⟨m0, m1, m2⟩ := T1
      clear B1 hb
      go_wp2_with fail
      obtain ⟨q0, q1, q2⟩ := Three.set T1'.out (.int .i64 0) (.int .i64 0) (.int .i64 0)
      refine bodyPost_ret (v := .tuple #[tv 0 0 0, .int .i64 1]) (by simp [results, Tryd.results34, go_sem, q0, q1, q2]) rfl ⟨rfl, ?_⟩
      exact (((B1'.out.setCell (p := ⟨w.heap.size + 1, 0, none⟩) (Nat.le_succ _) _).setCell (p := ⟨w.heap.size + 1, 1, none⟩) (Nat.le_succ _) _).setCell (p := ⟨w.heap.size + 1, 2, none⟩) (Nat.le_succ _) _)
  · have C := Lib.hid fun w => valid_bad p f l w ht
    clear h ht
    go_enter Tryd.func34, Tryd.ntmps34
    go_wp2_with fail
    refine (C.out _).mono ?_
    rintro e w1 ⟨rfl, hb⟩
    obtain ⟨⟨k0, k1, k2⟩, T1, f0, f1, f2, B1⟩ := Key.out w1 hb
    have T1' := Lib.hid T1
    have B1' := Lib.hid B1
    obtain ⟨m0, m1, m2⟩ := T1
    clear B1 hb
    go_wp2_with fail
    obtain ⟨q0, q1, q2⟩ := Three.set T1'.out (.int .i64 0) (.int .i64 0) (.int .i64 0)
    refine bodyPost_ret (v := .tuple #[tv 0 0 0, .int .i64 1]) (by simp [results, Tryd.results34, go_sem, q0, q1, q2]) rfl ⟨rfl, ?_⟩
    exact (((B1'.out.setCell (p := ⟨w.heap.size + 1, 0, none⟩) (Nat.le_succ _) _).setCell (p := ⟨w.heap.size + 1, 1, none⟩) (Nat.le_succ _) _).setCell (p := ⟨w.heap.size + 1, 2, none⟩) (Nat.le_succ _) _)
end Go.Proofs.YtlhgpeelenelbaaDoor
